import PyProof.Rows.All
import Wide.All
import OpenK.AllK
import Wide.FinOn
import HandS.Base
import HandS.Call
import HandS.List
import HandS.Comp
import HandS.Ends
import HandS.Dict
import HandS.Iter
import HandS.Words
import HandS.WordsList
import HandS.Wide
import HandS.Gcd
import HandS.IsInst
import Flt.RightSqrt
import HandS.TupMul
import HandS.TupAny
import HandS.GenList
import HandS.AnyAll
import HandS.EndTab
import HandS.Zip
import HandS.Nested
import HandS.Flow
import PyProof.ConsumeS
import PyProof.SumWalk
import HandS.Walk
import HandS.EndOwn
import KE.KNest
import HandS.Star
import HandS.Flt
import KE.KExcSuper
import KE.KSuper
import HandS.Exc
import HandS.ExcInit
import HandS.FStr
import HandS.TryOnly
import HandS.ExcOwn
import HandS.WordsExc
import HandS.Conv
import HandS.ExcField
import HandS.SortKw
import KE.KMinKey
import HandS.Text
import KE.SortData
import KE.LtData
import KE.KMathG
import PyProof.Rows.RegStrFacts
import HandS.More
import PySem.Challenge.RW_skyapart_k22_requests_and_menus
set_option Elab.async false
set_option linter.all false
set_option maxRecDepth 100000
set_option maxHeartbeats 4000000
namespace Sk
open PySem PySem.Spec PyProof.Rows L2

/-! a def of the text, ready to be called by its name -/
structure Def (P : Program) (w : World) (K : PySem.W.Frag) (mg : Str → Option Value) (base : Heap) (k : Nat) (x : Str) (ps : List Str) (sp : Sp) : Prop where
  ex : ∃ (f : Addr) (fd : FuncData), FnOk P w K mg base CX0 k f fd ps sp ∧ mg x = some (.ref f) ∧ PySem.W.keepIn K (.ref f) = true ∧ Binds K fd ps []
theorem Def.mk' {P : Program} {w : World} {K : PySem.W.Frag} {mg : Str → Option Value} {base : Heap} {k : Nat} {x qual : Str} {st : Stmt} {f : Addr} {fd : FuncData} {ps : List Str} {sp : Sp}
    (F : Fun K x qual st f fd) (b : Binds K fd ps []) (m : mg x = some (.ref f)) (G : FnOk P w K mg base CX0 k f fd ps sp) : Def P w K mg base k x ps sp := ⟨f, fd, G, m, F.kp, b⟩
theorem pe_def {X : Cx} {k : Nat} {x : Str} {ps : List Str} {sp : Sp} {p pos : Pos} {e : Expr} {es : List Expr} {t : TA} (D : Def X.prog X.w X.K X.mg X.base k x ps sp) (hr : Room k X.A) (hg : Gl X x)
    (ha : PA X (e :: es) t) (hdb : (x == ("__debug__" : Str)) = false := by decide) (he : starEach (e :: es) X.env = (false, eval e X.env) :: starEach es X.env := by rfl) (hpl : (backTo pos (starEach es X.env)).any (·.1) = false := by rfl) :
    PE X (.Call (.Name x p) (e :: es) [] pos) (tCall sp [] E0 t) := by
  obtain ⟨f, fd, F, m, kp, b⟩ := D.ex
  exact pe_call F hr hg m kp b .nil pass0 ha hdb he hpl
/-- a call's reading: the values of the arguments as they are -/
theorem sp_nil {sp : Sp} {vs : List V} {H : Hp} {Q : VK} {E : XK} (h : sp vs H Q E) : sp (vs ++ []) H Q E := by
  rw [List.append_nil]
  exact h

/-! heaps -/
/-- all but what stands at d is as it was -/
def Keep (d : Addr) (H H' : Hp) : Prop := ∀ c o, H c = some o → c ≠ d → H' c = some o
theorem Keep.refl (d : Addr) (H : Hp) : Keep d H H := fun _ _ h _ => h
theorem Keep.trans {d : Addr} {H H1 H2 : Hp} (a : Keep d H H1) (b : Keep d H1 H2) : Keep d H H2 := fun c o h n => b c o (a c o h n) n
theorem Keep.of {d : Addr} {H H1 : Hp} (a : Same H H1) : Keep d H H1 := fun c o h _ => a c o h
theorem Keep.upd (d : Addr) (H : Hp) (o : HO) : Keep d H (upd H d o) := fun c u h n => by
  rw [upd_ne n]
  exact h
theorem same_new {H : Hp} {p : Addr} {o : HO} (h : H p = none) : Same H (upd H p o) := fun b x e => by
  rw [upd_ne (ne_of_none e h)]
  exact e
theorem lst_ne {H : Hp} {a d : Addr} {xs : List V} {o : HO} (h : H d = some (.dK o')) (ha : H a = some (.lst xs)) : a ≠ d := ne_of ha h (by intro z; cases z)
/-- a list to be read stays, if it isn't the dict at d -/
theorem Keep.seq {K : PySem.W.Frag} {d : Addr} {kvs : List (Key × V)} {H H' : Hp} {a : Addr} {xs : List V} (k : Keep d H H') (hd : H d = some (.dK kvs)) (h : SqL K H a xs) : SqL K H' a xs := by
  rcases h with (h | ⟨o, h⟩) | h
  · exact .inl (.inl (k _ _ h (ne_of h hd (by intro z; cases z))))
  · exact .inl (.inr ⟨o, k _ _ h (ne_of h hd (by intro z; cases z))⟩)
  · exact .inr h
theorem Keep.tup {K : PySem.W.Frag} {d : Addr} {kvs : List (Key × V)} {H H' : Hp} {a : Addr} {xs : List V} (k : Keep d H H') (hd : H d = some (.dK kvs)) (h : SqT K H a xs) : SqT K H' a xs := by
  rcases h with (h | ⟨o, h⟩) | h
  · exact .inl (.inl (k _ _ h (ne_of h hd (by intro z; cases z))))
  · exact .inl (.inr ⟨o, k _ _ h (ne_of h hd (by intro z; cases z))⟩)
  · exact .inr h
theorem Keep.lst {d : Addr} {kvs : List (Key × V)} {H H' : Hp} {a : Addr} {xs : List V} (k : Keep d H H') (hd : H d = some (.dK kvs)) (h : H a = some (.lst xs)) : H' a = some (.lst xs) := k _ _ h (ne_of h hd (by intro z; cases z))
theorem Keep.tp {d : Addr} {kvs : List (Key × V)} {H H' : Hp} {a : Addr} {xs : List V} (k : Keep d H H') (hd : H d = some (.dK kvs)) (h : H a = some (.tup xs)) : H' a = some (.tup xs) := k _ _ h (ne_of h hd (by intro z; cases z))
theorem same_tup {K : PySem.W.Frag} {H H' : Hp} {a : Addr} {xs : List V} (e : Same H H') (h : SqT K H a xs) : SqT K H' a xs := by
  rcases h with (h | ⟨o, h⟩) | h
  · exact .inl (.inl (e _ _ h))
  · exact .inl (.inr ⟨o, e _ _ h⟩)
  · exact .inr h

/-! the state of the draws -/
theorem k01 : ¬ ("cells" : Str) = "at" := by decide +kernel
theorem k02 : ¬ ("cells" : Str) = "left" := by decide +kernel
theorem k03 : ¬ ("cells" : Str) = "mix" := by decide +kernel
theorem k10 : ¬ ("at" : Str) = "cells" := by decide +kernel
theorem k12 : ¬ ("at" : Str) = "left" := by decide +kernel
theorem k13 : ¬ ("at" : Str) = "mix" := by decide +kernel
theorem k20 : ¬ ("left" : Str) = "cells" := by decide +kernel
theorem k21 : ¬ ("left" : Str) = "at" := by decide +kernel
theorem k23 : ¬ ("left" : Str) = "mix" := by decide +kernel
theorem k30 : ¬ ("mix" : Str) = "cells" := by decide +kernel
theorem k31 : ¬ ("mix" : Str) = "at" := by decide +kernel
theorem k32 : ¬ ("mix" : Str) = "left" := by decide +kernel
theorem kr {a b : Str} (h : ¬ a = b) : ¬ (Sum.inr a : Key) = Sum.inr b := fun z => h (Sum.inr.inj z)
def stK (c : Addr) (i l m : Int) : List (Key × V) := [(.inr "cells", .ref c), (.inr "at", .int i), (.inr "left", .int l), (.inr "mix", .int m)]
theorem g_cells (c : Addr) (i l m : Int) : valV (stK c i l m) (.inr "cells") = some (.ref c) := valV_pos rfl
theorem g_at (c : Addr) (i l m : Int) : valV (stK c i l m) (.inr "at") = some (.int i) := by
  unfold stK
  rw [valV_neg (kr k01), valV_pos rfl]
theorem g_left (c : Addr) (i l m : Int) : valV (stK c i l m) (.inr "left") = some (.int l) := by
  unfold stK
  rw [valV_neg (kr k02), valV_neg (kr k12), valV_pos rfl]
theorem g_mix (c : Addr) (i l m : Int) : valV (stK c i l m) (.inr "mix") = some (.int m) := by
  unfold stK
  rw [valV_neg (kr k03), valV_neg (kr k13), valV_neg (kr k23), valV_pos rfl]
theorem put_any {kvs : List (Key × V)} {k : Key} {v y : V} (h : valV kvs k = some v) : putK kvs k y = kvs.map (fun kv => if kv.1 = k then (kv.1, y) else kv) := by
  unfold putK
  rw [valV_any, h]
  exact if_pos rfl
theorem p_at (c : Addr) (i l m j : Int) : putK (stK c i l m) (.inr "at") (.int j) = stK c j l m := by
  rw [put_any (g_at c i l m)]
  unfold stK
  simp only [List.map_cons, List.map_nil, if_neg (kr k01), if_neg (kr k21), if_neg (kr k31), if_true]
theorem p_left (c : Addr) (i l m j : Int) : putK (stK c i l m) (.inr "left") (.int j) = stK c i j m := by
  rw [put_any (g_left c i l m)]
  unfold stK
  simp only [List.map_cons, List.map_nil, if_neg (kr k02), if_neg (kr k12), if_neg (kr k32), if_true]
theorem p_mix (c : Addr) (i l m j : Int) : putK (stK c i l m) (.inr "mix") (.int j) = stK c i l j := by
  rw [put_any (g_mix c i l m)]
  unfold stK
  simp only [List.map_cons, List.map_nil, if_neg (kr k03), if_neg (kr k13), if_neg (kr k23), if_true]
theorem merge_st (c : Addr) (i l m : Int) : mergeK [] (stK c i l m) = stK c i l m := by
  have e0 : putK ([] : List (Key × V)) (.inr "cells" : Key) (.ref c) = [((.inr "cells" : Key), V.ref c)] := rfl
  have e1 : putK [((.inr "cells" : Key), V.ref c)] (.inr "at" : Key) (.int i) = [((.inr "cells" : Key), V.ref c), (.inr "at", .int i)] := by
    rw [putK_new _ (by rw [valV_neg (kr k01)]; rfl)]
    all_goals rfl
  have e2 : putK [((.inr "cells" : Key), V.ref c), (.inr "at", .int i)] (.inr "left") (.int l) = [((.inr "cells" : Key), V.ref c), (.inr "at", .int i), (.inr "left", .int l)] := by
    rw [putK_new _ (by rw [valV_neg (kr k02), valV_neg (kr k12)]; rfl)]
    all_goals rfl
  have e3 : putK [((.inr "cells" : Key), V.ref c), (.inr "at", .int i), (.inr "left", .int l)] (.inr "mix") (.int m) = stK c i l m := by
    rw [putK_new _ (by rw [valV_neg (kr k03), valV_neg (kr k13), valV_neg (kr k23)]; rfl)]
    all_goals rfl
  show putK (putK (putK (putK ([] : List (Key × V)) (.inr "cells" : Key) (.ref c)) (.inr "at" : Key) (.int i)) (.inr "left" : Key) (.int l)) (.inr "mix" : Key) (.int m) = stK c i l m
  rw [e0, e1, e2, e3]
/-- the dict of the draws stands at d -/
structure StAt (K : PySem.W.Frag) (H : Hp) (d : Addr) (c : Addr) (ns : List Int) (i l m : Int) : Prop where
  dc : H d = some (.dK (stK c i l m))
  cs : H c = some (.lst (ns.map V.int))
  nn : ∀ x ∈ ns, 0 ≤ x
  i0 : 0 ≤ i
  l0 : 0 ≤ l
  m0 : 0 ≤ m
  m1 : m < 2147483648
def St1 (K : PySem.W.Frag) (H : Hp) (d c : Addr) : Prop := ∃ ns i l m, StAt K H d c ns i l m
theorem St1.dk {K : PySem.W.Frag} {H : Hp} {d c : Addr} (S : St1 K H d c) : ∃ kvs, H d = some (.dK kvs) := let ⟨_, _, _, _, S⟩ := S; ⟨_, S.dc⟩
theorem St1.cl {K : PySem.W.Frag} {H : Hp} {d c : Addr} (S : St1 K H d c) : ∃ xs, H c = some (.lst xs) := let ⟨_, _, _, _, S⟩ := S; ⟨_, S.cs⟩
/-- the state stands on where both its objects stand -/
theorem St1.of {K : PySem.W.Frag} {H H' : Hp} {d c : Addr} (S : St1 K H d c) (e1 : H' d = H d) (e2 : H' c = H c) : St1 K H' d c := by
  obtain ⟨ns, i, l, m, S⟩ := S
  exact ⟨ns, i, l, m, e1.trans S.dc, e2.trans S.cs, S.nn, S.i0, S.l0, S.m0, S.m1⟩
theorem St1.same {K : PySem.W.Frag} {H H' : Hp} {d c : Addr} (S : St1 K H d c) (e : Same H H') : St1 K H' d c := by
  obtain ⟨ns, i, l, m, S⟩ := S
  exact ⟨ns, i, l, m, e _ _ S.dc, e _ _ S.cs, S.nn, S.i0, S.l0, S.m0, S.m1⟩
theorem St1.new {K : PySem.W.Frag} {H : Hp} {d c a : Addr} {o : HO} (S : St1 K H d c) (h : H a = none) : St1 K (upd H a o) d c := S.same (same_new h)
theorem St1.nd {K : PySem.W.Frag} {H : Hp} {d c a : Addr} (S : St1 K H d c) (h : H a = none) : a ≠ d := let ⟨_, e⟩ := S.dk; (ne_of_none e h).symm
theorem St1.nc {K : PySem.W.Frag} {H : Hp} {d c a : Addr} (S : St1 K H d c) (h : H a = none) : a ≠ c := let ⟨_, e⟩ := S.cl; (ne_of_none e h).symm
theorem St1.put {K : PySem.W.Frag} {H : Hp} {d c a : Addr} {o : HO} (S : St1 K H d c) (h1 : a ≠ d) (h2 : a ≠ c) : St1 K (upd H a o) d c := S.of (upd_ne h1.symm) (upd_ne h2.symm)
theorem StAt.put {K : PySem.W.Frag} {H : Hp} {d c : Addr} {ns : List Int} {i l m i' l' m' : Int} (S : StAt K H d c ns i l m) (h0 : 0 ≤ i') (h1 : 0 ≤ l') (h2 : 0 ≤ m') (h3 : m' < 2147483648) :
    StAt K (upd H d (.dK (stK c i' l' m'))) d c ns i' l' m' := ⟨upd_same, (Keep.upd d H _).lst S.dc S.cs, S.nn, h0, h1, h2, h3⟩
section
variable {H : Hp} {d c : Addr} {i l m j : Int}
theorem dg_cells (h : H d = some (.dK (stK c i l m))) : DGet H d (.str "cells") (some (.ref c)) := g_cells c i l m ▸ DGet.k (k := .inr "cells") h
theorem dg_at (h : H d = some (.dK (stK c i l m))) : DGet H d (.str "at") (some (.int i)) := g_at c i l m ▸ DGet.k (k := .inr "at") h
theorem dg_left (h : H d = some (.dK (stK c i l m))) : DGet H d (.str "left") (some (.int l)) := g_left c i l m ▸ DGet.k (k := .inr "left") h
theorem dg_mix (h : H d = some (.dK (stK c i l m))) : DGet H d (.str "mix") (some (.int m)) := g_mix c i l m ▸ DGet.k (k := .inr "mix") h
theorem st_few : (stK c i l m).length < sizeLine := Nat.lt_of_le_of_lt (show 4 ≤ 1000 by decide) (by decide)
theorem dp_at (h : H d = some (.dK (stK c i l m))) : DPut H d (.str "at") (.int j) (upd H d (.dK (stK c j l m))) := p_at c i l m j ▸ DPut.k (k := .inr "at") h st_few
theorem dp_left (h : H d = some (.dK (stK c i l m))) : DPut H d (.str "left") (.int j) (upd H d (.dK (stK c i j m))) := p_left c i l m j ▸ DPut.k (k := .inr "left") h st_few
theorem dp_mix (h : H d = some (.dK (stK c i l m))) : DPut H d (.str "mix") (.int j) (upd H d (.dK (stK c i l j))) := p_mix c i l m j ▸ DPut.k (k := .inr "mix") h st_few
end
/-! what follows is shown once, for both ways of an if ahead of it -/
theorem cut {t u : TS} {D : Ends} {σ : L2.St} {H : Hp} (I : L2.St → Hp → Prop) (h2 : ∀ σ' H', I σ' H' → u D σ' H') (h1 : (∀ σ' H', I σ' H' → u D σ' H') → t { D with nx := u D } σ H) : tSeq t u D σ H := h1 h2

/-! the promises of the draws -/
/-- the bound's bound -/
def big : Int := 10000000000000000000000000000000000000000000000000000000000000000000000
def spStart (K : PySem.W.Frag) : Sp := fun vs H Q _ => ∃ (a : Addr) (ns : List Int), vs = [.ref a] ∧ SqL K H a (ns.map V.int) ∧ ns.length ≤ 63 ∧ ∀ d c H', H d = none → H c = none → St1 K H' d c → Same H H' → Q (.ref d) H'
def spDraw (K : PySem.W.Frag) : Sp := fun vs H Q _ => ∃ (d c : Addr) (b : Int), vs = [.ref d, .int b] ∧ St1 K H d c ∧ 0 < b ∧ b ≤ 10000000000000000000000000000000000000000000000000000000000000000000000 ∧
  ∀ n H', 0 ≤ n → n < b → St1 K H' d c → Keep d H H' → Q (.int n) H'
def spPick (K : PySem.W.Frag) : Sp := fun vs H Q _ => ∃ (d c l : Addr) (xs : List V), vs = [.ref d, .ref l] ∧ St1 K H d c ∧ SqL K H l xs ∧ xs ≠ [] ∧ xs.length ≤ 1000 ∧
  ∀ v H', v ∈ xs → St1 K H' d c → Keep d H H' → Q v H'
/-- a value's kind -/
def isInt : V → Bool | .int _ => true | _ => false
def isBl : V → Bool | .bl _ => true | _ => false
def spIsNum : Sp := fun vs H Q _ => ∃ n : Int, vs = [.int n] ∧ Q (.bl true) H
theorem log_of {b : Int} (h0 : 0 < b) (h1 : b ≤ 10000000000000000000000000000000000000000000000000000000000000000000000) : CDivW l b := wide_div (b := 300) h0 (by
  have : (b.natAbs : Int) = b := by omega
  have e : (2 : Nat) ^ 300 = 2037035976334486086268445688409378161051468393665936250636140449354381299763336706183397376 := by decide +kernel
  rw [e]
  omega) (by decide) (by decide)
/-! tests whose answer is known -/
theorem ifN {c A B : Prop} [Decidable c] (h : ¬ c) (q : B) : if decide c = true then A else B := by
  rw [decide_eq_false h]
  exact iteF q
theorem ifY {c A B : Prop} [Decidable c] (h : c) (q : A) : if decide c = true then A else B := by
  rw [decide_eq_true h]
  exact iteT q
theorem wm {i j : Int} (hi : i.natAbs < 2 ^ 250) (hj : j.natAbs < 2 ^ 250) : CMulW i j := wide_mul hi hj (by decide) (by decide) (by decide)
theorem ltge (a b : Int) : a < b ∨ b ≤ a := by omega
theorem nm {i : Nat} {x : V} {σ : L2.St} {H : Hp} {k : L2.St → Hp → Prop} (h : k (σ.set i (some x)) H) : gName i x σ H k := h
/-! math.isqrt -/
def rIsqrt : List V → Hp → VK → Prop := fun vs H Q => ∃ n : Int, vs = [.int n] ∧ 0 ≤ n ∧ n.natAbs < 2 ^ 250 ∧ ∀ r : Int, 0 ≤ r → r * r ≤ n → n < (r + 1) * (r + 1) → Q (.int r) H
theorem cr_isqrt {X : Cx} : CallR X (.builtin "math.isqrt") rIsqrt := by
  intro pins s σ H vs us Q I r h
  obtain ⟨a, rfl, h0, h1, q⟩ := h
  obtain ⟨u, rfl, t, rfl⟩ := vals1 r
  have hl : a.toNat.log2 < 250 := by
    have e : a.toNat = a.natAbs := by omega
    rw [e]
    exact PySem.Flt.log2_lt_of (by decide) h1
  obtain ⟨z1, z2⟩ := PySem.Float64.isqrt_spec a.toNat
  refine call_function_meets PySem.W.MGF.kind_isqrt PySem.W.MGF.plain_isqrt PySem.W.MGF.entry_isqrt (PySem.W.MGF.args_isqrt _) (PySem.W.mg_run_isqrt a t (by omega) (by omega) (by omega)).meets ?_
  refine ⟨.int ((Float64.isqrt a.toNat : Nat) : Int), H, I.tok _, ⟨_, rfl⟩, q _ (Int.natCast_nonneg _) ?_ ?_⟩
  · have := Int.ofNat_le.mpr z1
    rw [Int.natCast_mul] at this
    omega
  · have := Int.ofNat_lt.mpr z2
    rw [Int.natCast_mul, Int.natCast_add] at this
    have e : ((a.toNat : Nat) : Int) = a := by omega
    rw [e] at this
    exact this
theorem szOk {xs : List V} (h : Nat.ble xs.length 1000 = true) : xs.length ≤ sizeLine := Nat.le_trans (Nat.le_of_ble_eq_true h) (by decide)
theorem eqN {a b : Int} {A B : Prop} (h : a ≠ b) (q : B) : if decide (V.int a = V.int b) = true then A else B := ifN (fun z => h (V.int.inj z)) q
theorem eqY {a b : Int} {A B : Prop} (h : a = b) (q : A) : if decide (V.int a = V.int b) = true then A else B := ifY (congrArg V.int h) q
theorem neN {a b : Int} {A B : Prop} (h : a = b) (q : B) : if (!decide (V.int a = V.int b)) = true then A else B := iteNS (congrArg V.int h) q
/-! tracked things behind a call that changes the state alone -/
section
variable {K : PySem.W.Frag} {d c : Addr} {H H' : Hp}
theorem Keep.l (k : Keep d H H') (S : St1 K H d c) {a : Addr} {xs : List V} (h : H a = some (.lst xs)) : H' a = some (.lst xs) := let ⟨_, e⟩ := S.dk; k.lst e h
theorem Keep.t (k : Keep d H H') (S : St1 K H d c) {a : Addr} {xs : List V} (h : H a = some (.tup xs)) : H' a = some (.tup xs) := let ⟨_, e⟩ := S.dk; k.tp e h
theorem Keep.sl (k : Keep d H H') (S : St1 K H d c) {a : Addr} {xs : List V} (h : SqL K H a xs) : SqL K H' a xs := let ⟨_, e⟩ := S.dk; k.seq e h
theorem Keep.st (k : Keep d H H') (S : St1 K H d c) {a : Addr} {xs : List V} (h : SqT K H a xs) : SqT K H' a xs := let ⟨_, e⟩ := S.dk; k.tup e h
end
theorem sq0 (x : Int) : 0 ≤ x * x := by
  rcases ltge x 0 with z | z
  · have := Int.mul_nonneg (show 0 ≤ -x by omega) (show 0 ≤ -x by omega)
    rw [Int.neg_mul_neg] at this
    exact this
  · exact Int.mul_nonneg z z
theorem atI0 {α : Type} {xs : List α} {j : Nat} {v : α} (h : xs[j]? = some v) : atI xs (0 + (j : Int)) = some v := by
  rw [Int.zero_add]
  exact atI_nat h
theorem atI_back {α : Type} {xs : List α} {v : α} (h : xs.getLast? = some v) : atI xs (-1) = some v := by
  obtain ⟨ys, rfl⟩ := List.getLast?_eq_some_iff.mp h
  exact atI_last ys v
theorem eqvN {d : PyData} {A B : Prop} (h : d.canLay0 = true) (q : B) : if (!PyData.eqv d d) = true then A else B := by
  rw [SeqAt.eqv_refl d h]
  exact q
theorem getInt {ns : List Int} {i : Nat} {y : V} (h : (ns.map V.int)[i]? = some y) : ∃ x, y = .int x ∧ x ∈ ns ∧ i < ns.length ∧ ns.take (i + 1) = ns.take i ++ [x] := by
  rw [List.getElem?_map] at h
  cases e : ns[i]? with
  | none => rw [e] at h; cases h
  | some x =>
    rw [e] at h
    exact ⟨x, (Option.some.inj h).symm, List.mem_of_getElem? e, (List.getElem?_eq_some_iff.mp e).1, by rw [List.take_add_one, e]; rfl⟩
/-- the built-in names that the text has not bound -/
structure Txt0 (mg : Str → Option Value) : Prop where
  abs : mg "abs" = none
  int : mg "int" = none
  len : mg "len" = none
  bool : mg "bool" = none
  isinstance : mg "isinstance" = none
structure TxtA (mg : Str → Option Value) : Prop extends Txt0 mg where
  max : mg "max" = none
  min : mg "min" = none
  range : mg "range" = none
  tuple : mg "tuple" = none
  list : mg "list" = none
  sum : mg "sum" = none
  any : mg "any" = none
  all : mg "all" = none
  sorted : mg "sorted" = none
  dict : mg "dict" = none
  enumerate : mg "enumerate" = none
theorem getMap {α : Type} {f : α → V} {ns : List α} {i : Nat} {y : V} (h : (ns.map f)[i]? = some y) : ∃ x, y = f x ∧ x ∈ ns ∧ i < ns.length ∧ ns.take (i + 1) = ns.take i ++ [x] := by
  rw [List.getElem?_map] at h
  cases e : ns[i]? with
  | none => rw [e] at h; cases h
  | some x =>
    rw [e] at h
    exact ⟨x, (Option.some.inj h).symm, List.mem_of_getElem? e, (List.getElem?_eq_some_iff.mp e).1, by rw [List.take_add_one, e]; rfl⟩
theorem sq_le {x b : Int} (h0 : -b ≤ x) (h1 : x ≤ b) : x * x ≤ b * b := by
  rcases ltge x 0 with z | z
  · have := Int.mul_le_mul (show -x ≤ b by omega) (show -x ≤ b by omega) (show 0 ≤ -x by omega) (show 0 ≤ b by omega)
    rw [Int.neg_mul_neg] at this
    exact this
  · exact Int.mul_le_mul h1 h1 z (by omega)
/-- 2 ^ (24 - i) -/
def pw (i : Nat) : Int := (2 ^ (24 - i) : Nat)
theorem pw_step {i : Nat} (h : i < 24) : pw i = 2 * pw (i + 1) := by
  unfold pw
  rw [show 24 - i = (24 - (i + 1)) + 1 by omega, Nat.pow_succ]
  omega
theorem mapAt {α : Type} {f : α → V} {ns : List α} {i : Nat} (h : i < ns.length) : (ns.map f)[i]? = some (f ns[i]) := by simp [h]
theorem at_mod {α : Type} {f : α → V} {ns : List α} {z m : Int} (hm : m = (ns.length : Int)) (h : 0 < ns.length) : ∃ x, x ∈ ns ∧ atI (ns.map f) (z % m) = some (f x) := by
  obtain ⟨j, hj⟩ : ∃ j : Nat, z % m = (j : Int) := ⟨(z % m).toNat, by have := Int.emod_nonneg z (show m ≠ 0 by omega); omega⟩
  have hj2 : j < ns.length := by have := Int.emod_lt_of_pos z (show 0 < m by omega); omega
  exact ⟨ns[j], List.getElem_mem hj2, by rw [hj]; exact atI_nat (mapAt hj2)⟩
/-- all that stood, but at d -/
theorem Keep.none {d a : Addr} {H H' : Hp} (k : Keep d H H') (n : a ≠ d) (h : H' a = none) : H a = none := by
  cases e : H a with
  | none => rfl
  | some o => rw [k _ _ e n] at h; cases h
theorem atI_lastn {α : Type} {xs : List α} {v : α} {m : Int} (hm : m = (xs.length : Int) - 1) (h : xs.getLast? = some v) : atI xs m = some v := by
  obtain ⟨ys, rfl⟩ := List.getLast?_eq_some_iff.mp h
  rw [hm, List.length_append, List.length_singleton]
  have e : ((ys.length + 1 : Nat) : Int) - 1 = ((ys.length : Nat) : Int) := by omega
  rw [e]
  exact atI_nat (by simp)
theorem sq_swap (a b : Int) : (a - b) * (a - b) = (b - a) * (b - a) := by
  have e : a - b = -(b - a) := by omega
  rw [e, Int.neg_mul_neg]
def rLenK (K : PySem.W.Frag) : List V → Hp → VK → Prop := fun xs H Q => ∃ p ys, xs = [V.ref p] ∧ (SqL K H p ys ∨ SqT K H p ys) ∧ Q (.int ys.length) H
end Sk

set_option Elab.async false
set_option linter.all false
set_option maxRecDepth 100000
set_option maxHeartbeats 4000000
namespace Sk
open PySem PySem.Spec PyProof.Rows L2
/-! a method of the text, ready to be called -/
structure MDef (P : Program) (w : World) (K : PySem.W.Frag) (mg : Str → Option Value) (base : Heap) (k : Nat) (C : Addr) (m : Str) (ps : List Str) (sp : Sp) : Prop where
  ex : ∃ (f : Addr) (fd : FuncData), FnOk P w K mg base CX0 k f fd ps sp ∧ Meth K C m f ∧ Binds K fd ps []
theorem pe_mdef {X : Cx} {k : Nat} {C : Addr} {m : Str} {ps : List Str} {sp : Sp} {pos apos : Pos} {o e : Expr} {es : List Expr} {ta : TE} {t : TA} {pl : Sem Bool} (D : MDef X.prog X.w X.K X.mg X.base k C m ps sp) (cl : Cls X.K C) (hr : Room k X.A) (ho : PE X o ta)
    (ha : PA X (e :: es) t) (he : starEach (e :: es) X.env = (false, eval e X.env) :: starEach es X.env := by rfl) (hpl : (backTo pos (starEach es X.env)).any (·.1) = false := by rfl)
    (ht : eval (.Call (.Attribute o m apos) (e :: es) [] pos) X.env = (do
      let ov ← eval o X.env
      standAt apos.atName
      let (f, first) ← holding [ov] (getMethod ov m pl)
      callWith pos f first (backTo pos (starEach (e :: es) X.env)) (backToKw pos (keywordEach [] X.env))) := by rfl) :
    PE X (.Call (.Attribute o m apos) (e :: es) [] pos) (tMeth C m sp [] E0 ta t) := by
  obtain ⟨f, fd, F, M, b⟩ := D.ex
  exact pe_meth ho cl M F hr b .nil pass0 ha he hpl ht
theorem pe_mdef0 {X : Cx} {k : Nat} {C : Addr} {m : Str} {ps : List Str} {sp : Sp} {pos apos : Pos} {o : Expr} {ta : TE} {pl : Sem Bool} (D : MDef X.prog X.w X.K X.mg X.base k C m ps sp) (cl : Cls X.K C) (hr : Room k X.A) (ho : PE X o ta)
    (ht : eval (.Call (.Attribute o m apos) [] [] pos) X.env = (do
      let ov ← eval o X.env
      standAt apos.atName
      let (f, first) ← holding [ov] (getMethod ov m pl)
      callWith pos f first (backTo pos (starEach [] X.env)) (backToKw pos (keywordEach [] X.env))) := by rfl) :
    PE X (.Call (.Attribute o m apos) [] [] pos) (tMeth C m sp [] E0 ta tNil) := by
  obtain ⟨f, fd, F, M, b⟩ := D.ex
  exact pe_meth0 ho cl M F hr b .nil pass0 ht
/-! roots -/
def rt (n : Int) : Int :=
  let q : Int := (Float64.isqrt n.toNat : Nat)
  if q * q < n then q + 1 else q
structure IsRt (n r : Int) : Prop where
  nn : 0 ≤ r
  up : n ≤ r * r
  lo : r = 0 ∨ (r - 1) * (r - 1) < n
theorem mono_sq {a b : Int} (h0 : 0 ≤ a) (h : a ≤ b) : a * a ≤ b * b := Int.mul_le_mul h h h0 (by omega)
theorem IsRt.le {n r r' : Int} (h : IsRt n r) (h' : IsRt n r') : r ≤ r' := by
  rcases h.lo with z | z
  · have := h'.nn; omega
  · rcases ltge r' r with w | w
    · have a := mono_sq h'.nn (show r' ≤ r - 1 by omega)
      have b := h'.up
      omega
    · exact w
theorem IsRt.eq {n r r' : Int} (h : IsRt n r) (h' : IsRt n r') : r = r' := by
  have a := h.le h'
  have b := h'.le h
  omega
theorem rt_is {n : Int} (hn : 0 ≤ n) : IsRt n (rt n) := by
  obtain ⟨z1, z2⟩ := PySem.Float64.isqrt_spec n.toNat
  have e : ((n.toNat : Nat) : Int) = n := by omega
  have a := Int.ofNat_le.mpr z1
  have b := Int.ofNat_lt.mpr z2
  rw [Int.natCast_mul, e] at a
  rw [Int.natCast_mul, Int.natCast_add, e] at b
  have q0 : (0 : Int) ≤ (Float64.isqrt n.toNat : Nat) := Int.natCast_nonneg _
  unfold rt
  dsimp only
  generalize ((Float64.isqrt n.toNat : Nat) : Int) = q at a b q0 ⊢
  have b' : n < (q + 1) * (q + 1) := b
  by_cases h : q * q < n
  · rw [if_pos h]
    exact ⟨by omega, by omega, .inr (by rw [show q + 1 - 1 = q by omega]; exact h)⟩
  · rw [if_neg h]
    refine ⟨q0, by omega, ?_⟩
    rcases ltge 0 q with w | w
    · right
      have : (q - 1) * (q - 1) = q * q - 2 * q + 1 := by
        rw [Int.sub_mul, Int.mul_sub, Int.mul_sub]; omega
      omega
    · left; omega
theorem rt_nn {n : Int} (hn : 0 ≤ n) : 0 ≤ rt n := (rt_is hn).nn
theorem rt_small {n b : Int} (hn : 0 ≤ n) (hb : 0 ≤ b) (h : n ≤ b * b) : rt n ≤ b := by
  rcases (rt_is hn).lo with z | z
  · omega
  · rcases ltge b (rt n) with w | w
    · have := mono_sq hb (show b ≤ rt n - 1 by omega)
      omega
    · exact w
/-! texts whose signs are signs -/
abbrev sOk (x : Str) : Prop := PySem.PyData.strOk x = true
theorem sOk_app {x y : Str} (h1 : sOk x) (h2 : sOk y) : sOk (x ++ y) := by
  unfold sOk PySem.PyData.strOk at *
  show (x.cps ++ y.cps).all (· < 0x110000) = true
  rw [Array.all_append, h1, h2]
  rfl
/-! the chart -/
structure Lg where
  a : Addr
  s : Str
  e : Str
  c : Str
  lo : Int
  hi : Int
def Lg.v (l : Lg) : List V := [.str l.s, .str l.e, .str l.c, .int l.lo, .int l.hi]
structure CD where
  fx : Addr
  lg : Addr
  fs : List (Key × V)
  pt : Str → Option (Addr × Int × Int)
  ls : List Lg
structure ChartAt (H : Hp) (ch : Addr) (D : CD) : Prop where
  ch : ∃ kvs, H ch = some (.dK kvs) ∧ valV kvs (.inr "fixes") = some (.ref D.fx) ∧ valV kvs (.inr "legs") = some (.ref D.lg)
  fx : H D.fx = some (.dK D.fs)
  lg : H D.lg = some (.lst (D.ls.map fun l => V.ref l.a))
  lt : ∀ l ∈ D.ls, H l.a = some (.tup l.v)
  pf : ∀ n a x y, D.pt n = some (a, x, y) → valV D.fs (.inr n) = some (.ref a) ∧ H a = some (.tup [.int x, .int y]) ∧ -100000 ≤ x ∧ x ≤ 100000 ∧ -100000 ≤ y ∧ y ≤ 100000
  wf : ∀ l ∈ D.ls, (∃ a x y, D.pt l.s = some (a, x, y)) ∧ ∃ a x y, D.pt l.e = some (a, x, y)
  sk : ∀ l ∈ D.ls, sOk l.s ∧ sOk l.e ∧ sOk l.c
  n : D.ls.length ≤ 100
theorem ChartAt.same {H H' : Hp} {ch : Addr} {D : CD} (C : ChartAt H ch D) (e : Same H H') : ChartAt H' ch D := by
  obtain ⟨⟨kvs, h1, h2, h3⟩, h4, h5, h6, h7, h8, h8', h9⟩ := C
  exact ⟨⟨kvs, e _ _ h1, h2, h3⟩, e _ _ h4, e _ _ h5, fun l hl => e _ _ (h6 l hl), fun n a x y hp => let ⟨p1, p2, p3⟩ := h7 n a x y hp; ⟨p1, e _ _ p2, p3⟩, h8, h8', h9⟩
theorem ChartAt.keep {K : PySem.W.Frag} {H H' : Hp} {d c ch : Addr} {D : CD} (C : ChartAt H ch D) (S : St1 K H d c) (k : Keep d H H') (n1 : ch ≠ d) (n2 : D.fx ≠ d) : ChartAt H' ch D := by
  obtain ⟨⟨kvs, h1, h2, h3⟩, h4, h5, h6, h7, h8, h8', h9⟩ := C
  exact ⟨⟨kvs, k _ _ h1 n1, h2, h3⟩, k _ _ h4 n2, k.l S h5, fun l hl => k.t S (h6 l hl), fun n a x y hp => let ⟨p1, p2, p3⟩ := h7 n a x y hp; ⟨p1, k.t S p2, p3⟩, h8, h8', h9⟩
theorem ChartAt.gf {H : Hp} {ch : Addr} {D : CD} (C : ChartAt H ch D) : DGet H ch (.str "fixes") (some (.ref D.fx)) := let ⟨_, h1, h2, _⟩ := C.ch; h2 ▸ DGet.k (k := .inr "fixes") h1
theorem ChartAt.gl {H : Hp} {ch : Addr} {D : CD} (C : ChartAt H ch D) : DGet H ch (.str "legs") (some (.ref D.lg)) := let ⟨_, h1, _, h3⟩ := C.ch; h3 ▸ DGet.k (k := .inr "legs") h1
theorem ChartAt.gp {H : Hp} {ch : Addr} {D : CD} (C : ChartAt H ch D) {n : Str} {a : Addr} {x y : Int} (h : D.pt n = some (a, x, y)) : DGet H D.fx (.str n) (some (.ref a)) := (C.pf n a x y h).1 ▸ DGet.k (k := .inr n) C.fx
/-- the length of the leg between two names -/
def CD.len (D : CD) (s e : Str) : Int := match D.pt s, D.pt e with
  | some (_, ax, ay), some (_, bx, by') => rt ((bx - ax) * (bx - ax) + (by' - ay) * (by' - ay))
  | _, _ => 0
theorem CD.len_eq {D : CD} {s e : Str} {a b : Addr} {ax ay bx by' : Int} (h1 : D.pt s = some (a, ax, ay)) (h2 : D.pt e = some (b, bx, by')) : D.len s e = rt ((bx - ax) * (bx - ax) + (by' - ay) * (by' - ay)) := by
  unfold CD.len
  rw [h1, h2]
def CD.leg (D : CD) (s e : Str) : Option Lg := D.ls.find? fun l => decide (l.s = s) && decide (l.e = e)
def optL : Option Lg → V
  | some l => .ref l.a
  | none => .non
theorem CD.leg_mem {D : CD} {s e : Str} {l : Lg} (h : D.leg s e = some l) : l ∈ D.ls ∧ l.s = s ∧ l.e = e := by
  have h1 := List.find?_some h
  simp only [Bool.and_eq_true, decide_eq_true_eq] at h1
  exact ⟨List.mem_of_find?_eq_some h, h1.1, h1.2⟩
/-! promises -/
def spUpR : Sp := fun vs H Q _ => ∃ n : Int, vs = [.int n] ∧ 0 ≤ n ∧ n.natAbs < 2 ^ 240 ∧ Q (.int (rt n)) H
def spDownR : Sp := fun vs H Q _ => ∃ n : Int, vs = [.int n] ∧ n.natAbs < 2 ^ 250 ∧ ∀ r : Int, 0 ≤ r → (n ≤ 0 → r = 0) → (0 ≤ n → r * r ≤ n ∧ n < (r + 1) * (r + 1)) → Q (.int r) H
def spRootR : Sp := fun vs H Q _ => ∃ n : Int, vs = [.int n] ∧ 0 ≤ n ∧ n ≤ 100000000000000 ∧ Q (.int (rt n)) H
def spLegLen : Sp := fun vs H Q _ => ∃ (ch : Addr) (D : CD) (s e : Str) (a b : Addr) (ax ay bx by' : Int), vs = [.ref ch, .str s, .str e] ∧ ChartAt H ch D ∧ D.pt s = some (a, ax, ay) ∧ D.pt e = some (b, bx, by') ∧ Q (.int (D.len s e)) H
def spLegBt : Sp := fun vs H Q _ => ∃ (ch : Addr) (D : CD) (s e : Str), vs = [.ref ch, .str s, .str e] ∧ ChartAt H ch D ∧ Q (optL (D.leg s e)) H
def spIs : Sp := fun vs H Q _ => ∃ a b : Bool, vs = [.bl a, .bl b] ∧ Q (.bl (decide (a = b))) H
/-- a list of texts -/
def spNames (K : PySem.W.Frag) : Sp := fun vs H Q _ => ∃ (d c : Addr) (m : Int), vs = [.ref d, .int m] ∧ St1 K H d c ∧ 0 ≤ m ∧ m ≤ 12 ∧
  ∀ (ns : List Str) p H', (ns.length : Int) = m → (∀ n ∈ ns, sOk n) → ns.Nodup → H p = none → H' p = some (.lst (ns.map V.str)) → St1 K H' d c → Keep d H H' → Q (.ref p) H'
/-- legs among the names -/
structure LegsAt (H : Hp) (l : Addr) (ns : List Str) (ls : List Lg) : Prop where
  li : H l = some (.lst (ls.map fun l => V.ref l.a))
  tu : ∀ q ∈ ls, H q.a = some (.tup q.v)
  nm : ∀ q ∈ ls, q.s ∈ ns ∧ q.e ∈ ns
  ck : ∀ q ∈ ls, sOk q.c
  ne : ns.Nodup → ∀ q ∈ ls, q.s ≠ q.e
theorem LegsAt.same {H H' : Hp} {l : Addr} {ns : List Str} {ls : List Lg} (L : LegsAt H l ns ls) (e : Same H H') : LegsAt H' l ns ls := ⟨e _ _ L.li, fun q h => e _ _ (L.tu q h), L.nm, L.ck, L.ne⟩
theorem LegsAt.keep {K : PySem.W.Frag} {H H' : Hp} {d c l : Addr} {ns : List Str} {ls : List Lg} (L : LegsAt H l ns ls) (S : St1 K H d c) (k : Keep d H H') : LegsAt H' l ns ls := ⟨k.l S L.li, fun q h => k.t S (L.tu q h), L.nm, L.ck, L.ne⟩
theorem LegsAt.snoc {H : Hp} {l : Addr} {ns : List Str} {ls : List Lg} {q : Lg} (L : LegsAt H l ns ls) (hp : H q.a = some (.tup q.v)) (h1 : q.s ∈ ns) (h2 : q.e ∈ ns) (h3 : sOk q.c) (h4 : ns.Nodup → q.s ≠ q.e) : LegsAt (upd H l (.lst ((ls.map fun l => V.ref l.a) ++ [.ref q.a]))) l ns (ls ++ [q]) := by
  refine ⟨by rw [upd_same, List.map_append]; rfl, fun z hz => ?_, fun z hz => ?_, fun z hz => ?_, fun nd z hz => ?_⟩
  · have ht : H z.a = some (.tup z.v) := by
      rcases List.mem_append.mp hz with h | h
      · exact L.tu z h
      · rw [List.mem_singleton.mp h]; exact hp
    rw [upd_ne (ne_of ht L.li (by intro e; cases e))]
    exact ht
  · rcases List.mem_append.mp hz with h | h
    · exact L.nm z h
    · rw [List.mem_singleton.mp h]; exact ⟨h1, h2⟩
  · rcases List.mem_append.mp hz with h | h
    · exact L.ck z h
    · rw [List.mem_singleton.mp h]; exact h3
  · rcases List.mem_append.mp hz with h | h
    · exact L.ne nd z h
    · rw [List.mem_singleton.mp h]; exact h4 nd
def spLegs (K : PySem.W.Frag) : Sp := fun vs H Q _ => ∃ (d c l : Addr) (ns : List Str), vs = [.ref d, .ref l] ∧ St1 K H d c ∧ H l = some (.lst (ns.map V.str)) ∧ 2 ≤ ns.length ∧ ns.length ≤ 12 ∧
  ∀ (ls : List Lg) p H', LegsAt H' p ns ls → ls.length ≤ 100 → H p = none → St1 K H' d c → Keep d H H' → Q (.ref p) H'
def spChart (K : PySem.W.Frag) : Sp := fun vs H Q _ => ∃ (d c : Addr) (m z : Int), vs = [.ref d, .int m, .int z] ∧ St1 K H d c ∧ 2 ≤ m ∧ m ≤ 7 ∧ 1 ≤ z ∧ z ≤ 9000 ∧
  ∀ (D : CD) ch H', (∀ l ∈ D.ls, 1 ≤ D.len l.s l.e) → ChartAt H' ch D → H ch = none → H D.fx = none → St1 K H' d c → Keep d H H' → Q (.ref ch) H'
def spLawLeg : Sp := spLegBt
/-! the parts of a chart while it is made -/
/-- all but two -/
def Keep2 (d e : Addr) (H H' : Hp) : Prop := ∀ c o, H c = some o → c ≠ d → c ≠ e → H' c = some o
theorem Keep2.refl (d e : Addr) (H : Hp) : Keep2 d e H H := fun _ _ h _ _ => h
theorem Keep2.k {d e : Addr} {H H1 H2 : Hp} (a : Keep2 d e H H1) (b : Keep d H1 H2) : Keep2 d e H H2 := fun c o h n m => b c o (a c o h n m) n
theorem Keep2.new {d e p : Addr} {o : HO} {H H1 : Hp} (a : Keep2 d e H H1) (h : H1 p = none) : Keep2 d e H (upd H1 p o) := fun c u q n m => same_new h _ _ (a c u q n m)
theorem Keep2.put {d e : Addr} {o : HO} {H H1 : Hp} (a : Keep2 d e H H1) : Keep2 d e H (upd H1 e o) := fun c u q n m => by
  rw [upd_ne m]
  exact a c u q n m
structure FixAt (H : Hp) (f : Addr) (kvs : List (Key × V)) (pt : Str → Option (Addr × Int × Int)) (ns : List Str) : Prop where
  dc : H f = some (.dK kvs)
  pf : ∀ n a x y, pt n = some (a, x, y) → valV kvs (.inr n) = some (.ref a) ∧ H a = some (.tup [.int x, .int y]) ∧ -100000 ≤ x ∧ x ≤ 100000 ∧ -100000 ≤ y ∧ y ≤ 100000
  nm : ∀ n ∈ ns, ∃ a x y, pt n = some (a, x, y)
theorem FixAt.same {H H' : Hp} {f : Addr} {kvs : List (Key × V)} {pt : Str → Option (Addr × Int × Int)} {ns : List Str} (F : FixAt H f kvs pt ns) (e : Same H H') : FixAt H' f kvs pt ns :=
  ⟨e _ _ F.dc, fun n a x y h => let ⟨h1, h2, h3⟩ := F.pf n a x y h; ⟨h1, e _ _ h2, h3⟩, F.nm⟩
theorem FixAt.keep {K : PySem.W.Frag} {H H' : Hp} {d c f : Addr} {kvs : List (Key × V)} {pt : Str → Option (Addr × Int × Int)} {ns : List Str} (F : FixAt H f kvs pt ns) (S : St1 K H d c) (k : Keep d H H') (n : f ≠ d) : FixAt H' f kvs pt ns :=
  ⟨k _ _ F.dc n, fun n a x y h => let ⟨h1, h2, h3⟩ := F.pf n a x y h; ⟨h1, k.t S h2, h3⟩, F.nm⟩
theorem FixAt.keep2 {K : PySem.W.Frag} {H H' : Hp} {d c e f : Addr} {o : List (Key × V)} {kvs : List (Key × V)} {pt : Str → Option (Addr × Int × Int)} {ns : List Str} (F : FixAt H f kvs pt ns) (S : St1 K H d c) (he : ∀ xs, H e ≠ some (.tup xs)) (k : Keep2 d e H H') (n : f ≠ d) (m : f ≠ e) : FixAt H' f kvs pt ns :=
  ⟨k _ _ F.dc n m, fun n a x y h => let ⟨h1, h2, h3⟩ := F.pf n a x y h; ⟨h1, k _ _ h2 (let ⟨_, z⟩ := S.dk; ne_of h2 z (by intro w; cases w)) (fun w => he _ (w ▸ h2)), h3⟩, F.nm⟩
theorem FixAt.put {H : Hp} {f p : Addr} {kvs : List (Key × V)} {pt : Str → Option (Addr × Int × Int)} {ns : List Str} {n : Str} {x y : Int} (F : FixAt H f kvs pt ns) (hp : H p = some (.tup [.int x, .int y])) (b : -100000 ≤ x ∧ x ≤ 100000 ∧ -100000 ≤ y ∧ y ≤ 100000) :
    FixAt (upd H f (.dK (putK kvs (.inr n) (.ref p)))) f (putK kvs (.inr n) (.ref p)) (fun m => if m = n then some (p, x, y) else pt m) (ns ++ [n]) := by
  refine ⟨upd_same, fun m a u v h => ?_, fun m hm => ?_⟩
  · rw [valV_put]
    by_cases e : m = n
    · subst e
      simp only [if_true] at h
      cases h
      rw [if_pos rfl, upd_ne (ne_of hp F.dc (by intro z; cases z))]
      exact ⟨rfl, hp, b⟩
    · simp only [if_neg e] at h
      obtain ⟨h1, h2, h3⟩ := F.pf m a u v h
      rw [if_neg (fun z => e (Sum.inr.inj z)), upd_ne (ne_of h2 F.dc (by intro z; cases z))]
      exact ⟨h1, h2, h3⟩
  · by_cases e : m = n
    · exact ⟨p, x, y, by simp [e]⟩
    · rcases List.mem_append.mp hm with h | h
      · obtain ⟨a, u, v, h⟩ := F.nm m h
        exact ⟨a, u, v, by simp only [if_neg e]; exact h⟩
      · exact absurd (List.mem_singleton.mp h) e
theorem putK_len {kvs : List (Key × V)} {k : Key} {v : V} : (putK kvs k v).length ≤ kvs.length + 1 := by
  unfold putK
  split
  · rw [List.length_map]; omega
  · rw [List.length_append]; exact Nat.le_refl _
section
variable {f l z r h u w : V}
def chK (f l z r h u w : V) : List (Key × V) := putK (putK (mergeK [] [(.inr "fixes", f), (.inr "legs", l), (.inr "zones", z), (.inr "runways", r), (.inr "holds", h)]) (.inr "hours") u) (.inr "capacities") w
theorem ch_fix : valV (chK f l z r h u w) (.inr "fixes") = some f := by
  unfold chK
  simp only [mergeK, List.foldl, valV_put]
  rw [if_neg (kr (by decide +kernel)), if_neg (kr (by decide +kernel)), if_neg (kr (by decide +kernel)), if_neg (kr (by decide +kernel)), if_neg (kr (by decide +kernel)), if_neg (kr (by decide +kernel)), if_pos trivial]
theorem ch_leg : valV (chK f l z r h u w) (.inr "legs") = some l := by
  unfold chK
  simp only [mergeK, List.foldl, valV_put]
  rw [if_neg (kr (by decide +kernel)), if_neg (kr (by decide +kernel)), if_neg (kr (by decide +kernel)), if_neg (kr (by decide +kernel)), if_neg (kr (by decide +kernel)), if_pos trivial]
theorem ch_len : (mergeK [] [((.inr "fixes" : Key), f), (.inr "legs", l), (.inr "zones", z), (.inr "runways", r), (.inr "holds", h)]).length ≤ 5 := by
  have := length_mergeK [((.inr "fixes" : Key), f), (.inr "legs", l), (.inr "zones", z), (.inr "runways", r), (.inr "holds", h)] []
  simpa using this
end
/-! routes -/
def rn (ns : List Str) (j : Nat) : Str := ns.getD j (Str.ofString "")
theorem rn_at {ns : List Str} {j : Nat} (h : j < ns.length) : (ns.map V.str)[j]? = some (V.str (rn ns j)) := by
  unfold rn
  simp [h]
def Chain (D : CD) (ns : List Str) : Prop := ∀ j, j + 1 < ns.length → ∃ l, D.leg (rn ns j) (rn ns (j + 1)) = some l
theorem rn_l {xs ys : List Str} {j : Nat} (h : j < xs.length) : rn (xs ++ ys) j = rn xs j := by
  unfold rn
  rw [List.getD_eq_getElem?_getD, List.getD_eq_getElem?_getD, List.getElem?_append_left h]
theorem rn_r (xs : List Str) (b : Str) : rn (xs ++ [b]) xs.length = b := by
  unfold rn
  rw [List.getD_eq_getElem?_getD, List.getElem?_append_right (Nat.le_refl _), Nat.sub_self]
  rfl
theorem Chain.snoc {D : CD} {ns : List Str} {a b : Str} (h : Chain D ns) (ha : ns.getLast? = some a) (hl : ∃ l, D.leg a b = some l) : Chain D (ns ++ [b]) := by
  intro j hj
  rw [List.length_append, List.length_singleton] at hj
  obtain ⟨ys, rfl⟩ := List.getLast?_eq_some_iff.mp ha
  by_cases e : j + 1 < (ys ++ [a]).length
  · rw [rn_l (show j < (ys ++ [a]).length by omega), rn_l e]
    exact h j e
  · have ej : j = ys.length := by rw [List.length_append, List.length_singleton] at e hj; omega
    subst ej
    have e2 : rn (ys ++ [a] ++ [b]) (ys.length + 1) = b := by
      have := rn_r (ys ++ [a]) b
      rw [List.length_append, List.length_singleton] at this
      exact this
    rw [rn_l (by rw [List.length_append, List.length_singleton]; omega), rn_r, e2]
    exact hl
structure Route (D : CD) (ns : List Str) : Prop where
  n2 : 2 ≤ ns.length
  n20 : ns.length ≤ 20
  ch : Chain D ns
theorem CD.leg_some {D : CD} {l : Lg} (h : l ∈ D.ls) : ∃ l', D.leg l.s l.e = some l' := by
  cases e : D.leg l.s l.e with
  | some l' => exact ⟨l', rfl⟩
  | none =>
    have := List.find?_eq_none.mp e l h
    simp at this
/-- the lengths of the legs -/
def LenAt (H : Hp) (ld : Addr) (D : CD) : Prop := ∃ kvs, H ld = some (.dT kvs) ∧ ∀ s e l, D.leg s e = some l → valV kvs [(.inr s : Key), .inr e] = some (.int (D.len s e))
theorem LenAt.same {H H' : Hp} {ld : Addr} {D : CD} (L : LenAt H ld D) (e : Same H H') : LenAt H' ld D := let ⟨kvs, h1, h2⟩ := L; ⟨kvs, e _ _ h1, h2⟩
theorem LenAt.keep {K : PySem.W.Frag} {H H' : Hp} {d c ld : Addr} {D : CD} (L : LenAt H ld D) (S : St1 K H d c) (k : Keep d H H') : LenAt H' ld D :=
  let ⟨kvs, h1, h2⟩ := L; ⟨kvs, k _ _ h1 (let ⟨_, w⟩ := S.dk; ne_of h1 w (by intro z; cases z)), h2⟩
theorem LenAt.g {H : Hp} {ld p : Addr} {D : CD} {s e : Str} (L : LenAt H ld D) (h : ∃ l, D.leg s e = some l) (hp : H p = some (.tup [.str s, .str e])) : DGet H ld (.ref p) (some (.int (D.len s e))) := by
  obtain ⟨kvs, h1, h2⟩ := L
  obtain ⟨l, h⟩ := h
  rw [← h2 s e l h]
  exact DGet.t (k := [(.inr s : Key), .inr e]) h1 hp
def spLegS : Sp := fun vs H Q _ => ∃ (ch : Addr) (D : CD) (s e : Str), vs = [.ref ch, .str s, .str e] ∧ ChartAt H ch D ∧ ∀ H', Same H H' → Q (optL (D.leg s e)) H'
def spLens : Sp := fun vs H Q _ => ∃ (ch : Addr) (D : CD), vs = [.ref ch] ∧ ChartAt H ch D ∧ ∀ ld H', H ld = none → LenAt H' ld D → Same H H' → Q (.ref ld) H'
def spWalk (K : PySem.W.Frag) : Sp := fun vs H Q _ => ∃ (d c ch : Addr) (D : CD) (m : Int), vs = [.ref d, .ref ch, .int m] ∧ St1 K H d c ∧ ChartAt H ch D ∧ ch ≠ d ∧ D.fx ≠ d ∧ D.ls ≠ [] ∧ 1 ≤ m ∧ m ≤ 15 ∧
  ∀ (ns : List Str) r H', Route D ns → H r = none → H' r = some (.tup (ns.map V.str)) → St1 K H' d c → Keep d H H' → Q (.ref r) H'
theorem head_find {α : Type} (p : α → Bool) (xs : List α) : (xs.filter p).head? = xs.find? p := by
  rw [List.head?_filter]
/-! the places of a chart lie apart -/
theorem sq_pos {d : Int} (h : d ≠ 0) : 1 ≤ d * d := by
  rcases ltge 0 d with w | w
  · have := Int.mul_le_mul (show 1 ≤ d by omega) (show 1 ≤ d by omega) (by decide) (by omega)
    omega
  · have := Int.mul_le_mul (show 1 ≤ -d by omega) (show 1 ≤ -d by omega) (by decide) (by omega)
    rw [Int.neg_mul_neg] at this
    omega
theorem rt_one {n : Int} (h : 1 ≤ n) : 1 ≤ rt n := by
  have z := rt_is (show 0 ≤ n by omega)
  rcases ltge 0 (rt n) with w | w
  · omega
  · have e : rt n = 0 := by have := z.nn; omega
    have := z.up
    rw [e] at this
    omega
theorem CD.len_one {D : CD} {s e : Str} {a b : Addr} {ax ay bx by' : Int} (h1 : D.pt s = some (a, ax, ay)) (h2 : D.pt e = some (b, bx, by')) (h : ay ≠ by') : 1 ≤ D.len s e := by
  rw [CD.len_eq h1 h2]
  refine rt_one ?_
  have z1 := sq0 (bx - ax)
  have z2 := sq_pos (show by' - ay ≠ 0 by omega)
  omega
def LETS : List Nat := ("QXAMBZKCTDRE" : Str).cps.toList
def Let1 (ns : List Str) (x : Int) : Prop := ∀ j (h : j < ns.length), ∃ c, (ns[j]).cps.toList.head? = some c ∧ atI LETS (((j : Int) + x) % 12) = some c
theorem lets_inj : ∀ u : Fin 12, ∀ v : Fin 12, LETS[u.val]? = LETS[v.val]? → u = v := by decide +kernel
theorem lets_at {u : Nat} (h : u < 12) : atI LETS (u : Int) = LETS[u]? := by
  have e : u < LETS.length := by
    have : LETS.length = 12 := by decide +kernel
    omega
  rw [List.getElem?_eq_getElem e]
  exact atI_nat (List.getElem?_eq_getElem e)
theorem let_nodup {ns : List Str} {x : Int} (h : Let1 ns x) (hl : ns.length ≤ 12) : ns.Nodup := by
  refine List.pairwise_iff_getElem.mpr fun i j hi hj hij e => ?_
  obtain ⟨c1, a1, b1⟩ := h i hi
  obtain ⟨c2, a2, b2⟩ := h j hj
  rw [e, a2] at a1
  cases a1
  obtain ⟨u, hu⟩ : ∃ u : Nat, ((i : Int) + x) % 12 = (u : Int) := ⟨(((i : Int) + x) % 12).toNat, by omega⟩
  obtain ⟨v, hv⟩ : ∃ v : Nat, ((j : Int) + x) % 12 = (v : Int) := ⟨(((j : Int) + x) % 12).toNat, by omega⟩
  have hu2 : u < 12 := by omega
  have hv2 : v < 12 := by omega
  rw [hu, lets_at hu2] at b1
  rw [hv, lets_at hv2] at b2
  have := lets_inj ⟨u, hu2⟩ ⟨v, hv2⟩ (b1.trans b2.symm)
  have : u = v := congrArg Fin.val this
  omega
theorem at_mod2 {α : Type} {f : α → V} {ns : List α} {z m : Int} (hm : m = (ns.length : Int)) (h : 0 < ns.length) : ∃ (j : Nat) (hj : j < ns.length), z % m = (j : Int) ∧ atI (ns.map f) (z % m) = some (f ns[j]) := by
  obtain ⟨j, hj⟩ : ∃ j : Nat, z % m = (j : Int) := ⟨(z % m).toNat, by have := Int.emod_nonneg z (show m ≠ 0 by omega); omega⟩
  have hj2 : j < ns.length := by have := Int.emod_lt_of_pos z (show 0 < m by omega); omega
  exact ⟨j, hj2, hj, by rw [hj]; exact atI_nat (mapAt hj2)⟩
theorem mod_ne {i j : Nat} {x m : Int} (hi : (i : Int) < m) (h0 : 0 ≤ x) (h1 : x < m - 1) (e : (0 + (i : Int) + 1 + x) % m = (j : Int)) : i ≠ j := by
  rintro rfl
  have z := Int.mul_ediv_add_emod (0 + (i : Int) + 1 + x) m
  rw [e] at z
  generalize (0 + (i : Int) + 1 + x) / m = q at z
  rcases ltge 0 q with w | w
  · have := Int.mul_le_mul_of_nonneg_left (show 1 ≤ q by omega) (show 0 ≤ m by omega)
    omega
  · have := Int.mul_nonneg (show 0 ≤ m by omega) (show 0 ≤ -q by omega)
    rw [Int.mul_neg] at this
    omega
theorem nodup_ne {ns : List Str} (nd : ns.Nodup) {i j : Nat} (hi : i < ns.length) (hj : j < ns.length) (n : i ≠ j) : ns[i] ≠ ns[j] := by
  have p := List.pairwise_iff_getElem.mp nd
  rcases Nat.lt_or_gt_of_ne n with h | h
  · exact p i j hi hj h
  · exact (p j i hj hi h).symm
def Sep (pt : Str → Option (Addr × Int × Int)) (ns : List Str) (m : Int) (i : Nat) : Prop := ∀ j (h : j < ns.length), j < i → ∃ a x y, pt ns[j] = some (a, x, y) ∧ y % m = (j : Int)
theorem Sep.put {pt : Str → Option (Addr × Int × Int)} {ns : List Str} {m : Int} {i : Nat} {p : Addr} {x y : Int} (nd : ns.Nodup) (S : Sep pt ns m i) (hi : i < ns.length) (hy : y % m = (i : Int)) : Sep (fun q => if q = ns[i] then some (p, x, y) else pt q) ns m (i + 1) := by
  intro j hj hji
  by_cases e : j = i
  · subst e
    exact ⟨p, x, y, by simp, hy⟩
  · obtain ⟨a, u, v, h1, h2⟩ := S j hj (by omega)
    exact ⟨a, u, v, by simp only [if_neg (nodup_ne nd hj hi e)]; exact h1, h2⟩
theorem y_mod {m a i : Int} (h0 : 0 ≤ i) (h1 : i < m) : (m * a + (0 + i)) % m = i := by
  rw [Int.add_comm, Int.add_mul_emod_self_left, Int.zero_add]
  exact Int.emod_eq_of_lt h0 h1
theorem Sep.len {D : CD} {ns : List Str} {m : Int} {s e : Str} (S : Sep D.pt ns m ns.length) (nd : ns.Nodup) (hs : s ∈ ns) (he : e ∈ ns) (n : s ≠ e) : 1 ≤ D.len s e := by
  obtain ⟨i, hi, rfl⟩ := List.getElem_of_mem hs
  obtain ⟨j, hj, rfl⟩ := List.getElem_of_mem he
  obtain ⟨a, x, y, h1, h2⟩ := S i hi hi
  obtain ⟨b, u, v, h3, h4⟩ := S j hj hj
  refine CD.len_one h1 h3 fun z => n ?_
  rw [z, h4] at h2
  have : i = j := by omega
  subst this
  rfl
end Sk

set_option Elab.async false
set_option linter.all false
set_option maxRecDepth 100000
set_option maxHeartbeats 4000000
namespace Sk
open PySem PySem.Spec PyProof.Rows L2
/-! tuple * int, once too: it is the tuple itself -/
theorem tuple_mul1 (l : Addr) (items : Array Value) (n : Nat) (dd : Option Addr) (sl : Array (Option Value)) (u : Tok) :
    Meets (Builtin.«tuple.__mul__» ⟨[.ref l, .int 1 u], []⟩) (fun _ R s => s.heap.get? l = some { cls := .type "tuple", dict := dd, data := .seq items n, slots := sl } ∧
      R (.ok (.ret (Value.ref l))) s) :=
  .of_wp fun prog w A R s h => by
    obtain ⟨hp, g, d, tk, os⟩ := s
    obtain ⟨hl, h⟩ := h
    have f1 := AutoSeq1.idx_int
    have c0 : (decide ((1 : Int) < -(2 ^ 63)) || decide ((1 : Int) ≥ 2 ^ 63)) = false := by decide
    have c1 : (items.isEmpty || (1 : Int) == 1) = true := by rw [show ((1 : Int) == 1) = true from rfl, Bool.or_true]
    wp_walk using wpAny_loadPart' hl
    repeat (first
      | (refine wpAny_ite_false (decide_eq_false (by rw [c0]; exact Bool.false_ne_true)) ?_; wp_walk using wpAny_loadPart' hl)
      | (refine wpAny_ite_true (decide_eq_true c1) ?_; wp_walk using wpAny_loadPart' hl))
    exact ⟨_, rfl, h⟩
def rRepA (K : PySem.W.Frag) : R2 := fun x y H Q => ∃ l k xs, x = .ref l ∧ y = .int k ∧ SqT K H l xs ∧ xs ≠ [] ∧ 1 ≤ k ∧ k ≤ 1000 ∧ xs.length ≤ 1000 ∧ (k = 1 → Q (.ref l) H) ∧ (2 ≤ k → ∀ p, H p = none → Q (.ref p) (upd H p (.tup (List.replicate k.toNat xs).flatten)))
theorem op_repA {X : Cx} : OpR X (binaryOp .Mult) (rRepA X.K) := by
  intro pins s σ H x y v u Q I rx ry h
  obtain ⟨l, k, xs, rfl, rfl, hT, hne, h1, h2, hz, q1, q2⟩ := h
  by_cases hk : k = 1
  rotate_left
  · exact op_repT pins s σ H _ _ v u Q I rx ry ⟨l, k, xs, rfl, rfl, hT, hne, by omega, h2, hz, q2 (by omega)⟩
  subst hk
  cases rx
  obtain ⟨t, rfl⟩ := ry
  obtain ⟨its, r, ⟨⟨cls, dd, data, sl⟩, ho, hc, n, hd⟩, hs⟩ := I.tuple hT
  simp only at hc hd
  subst hc hd
  exact wpAny_binaryOp_repeat_ref (T := "tuple") (U := "int") (by decide) ⟨_, ho, rfl⟩ (fun s' => typeIs_int s' 1 t) noFill_tuple_mul F.fills_int_mul F.slot_int_rmul repeat_tuple F.slot_int_index.lookup
    (call_meets F.slot_int_rmul (typeIs_int s 1 t) F.entry_int_rmul (F.args_int_rmul_2 _ _) (int_rmul_tuple 1 t l its.toArray n dd sl)
      ⟨ho, rfl, ⟨_, ho, rfl⟩, call_meets F.slot_tuple_mul ⟨_, ho, rfl⟩ F.entry_tuple_mul (F.args_tuple_mul_2 _ _) (tuple_mul1 l its.toArray n dd sl t) ⟨ho, ⟨.ref l, H, I, rfl, q1 rfl⟩⟩⟩)
end Sk

set_option Elab.async false
set_option linter.all false
set_option maxRecDepth 100000
set_option maxHeartbeats 4000000
namespace Sk
open PySem PySem.Spec PyProof.Rows L2 GenW GxR
/-! generator expressions whose elements may call own defs -/
/-! ### one run of a generator's code -/
def Run1 (M : Model) (A : Around) (Z : End → Shared → Prop) (c : Code) (t : Sem PySem.Fin) (fs : List Frame) (s : Shared) : Prop :=
  ∀ (Γ : PySem.Ctx) (p : Pos), Γ.code = c → Γ.Woken A → ∃ e s', Runs M Γ p t fs s e s' ∧ Z e s'
section
variable {M : Model} {A : Around} {Z : End → Shared → Prop} {c : Code} {fs : List Frame} {s : Shared}
theorem run1_wrap {α : Type} {m : Sem α} {K : α → Sem PySem.Fin} {J : Value → Sem PySem.Fin} {gd lv}
    (h : wpAny M (A.over c fs) m (fun a s' => Run1 M A Z c (K a) fs s') (fun x s' => Run1 M A Z c (J x) fs s') s) : Run1 M A Z c (m.wrap K J gd lv) fs s := by
  intro Γ p e w
  subst e
  exact runs_wrap_of_wp K J gd lv m (h (Γ.over fs) p (w.over fs)) (fun a p' s' q => q Γ p' rfl w) fun x p' s' q => q Γ p' rfl w
theorem run1_bind {α β : Type} {m : Sem α} {K : α → Sem β} {K' : β → Sem PySem.Fin} {J' : Value → Sem PySem.Fin} {gd lv}
    (h : wpAny M (A.over c fs) m (fun a s' => Run1 M A Z c ((K a).wrap K' J' gd lv) fs s') (fun x s' => Run1 M A Z c (J' x) fs s') s) : Run1 M A Z c ((m >>= K).wrap K' J' gd lv) fs s := by
  rw [Sem.bind_eq_wrap', Sem.wrap_wrap]
  exact run1_wrap h
theorem run1_at {p' : Pos} {k : Unit → Sem PySem.Fin} (h : Run1 M A Z c (k ()) fs s) : Run1 M A Z c (.at p' k) fs s :=
  run1_wrap (m := standAt p') (K := k) (J := .raise) (gd := id) (lv := id) (wpAny_standAt h)
theorem run1_again {c' : Code} (q : c'.quiet = true) (h : Run1 M A Z c' (M.den c') fs s) : Run1 M A Z c (.pure (.again c')) fs s := by
  intro Γ p e w
  subst e
  obtain ⟨e, s', r, z⟩ := h (Γ.goto c') p rfl (w.goto c')
  exact ⟨e, s', Runs.head (c₁ := c') (fun _ _ x => .again q x) r, z⟩
theorem run1_end (r : Result) (h : Z (.ret r) s) : Run1 M A Z c (leafOf r) [] s := by
  intro Γ p e w
  exact ⟨.ret r, s, Runs.leaf r, h⟩
theorem run1_yield {v g l} {k : Resume → Sem PySem.Fin} (hfs : splitAtGen fs = none) (h : ∀ p, Z (.susp v g l k c p fs) s) : Run1 M A Z c (.yield v g l k) fs s := by
  intro Γ p e w
  subst e
  exact ⟨_, s, Runs.yield' fs hfs, h p⟩
end
/-- a generator's state, woken by None -/
def Goes1 (M : Model) (A : Around) (Z : End → Shared → Prop) (gs : GenState) (s : Shared) : Prop :=
  match gs with
  | .fresh c => Run1 M A Z c (M.den c) [] s
  | .suspended k _ c _ fs _ => Run1 M A Z c (k (.send .none)) fs s
  | _ => False
theorem bare_of {e : End} (h : e.quiet = true) : e.genState.bare = true := End.bare_of_quiet h
theorem wp_resume1 {M : Model} {A : Around} {Z : End → Shared → Prop} {E : Value → Shared → Prop} {s : Shared} {g : Nat} {gs : GenState} {l : List Value} {α : Type} {k : GenResult → Sem α} {Q : α → Shared → Prop} (hg : s.gens[g]? = some gs)
    (go : Goes1 M A Z gs (s.setGen g .running)) (hZ : ∀ e s1, Z e s1 → s.gens.size ≤ s1.gens.size → e.quiet = true ∧ wpAny M A (k e.result) Q E (s1.setGen g e.genState)) : wpAny M A (.resume g (.send .none) l k) Q E s := by
  intro Γ p hΓ
  rw [Sem.wp_resume]
  have wk : ∀ c, (Γ.wake c p).Woken A := fun c => hΓ.wake c p
  have sz : (s.setGen g .running).gens.size = s.gens.size := setGen_size s g .running
  cases gs with
  | fresh c =>
    obtain ⟨e, s1, r, z⟩ := go (Γ.wake c p) p rfl (wk c)
    obtain ⟨q1, q2⟩ := hZ e s1 z (by have := runs_gsz r; rw [sz] at this; exact this)
    exact ⟨_, _, by unfold Wakes; rw [hg]; exact ⟨e, s1, r, q1, rfl, rfl⟩, q2 Γ p hΓ⟩
  | suspended k0 l0 c p0 fs cl =>
    obtain ⟨e, s1, r, z⟩ := go (Γ.wake c p) p0 rfl (wk c)
    obtain ⟨q1, q2⟩ := hZ e s1 z (by have := runs_gsz r; rw [sz] at this; exact this)
    exact ⟨_, _, by unfold Wakes; rw [hg]; exact ⟨e, s1, r, q1, rfl, rfl⟩, q2 Γ p hΓ⟩
  | running => exact go.elim
  | finished => exact go.elim
/-- next(g): what the code's run comes to -/
theorem next1 {P : Program} {w : World} {A : Around} {E : Value → Shared → Prop} {s : Shared} {a : Addr} {g : Nat} {gs : GenState} {Z : End → Shared → Prop} {Q : Option Value → Shared → Prop} (hh : A.handled = none) (hl : s.heap.NoLimit) (hroom : A.depth < recursionLimit)
    (hg : s.heap.IsGen a g) (hgs : s.gens[g]? = some gs) (go : Goes1 (model P w) A.in1 Z gs (s.setGen g .running))
    (hY : ∀ e s1, Z e s1 → s.gens.size ≤ s1.gens.size → (e = .ret (.ok .next) ∧ ∀ h', (∀ b o, s1.heap.get? b = some o → h'.get? b = some o) → Q none { s1.setGen g .finished with heap := h' }) ∨
      (∃ v l k c p fs, e = .susp v false l k c p fs ∧ e.quiet = true ∧ Q (some v) (s1.setGen g e.genState))) : wpAny (model P w) A (pyNext (.ref a)) Q E s := by
  unfold pyNext
  refine wpAny_bind (wpAny_attempt (wpAny_callSpecial?_slot (name := Str.ofString "__next__") hg.typeIs slot_gen_next (wpAny_call_entry slot_gen_next hg.typeIs entry_gen_next ?_ (args_gen_next _))))
  show wpAny _ A.in1 (Builtin.Generator.genWake (.ref a) (.send .none)) _ _ s
  unfold Builtin.Generator.genWake
  refine wpAny_bind (wpAny_holding (wpAny_genNumber hg (wpAny_bind (wpAny_genState hgs ?_))))
  cases gs with
  | running => exact go.elim
  | finished => exact go.elim
  | _ =>
    refine wpAny_bind (wpAny_roomToWake hl hroom ?_)
    show wpAny _ A.in1 (.resume g (.send .none) [] _) _ _ s
    refine wp_resume1 hgs go fun e s1 z hsz => ?_
    rcases hY e s1 z hsz with ⟨rfl, q⟩ | ⟨v, l, k, c, p, fs, rfl, q1, q⟩
    · refine ⟨rfl, ?_⟩
      show wpAny _ A.in1 (newExc (.type "StopIteration") [] >>= _) _ _ _
      refine wpAny_bind ?_
      simp only [newExc, newTuple]
      refine wpAny_bind (wpAny_newObj_type ?_ (by size_fits))
      refine wpAny_bind (m := firstArgMember _ _) (wpAny_of_eq (a := Value.none) (by first | rfl | (simp only [firstArgMember]; rfl)) ?_)
      refine wpAny_newObj_type ?_ (by size_fits)
      simp only [raiseNew]
      refine wpAny_bind (wpAny_bind (wpAny_handled ?_))
      first | rw [show A.in1.handled = none from hh] | rw [hh]
      refine wpAny_throw ?_
      refine wpAny_bind (wpAny_isInstance (T := "StopIteration") (b := true) ⟨_, Heap.get?_push_size _ rfl, rfl⟩ isSubtype_stop ?_)
      exact wpAny_pure (q _ fun b o hb => Heap.get?_push_of_some _ (Heap.get?_push_of_some _ hb))
    · exact ⟨q1, wpAny_pure ⟨v, rfl, wpAny_pure q⟩⟩

/-! ### the generator's frame -/
abbrev gcx (X : Cx) (s : Shared) (H : Hp) (cenv : Env) (fp : List Addr) (A : Around) : Cx :=
  { X with A := A, s_0 := s, H_0 := H, env := cenv, outer := X.stack, stack := cenv :: X.stack, ex := fp, fn := fun _ => false, calm := true, pn := [], xe := fun _ _ => False }
/-- its scope: no cells of its own -/
structure GScp (scope : Scope) : Prop where
  co : scope.isCoroutine = false
  kind : scope.kind = .function
  nocell : ∀ y ∈ scope.names, y.2 ≠ .cell
  dot : scope.names.lookup (".0" : Str) = some NameKind.local
section
variable {X : Cx} {pins : List (Addr × Obj)} {σ : L2.St} {H : Hp} {s : Shared}
theorem blk_free {N : List Str} {scope : Scope} {own : List (Str × Nat)} (ok : BlkOk N X.env.scope scope own) (o : X.Ok) : ∀ y ∈ scope.names, y.2 = .free → ∃ c, X.env.cells.lookup y.1 = some c := fun y hy e =>
  (ok.free y hy e).elim (fun z => o.has _ (.inl z)) fun z => o.has _ (.inr z)
theorem gen_start {scope : Scope} {own : List (Str × Nat)} {fp : List Addr} {code : Value} {A : Around} {h' : Heap} {g' : Array GenState} {d' : Drawn} {t' : Nat} {m : Str → Option Value} (I : Inv X pins σ H s) (ok : BlkOk X.N X.env.scope scope own) (G : GScp scope) (hN : X.N.Nodup)
    (hfp : ∀ b ∈ fp, FpOk X pins H b ∧ b < s.heap.objs.size) (hd : A.handled = none) (hfr : A.frames = some (genEnv scope (cloFrom X.env.cells scope.names []) s.heap.objs.size code builtinsNs X.env :: X.stack))
    (hns : h'.Ns s.heap.objs.size m) (kp : ∀ b o, s.heap.get? b = some o → h'.get? b = some o) (hg : AllBare g') :
    Inv (gcx X s H (genEnv scope (cloFrom X.env.cells scope.names []) s.heap.objs.size code builtinsNs X.env) fp A) [] (wipe σ (own.map (·.2))) H { s with heap := h', gens := g', drawn := d', toks := t' } := by
  have hfree := blk_free ok I.ok
  have cm : ∀ {y c}, (cloFrom X.env.cells scope.names []).lookup y = some c → X.env.cells.lookup y = some c := fun e => NdefX.clo_cm hfree e
  have frk : ∀ y, scope.names.lookup y = some .free → ∃ c, (cloFrom X.env.cells scope.names []).lookup y = some c ∧ X.env.cells.lookup y = some c := fun y e => by
    have hy : (y, NameKind.free) ∈ scope.names := PySem.mem_of_lookup e
    obtain ⟨c, hc⟩ := hfree _ hy rfl
    exact ⟨c, NdefX.clo_has hfree hy hc, hc⟩
  have okG : (gcx X s H (genEnv scope (cloFrom X.env.cells scope.names []) s.heap.objs.size code builtinsNs X.env) fp A).Ok :=
    { mod := I.ok.mod, kind := G.kind, glob := I.ok.glob, blt := rfl, above := Nat.le_refl _
      inj := fun y z c e1 e2 => I.ok.inj y z c (cm e1) (cm e2)
      has := fun y hy => by
        have hy : scope.names.lookup y = some .cell ∨ scope.names.lookup y = some .free := hy
        rcases hy with hy | hy
        · exact absurd rfl (G.nocell _ (PySem.mem_of_lookup hy))
        · obtain ⟨c, e, _⟩ := frk y hy
          exact ⟨c, e⟩
      cab := fun y c z _ => by cases z
      hd := fun _ => hd
      frames := hfr
      stk := .inr ⟨rfl, rfl⟩
      exf := fun b hb => ⟨Nat.ne_of_lt (hfp b hb).2, fun y c e => (hfp b hb).1.2.2.2.2.1 y c (cm e)⟩
      bs := I.bs
      bsz := Nat.le_trans I.ok.bsz I.sz
      noex := fun b o e hb => by
        rcases (hfp b hb).1.2.2.2.1 with z | z
        · exact I.ok.noex b o e z
        · exact Nat.lt_irrefl _ (Nat.lt_of_lt_of_le (Heap.lt_size e) (Nat.le_trans I.ok.bsz z))
      exfs := fun b hb z => by
        rcases List.mem_cons.mp (I.stkSub b z) with z | z
        · exact (hfp b hb).1.2.1 z
        · exact (hfp b hb).1.2.2.1 z
      funs := I.stack
      frf := I.stkFree }
  refine ⟨okG, rfl, hg, Un.kept kp, ⟨m, hns, fun i y v e1 e2 e3 => ?_⟩, fun y c e => ?_, I.hok.fresh (Nat.le_refl _), fun y c e => I.freeC y c (cm e), fun p hp => absurd (show p ∈ ([] : List (Addr × Obj)) ++ [] from hp) (by simp), I.hok.kept kp, by rw [wipe_length]; exact I.len⟩
  · obtain ⟨e2, hne⟩ := wipe_some e2
    have no : ∀ k, scope.names.lookup y = some k → k = .local ∨ k = .cell → False := fun k hk hh => by
      rcases ok.own _ (PySem.mem_of_lookup hk) hh with z | z
      · obtain ⟨p, hp, hpy⟩ := List.mem_map.mp z
        have q := ok.ix p hp
        have hpy : p.1 = y := hpy
        rw [hpy] at q
        exact hne (List.mem_map.mpr ⟨p, hp, nodup_ix hN q e1⟩)
      · exact z (List.mem_of_getElem? e1)
    have e3 : scope.names.lookup y = some .local ∨ scope.names.lookup y = some .cell ∨ scope.names.lookup y = some .free := e3
    have hfr2 : scope.names.lookup y = some .free := by
      rcases e3 with z | z | z
      · exact (no _ z (.inl rfl)).elim
      · exact (no _ z (.inr rfl)).elim
      · exact z
    obtain ⟨c, c1, c2⟩ := frk y hfr2
    obtain ⟨m0, hn0, hl⟩ := I.loc
    have k := ok.free _ (PySem.mem_of_lookup hfr2) rfl
    obtain ⟨u, r, q⟩ := hl i y v e1 e2 (k.elim (fun z => .inr (.inl z)) fun z => .inr (.inr z))
    refine ⟨u, r, .inr ⟨.inr hfr2, c, c1, ?_⟩⟩
    rcases q with ⟨z, _⟩ | ⟨_, c', e', z⟩
    · have z : X.env.scope.names.lookup y = some .local := z
      rcases k with k | k <;> rw [show X.env.scope.names.lookup y = _ from k] at z <;> cases z
    · rw [c2] at e'
      cases e'
      exact z.keeps kp
  · obtain ⟨v, z⟩ := I.cell y c (cm e)
    exact ⟨v, z.keeps kp⟩
end

/-! ### asleep and awake -/
/-- what the consumer may do while the generator sleeps: its own objects at Sx, new objects -/
structure Aft (Sx : List Addr) (s s' : Shared) : Prop where
  os : s'.os = s.os
  bare : AllBare s'.gens
  keep : ∀ b o, b ∉ Sx → s.heap.get? b = some o → s'.heap.get? b = some o
  own : ∀ b ∈ Sx, ∃ o, s'.heap.get? b = some o ∧ ∀ v, o.data ≠ .cell v
/-- the consumer's word: what is out so far, the next value, the heap, going on -/
abbrev Eats := List V → V → Hp → Prop → Prop
structure GEx where
  X : Cx
  s4 : Shared
  H1 : Hp
  cenv : Env
  fp : List Addr
  B : Around
  σ0 : L2.St
  ge : Expr
  it : Addr
  a : Addr
  g : Nat
  Sx : List Addr
  C : Eats
  F : List V → Hp → Prop
abbrev GEx.loop (Y : GEx) : Code := .compLoop Y.ge 0 (.ref Y.it) .none Y.cenv
abbrev GEx.Xg (Y : GEx) : Cx := gcx Y.X Y.s4 Y.H1 Y.cenv Y.fp (Y.B.over Y.loop [])
abbrev GEx.pn (Y : GEx) (s : Shared) : List (Addr × Obj) := pinsAt (Y.a :: Y.Sx) s.heap
abbrev GEx.M (Y : GEx) : Model := model Y.X.prog Y.X.w
/-- a run's end: over, or a value is handed out and R holds of what sleeps -/
def GEx.Z (Y : GEx) (R : List V → Hp → GenState → Shared → Prop) (ys : List V) (s0 : Shared) (e : End) (s1 : Shared) : Prop :=
  (e = .ret (.ok .next) ∧ ∃ σ' H', Inv Y.Xg (Y.pn s0) σ' H' s1 ∧ Y.F ys H') ∨
  ∃ v l k c p fs y σ' H', e = .susp v false l k c p fs ∧ e.quiet = true ∧ Inv Y.Xg (Y.pn s0) σ' H' s1 ∧ RelV y v ∧ Y.C ys y H' (R (ys ++ [y]) H' e.genState s1)
/-- asleep: at most n more values -/
def GEx.Rdy (Y : GEx) : Nat → List V → Hp → GenState → Shared → Prop
  | 0 => fun ys H gs s => ∀ s', Aft Y.Sx s s' → Goes1 Y.M Y.B (Y.Z (fun _ _ _ _ => False) ys s') gs (s'.setGen Y.g .running)
  | n + 1 => fun ys H gs s => ∀ s', Aft Y.Sx s s' → Goes1 Y.M Y.B (Y.Z (Y.Rdy n) ys s') gs (s'.setGen Y.g .running)
def GEx.Rp (Y : GEx) : Nat → List V → Hp → GenState → Shared → Prop
  | 0 => fun _ _ _ _ => False
  | n + 1 => Y.Rdy n
theorem GEx.rdy_iff (Y : GEx) (n : Nat) (ys : List V) (H : Hp) (gs : GenState) (s : Shared) : Y.Rdy n ys H gs s ↔ ∀ s', Aft Y.Sx s s' → Goes1 Y.M Y.B (Y.Z (Y.Rp n) ys s') gs (s'.setGen Y.g .running) := by
  cases n <;> rfl
/-- the addresses are new -/
structure GEx.Ok (Y : GEx) : Prop where
  new : ∀ b ∈ Y.a :: Y.Sx, Y.s4.heap.objs.size < b
  loc : Y.cenv.locals = Y.s4.heap.objs.size
  cel : ∀ y c, Y.cenv.cells.lookup y = some c → c < Y.s4.heap.objs.size
  fps : ∀ b ∈ Y.fp, b < Y.s4.heap.objs.size
  aS : Y.a ∉ Y.Sx
  co : Y.cenv.scope.isCoroutine = false
theorem setGen_os (s : Shared) (g : Nat) (x : GenState) : (s.setGen g x).os = s.os := rfl
theorem setGen_heap (s : Shared) (g : Nat) (x : GenState) : (s.setGen g x).heap = s.heap := rfl
section
variable {Y : GEx} {σ σ' : L2.St} {H : Hp} {s s0 s1 : Shared} {pins : List (Addr × Obj)}
theorem GEx.Ok.fpOk (O : Y.Ok) (I : Inv Y.Xg (Y.pn s0) σ H s) (hn : ∀ b ∈ Y.fp, H b = none) : ∀ b ∈ Y.fp, FpOk Y.Xg (Y.pn s0) H b := fun b hb =>
  ⟨hn b hb, (I.ok.exf b hb).1, I.ok.exfs b hb, .inl hb, fun x c e => (I.ok.exf b hb).2 x c e, fun p hp => by
    have hp : p ∈ Y.pn s0 := by
      rcases List.mem_append.mp hp with z | z
      · cases z
      · exact z
    have h1 := O.new p.1 (of_pinsAt hp).1
    have h2 := O.fps b hb
    exact fun z => Nat.lt_irrefl _ (Nat.lt_trans h2 (z ▸ h1))⟩
/-- what is pinned while it runs -/
theorem GEx.Ok.pinned (O : Y.Ok) (I : Inv Y.Xg (Y.pn s0) σ H s) {b : Addr} {o : Obj} (hb : b ∈ Y.a :: Y.Sx) (e : s0.heap.get? b = some o) : s.heap.get? b = some o ∧ H b = none :=
  let z := I.pin (b, o) (List.mem_append_right _ (mem_pinsAt hb e))
  ⟨z.1, z.2.1⟩
/-- woken again -/
theorem GEx.Ok.woken (O : Y.Ok) (I : Inv Y.Xg (Y.pn s0) σ H s) (there : ∀ b ∈ Y.a :: Y.Sx, ∃ o, s0.heap.get? b = some o) (ag : ∃ o, s0.heap.get? Y.a = some o ∧ ∀ v, o.data ≠ .cell v) (A : Aft Y.Sx s s1) (x : GenState) (hx : x.bare = true) :
    Inv Y.Xg (Y.pn s1) σ H (s1.setGen Y.g x) := by
  have hT : ∀ b ∈ Y.a :: Y.Sx, H b = none := fun b hb => by
    obtain ⟨o, e⟩ := there b hb
    exact (O.pinned I hb e).2
  have I0 : Inv Y.Xg [] σ H s := I.pins_of fun p hp => absurd (show p ∈ ([] : List (Addr × Obj)) ++ [] from hp) (by simp)
  have nt : ∀ b u, H b = some u → b ∉ Y.Sx := fun b u q hb => by rw [hT b (List.mem_cons_of_mem _ hb)] at q; cases q
  obtain ⟨z1, z2, z3, z4⟩ := A
  obtain ⟨hh, g', d, t, o⟩ := s1
  have ho : o = s.os := z1
  subst ho
  have J : Inv Y.Xg [] σ H { s with heap := hh, gens := (({ heap := hh, gens := g', drawn := d, toks := t, os := s.os } : Shared).setGen Y.g x).gens, drawn := d, toks := t } := by
    refine I0.step (h' := hh) (g' := (({ heap := hh, gens := g', drawn := d, toks := t, os := s.os } : Shared).setGen Y.g x).gens) (t' := t) (d' := d) (ch := Y.Sx) (fun b hb => ?_) (fun b ob _ _ hc q _ => z3 b ob hc q) (fun b ob _ _ hc q _ => ⟨ob.slots, z3 b ob hc q⟩)
      (fun _ _ _ _ n => n) (fun b ob hc q => ⟨ob, z3 b ob hc q⟩) (fun _ _ q => q) (fun _ _ _ q => q) (fun b ps q => ⟨#[], by rw [q]; simp⟩) (fun m hm => ?_) (fun b u q => ?_) (allBare_setGen z2 hx)
    · have h1 := O.new b (List.mem_cons_of_mem _ hb)
      refine ⟨.inr (Nat.le_of_lt h1), fun z => ?_, fun y c e z => ?_, fun p hp => absurd (show p ∈ ([] : List (Addr × Obj)) ++ [] from hp) (by simp)⟩
      · have z : b = Y.cenv.locals := z
        rw [z, O.loc] at h1
        exact Nat.lt_irrefl _ h1
      · have h2 := O.cel y c e
        rw [z] at h2
        exact Nat.lt_irrefl _ (Nat.lt_trans h1 h2)
    · obtain ⟨ob, es, ep, ho, r⟩ := hm
      refine ⟨ob, es, ep, z3 _ ob (fun hb => ?_) ho, r⟩
      have h1 := O.new _ (List.mem_cons_of_mem _ hb)
      have h1 : Y.s4.heap.objs.size < Y.cenv.locals := h1
      rw [O.loc] at h1
      exact Nat.lt_irrefl _ h1
    · refine (I0.hok b u q).stay (fun c v hc y => z3 c v ?_ y) (fun _ y => y) fun _ _ y => y
      rcases hc with y | y
      · rw [y]; exact nt b u q
      · exact nt c _ y
  refine J.pins_of fun p hp => ?_
  have hp : p ∈ pinsAt (Y.a :: Y.Sx) hh := hp
  obtain ⟨hb, e⟩ := of_pinsAt hp
  have h1 := O.new _ hb
  refine ⟨e, hT _ hb, fun z => ?_, fun z => ?_, ?_⟩
  · have z : p.1 = Y.cenv.locals := z
    rw [z, O.loc] at h1
    exact Nat.lt_irrefl _ h1
  · obtain ⟨_, ob, hob, _⟩ := J.ok.funs.mem z
    exact absurd (Nat.lt_trans h1 (Heap.lt_size hob)) (Nat.lt_irrefl _)
  · rcases List.mem_cons.mp hb with z | z
    · obtain ⟨oa, ea, da⟩ := ag
      have q := (O.pinned I List.mem_cons_self ea).1
      have q2 := z3 _ oa O.aS q
      rw [z] at e
      rw [e] at q2
      cases q2
      exact da
    · obtain ⟨ob, eb, db⟩ := z4 _ z
      have eb : hh.get? p.1 = some ob := eb
      rw [e] at eb
      cases eb
      exact db
end

/-! ### the turns -/
def GStep (W : Nat → Nat → List V → Hp → Prop) (J : It) (g : TG) (tt : TT) (te : TE) (vs : List Nat) (σ0 : L2.St) (C : Eats) (F : List V → Hp → Prop) : Prop :=
  ∀ i m ys H, W i m ys H → (J.stop i H ∧ F ys H) ∨ (J.go i H ∧ ∃ Nx : List V → Hp → Prop, (∀ ys' H', Nx ys' H' → ∃ m', m' < m ∧ W (i + 1) m' ys' H') ∧
    ∀ x H', J.yld i H x H' → g x σ0 H' fun σ2 H2 => wipe σ2 vs = σ0 ∧ tt σ2 H2 fun b H3 => if b = true then te σ2 H3 fun y H4 => C ys y H4 (Nx (ys ++ [y]) H4) else Nx ys H3)
def EatsMono (C : Eats) : Prop := ∀ ys y H (p q : Prop), (p → q) → C ys y H p → C ys y H q
section
variable {ge elt iter tg : Expr} {cs : List Comprehension} {ifs : List Expr} {scope : Scope} {gpos : Pos}
theorem turn_one {it acc : Value} {env : Env} (h : ge = .GeneratorExp elt cs scope gpos) : compTurn ge 0 it acc env = compTurn (.GeneratorExp elt cs scope gpos) 0 it acc env := by rw [h]
theorem den_one {P : Program} {w : World} {it acc : Value} {env : Env} (h : ge = .GeneratorExp elt cs scope gpos) : (model P w).den (.compLoop ge 0 it acc env) = (compTurn ge 0 it acc env).onRaise (leaving env) := by subst h; rfl
theorem den_start {P : Program} {w : World} {it acc : Value} {env : Env} (h : ge = .GeneratorExp elt cs scope gpos) : (model P w).den (.compStart ge 0 it acc env) = (compStart ge 0 it acc env).onRaise (leaving env) := by subst h; rfl
theorem quiet_loop {d : Nat} {it acc : Value} {env : Env} : (Code.compLoop ge d it acc env).quiet = true := by rfl
end
theorem gen_turns {Y : GEx} {elt tg iter : Expr} {ifs : List Expr} {scope : Scope} {gpos : Pos} (hge : Y.ge = .GeneratorExp elt [⟨tg, iter, ifs, 0⟩] scope gpos) {J : It} {tn : Nat → Heap → Prop} {g : TG} {tt : TT} {te : TE} {vs : List Nat} {W : Nat → Nat → List V → Hp → Prop} (O : Y.Ok) (T : Turn Y.X.prog Y.X.w Y.X.K tg J Y.fp Y.it tn) (hg : PG Y.Xg tg g) (ht : PTs Y.Xg ifs tt) (he : PE Y.Xg elt te)
    (hC : EatsMono Y.C) (st : GStep W J g tt te vs Y.σ0 Y.C Y.F) : ∀ (m n : Nat) (i : Nat) (ys : List V) (H : Hp) (s0 s : Shared), m ≤ n → (∀ b ∈ Y.a :: Y.Sx, ∃ o, s0.heap.get? b = some o) → (∃ o, s0.heap.get? Y.a = some o ∧ ∀ v, o.data ≠ .cell v) → Inv Y.Xg (Y.pn s0) Y.σ0 H s → tn i s.heap → (∀ b ∈ Y.fp, H b = none) → W i m ys H →
      Run1 Y.M Y.B (Y.Z (Y.Rp n) ys s0) Y.loop (Y.M.den Y.loop) [] s := by
  intro m
  induction m using Nat.strongRecOn with
  | ind m ih =>
    intro n i ys H s0 s hmn there ag I stt fr w
    have hco := O.co
    rw [den_one hge, turn_one hge, compTurn_gen, ← hge, Sem.onRaise_eq_wrap]
    refine run1_bind (wpAny_standAt ?_)
    rcases st i m ys H w with ⟨stop, fin⟩ | ⟨go, Nx, hN, step⟩
    · refine run1_bind (wpAny_mono (T.done Y.Xg rfl rfl rfl rfl i (Y.pn s0) s Y.σ0 H (fun _ _ => False) I (O.fpOk I fr) stt stop) (fun r s1 ⟨hr, I1⟩ => ?_) fun _ _ z => z.elim)
      subst hr
      exact run1_end (.ok .next) (.inl ⟨rfl, Y.σ0, H, I1, fin⟩)
    · refine run1_bind (wpAny_mono (T.item Y.Xg rfl rfl rfl rfl i (Y.pn s0) s Y.σ0 H (fun _ _ => False) I (O.fpOk I fr) stt go) (fun r s1 ⟨u, hr, h1⟩ => ?_) fun _ _ z => z.elim)
      subst hr
      refine run1_bind (wpAny_mono h1 (fun _ s2 ⟨x, H2, I2, r2, y2, st2, fr2⟩ => ?_) fun _ _ z => z.elim)
      have I2' := I2.pinned (O.fpOk I2 fr2) (T.obj _ _ st2)
      refine run1_bind (wpAny_mono (hg.run _ s2 Y.σ0 H2 x u _ I2' r2 (step x H2 y2)) (fun _ s3 ⟨σ3, H3, I3, hw3, q3⟩ => ?_) fun _ _ z => z.elim)
      refine run1_bind (wpAny_mono (ht.run _ s3 σ3 H3 _ I3 q3) (fun b s4 ⟨H4, I4, q4⟩ => ?_) fun _ _ z => z.elim)
      have fpin : ∀ {s' : Shared} {H' : Hp}, Inv Y.Xg (Y.pn s0 ++ pinsAt Y.fp s2.heap) σ3 H' s' → tn (i + 1) s'.heap ∧ ∀ b ∈ Y.fp, H' b = none := fun {s' H'} I' => by
        have pin' : ∀ b ∈ Y.fp, ∀ o, s2.heap.get? b = some o → s'.heap.get? b = some o ∧ H' b = none := fun b hb o e =>
          let z := I'.pin (b, o) (List.mem_append_right _ (List.mem_append_right _ (mem_pinsAt hb e)))
          ⟨z.1, z.2.1⟩
        refine ⟨T.keep _ _ _ st2 fun b hb o e => (pin' b hb o e).1, fun b hb => ?_⟩
        obtain ⟨o, e, _⟩ := T.obj _ _ st2 b hb
        exact (pin' b hb o e).2
      have wk : ∀ {s' : Shared} {H' : Hp} {pins : List (Addr × Obj)}, Inv Y.Xg pins σ3 H' s' → Inv Y.Xg pins Y.σ0 H' s' := fun {s' H' pins} I' => by
        have hl : Y.σ0.length = σ3.length := by rw [← hw3, wipe_length]
        refine I'.weak hl fun j v e => ?_
        rw [← hw3] at e
        exact (wipe_some e).1
      cases b with
      | false =>
        simp only [Bool.false_eq_true, if_false] at q4 ⊢
        obtain ⟨m', hm, w'⟩ := hN ys H4 q4
        exact run1_again rfl (ih m' hm n (i + 1) ys H4 s0 s4 (by omega) there ag (wk I4.unpinned) (fpin I4).1 (fpin I4).2 w')
      | true =>
        simp only [if_true] at q4 ⊢
        have hy : ∀ v, yieldOut Y.cenv v = yieldValue v := fun v => by simp only [yieldOut, hco, Bool.false_eq_true, if_false]
        simp only [hy]
        rw [Sem.bind_eq_wrap', Sem.bind_eq_wrap', Sem.wrap_wrap, Sem.wrap_wrap]
        refine run1_wrap (wpAny_mono (he.run _ s4 σ3 H4 _ I4 q4) (fun v s5 ⟨y, H5, I5, r5, c5⟩ => ?_) fun _ _ z => z.elim)
        refine run1_at (run1_yield rfl fun p => .inr ⟨v, _, _, _, p, _, y, σ3, H5, rfl, rfl, I5.unpinned, r5, hC _ _ _ _ _ (fun nx => ?_) c5⟩)
        obtain ⟨m', hm, w'⟩ := hN _ H5 nx
        obtain ⟨n', rfl⟩ : ∃ k, n = k + 1 := ⟨n - 1, by omega⟩
        refine (Y.rdy_iff n' _ _ _ _).mpr fun s6 A6 => ?_
        have there6 : ∀ b ∈ Y.a :: Y.Sx, ∃ o, s6.heap.get? b = some o := fun b hb => by
          rcases List.mem_cons.mp hb with z | z
          · obtain ⟨o, e⟩ := there b hb
            exact ⟨o, A6.keep b o (by rw [z]; exact O.aS) (O.pinned I5.unpinned hb e).1⟩
          · obtain ⟨o, e, _⟩ := A6.own b z
            exact ⟨o, e⟩
        have ag6 : ∃ o, s6.heap.get? Y.a = some o ∧ ∀ v, o.data ≠ .cell v := by
          obtain ⟨o, e, d⟩ := ag
          exact ⟨o, A6.keep _ o O.aS (O.pinned I5.unpinned List.mem_cons_self e).1, d⟩
        have I6 := O.woken (wk I5.unpinned) there ag A6 .running rfl
        show Run1 _ _ _ _ _ [] _
        have st6 : tn (i + 1) s6.heap := T.keep _ _ _ (fpin I5).1 fun b hb o e => A6.keep b o (fun z => Nat.lt_irrefl _ (Nat.lt_trans (O.fps b hb) (O.new b (List.mem_cons_of_mem _ z)))) e
        exact run1_again rfl (ih m' hm n' (i + 1) _ H5 s6 (s6.setGen Y.g .running) (by omega) there6 ag6 I6 st6 (fpin I5).2 w')
/-! ### two clauses -/
theorem run1_call {M : Model} {A : Around} {Z : End → Shared → Prop} {c c' : Code} {fs : List Frame} {s : Shared} {h g l} {k : Result → Sem PySem.Fin} (hc : ∀ p, Run1 M A Z c' (M.den c') (.ret k h g l c p [] :: fs) s) : Run1 M A Z c (.call c' h g l k) fs s := by
  intro Γ p e w
  subst e
  obtain ⟨e, s', r, z⟩ := hc p (Γ.goto c') p rfl (w.goto c')
  exact ⟨e, s', runs_call_seg r, z⟩
theorem run1_leaf {M : Model} {A : Around} {Z : End → Shared → Prop} {c c1 : Code} {fs : List Frame} {s : Shared} {k h g l p1 kp} (r : Result) (hk : Run1 M A Z c1 (k r) fs s) : Run1 M A Z c (leafOf r) (.ret k h g l c1 p1 kp :: fs) s := by
  intro Γ p e w
  subst e
  obtain ⟨e, s', hr, z⟩ := hk (Γ.goto c1) p1 rfl (w.goto c1)
  exact ⟨e, s', Runs.pop r hr, z⟩
section
variable {ge elt : Expr} {cs : List Comprehension} {scope : Scope} {gpos : Pos}
theorem den_in {P : Program} {w : World} {it acc : Value} {env : Env} (h : ge = .GeneratorExp elt cs scope gpos) : (model P w).den (.compLoop ge 1 it acc env) = (compTurn ge 1 it acc env).onRaise (fun x => do noteFrame x env; theTreesLotGoes x) := by subst h; rfl
theorem den_in0 {P : Program} {w : World} {it acc : Value} {env : Env} (h : ge = .GeneratorExp elt cs scope gpos) : (model P w).den (.compStart ge 1 it acc env) = (compStart ge 1 it acc env).onRaise (fun x => do noteFrame x env; standAt theWindowsPlace) := by subst h; rfl
theorem over_in {B : Around} {it it1 acc acc1 : Value} {env : Env} {fs : List Frame} {k : Result → Sem PySem.Fin} {g : Bool} {l kp : List Value} {p : Pos} (h : ge = .GeneratorExp elt cs scope gpos) :
    B.over (.compLoop ge 1 it1 acc1 env) (.ret k none g l (.compLoop ge 0 it acc env) p kp :: fs) = B.over (.compLoop ge 0 it acc env) fs ∧ B.over (.compStart ge 1 it1 acc1 env) (.ret k none g l (.compLoop ge 0 it acc env) p kp :: fs) = B.over (.compLoop ge 0 it acc env) fs := by
  subst h
  exact ⟨over_loop rfl rfl, over_loop rfl rfl⟩
end
def GStep2 (W : Nat → Nat → List V → Hp → Prop) (J : It) (g : TG) (tt : TT) (wi1 : TI) (g1 : TG) (tt1 : TT) (te : TE) (vs vs1 : List Nat) (σ0 : L2.St) (C : Eats) (F : List V → Hp → Prop) : Prop :=
  ∀ i m ys H, W i m ys H → (J.stop i H ∧ F ys H) ∨ (J.go i H ∧ ∀ x H', J.yld i H x H' → g x σ0 H' fun σ2 H2 => wipe σ2 vs = σ0 ∧ tt σ2 H2 fun b H3 => if b = true then wi1 σ2 H3 fun J1 H4 =>
      ∃ W1 : Nat → Nat → List V → Hp → Prop, (∃ m1, m1 < m ∧ W1 0 m1 ys H4) ∧ ∀ i1 m1 ys H, W1 i1 m1 ys H → (J1.stop i1 H ∧ ∃ m', m' ≤ m1 ∧ m' < m ∧ W (i + 1) m' ys H) ∨ (J1.go i1 H ∧ ∃ N1 : List V → Hp → Prop, (∀ ys' H', N1 ys' H' → ∃ m', m' < m1 ∧ W1 (i1 + 1) m' ys' H') ∧
        ∀ x1 H', J1.yld i1 H x1 H' → g1 x1 (wipe σ2 vs1) H' fun σ3 H5 => wipe σ3 vs1 = wipe σ2 vs1 ∧ tt1 σ3 H5 fun b1 H6 => if b1 = true then te σ3 H6 fun y H7 => C ys y H7 (N1 (ys ++ [y]) H7) else N1 ys H6)
    else ∃ m', m' < m ∧ W (i + 1) m' ys H3)
/-- what stays true of the inner iterator -/
structure InIt (Y : GEx) (fp1 : List Addr) : Prop where
  loc : ∀ b ∈ fp1, b ≠ Y.cenv.locals
  fs : ∀ b ∈ fp1, b ∉ frs Y.X.stack
  sz : ∀ b ∈ fp1, b ∈ Y.fp ∨ Y.s4.heap.objs.size ≤ b
  cel : ∀ b ∈ fp1, ∀ x c, Y.cenv.cells.lookup x = some c → c ≠ b
  own : ∀ b ∈ fp1, b ∉ Y.a :: Y.Sx
  out : ∀ b ∈ fp1, b ∉ Y.fp
section
variable {Y : GEx} {σ : L2.St} {H : Hp} {s s0 : Shared} {fp1 : List Addr}
theorem InIt.fpOk (N : InIt Y fp1) {h : Heap} (hn : ∀ b ∈ fp1, H b = none) : ∀ b ∈ fp1, FpOk Y.Xg (Y.pn s0 ++ pinsAt Y.fp h) H b := fun b hb =>
  ⟨hn b hb, N.loc b hb, N.fs b hb, N.sz b hb, N.cel b hb, fun p hp z => by
    have hp : p ∈ Y.pn s0 ++ pinsAt Y.fp h := by
      rcases List.mem_append.mp hp with y | y
      · cases y
      · exact y
    rcases List.mem_append.mp hp with y | y
    · exact N.own b hb (z ▸ (of_pinsAt y).1)
    · exact N.out b hb (z ▸ (of_pinsAt y).1)⟩
end
theorem gen_inner {Y : GEx} {elt tg iter tg1 iter1 : Expr} {ifs ifs1 : List Expr} {scope : Scope} {gpos : Pos} (hge : Y.ge = .GeneratorExp elt [⟨tg, iter, ifs, 0⟩, ⟨tg1, iter1, ifs1, 0⟩] scope gpos) {J J1 : It} {tn tn1 : Nat → Heap → Prop} {g1 : TG} {tt1 : TT} {te : TE} {vs vs1 : List Nat} {fp1 : List Addr} {it1 : Addr} {i : Nat} {σ2 : L2.St}
    {W1 : Nat → Nat → List V → Hp → Prop} {Wo : Nat → List V → Hp → Prop} {k : Result → Sem PySem.Fin} {l kp : List Value} {p : Pos} (O : Y.Ok) (T : Turn Y.X.prog Y.X.w Y.X.K tg J Y.fp Y.it tn) (T1 : Turn Y.X.prog Y.X.w Y.X.K tg1 J1 fp1 it1 tn1) (N : InIt Y fp1) (hσ : wipe σ2 vs = Y.σ0) (hvs : ∀ v ∈ vs1, v ∈ vs) (hg : PG Y.Xg tg1 g1) (ht : PTs Y.Xg ifs1 tt1) (he : PE Y.Xg elt te) (hC : EatsMono Y.C)
    (st : ∀ i1 m1 ys H, W1 i1 m1 ys H → (J1.stop i1 H ∧ ∃ m', m' ≤ m1 ∧ Wo m' ys H) ∨ (J1.go i1 H ∧ ∃ N1 : List V → Hp → Prop, (∀ ys' H', N1 ys' H' → ∃ m', m' < m1 ∧ W1 (i1 + 1) m' ys' H') ∧
        ∀ x1 H', J1.yld i1 H x1 H' → g1 x1 (wipe σ2 vs1) H' fun σ3 H5 => wipe σ3 vs1 = wipe σ2 vs1 ∧ tt1 σ3 H5 fun b1 H6 => if b1 = true then te σ3 H6 fun y H7 => Y.C ys y H7 (N1 (ys ++ [y]) H7) else N1 ys H6))
    (cont : ∀ (m' n : Nat) (ys : List V) (H : Hp) (s0 s : Shared), m' ≤ n → (∀ b ∈ Y.a :: Y.Sx, ∃ o, s0.heap.get? b = some o) → (∃ o, s0.heap.get? Y.a = some o ∧ ∀ v, o.data ≠ .cell v) → Inv Y.Xg (Y.pn s0) Y.σ0 H s → tn i s.heap → (∀ b ∈ Y.fp, H b = none) → Wo m' ys H → Run1 Y.M Y.B (Y.Z (Y.Rp n) ys s0) Y.loop (k (.ok .next)) [] s) :
    ∀ (m1 n i1 : Nat) (ys : List V) (H : Hp) (s0 s : Shared), m1 ≤ n → (∀ b ∈ Y.a :: Y.Sx, ∃ o, s0.heap.get? b = some o) → (∃ o, s0.heap.get? Y.a = some o ∧ ∀ v, o.data ≠ .cell v) → Inv Y.Xg (Y.pn s0) (wipe σ2 vs1) H s → tn i s.heap → (∀ b ∈ Y.fp, H b = none) → tn1 i1 s.heap → (∀ b ∈ fp1, H b = none) → W1 i1 m1 ys H →
      Run1 Y.M Y.B (Y.Z (Y.Rp n) ys s0) (.compLoop Y.ge 1 (.ref it1) .none Y.cenv) (Y.M.den (.compLoop Y.ge 1 (.ref it1) .none Y.cenv)) [.ret k none false l Y.loop p kp] s := by
  intro m1
  induction m1 using Nat.strongRecOn with
  | ind m1 ih =>
    intro n i1 ys H s0 s hmn there ag I stt fr st1 fr1 w
    have hco := O.co
    have ov := over_in (B := Y.B) (it := .ref Y.it) (it1 := .ref it1) (acc := .none) (acc1 := .none) (env := Y.cenv) (fs := []) (k := k) (g := false) (l := l) (kp := kp) (p := p) hge
    rw [den_in hge, Sem.onRaise_eq_wrap]
    have ct : compTurn Y.ge 1 (.ref it1) .none Y.cenv = compTurn (.GeneratorExp elt [⟨tg, iter, ifs, 0⟩, ⟨tg1, iter1, ifs1, 0⟩] scope gpos) 1 (.ref it1) .none Y.cenv := by rw [← hge]
    rw [ct]
    unfold compTurn
    simp only [List.getElem?_cons_succ, List.getElem?_cons_zero, List.getElem?_nil, bne_self_eq_false, Bool.false_eq_true, if_false]
    rw [← hge]
    have II := I.pinned (O.fpOk I fr) (T.obj _ _ stt)
    refine run1_bind (wpAny_standAt ?_)
    rcases st i1 m1 ys H w with ⟨stop, m', hm', wo⟩ | ⟨go, N1, hN, step⟩
    · refine run1_bind ?_
      rw [ov.1]
      refine wpAny_mono (T1.done Y.Xg rfl rfl rfl rfl i1 _ s _ H (fun _ _ => False) II (N.fpOk fr1) st1 stop) (fun r s1 ⟨hr, I1⟩ => ?_) fun _ _ z => z.elim
      subst hr
      have J1 : Inv Y.Xg (Y.pn s0) Y.σ0 H s1 := by
        refine (I1.unpinned).weak (by rw [← hσ, wipe_length, wipe_length]) fun j v e => ?_
        rw [← hσ] at e
        obtain ⟨e, hv⟩ := wipe_some e
        rw [wipe_out fun z => hv (hvs j z)]
        exact e
      have pin' : ∀ b ∈ Y.fp, ∀ o, s.heap.get? b = some o → s1.heap.get? b = some o := fun b hb o e => (I1.pin (b, o) (List.mem_append_right _ (List.mem_append_right _ (mem_pinsAt hb e)))).1
      exact run1_leaf (.ok .next) (cont m' n ys H s0 s1 (by omega) there ag J1 (T.keep _ _ _ stt pin') fr wo)
    · refine run1_bind ?_
      rw [ov.1]
      refine wpAny_mono (T1.item Y.Xg rfl rfl rfl rfl i1 _ s _ H (fun _ _ => False) II (N.fpOk fr1) st1 go) (fun r s1 ⟨u, hr, h1⟩ => ?_) fun _ _ z => z.elim
      subst hr
      refine run1_bind ?_
      rw [ov.1]
      refine wpAny_mono h1 (fun _ s2 ⟨x, H2, I2, r2, y2, st2, fr2⟩ => ?_) fun _ _ z => z.elim
      have I2' := I2.pinned (N.fpOk fr2) (T1.obj _ _ st2)
      refine run1_bind ?_
      rw [ov.1]
      refine wpAny_mono (hg.run _ s2 _ H2 x u _ I2' r2 (step x H2 y2)) (fun _ s3 ⟨σ3, H3, I3, hw3, q3⟩ => ?_) fun _ _ z => z.elim
      refine run1_bind ?_
      rw [ov.1]
      refine wpAny_mono (ht.run _ s3 σ3 H3 _ I3 q3) (fun b s4 ⟨H4, I4, q4⟩ => ?_) fun _ _ z => z.elim
      -- behind the turn
      have back : ∀ {s' : Shared} {H' : Hp}, Inv Y.Xg ((Y.pn s0 ++ pinsAt Y.fp s.heap) ++ pinsAt fp1 s2.heap) σ3 H' s' → Inv Y.Xg (Y.pn s0) (wipe σ2 vs1) H' s' ∧ tn i s'.heap ∧ (∀ b ∈ Y.fp, H' b = none) ∧ tn1 (i1 + 1) s'.heap ∧ ∀ b ∈ fp1, H' b = none := fun {s' H'} I' => by
        have p0 : ∀ b ∈ Y.fp, ∀ o, s.heap.get? b = some o → s'.heap.get? b = some o ∧ H' b = none := fun b hb o e => by
          have z := I'.pin (b, o) (List.mem_append_right _ (List.mem_append_left _ (List.mem_append_right _ (mem_pinsAt hb e))))
          exact ⟨z.1, z.2.1⟩
        have p1 : ∀ b ∈ fp1, ∀ o, s2.heap.get? b = some o → s'.heap.get? b = some o ∧ H' b = none := fun b hb o e => by
          have z := I'.pin (b, o) (List.mem_append_right _ (List.mem_append_right _ (mem_pinsAt hb e)))
          exact ⟨z.1, z.2.1⟩
        refine ⟨(I'.unpinned.unpinned).weak (by rw [← hw3, wipe_length]) fun j v e => ?_, T.keep _ _ _ stt fun b hb o e => (p0 b hb o e).1, fun b hb => ?_, T1.keep _ _ _ st2 fun b hb o e => (p1 b hb o e).1, fun b hb => ?_⟩
        · rw [← hw3] at e
          exact (wipe_some e).1
        · obtain ⟨o, e, _⟩ := T.obj _ _ stt b hb
          exact (p0 b hb o e).2
        · obtain ⟨o, e, _⟩ := T1.obj _ _ st2 b hb
          exact (p1 b hb o e).2
      cases b with
      | false =>
        simp only [Bool.false_eq_true, if_false] at q4 ⊢
        obtain ⟨m', hm, w'⟩ := hN ys H4 q4
        obtain ⟨b1, b2, b3, b4, b5⟩ := back I4
        exact run1_again rfl (ih m' hm n (i1 + 1) ys H4 s0 s4 (by omega) there ag b1 b2 b3 b4 b5 w')
      | true =>
        simp only [if_true] at q4 ⊢
        have hy : ∀ v, yieldOut Y.cenv v = yieldValue v := fun v => by simp only [yieldOut, hco, Bool.false_eq_true, if_false]
        simp only [hy]
        rw [Sem.bind_eq_wrap', Sem.bind_eq_wrap', Sem.wrap_wrap, Sem.wrap_wrap]
        refine run1_wrap ?_
        rw [ov.1]
        refine wpAny_mono (he.run _ s4 σ3 H4 _ I4 q4) (fun v s5 ⟨y, H5, I5, r5, c5⟩ => ?_) fun _ _ z => z.elim
        refine run1_at (run1_yield rfl fun p => .inr ⟨v, _, _, _, p, _, y, σ3, H5, rfl, rfl, I5.unpinned.unpinned, r5, hC _ _ _ _ _ (fun nx => ?_) c5⟩)
        obtain ⟨m', hm, w'⟩ := hN _ H5 nx
        obtain ⟨n', rfl⟩ : ∃ k, n = k + 1 := ⟨n - 1, by omega⟩
        obtain ⟨b1, b2, b3, b4, b5⟩ := back I5
        refine (Y.rdy_iff n' _ _ _ _).mpr fun s6 A6 => ?_
        have there6 : ∀ b ∈ Y.a :: Y.Sx, ∃ o, s6.heap.get? b = some o := fun b hb => by
          rcases List.mem_cons.mp hb with z | z
          · obtain ⟨o, e⟩ := there b hb
            exact ⟨o, A6.keep b o (by rw [z]; exact O.aS) (O.pinned b1 hb e).1⟩
          · obtain ⟨o, e, _⟩ := A6.own b z
            exact ⟨o, e⟩
        have ag6 : ∃ o, s6.heap.get? Y.a = some o ∧ ∀ v, o.data ≠ .cell v := by
          obtain ⟨o, e, d⟩ := ag
          exact ⟨o, A6.keep _ o O.aS (O.pinned b1 List.mem_cons_self e).1, d⟩
        have I6 := O.woken b1 there ag A6 .running rfl
        have st6 : tn i s6.heap := T.keep _ _ _ b2 fun b hb o e => A6.keep b o (fun z => Nat.lt_irrefl _ (Nat.lt_trans (O.fps b hb) (O.new b (List.mem_cons_of_mem _ z)))) e
        have st7 : tn1 (i1 + 1) s6.heap := T1.keep _ _ _ b4 fun b hb o e => A6.keep b o (fun z => N.own b hb (List.mem_cons_of_mem _ z)) e
        exact run1_again rfl (ih m' hm n' (i1 + 1) _ H5 s6 (s6.setGen Y.g .running) (by omega) there6 ag6 I6 st6 b3 st7 b5 w')
theorem gen_turns2 {Y : GEx} {elt tg iter tg1 iter1 : Expr} {ifs ifs1 : List Expr} {scope : Scope} {gpos : Pos} (hge : Y.ge = .GeneratorExp elt [⟨tg, iter, ifs, 0⟩, ⟨tg1, iter1, ifs1, 0⟩] scope gpos) {J : It} {tn : Nat → Heap → Prop} {g g1 : TG} {tt tt1 : TT} {te : TE} {wi1 : TI} {vs vs1 : List Nat} {W : Nat → Nat → List V → Hp → Prop}
    (O : Y.Ok) (T : Turn Y.X.prog Y.X.w Y.X.K tg J Y.fp Y.it tn) (hvs : ∀ v ∈ vs1, v ∈ vs) (hg : PG Y.Xg tg g) (ht : PTs Y.Xg ifs tt) (hi1 : PI Y.Xg tg1 iter1 wi1) (hs1 : ∀ x, foldedSetIterable iter1 Y.cenv x = pure x) (hg1 : PG Y.Xg tg1 g1) (ht1 : PTs Y.Xg ifs1 tt1) (he : PE Y.Xg elt te) (hC : EatsMono Y.C)
    (st : GStep2 W J g tt wi1 g1 tt1 te vs vs1 Y.σ0 Y.C Y.F) : ∀ (m n : Nat) (i : Nat) (ys : List V) (H : Hp) (s0 s : Shared), m ≤ n → (∀ b ∈ Y.a :: Y.Sx, ∃ o, s0.heap.get? b = some o) → (∃ o, s0.heap.get? Y.a = some o ∧ ∀ v, o.data ≠ .cell v) → Inv Y.Xg (Y.pn s0) Y.σ0 H s → tn i s.heap → (∀ b ∈ Y.fp, H b = none) → W i m ys H →
      Run1 Y.M Y.B (Y.Z (Y.Rp n) ys s0) Y.loop (Y.M.den Y.loop) [] s := by
  intro m
  induction m using Nat.strongRecOn with
  | ind m ih =>
    intro n i ys H s0 s hmn there ag I stt fr w
    rw [den_one hge, Sem.onRaise_eq_wrap]
    have ct : compTurn Y.ge 0 (.ref Y.it) .none Y.cenv = compTurn (.GeneratorExp elt [⟨tg, iter, ifs, 0⟩, ⟨tg1, iter1, ifs1, 0⟩] scope gpos) 0 (.ref Y.it) .none Y.cenv := by rw [← hge]
    rw [ct]
    unfold compTurn
    simp only [List.getElem?_cons_succ, List.getElem?_cons_zero, List.getElem?_nil, bne_self_eq_false, Bool.false_eq_true, if_false]
    rw [← hge]
    refine run1_bind (wpAny_standAt ?_)
    rcases st i m ys H w with ⟨stop, fin⟩ | ⟨go, step⟩
    · refine run1_bind (wpAny_mono (T.done Y.Xg rfl rfl rfl rfl i (Y.pn s0) s Y.σ0 H (fun _ _ => False) I (O.fpOk I fr) stt stop) (fun r s1 ⟨hr, I1⟩ => ?_) fun _ _ z => z.elim)
      subst hr
      exact run1_end (.ok .next) (.inl ⟨rfl, Y.σ0, H, I1, fin⟩)
    · refine run1_bind (wpAny_mono (T.item Y.Xg rfl rfl rfl rfl i (Y.pn s0) s Y.σ0 H (fun _ _ => False) I (O.fpOk I fr) stt go) (fun r s1 ⟨u, hr, h1⟩ => ?_) fun _ _ z => z.elim)
      subst hr
      refine run1_bind (wpAny_mono h1 (fun _ s2 ⟨x, H2, I2, r2, y2, st2, fr2⟩ => ?_) fun _ _ z => z.elim)
      have I2' := I2.pinned (O.fpOk I2 fr2) (T.obj _ _ st2)
      refine run1_bind (wpAny_mono (hg.run _ s2 Y.σ0 H2 x u _ I2' r2 (step x H2 y2)) (fun _ s3 ⟨σ3, H3, I3, hw3, q3⟩ => ?_) fun _ _ z => z.elim)
      refine run1_bind (wpAny_mono (ht.run _ s3 σ3 H3 _ I3 q3) (fun b s4 ⟨H4, I4, q4⟩ => ?_) fun _ _ z => z.elim)
      have fpin : ∀ {s' : Shared} {H' : Hp}, Inv Y.Xg (Y.pn s0 ++ pinsAt Y.fp s2.heap) σ3 H' s' → tn (i + 1) s'.heap ∧ ∀ b ∈ Y.fp, H' b = none := fun {s' H'} I' => by
        have pin' : ∀ b ∈ Y.fp, ∀ o, s2.heap.get? b = some o → s'.heap.get? b = some o ∧ H' b = none := fun b hb o e => by
          have z := I'.pin (b, o) (List.mem_append_right _ (List.mem_append_right _ (mem_pinsAt hb e)))
          exact ⟨z.1, z.2.1⟩
        refine ⟨T.keep _ _ _ st2 fun b hb o e => (pin' b hb o e).1, fun b hb => ?_⟩
        obtain ⟨o, e, _⟩ := T.obj _ _ st2 b hb
        exact (pin' b hb o e).2
      have wk : ∀ {s' : Shared} {H' : Hp} {pins : List (Addr × Obj)}, Inv Y.Xg pins σ3 H' s' → Inv Y.Xg pins Y.σ0 H' s' := fun {s' H' pins} I' => by
        have hl : Y.σ0.length = σ3.length := by rw [← hw3, wipe_length]
        refine I'.weak hl fun j v e => ?_
        rw [← hw3] at e
        exact (wipe_some e).1
      cases b with
      | false =>
        simp only [Bool.false_eq_true, if_false] at q4 ⊢
        obtain ⟨m', hm, w'⟩ := q4
        exact run1_again rfl (ih m' hm n (i + 1) ys H4 s0 s4 (by omega) there ag (wk I4.unpinned) (fpin I4).1 (fpin I4).2 w')
      | true =>
        simp only [if_true] at q4 ⊢
        refine run1_bind (wpAny_mono (hi1.run _ s4 σ3 H4 _ I4 q4) (fun xv s5 h5 => ?_) fun _ _ z => z.elim)
        refine run1_bind (wpAny_standAt (run1_bind (wpAny_of_eq (hs1 xv) (run1_bind (wpAny_holding (wpAny_mono h5 (fun itv s6 h6 => ?_) fun _ _ z => z.elim))))))
        obtain ⟨it1, fp1, tn1, J1, H6, rfl, I6, T1, st1, f1, W1, ⟨m1, hm1, w1⟩, st'⟩ := h6
        have N : InIt Y fp1 :=
          { loc := fun b hb => (f1 b hb).2.1
            fs := fun b hb => (f1 b hb).2.2.1
            sz := fun b hb => (f1 b hb).2.2.2.1
            cel := fun b hb => (f1 b hb).2.2.2.2.1
            own := fun b hb z => by
              obtain ⟨o, e⟩ := there b z
              exact (f1 b hb).2.2.2.2.2 (b, o) (List.mem_append_right _ (List.mem_append_left _ (mem_pinsAt z e))) rfl
            out := fun b hb z => by
              obtain ⟨o, e, _⟩ := T.obj _ _ st2 b z
              exact (f1 b hb).2.2.2.2.2 (b, o) (List.mem_append_right _ (List.mem_append_right _ (mem_pinsAt z e))) rfl }
        have I7 : Inv Y.Xg (Y.pn s0) (wipe σ3 vs1) H6 s6 := (I6.unpinned).weak (wipe_length _ _) fun j v e => (wipe_some e).1
        rw [Sem.bind_eq_wrap', Sem.wrap_wrap]
        unfold runOwn run
        rw [Sem.onRaise_eq_wrap, Sem.wrap_wrap]
        show Run1 _ _ _ _ (.call (.compStart Y.ge 1 (.ref it1) .none Y.cenv) none false [] _) [] s6
        refine run1_call fun p => ?_
        have inner := fun (k : Result → Sem PySem.Fin) hk => gen_inner (Wo := fun m' ys H => m' < m ∧ W (i + 1) m' ys H) (k := k) (l := []) (kp := []) (p := p) hge O T T1 N hw3 hvs hg1 ht1 he hC (fun i1 m1 ys H w1 => by
          rcases st' i1 m1 ys H w1 with ⟨z1, m', z2, z3, z4⟩ | z
          · exact .inl ⟨z1, m', z2, z3, z4⟩
          · exact .inr z) hk m1 n 0 ys H6 s0 s6 (by omega) there ag I7 (fpin I6).1 (fpin I6).2 st1 (fun b hb => (f1 b hb).1) w1
        rw [den_in0 hge]
        have e : (clausesOf Y.ge)[1]? = some ⟨tg1, iter1, ifs1, 0⟩ := by rw [hge]; rfl
        unfold compStart
        rw [Sem.onRaise_eq_wrap, e]
        refine run1_bind (wpAny_askSetting ?_)
        split
        · exact run1_again rfl (inner _ fun m' n' ys' H' s0' s' h1 h2 h3 h4 h5 h6 h7 => run1_again rfl (ih m' h7.1 n' (i + 1) ys' H' s0' s' h1 h2 h3 h4 h5 h6 h7.2))
        · refine run1_bind (wpAny_rule (run1_bind (wpAny_standAt (run1_bind (T1.self _ 0 s6 _ _ st1 (run1_again rfl (inner _ fun m' n' ys' H' s0' s' h1 h2 h3 h4 h5 h6 h7 => ?_)))))))
          exact run1_again rfl (ih m' h7.1 n' (i + 1) ys' H' s0' s' h1 h2 h3 h4 h5 h6 h7.2)
/-- from the start -/
theorem gen_first {Y : GEx} {elt tg iter : Expr} {ifs : List Expr} {scope : Scope} {gpos : Pos} {cs : List Comprehension} (hge : Y.ge = .GeneratorExp elt (⟨tg, iter, ifs, 0⟩ :: cs) scope gpos) {J : It} {tn : Nat → Heap → Prop} {Z : End → Shared → Prop} (T : Turn Y.X.prog Y.X.w Y.X.K tg J Y.fp Y.it tn) (s : Shared) (stt : tn 0 s.heap)
    (loop : Run1 Y.M Y.B Z Y.loop (Y.M.den Y.loop) [] s) : Run1 Y.M Y.B Z (.compStart Y.ge 0 (.ref Y.it) .none Y.cenv) (Y.M.den (.compStart Y.ge 0 (.ref Y.it) .none Y.cenv)) [] s := by
  rw [den_start hge]
  have e : (clausesOf Y.ge)[0]? = some ⟨tg, iter, ifs, 0⟩ := by rw [hge]; rfl
  unfold compStart
  rw [Sem.onRaise_eq_wrap, e]
  show Run1 _ _ _ _ ((ask >>= _).wrap _ _ _ _) [] s
  refine run1_bind (wpAny_askSetting ?_)
  split
  · exact run1_again rfl loop
  · first
      | exact run1_bind (wpAny_rule (run1_bind (wpAny_standAt (run1_bind (T.self _ 0 s _ _ stt (run1_again rfl loop))))))
      | (refine run1_bind (wpAny_rule ?_); show Run1 _ _ _ _ ((standAt iter.pos >>= _).wrap _ _ _ _) [] s; exact run1_bind (wpAny_standAt (run1_bind (T.self _ 0 s _ _ stt (run1_again rfl loop)))))

/-! ### making it -/
/-- the generator a (number g) in s5, made at s4 over the iterator it -/
structure Made (X : Cx) (pins : List (Addr × Obj)) (σ : L2.St) (ge tg : Expr) (scope : Scope) (J : It) (H2 : Hp) (s4 : Shared) (cenv : Env) (fp : List Addr) (it : Addr) (tn : Nat → Heap → Prop) (a g : Addr) (s5 : Shared) : Prop where
  inv : Inv X pins σ H2 s4
  fps : ∀ b ∈ fp, FpOk X pins H2 b ∧ b < s4.heap.objs.size
  turn : Turn X.prog X.w X.K tg J fp it tn
  at0 : tn 0 s4.heap
  env : ∃ code, cenv = genEnv scope (cloFrom X.env.cells scope.names []) s4.heap.objs.size code builtinsNs X.env
  os : s5.os = s4.os
  gens : s5.gens = s4.gens.push (.fresh (.compStart ge 0 (.ref it) .none cenv))
  num : g = s4.gens.size
  drawn : s5.drawn = s4.drawn
  isg : s5.heap.IsGen a g
  new : s4.heap.objs.size < a
  lt : s5.heap.objs.size = a + 1
  keep : ∀ b o, s4.heap.get? b = some o → s5.heap.get? b = some o
  ns : ∃ m, s5.heap.Ns s4.heap.objs.size m
section
variable {X : Cx} {pins : List (Addr × Obj)} {σ : L2.St} {H : Hp} {s : Shared}
theorem make_any {M : Model} {A : Around} {E : Value → Shared → Prop} {s : Shared} {env : Env} {elt tg iter : Expr} {ifs : List Expr} {cs : List Comprehension} {scope : Scope} {cl : List (Str × Addr)} {pos : Pos} {Q : Value → Shared → Prop} (G : GScp scope) (hcl : closureFor scope env = pure cl) (hroom : A.depth < recursionLimit)
    (h : wpAny M A (eval iter env) (fun xv s1 => wpAny M A (pyIter xv) (fun it s2 => s2.heap.NoLimit ∧ wpAny M A (genexprCode env pos (env.qual ++ "<genexpr>") scope) (fun code s3 => wpAny M A (builtinsFor env.globals env.builtins) (fun bi s4 =>
      ∀ h', h'.Ns s4.heap.objs.size (fun y => if y = ".0" then some it else none) → Heap.SameBut s4.heap.objs.size (s4.heap.push { cls := .type "frame", data := .dict #[] }) h' →
        Q (.ref h'.objs.size) { s4 with gens := s4.gens.push (.fresh (.compStart (.GeneratorExp elt (⟨tg, iter, ifs, 0⟩ :: cs) scope pos) 0 it .none (genEnv scope cl s4.heap.objs.size code bi env))), toks := s4.toks + 1 + 1 + 1, heap := h'.push { cls := .type "generator", data := .fields #[.int s4.gens.size 0, .str "<genexpr>" (s4.toks + 1), .str (env.qual ++ "<genexpr>") (s4.toks + 1 + 1)] } }) E s3) E s2) E s1) E s)
    (hs : ∀ x, genFold iter env x = pure x) : wpAny M A (eval (.GeneratorExp elt (⟨tg, iter, ifs, 0⟩ :: cs) scope pos) env) Q E s := by
  rw [arm_eval_GeneratorExp]
  simp only [G.co, Bool.false_eq_true, if_false]
  refine wpAny_bind (thn h fun xv s1 h1 => wpAny_bind (wpAny_standAt (wpAny_bind (wpAny_of_eq (a := xv) ?_ ?_))))
  · have := hs xv
    unfold genFold at this
    cases iter <;> exact this
  refine wpAny_bind (wpAny_holding (thn h1 fun it s2 h2 => wpAny_bind (wpAny_enterFrame h2.1 hroom ?_)))
  rw [hcl]
  refine wpAny_bind (wpAny_pure (wpAny_bind (thn h2.2 fun code s3 h3 => wpAny_bind (thn h3 fun bi s4 h4 => ?_))))
  have hb : ∀ y ∈ ([((".0" : Str), it)] : List (Str × Value)), scope.names.lookup y.1 = some NameKind.local := fun y hy => by
    rw [List.mem_singleton.mp hy]
    exact G.dot
  refine wpAny_bind (wpAny_newFunctionEnv G.nocell hb (fun h' hn' hs' => ?_) G.kind)
  have e : (fun y : Str => ([((".0" : Str), it)] : List (Str × Value)).reverse.lookup y) = fun y : Str => if y = (".0" : Str) then some it else none := by
    funext y
    by_cases hy : y = ".0"
    · subst hy
      simp
    · have : (y == (".0" : Str)) = false := by simpa using hy
      simp [List.lookup, this, hy]
  rw [e] at hn'
  simp only [newGenerator, newFields]
  exact wpAny_bind (wpAny_newGen (wpAny_bind (wpAny_mkText (wpAny_bind (wpAny_mkText (wpAny_newObj_type (h4 h' hn' hs') (by size_fits)))))))
theorem gen_made {c P : Addr} {elt tg iter : Expr} {ifs : List Expr} {cs : List Comprehension} {scope : Scope} {own : List (Str × Nat)} {gpos : Pos} {wi : TI} {k : Nat} {R : It → Hp → Prop} {Q' : Value → Shared → Prop} (hr : Room k X.A) (TB : LamX.TabB X.base X.mg c P) (hcode : X.env.code = .ref c)
    (G : GScp scope) (ok : BlkOk X.N X.env.scope scope own) (hi : PI X tg iter wi) (hs : ∀ v, genFold iter X.env v = pure v) (I : Inv X pins σ H s) (h : wi σ H fun J H1 => TabG H1 P ∧ R J H1)
    (hQ : ∀ J H1 H2 s4 cenv fp it tn a g s5, R J H1 → Tabbed P H1 H2 → Made X pins σ (.GeneratorExp elt (⟨tg, iter, ifs, 0⟩ :: cs) scope gpos) tg scope J H2 s4 cenv fp it tn a g s5 → Q' (.ref a) s5) :
    wpAny (model X.prog X.w) X.A (eval (.GeneratorExp elt (⟨tg, iter, ifs, 0⟩ :: cs) scope gpos) X.env) Q' X.xe s := by
  refine make_any G (closure_ok (blk_free ok I.ok)) hr.depth ?_ hs
  refine thn (hi.run pins s σ H _ I h) fun xv s1 h1 => thn h1 fun itv s2 h2 => ?_
  obtain ⟨it, fp, tn, J, H1, rfl, I2, T, st2, f2, ⟨ps, hP, htr⟩, q⟩ := h2
  refine ⟨I2.nolimit, ?_⟩
  have hPs : s2.heap.get? P = some { cls := .none, data := .fields ps } := I2.hok P _ hP
  have cd : PySem.W.CodeHd s2.heap c P := TB.code.keeps fun b u e => I2.bk b u e
  have nfP : ∀ b ∈ fp, b ≠ P := fun b hb z => by
    have e := (f2 b hb).1
    rw [z, hP] at e
    cases e
  have cont : ∀ (code : Value) (h3 : Heap) (tk : Nat) (ps' : Array Value), Heap.ExtBut P s2.heap h3 → h3.get? P = some { cls := .none, data := .fields ps' } → (∃ more, ps' = ps ++ more) → TriplesOk ps'.toList →
      wpAny (model X.prog X.w) X.A (builtinsFor X.env.globals X.env.builtins) (fun bi s₄ => ∀ h', h'.Ns s₄.heap.objs.size (fun y => if y = ".0" then some (.ref it) else none) → Heap.SameBut s₄.heap.objs.size (s₄.heap.push { cls := .type "frame", data := .dict #[] }) h' →
          Q' (.ref h'.objs.size) { s₄ with
            gens := s₄.gens.push (.fresh (.compStart (.GeneratorExp elt (⟨tg, iter, ifs, 0⟩ :: cs) scope gpos) 0 (.ref it) .none (genEnv scope (cloFrom X.env.cells scope.names []) s₄.heap.objs.size code bi X.env))),
            toks := s₄.toks + 1 + 1 + 1,
            heap := h'.push { cls := .type "generator", data := .fields #[.int s₄.gens.size 0, .str "<genexpr>" (s₄.toks + 1), .str (X.env.qual ++ "<genexpr>") (s₄.toks + 1 + 1)] } }) X.xe { s2 with heap := h3, toks := tk } := by
    intro code h3 tk ps' hx hP3 hmore ht3
    obtain ⟨bm, ob, e1, e2, e3, e4, e5, e6, e7, e8⟩ := TB.bm
    have keep3 : ∀ b u, b ≠ P → s2.heap.get? b = some u → h3.get? b = some u := fun b u hb e => hx b u hb e
    refine wpAny_builtinsFor (m := X.mg) (by rw [I2.ok.glob]; exact (I2.mod.glob.keeps I2.bk).extBut hx TB.gP) e1 e2 (keep3 _ _ e4 (I2.bk _ _ e5)) e6 e7 e8 ?_
    intro h' hn' hs'
    obtain ⟨more, em⟩ := hmore
    have J4 := inv_tab (more := more) (h' := h3) (g' := s2.gens) (d' := s2.drawn) (t' := tk) I2 hP (fun b u hb e => keep3 b u hb e) (by rw [← em]; exact hP3) I2.bare
    have J4 : Inv X pins σ (upd H1 P (.tbl (ps ++ more))) { s2 with heap := h3, toks := tk } := J4
    have keep' : ∀ b o, h3.get? b = some o → h'.get? b = some o := fun b o e => hs'.extBut b o (Nat.ne_of_lt (Heap.lt_size e)) (Heap.get?_push_of_some _ e)
    have hsz : h'.objs.size = h3.objs.size + 1 := by rw [hs'.1, Heap.size_push]
    have nfpH : ∀ b ∈ fp, upd H1 P (.tbl (ps ++ more)) b = none := fun b hb => by rw [upd_ne (nfP b hb)]; exact (f2 b hb).1
    refine hQ J H1 (upd H1 P (.tbl (ps ++ more))) { s2 with heap := h3, toks := tk } (genEnv scope (cloFrom X.env.cells scope.names []) h3.objs.size code builtinsNs X.env) fp it tn _ s2.gens.size _ q ⟨⟨ps ++ more, upd_same, by rw [← em]; exact ht3⟩, fun b hb => upd_ne hb⟩
      { inv := J4, fps := fun b hb => ?_, turn := T, at0 := ?_, env := ⟨code, rfl⟩, os := rfl, gens := rfl, num := rfl, drawn := rfl, isg := ⟨_, _, _, Heap.get?_push_size _ rfl, rfl, rfl, rfl⟩, new := ?_, lt := ?_, keep := fun b o e => Heap.get?_push_of_some _ (keep' b o e), ns := ⟨_, hn'.push _⟩ }
    · obtain ⟨o, e, _⟩ := T.obj _ _ st2 b hb
      exact ⟨⟨nfpH b hb, (f2 b hb).2⟩, Heap.lt_size (keep3 b o (nfP b hb) e)⟩
    · exact T.keep _ _ _ st2 fun b hb o e => keep3 b o (nfP b hb) e
    · show h3.objs.size < h'.objs.size
      rw [hsz]; exact Nat.lt_succ_self _
    · exact Heap.size_push ..
  cases hf : codeAmong gpos ps.toList with
  | none =>
    refine wpAny_genexprCodeX hcode (cd.code hPs htr) (cd.tab hPs) hf fun c' h' tk hx hge hlt hco' _ htab' _ => ?_
    obtain ⟨o1, vs, f1, tf, fl, tg, inF, tx, tt, op, _, _, _, _, _, _, _, _, _, htr', _⟩ := hco'
    exact cont _ h' tk _ hx htab'.2 ⟨_, rfl⟩ htr'
  | some cv =>
    refine wpAny_genexprCode_hit hcode (cd.code hPs htr) hf ?_
    exact cont cv s2.heap s2.toks ps (Heap.ExtBut.refl _ _) hPs ⟨#[], by simp⟩ htr
end

/-! ### ready -/
theorem Aft.refl {s : Shared} (hb : AllBare s.gens) : Aft [] s s := ⟨rfl, hb, fun _ _ _ e => e, fun b z => by cases z⟩
theorem over_fr {B : Around} {ge elt : Expr} {cs : List Comprehension} {scope : Scope} {gpos : Pos} {it : Value} {cenv : Env} {l : List Env} (hge : ge = .GeneratorExp elt cs scope gpos) (h : B.frames = some l) :
    (B.over (.compLoop ge 0 it .none cenv) []).frames = some (cenv :: l) := by
  subst hge
  obtain ⟨b1, b2, b3, b4, b5⟩ := B
  cases h
  rfl
/-- room in the generator's frame -/
structure NearA (B A : Around) : Prop where
  hd : B.handled = A.handled
  fr : B.frames = A.frames
  dp : B.depth ≤ A.depth + 2
  un : B.units ≤ A.units + 12
theorem NearA.room {B A : Around} {k : Nat} {ge elt : Expr} {cs : List Comprehension} {scope : Scope} {gpos : Pos} {it : Value} {cenv : Env} (hge : ge = .GeneratorExp elt cs scope gpos) (n : NearA B A) (r : Room (k + 1) A) : Room k (B.over (.compLoop ge 0 it .none cenv) []) := by
  subst hge
  obtain ⟨n1, n2, n3, n4⟩ := n
  obtain ⟨r1, r2, r3⟩ := r
  refine ⟨?_, ?_, ?_⟩
  · show B.handled = none
    rw [n1]; exact r1
  · show B.depth + 0 + 1 + 3 * k + 5 < _
    omega
  · show B.units + 0 + 3 + 16 * k + 200 < _
    omega
theorem nearA2 (A : Around) : NearA A.in1.in1 A := ⟨rfl, rfl, Nat.le_add_right _ _, by show A.units + 1 + 1 ≤ _; omega⟩
section
variable {X : Cx} {pins : List (Addr × Obj)} {σ : L2.St} {H2 : Hp} {s4 s5 : Shared}
abbrev mkY (X : Cx) (s4 : Shared) (H2 : Hp) (cenv : Env) (fp : List Addr) (B : Around) (σ0 : L2.St) (ge : Expr) (it a : Addr) (g : Nat) (Sx : List Addr) (C : Eats) (F : List V → Hp → Prop) : GEx :=
  ⟨X, s4, H2, cenv, fp, B, σ0, ge, it, a, g, Sx, C, F⟩
theorem gen_rdy0 {ge elt tg iter : Expr} {ifs : List Expr} {cs : List Comprehension} {scope : Scope} {own : List (Str × Nat)} {gpos : Pos} {J : It} {cenv : Env} {fp : List Addr} {it a g : Addr} {tn : Nat → Heap → Prop} {B : Around} {k : Nat} {C : Eats} {F : List V → Hp → Prop} {Sx : List Addr} (hge : ge = .GeneratorExp elt (⟨tg, iter, ifs, 0⟩ :: cs) scope gpos)
    (hr : Room (k + 1) X.A) (hB : NearA B X.A) (G : GScp scope) (ok : BlkOk X.N X.env.scope scope own) (hN : X.N.Nodup) (M : Made X pins σ ge tg scope J H2 s4 cenv fp it tn a g s5)
    (hS : ∀ b ∈ Sx, a < b) (m : Nat) (turns : (mkY X s4 H2 cenv fp B (wipe σ (own.map (·.2))) ge it a g Sx C F).Ok → Room k (B.over (.compLoop ge 0 (.ref it) .none cenv) []) → ∀ s0 s, (∀ b ∈ a :: Sx, ∃ o, s0.heap.get? b = some o) → (∃ o, s0.heap.get? a = some o ∧ ∀ v, o.data ≠ .cell v) →
      Inv (mkY X s4 H2 cenv fp B (wipe σ (own.map (·.2))) ge it a g Sx C F).Xg ((mkY X s4 H2 cenv fp B (wipe σ (own.map (·.2))) ge it a g Sx C F).pn s0) (wipe σ (own.map (·.2))) H2 s → tn 0 s.heap → (∀ b ∈ fp, H2 b = none) →
      Run1 (model X.prog X.w) B ((mkY X s4 H2 cenv fp B (wipe σ (own.map (·.2))) ge it a g Sx C F).Z ((mkY X s4 H2 cenv fp B (wipe σ (own.map (·.2))) ge it a g Sx C F).Rp m) [] s0) (.compLoop ge 0 (.ref it) .none cenv) ((model X.prog X.w).den (.compLoop ge 0 (.ref it) .none cenv)) [] s) :
    (mkY X s4 H2 cenv fp B (wipe σ (own.map (·.2))) ge it a g Sx C F).Ok ∧
    (mkY X s4 H2 cenv fp B (wipe σ (own.map (·.2))) ge it a g Sx C F).Rdy m [] H2 (.fresh (.compStart ge 0 (.ref it) .none cenv)) s5 := by
  obtain ⟨code, hce⟩ := M.env
  have hfree := blk_free ok M.inv.ok
  have O : (mkY X s4 H2 cenv fp B (wipe σ (own.map (·.2))) ge it a g Sx C F).Ok :=
    { new := fun b hb => by
        rcases List.mem_cons.mp hb with z | z
        · rw [z]; exact M.new
        · exact Nat.lt_trans M.new (hS b z)
      loc := by
        show cenv.locals = _
        rw [hce]; rfl
      cel := fun y c e => by
        have e : cenv.cells.lookup y = some c := e
        rw [hce] at e
        obtain ⟨v, z⟩ := M.inv.cell y c (NdefX.clo_cm hfree e)
        exact z.lt
      fps := fun b hb => (M.fps b hb).2
      aS := fun z => Nat.lt_irrefl _ (hS _ z)
      co := by
        show cenv.scope.isCoroutine = false
        rw [hce]; exact G.co }
  refine ⟨O, (GEx.rdy_iff _ m _ _ _ _).mpr fun s6 A6 => ?_⟩
  have R := hB.room (k := k) (it := Value.ref it) (cenv := cenv) hge hr
  have hfrm : (B.over (.compLoop ge 0 (.ref it) .none cenv) []).frames = some (cenv :: X.stack) := over_fr hge (by rw [hB.fr]; exact M.inv.ok.frames)
  have hS2 : ∀ b o, s5.heap.get? b = some o → b < a + 1 := fun b o e => by
    have := Heap.lt_size e
    rw [M.lt] at this
    exact this
  have kp5 : ∀ b o, s5.heap.get? b = some o → s6.heap.get? b = some o := fun b o e => A6.keep b o (fun z => by
    have h1 := hS b z
    have h2 := hS2 b o e
    exact Nat.lt_irrefl _ (Nat.lt_of_lt_of_le h1 (Nat.le_of_lt_succ h2))) e
  have kp : ∀ b o, s4.heap.get? b = some o → s6.heap.get? b = some o := fun b o e => kp5 b o (M.keep b o e)
  have agn : ∃ o, s6.heap.get? a = some o ∧ ∀ v, o.data ≠ .cell v := by
    obtain ⟨o, n1, n2, e, c, d, _⟩ := M.isg
    exact ⟨o, kp5 _ _ e, fun v z => by rw [d] at z; cases z⟩
  have there : ∀ b ∈ a :: Sx, ∃ o, s6.heap.get? b = some o := fun b hb => by
    rcases List.mem_cons.mp hb with z | z
    · obtain ⟨o, e, _⟩ := agn
      exact ⟨o, by rw [z]; exact e⟩
    · obtain ⟨o, e, _⟩ := A6.own b z
      exact ⟨o, e⟩
  obtain ⟨mm, hns⟩ := M.ns
  have hns6 : s6.heap.Ns s4.heap.objs.size mm := by
    obtain ⟨ob, es, ep, ho, r⟩ := hns
    exact ⟨ob, es, ep, kp5 _ ob ho, r⟩
  have ho6 : s6.os = s4.os := A6.os.trans M.os
  have I0 := gen_start (code := code) (A := B.over (.compLoop ge 0 (.ref it) .none cenv) []) (g' := (s6.setGen g .running).gens) (d' := s6.drawn) (t' := s6.toks) M.inv ok G hN M.fps R.hd (by rw [← hce]; exact hfrm) hns6 kp (allBare_setGen A6.bare rfl)
  rw [← hce] at I0
  have I1 : Inv (mkY X s4 H2 cenv fp B (wipe σ (own.map (·.2))) ge it a g Sx C F).Xg [] (wipe σ (own.map (·.2))) H2 (s6.setGen g .running) := by
    obtain ⟨h6, g6, d6, t6, o6⟩ := s6
    have ho6 : o6 = s4.os := ho6
    subst ho6
    exact I0
  have I2 : Inv (mkY X s4 H2 cenv fp B (wipe σ (own.map (·.2))) ge it a g Sx C F).Xg ((mkY X s4 H2 cenv fp B (wipe σ (own.map (·.2))) ge it a g Sx C F).pn s6) (wipe σ (own.map (·.2))) H2 (s6.setGen g .running) := by
    refine I1.pins_of fun p hp => ?_
    have hp : p ∈ pinsAt (a :: Sx) s6.heap := hp
    obtain ⟨hb, e⟩ := of_pinsAt hp
    have h1 := O.new _ hb
    refine ⟨e, M.inv.hok.fresh (Nat.le_of_lt h1), fun z => ?_, fun z => ?_, ?_⟩
    · have z : p.1 = cenv.locals := z
      rw [z, show cenv.locals = _ from O.loc] at h1
      exact Nat.lt_irrefl _ h1
    · obtain ⟨_, ob, hob, _⟩ := I1.ok.funs.mem z
      exact absurd (Nat.lt_trans h1 (Heap.lt_size hob)) (Nat.lt_irrefl _)
    · rcases List.mem_cons.mp hb with z | z
      · obtain ⟨oa, ea, da⟩ := agn
        rw [z, ea] at e
        cases e
        exact da
      · obtain ⟨ob, eb, db⟩ := A6.own _ z
        rw [e] at eb
        cases eb
        exact db
  have st6 := M.turn.keep _ _ _ M.at0 fun b hb o e => kp b o e
  have stY : tn 0 (s6.setGen g .running).heap := st6
  exact gen_first (Y := mkY X s4 H2 cenv fp B (wipe σ (own.map (·.2))) ge it a g Sx C F) hge M.turn (s6.setGen g .running) stY (turns O R s6 (s6.setGen g .running) there agn I2 stY fun b hb => (M.fps b hb).1.1)
theorem gen_rdy {elt tg iter : Expr} {ifs : List Expr} {scope : Scope} {own : List (Str × Nat)} {gpos : Pos} {J : It} {cenv : Env} {fp : List Addr} {it a g : Addr} {tn : Nat → Heap → Prop} {B : Around} {k : Nat} {gt : TG} {tt : TT} {te : TE} {W : Nat → Nat → List V → Hp → Prop} {C : Eats} {F : List V → Hp → Prop} {Sx : List Addr}
    (hr : Room (k + 1) X.A) (hB : NearA B X.A) (G : GScp scope) (ok : BlkOk X.N X.env.scope scope own) (hN : X.N.Nodup) (M : Made X pins σ (.GeneratorExp elt [⟨tg, iter, ifs, 0⟩] scope gpos) tg scope J H2 s4 cenv fp it tn a g s5)
    (hg : ∀ A, Room k A → PG (gcx X s4 H2 cenv fp A) tg gt) (ht : ∀ A, Room k A → PTs (gcx X s4 H2 cenv fp A) ifs tt) (he : ∀ A, Room k A → PE (gcx X s4 H2 cenv fp A) elt te)
    (hS : ∀ b ∈ Sx, a < b) (hC : EatsMono C) (st : GStep W J gt tt te (own.map (·.2)) (wipe σ (own.map (·.2))) C F) (m : Nat) (w0 : W 0 m [] H2) :
    (mkY X s4 H2 cenv fp B (wipe σ (own.map (·.2))) (.GeneratorExp elt [⟨tg, iter, ifs, 0⟩] scope gpos) it a g Sx C F).Ok ∧
    (mkY X s4 H2 cenv fp B (wipe σ (own.map (·.2))) (.GeneratorExp elt [⟨tg, iter, ifs, 0⟩] scope gpos) it a g Sx C F).Rdy m [] H2 (.fresh (.compStart (.GeneratorExp elt [⟨tg, iter, ifs, 0⟩] scope gpos) 0 (.ref it) .none cenv)) s5 :=
  gen_rdy0 rfl hr hB G ok hN M hS m fun O R s0 s th ag I stt fr =>
    gen_turns (Y := mkY X s4 H2 cenv fp B (wipe σ (own.map (·.2))) (.GeneratorExp elt [⟨tg, iter, ifs, 0⟩] scope gpos) it a g Sx C F) rfl O M.turn (hg _ R) (ht _ R) (he _ R) hC st m m 0 [] H2 s0 s (Nat.le_refl _) th ag I stt fr w0
theorem gen_rdy2 {elt tg iter tg1 iter1 : Expr} {ifs ifs1 : List Expr} {scope : Scope} {own : List (Str × Nat)} {vs1 : List Nat} {gpos : Pos} {J : It} {cenv : Env} {fp : List Addr} {it a g : Addr} {tn : Nat → Heap → Prop} {B : Around} {k : Nat} {gt g1 : TG} {tt tt1 : TT} {te : TE} {wi1 : TI} {W : Nat → Nat → List V → Hp → Prop} {C : Eats} {F : List V → Hp → Prop} {Sx : List Addr}
    (hr : Room (k + 1) X.A) (hB : NearA B X.A) (G : GScp scope) (ok : BlkOk X.N X.env.scope scope own) (hN : X.N.Nodup) (hvs : ∀ v ∈ vs1, v ∈ own.map (·.2)) (M : Made X pins σ (.GeneratorExp elt [⟨tg, iter, ifs, 0⟩, ⟨tg1, iter1, ifs1, 0⟩] scope gpos) tg scope J H2 s4 cenv fp it tn a g s5)
    (hg : ∀ A, Room k A → PG (gcx X s4 H2 cenv fp A) tg gt) (ht : ∀ A, Room k A → PTs (gcx X s4 H2 cenv fp A) ifs tt) (hi1 : ∀ A, Room k A → PI (gcx X s4 H2 cenv fp A) tg1 iter1 wi1) (hs1 : ∀ x, foldedSetIterable iter1 cenv x = pure x) (hg1 : ∀ A, Room k A → PG (gcx X s4 H2 cenv fp A) tg1 g1) (ht1 : ∀ A, Room k A → PTs (gcx X s4 H2 cenv fp A) ifs1 tt1) (he : ∀ A, Room k A → PE (gcx X s4 H2 cenv fp A) elt te)
    (hS : ∀ b ∈ Sx, a < b) (hC : EatsMono C) (st : GStep2 W J gt tt wi1 g1 tt1 te (own.map (·.2)) vs1 (wipe σ (own.map (·.2))) C F) (m : Nat) (w0 : W 0 m [] H2) :
    (mkY X s4 H2 cenv fp B (wipe σ (own.map (·.2))) (.GeneratorExp elt [⟨tg, iter, ifs, 0⟩, ⟨tg1, iter1, ifs1, 0⟩] scope gpos) it a g Sx C F).Ok ∧
    (mkY X s4 H2 cenv fp B (wipe σ (own.map (·.2))) (.GeneratorExp elt [⟨tg, iter, ifs, 0⟩, ⟨tg1, iter1, ifs1, 0⟩] scope gpos) it a g Sx C F).Rdy m [] H2 (.fresh (.compStart (.GeneratorExp elt [⟨tg, iter, ifs, 0⟩, ⟨tg1, iter1, ifs1, 0⟩] scope gpos) 0 (.ref it) .none cenv)) s5 :=
  gen_rdy0 rfl hr hB G ok hN M hS m fun O R s0 s th ag I stt fr =>
    gen_turns2 (Y := mkY X s4 H2 cenv fp B (wipe σ (own.map (·.2))) (.GeneratorExp elt [⟨tg, iter, ifs, 0⟩, ⟨tg1, iter1, ifs1, 0⟩] scope gpos) it a g Sx C F) rfl O M.turn hvs (hg _ R) (ht _ R) (hi1 _ R) hs1 (hg1 _ R) (ht1 _ R) (he _ R) hC st m m 0 [] H2 s0 s (Nat.le_refl _) th ag I stt fr w0
end
/-- out of the generator's frame -/
theorem GEx.out {Y : GEx} {pins ps : List (Addr × Obj)} {σ σ' : L2.St} {H' : Hp} {s1 s2 : Shared} (I4 : Inv Y.X pins σ Y.H1 Y.s4) (hf : ∀ b ∈ Y.fp, FpOk Y.X pins Y.H1 b) (I : Inv Y.Xg ps σ' H' s1) (A : Aft [] s1 s2) : Inv Y.X pins σ H' s2 := by
  have k : ∀ b o, s1.heap.get? b = some o → s2.heap.get? b = some o := fun b o e => A.keep b o (by simp) e
  exact I4.call' (ch := Y.fp) (A.os.trans I.os) (I.base.trans (Un.kept k)) (I.hok.kept k) A.bare fun b hb => ⟨(hf b hb).2.2.2.1, (hf b hb).2.1, (hf b hb).2.2.2.2.1, (hf b hb).2.2.2.2.2⟩
/-- next(g) -/
theorem GEx.next {Y : GEx} {A : Around} {Q : Option Value → Shared → Prop} {E : Value → Shared → Prop} {n : Nat} {ys : List V} {H : Hp} {gs : GenState} {sp s : Shared} (O : Y.Ok) (hB : Y.B = A.in1) (hh : A.handled = none) (hroom : A.depth < recursionLimit) (nl : s.heap.NoLimit)
    (rd : Y.Rdy n ys H gs sp) (af : Aft Y.Sx sp s) (hg : s.heap.IsGen Y.a Y.g) (hgs : s.gens[Y.g]? = some gs) (hlt : Y.g < s.gens.size)
    (qN : ∀ σ' H' s1 s2, Inv Y.Xg (Y.pn s) σ' H' s1 → Y.F ys H' → Aft [] s1 s2 → Q none s2)
    (qS : ∀ v y σ' H' s1 gs', Inv Y.Xg (Y.pn s) σ' H' s1 → RelV y v → Y.C ys y H' (Y.Rp n (ys ++ [y]) H' gs' s1) → gs'.bare = true → s.gens.size ≤ s1.gens.size → Q (some v) (s1.setGen Y.g gs')) : wpAny Y.M A (pyNext (.ref Y.a)) Q E s := by
  have go := (GEx.rdy_iff Y n ys H gs sp).mp rd s af
  rw [hB] at go
  refine next1 hh nl hroom hg hgs go fun e s1 z hsz => ?_
  rcases z with ⟨rfl, σ', H', I, f⟩ | ⟨v, l, k, c, p, fs, y, σ', H', rfl, q, I, r, cc⟩
  · exact .inl ⟨rfl, fun h' kk => qN σ' H' s1 _ I f ⟨rfl, allBare_setGen I.bare rfl, fun b o _ e => kk b o e, fun b z => by cases z⟩⟩
  · exact .inr ⟨v, l, k, c, p, fs, rfl, q, qS v y σ' H' s1 _ I r cc (bare_of q) hsz⟩

/-! ### all, any -/
/-- stop at the first value that is e -/
def eTill (e : Bool) (Qd : Bool → Hp → Prop) : Eats := fun _ y H go => ∃ b, y = .bl b ∧ if b = e then Qd e H else go
theorem eTill_mono {e : Bool} {Qd : Bool → Hp → Prop} : EatsMono (eTill e Qd) := fun ys y H p q h ⟨b, hb, z⟩ => ⟨b, hb, by
  by_cases hbe : b = e
  · rw [if_pos hbe] at z ⊢; exact z
  · rw [if_neg hbe] at z ⊢; exact h z⟩
section
variable {Y : GEx} {Qd : Bool → Hp → Prop} {R : Result → Shared → Prop} {A : Around}
theorem all_loop1 (O : Y.Ok) (hB : Y.B = A.in1.in1) (hS : Y.Sx = []) (hC : Y.C = eTill false Qd) (hF : Y.F = fun _ H => Qd true H) (hh : A.handled = none) (hroom : A.depth < recursionLimit)
    (hR : ∀ k ps σ' H' s1 s2, Inv Y.Xg ps σ' H' s1 → Aft [] s1 s2 → Qd k H' → R (.ok (.ret (.bool k))) s2) : ∀ (n : Nat) (ys : List V) (H : Hp) (gs : GenState) (sp s : Shared), Y.Rdy n ys H gs sp → Aft Y.Sx sp s → s.heap.IsGen Y.a Y.g → s.gens[Y.g]? = some gs → s.heap.NoLimit →
      codeAny Y.M A (.builtin "all.loop" ⟨[.ref Y.a], []⟩) R s := by
  intro n
  induction n with
  | zero =>
    intro ys H gs sp s rd af hg hgs nl
    refine codeAny_builtin PySem.F.entry_all_loop ?_
    rw [Around.under_plainId PySem.F.plain_all_loop _]
    show wpAny _ A.in1 (pyNext (.ref Y.a) >>= _) _ _ s
    refine wpAny_bind (GEx.next O hB hh hroom nl rd af hg hgs (Array.getElem?_eq_some_iff.mp hgs).1 (fun σ' H' s1 s2 I f a => ?_) fun v y σ' H' s1 gs' I r c hb hsz => ?_)
    · rw [hF] at f
      exact wpAny_bind (wpAny_rule (wpAny_pure (hR true _ σ' H' s1 s2 I a f)))
    · rw [hC] at c
      obtain ⟨b, rfl, c⟩ := c
      obtain rfl : v = .bool b := r
      refine wpAny_bind (wpAny_holding (wpAny_truthy_bool ?_))
      refine wpAny_bind (wpAny_letGo ?_)
      cases b with
      | true => exact (show False from c).elim
      | false =>
        simp only [Bool.false_eq_true, if_false]
        exact wpAny_bind (wpAny_rule (wpAny_pure (hR false _ σ' H' s1 _ I ⟨rfl, allBare_setGen I.bare hb, fun _ _ _ e => e, fun b z => by cases z⟩ c)))
  | succ n ih =>
    intro ys H gs sp s rd af hg hgs nl
    refine codeAny_builtin PySem.F.entry_all_loop ?_
    rw [Around.under_plainId PySem.F.plain_all_loop _]
    show wpAny _ A.in1 (pyNext (.ref Y.a) >>= _) _ _ s
    refine wpAny_bind (GEx.next O hB hh hroom nl rd af hg hgs (Array.getElem?_eq_some_iff.mp hgs).1 (fun σ' H' s1 s2 I f a => ?_) fun v y σ' H' s1 gs' I r c hb hsz => ?_)
    · rw [hF] at f
      exact wpAny_bind (wpAny_rule (wpAny_pure (hR true _ σ' H' s1 s2 I a f)))
    · rw [hC] at c
      obtain ⟨b, rfl, c⟩ := c
      obtain rfl : v = .bool b := r
      refine wpAny_bind (wpAny_holding (wpAny_truthy_bool ?_))
      refine wpAny_bind (wpAny_letGo ?_)
      cases b with
      | true =>
        simp only [if_true]
        obtain ⟨o, n1, n2, e, r⟩ := hg
        refine wpAny_pure ⟨plainId_quiet PySem.F.plain_all_loop _, ih _ H' gs' s1 (s1.setGen Y.g gs') c (by rw [hS]; exact ⟨rfl, allBare_setGen I.bare hb, fun _ _ _ e => e, fun b z => by cases z⟩) ⟨o, n1, n2, (O.pinned I List.mem_cons_self e).1, r⟩ (setGen_at (Nat.lt_of_lt_of_le (Array.getElem?_eq_some_iff.mp hgs).1 hsz)) I.nolimit⟩
      | false =>
        simp only [Bool.false_eq_true, if_false]
        exact wpAny_bind (wpAny_rule (wpAny_pure (hR false _ σ' H' s1 _ I ⟨rfl, allBare_setGen I.bare hb, fun _ _ _ e => e, fun b z => by cases z⟩ c)))
theorem any_loop1 (O : Y.Ok) (hB : Y.B = A.in1.in1) (hS : Y.Sx = []) (hC : Y.C = eTill true Qd) (hF : Y.F = fun _ H => Qd false H) (hh : A.handled = none) (hroom : A.depth < recursionLimit)
    (hR : ∀ k ps σ' H' s1 s2, Inv Y.Xg ps σ' H' s1 → Aft [] s1 s2 → Qd k H' → R (.ok (.ret (.bool k))) s2) : ∀ (n : Nat) (ys : List V) (H : Hp) (gs : GenState) (sp s : Shared), Y.Rdy n ys H gs sp → Aft Y.Sx sp s → s.heap.IsGen Y.a Y.g → s.gens[Y.g]? = some gs → s.heap.NoLimit →
      codeAny Y.M A (.builtin "any.loop" ⟨[.ref Y.a], []⟩) R s := by
  intro n
  induction n with
  | zero =>
    intro ys H gs sp s rd af hg hgs nl
    refine codeAny_builtin PySem.F.entry_any_loop ?_
    rw [Around.under_plainId PySem.F.plain_any_loop _]
    show wpAny _ A.in1 (pyNext (.ref Y.a) >>= _) _ _ s
    refine wpAny_bind (GEx.next O hB hh hroom nl rd af hg hgs (Array.getElem?_eq_some_iff.mp hgs).1 (fun σ' H' s1 s2 I f a => ?_) fun v y σ' H' s1 gs' I r c hb hsz => ?_)
    · rw [hF] at f
      exact wpAny_bind (wpAny_rule (wpAny_pure (hR false _ σ' H' s1 s2 I a f)))
    · rw [hC] at c
      obtain ⟨b, rfl, c⟩ := c
      obtain rfl : v = .bool b := r
      refine wpAny_bind (wpAny_holding (wpAny_truthy_bool ?_))
      refine wpAny_bind (wpAny_letGo ?_)
      cases b with
      | false => exact (show False from c).elim
      | true =>
        simp only [if_true]
        exact wpAny_bind (wpAny_rule (wpAny_pure (hR true _ σ' H' s1 _ I ⟨rfl, allBare_setGen I.bare hb, fun _ _ _ e => e, fun b z => by cases z⟩ c)))
  | succ n ih =>
    intro ys H gs sp s rd af hg hgs nl
    refine codeAny_builtin PySem.F.entry_any_loop ?_
    rw [Around.under_plainId PySem.F.plain_any_loop _]
    show wpAny _ A.in1 (pyNext (.ref Y.a) >>= _) _ _ s
    refine wpAny_bind (GEx.next O hB hh hroom nl rd af hg hgs (Array.getElem?_eq_some_iff.mp hgs).1 (fun σ' H' s1 s2 I f a => ?_) fun v y σ' H' s1 gs' I r c hb hsz => ?_)
    · rw [hF] at f
      exact wpAny_bind (wpAny_rule (wpAny_pure (hR false _ σ' H' s1 s2 I a f)))
    · rw [hC] at c
      obtain ⟨b, rfl, c⟩ := c
      obtain rfl : v = .bool b := r
      refine wpAny_bind (wpAny_holding (wpAny_truthy_bool ?_))
      refine wpAny_bind (wpAny_letGo ?_)
      cases b with
      | false =>
        simp only [Bool.false_eq_true, if_false]
        obtain ⟨o, n1, n2, e, r⟩ := hg
        refine wpAny_pure ⟨plainId_quiet PySem.F.plain_any_loop _, ih _ H' gs' s1 (s1.setGen Y.g gs') c (by rw [hS]; exact ⟨rfl, allBare_setGen I.bare hb, fun _ _ _ e => e, fun b z => by cases z⟩) ⟨o, n1, n2, (O.pinned I List.mem_cons_self e).1, r⟩ (setGen_at (Nat.lt_of_lt_of_le (Array.getElem?_eq_some_iff.mp hgs).1 hsz)) I.nolimit⟩
      | true =>
        simp only [if_true]
        exact wpAny_bind (wpAny_rule (wpAny_pure (hR true _ σ' H' s1 _ I ⟨rfl, allBare_setGen I.bare hb, fun _ _ _ e => e, fun b z => by cases z⟩ c)))
end
section
variable {X : Cx}
/-- all (e = false), any (e = true) of elt for target in iter if ..; the running def's table at P may have grown -/
def tTill (e : Bool) (P : Addr) (wi : TI) (g : TG) (tt : TT) (te : TE) (vs : List Nat) : TE := fun σ H Q => wi σ H fun J H1 => TabG H1 P ∧ ∀ H2, Tabbed P H1 H2 →
  ∃ W : Nat → Nat → Hp → Prop, (∃ m, W 0 m H2) ∧ ∀ i m H, W i m H → (J.stop i H ∧ Q (.bl (!e)) H) ∨ (J.go i H ∧ ∃ Nx : Hp → Prop, (∀ H', Nx H' → ∃ m', m' < m ∧ W (i + 1) m' H') ∧
    ∀ x H', J.yld i H x H' → g x (wipe σ vs) H' fun σ2 H2 => wipe σ2 vs = wipe σ vs ∧ tt σ2 H2 fun b H3 => if b = true then te σ2 H3 fun y H4 => ∃ b, y = .bl b ∧ if b = e then Q (.bl e) H4 else Nx H4 else Nx H3)
abbrev RetQ (Q : Value → Shared → Prop) (E : Value → Shared → Prop) : Result → Shared → Prop := fun r s' => match r with | .ok (.ret v) => Q v s' | .ok _ => False | .error e => E e s'
theorem call_allP {P : Program} {w : World} {A : Around} {Q : Value → Shared → Prop} {E : Value → Shared → Prop} {s : Shared} {a g : Addr} (hg : s.heap.IsGen a g)
    (h : codeAny (model P w) A (.builtin "all.loop" ⟨[.ref a], []⟩) (RetQ Q E) s) : wpAny (model P w) A (call (.builtin "all") [.ref a]) Q E s := by
  refine call_function_tree PySem.F.kind_all PySem.F.plain_all PySem.F.entry_all (PySem.F.args_all1 _) ?_
  unfold Builtin.«all»
  refine wpAny_bind (wpAny_pure ?_)
  exact wpAny_bind (wpAny_pyIter_gen hg (wpAny_pure ⟨plainId_quiet PySem.F.plain_all_loop _, h⟩))
theorem call_anyP {P : Program} {w : World} {A : Around} {Q : Value → Shared → Prop} {E : Value → Shared → Prop} {s : Shared} {a g : Addr} (hg : s.heap.IsGen a g)
    (h : codeAny (model P w) A (.builtin "any.loop" ⟨[.ref a], []⟩) (RetQ Q E) s) : wpAny (model P w) A (call (.builtin "any") [.ref a]) Q E s := by
  refine call_function_tree PySem.F.kind_any PySem.F.plain_any PySem.F.entry_any (PySem.F.args_any1 _) ?_
  unfold Builtin.«any»
  refine wpAny_bind (wpAny_pure ?_)
  exact wpAny_bind (wpAny_pyIter_gen hg (wpAny_pure ⟨plainId_quiet PySem.F.plain_any_loop _, h⟩))
/-- the places where the generator's frame may stand -/
abbrev GPG (X : Cx) (k : Nat) (scope : Scope) (tg : Expr) (g : TG) : Prop := ∀ (s : Shared) (H : Hp) (C : Addr) (cl : List (Str × Addr)) (code : Value) (fp : List Addr) (A : Around), Room k A → PG (gcx X s H (genEnv scope cl C code builtinsNs X.env) fp A) tg g
abbrev GPT (X : Cx) (k : Nat) (scope : Scope) (ifs : List Expr) (t : TT) : Prop := ∀ (s : Shared) (H : Hp) (C : Addr) (cl : List (Str × Addr)) (code : Value) (fp : List Addr) (A : Around), Room k A → PTs (gcx X s H (genEnv scope cl C code builtinsNs X.env) fp A) ifs t
abbrev GPE (X : Cx) (k : Nat) (scope : Scope) (e : Expr) (t : TE) : Prop := ∀ (s : Shared) (H : Hp) (C : Addr) (cl : List (Str × Addr)) (code : Value) (fp : List Addr) (A : Around), Room k A → PE (gcx X s H (genEnv scope cl C code builtinsNs X.env) fp A) e t
theorem tTill_step {e : Bool} {J : It} {g : TG} {tt : TT} {te : TE} {vs : List Nat} {σ : L2.St} {Q : VK} {W : Nat → Nat → Hp → Prop}
    (h : ∀ i m H, W i m H → (J.stop i H ∧ Q (.bl (!e)) H) ∨ (J.go i H ∧ ∃ Nx : Hp → Prop, (∀ H', Nx H' → ∃ m', m' < m ∧ W (i + 1) m' H') ∧
      ∀ x H', J.yld i H x H' → g x (wipe σ vs) H' fun σ2 H2 => wipe σ2 vs = wipe σ vs ∧ tt σ2 H2 fun b H3 => if b = true then te σ2 H3 fun y H4 => ∃ b, y = .bl b ∧ if b = e then Q (.bl e) H4 else Nx H4 else Nx H3)) :
    GStep (fun i m _ H => W i m H) J g tt te vs (wipe σ vs) (eTill e fun b H => Q (.bl b) H) (fun _ H => Q (.bl (!e)) H) := fun i m ys H w => by
  rcases h i m H w with z | ⟨go, Nx, hN, st⟩
  · exact .inl z
  · exact .inr ⟨go, fun _ H => Nx H, fun _ H' nx => hN H' nx, st⟩
section
variable {c P : Addr} {elt tg iter : Expr} {ifs : List Expr} {scope : Scope} {own : List (Str × Nat)} {p pos gpos : Pos} {wi : TI} {g : TG} {tt : TT} {te : TE} {k : Nat}
theorem pe_allG (hr : Room (k + 1) X.A) (hn : X.N.Nodup) (hgl : Gl X "all") (hm : X.mg "all" = none) (TB : LamX.TabB X.base X.mg c P) (hcode : X.env.code = .ref c) (G : GScp scope) (ok : BlkOk X.N X.env.scope scope own) (hi : PI X tg iter wi)
    (hg : GPG X k scope tg g) (ht : GPT X k scope ifs tt) (he : GPE X k scope elt te) (hb : bootBuiltins "all" = some (.builtin "all") := by first | rfl | decide +kernel) (hs : ∀ v, genFold iter X.env v = pure v := by intro _; rfl)
    (hst : starEach [.GeneratorExp elt [⟨tg, iter, ifs, 0⟩] scope gpos] X.env = (false, eval (.GeneratorExp elt [⟨tg, iter, ifs, 0⟩] scope gpos) X.env) :: starEach [] X.env := by rfl) :
    PE X (.Call (.Name "all" p) [.GeneratorExp elt [⟨tg, iter, ifs, 0⟩] scope gpos] [] pos) (tTill false P wi g tt te (own.map (·.2))) := by
  refine ⟨fun pins s σ H Q I h => ?_⟩
  refine wpAny_Call_Name_kw (ld_blt I hgl hm hb ?_)
  refine PyProof.Rows.callWith_builtin1 ?_ hst (by rfl)
  rw [hst]
  show wpAny _ _ (spliced ((false, eval (.GeneratorExp elt [⟨tg, iter, ifs, 0⟩] scope gpos) X.env) :: backTo pos (starEach [] X.env))) _ _ s
  refine Calls.spliced_cons (gen_made (R := fun J H1 => _) hr TB hcode G ok hi hs I h fun J H1 H2 s4 cenv fp it tn a gn s5 q tb M => ?_)
  refine Calls.spliced_nil (call_allP M.isg ?_)
  obtain ⟨W, ⟨m, w0⟩, st⟩ := q H2 tb
  obtain ⟨code, hce⟩ := M.env
  subst hce
  obtain ⟨O, rd⟩ := gen_rdy (B := X.A.in1.in1) (Sx := []) hr (nearA2 _) G ok hn M (fun A r => hg _ _ _ _ _ _ A r) (fun A r => ht _ _ _ _ _ _ A r) (fun A r => he _ _ _ _ _ _ A r) (fun b z => by cases z) eTill_mono (tTill_step st) m w0
  refine all_loop1 (Qd := fun b H => Q (.bl b) H) (Y := mkY X s4 H2 _ fp X.A.in1.in1 (wipe σ (own.map (·.2))) (.GeneratorExp elt [⟨tg, iter, ifs, 0⟩] scope gpos) it a gn [] (eTill false fun b H => Q (.bl b) H) (fun _ H => Q (.bl (!false)) H)) O rfl rfl rfl rfl hr.hd hr.depth (fun k ps σ' H' s1 s2 I' af q => ?_) m [] H2 _ s5 s5 rd (Aft.refl ?_) M.isg ?_ ?_
  · exact ⟨.bl k, H', GEx.out (Y := mkY X s4 H2 _ fp X.A.in1.in1 (wipe σ (own.map (·.2))) (.GeneratorExp elt [⟨tg, iter, ifs, 0⟩] scope gpos) it a gn [] (eTill false fun b H => Q (.bl b) H) (fun _ H => Q (.bl (!false)) H)) M.inv (fun b hb => (M.fps b hb).1) I' af, rfl, q⟩
  · rw [M.gens]
    exact M.inv.bare.push rfl
  · show s5.gens[gn]? = _
    rw [M.gens, M.num]
    simp
  · exact M.inv.nolimit.keeps M.keep
theorem pe_anyG (hr : Room (k + 1) X.A) (hn : X.N.Nodup) (hgl : Gl X "any") (hm : X.mg "any" = none) (TB : LamX.TabB X.base X.mg c P) (hcode : X.env.code = .ref c) (G : GScp scope) (ok : BlkOk X.N X.env.scope scope own) (hi : PI X tg iter wi)
    (hg : GPG X k scope tg g) (ht : GPT X k scope ifs tt) (he : GPE X k scope elt te) (hb : bootBuiltins "any" = some (.builtin "any") := by first | rfl | decide +kernel) (hs : ∀ v, genFold iter X.env v = pure v := by intro _; rfl)
    (hst : starEach [.GeneratorExp elt [⟨tg, iter, ifs, 0⟩] scope gpos] X.env = (false, eval (.GeneratorExp elt [⟨tg, iter, ifs, 0⟩] scope gpos) X.env) :: starEach [] X.env := by rfl) :
    PE X (.Call (.Name "any" p) [.GeneratorExp elt [⟨tg, iter, ifs, 0⟩] scope gpos] [] pos) (tTill true P wi g tt te (own.map (·.2))) := by
  refine ⟨fun pins s σ H Q I h => ?_⟩
  refine wpAny_Call_Name_kw (ld_blt I hgl hm hb ?_)
  refine PyProof.Rows.callWith_builtin1 ?_ hst (by rfl)
  rw [hst]
  show wpAny _ _ (spliced ((false, eval (.GeneratorExp elt [⟨tg, iter, ifs, 0⟩] scope gpos) X.env) :: backTo pos (starEach [] X.env))) _ _ s
  refine Calls.spliced_cons (gen_made (R := fun J H1 => _) hr TB hcode G ok hi hs I h fun J H1 H2 s4 cenv fp it tn a gn s5 q tb M => ?_)
  refine Calls.spliced_nil (call_anyP M.isg ?_)
  obtain ⟨W, ⟨m, w0⟩, st⟩ := q H2 tb
  obtain ⟨code, hce⟩ := M.env
  subst hce
  obtain ⟨O, rd⟩ := gen_rdy (B := X.A.in1.in1) (Sx := []) hr (nearA2 _) G ok hn M (fun A r => hg _ _ _ _ _ _ A r) (fun A r => ht _ _ _ _ _ _ A r) (fun A r => he _ _ _ _ _ _ A r) (fun b z => by cases z) eTill_mono (tTill_step st) m w0
  refine any_loop1 (Qd := fun b H => Q (.bl b) H) (Y := mkY X s4 H2 _ fp X.A.in1.in1 (wipe σ (own.map (·.2))) (.GeneratorExp elt [⟨tg, iter, ifs, 0⟩] scope gpos) it a gn [] (eTill true fun b H => Q (.bl b) H) (fun _ H => Q (.bl (!true)) H)) O rfl rfl rfl rfl hr.hd hr.depth (fun k ps σ' H' s1 s2 I' af q => ?_) m [] H2 _ s5 s5 rd (Aft.refl ?_) M.isg ?_ ?_
  · exact ⟨.bl k, H', GEx.out (Y := mkY X s4 H2 _ fp X.A.in1.in1 (wipe σ (own.map (·.2))) (.GeneratorExp elt [⟨tg, iter, ifs, 0⟩] scope gpos) it a gn [] (eTill true fun b H => Q (.bl b) H) (fun _ H => Q (.bl (!true)) H)) M.inv (fun b hb => (M.fps b hb).1) I' af, rfl, q⟩
  · rw [M.gens]
    exact M.inv.bare.push rfl
  · show s5.gens[gn]? = _
    rw [M.gens, M.num]
    simp
  · exact M.inv.nolimit.keeps M.keep
end
/-- .. of two clauses -/
def tTill2 (e : Bool) (P : Addr) (wi : TI) (g : TG) (tt : TT) (wi1 : TI) (g1 : TG) (tt1 : TT) (te : TE) (vs vs1 : List Nat) : TE := fun σ H Q => wi σ H fun J H1 => TabG H1 P ∧ ∀ H2, Tabbed P H1 H2 →
  ∃ W : Nat → Nat → Hp → Prop, (∃ m, W 0 m H2) ∧ ∀ i m H, W i m H → (J.stop i H ∧ Q (.bl (!e)) H) ∨ (J.go i H ∧ ∀ x H', J.yld i H x H' → g x (wipe σ vs) H' fun σ2 H2 => wipe σ2 vs = wipe σ vs ∧ tt σ2 H2 fun b H3 => if b = true then wi1 σ2 H3 fun J1 H4 =>
      ∃ W1 : Nat → Nat → Hp → Prop, (∃ m1, m1 < m ∧ W1 0 m1 H4) ∧ ∀ i1 m1 H, W1 i1 m1 H → (J1.stop i1 H ∧ ∃ m', m' ≤ m1 ∧ m' < m ∧ W (i + 1) m' H) ∨ (J1.go i1 H ∧ ∃ N1 : Hp → Prop, (∀ H', N1 H' → ∃ m', m' < m1 ∧ W1 (i1 + 1) m' H') ∧
        ∀ x1 H', J1.yld i1 H x1 H' → g1 x1 (wipe σ2 vs1) H' fun σ3 H5 => wipe σ3 vs1 = wipe σ2 vs1 ∧ tt1 σ3 H5 fun b1 H6 => if b1 = true then te σ3 H6 fun y H7 => ∃ b, y = .bl b ∧ if b = e then Q (.bl e) H7 else N1 H7 else N1 H6)
    else ∃ m', m' < m ∧ W (i + 1) m' H3)
theorem tTill2_step {e : Bool} {J : It} {wi1 : TI} {g g1 : TG} {tt tt1 : TT} {te : TE} {vs vs1 : List Nat} {σ : L2.St} {Q : VK} {W : Nat → Nat → Hp → Prop}
    (h : ∀ i m H, W i m H → (J.stop i H ∧ Q (.bl (!e)) H) ∨ (J.go i H ∧ ∀ x H', J.yld i H x H' → g x (wipe σ vs) H' fun σ2 H2 => wipe σ2 vs = wipe σ vs ∧ tt σ2 H2 fun b H3 => if b = true then wi1 σ2 H3 fun J1 H4 =>
      ∃ W1 : Nat → Nat → Hp → Prop, (∃ m1, m1 < m ∧ W1 0 m1 H4) ∧ ∀ i1 m1 H, W1 i1 m1 H → (J1.stop i1 H ∧ ∃ m', m' ≤ m1 ∧ m' < m ∧ W (i + 1) m' H) ∨ (J1.go i1 H ∧ ∃ N1 : Hp → Prop, (∀ H', N1 H' → ∃ m', m' < m1 ∧ W1 (i1 + 1) m' H') ∧
        ∀ x1 H', J1.yld i1 H x1 H' → g1 x1 (wipe σ2 vs1) H' fun σ3 H5 => wipe σ3 vs1 = wipe σ2 vs1 ∧ tt1 σ3 H5 fun b1 H6 => if b1 = true then te σ3 H6 fun y H7 => ∃ b, y = .bl b ∧ if b = e then Q (.bl e) H7 else N1 H7 else N1 H6)
    else ∃ m', m' < m ∧ W (i + 1) m' H3)) (hmono : ∀ σ2 H3 (R R' : It → Hp → Prop), (∀ J H, R J H → R' J H) → wi1 σ2 H3 R → wi1 σ2 H3 R')
    (gm : ∀ v σ H (R R' : L2.St → Hp → Prop), (∀ σ H, R σ H → R' σ H) → g v σ H R → g v σ H R') (tm : ∀ σ H (R R' : Bool → Hp → Prop), (∀ b H, R b H → R' b H) → tt σ H R → tt σ H R') :
    GStep2 (fun i m _ H => W i m H) J g tt wi1 g1 tt1 te vs vs1 (wipe σ vs) (eTill e fun b H => Q (.bl b) H) (fun _ H => Q (.bl (!e)) H) := fun i m ys H w => by
  rcases h i m H w with z | ⟨go, st⟩
  · exact .inl z
  · refine .inr ⟨go, fun x H' y => gm _ _ _ _ _ (fun σ2 H2 q => ⟨q.1, tm _ _ _ _ (fun b H3 q2 => ?_) q.2⟩) (st x H' y)⟩
    cases b with
    | false => exact q2
    | true =>
      refine hmono _ _ _ _ (fun J1 H4 q3 => ?_) q2
      obtain ⟨W1, ⟨m1, h1, w1⟩, st1⟩ := q3
      refine ⟨fun i m _ H => W1 i m H, ⟨m1, h1, w1⟩, fun i1 m2 ys2 H5 w2 => ?_⟩
      rcases st1 i1 m2 H5 w2 with z | ⟨go1, N1, hN, s1⟩
      · exact .inl z
      · exact .inr ⟨go1, fun _ H => N1 H, fun _ H' n => hN H' n, s1⟩
section
variable {c P : Addr} {elt tg iter tg1 iter1 : Expr} {ifs ifs1 : List Expr} {scope : Scope} {own : List (Str × Nat)} {vs1 : List Nat} {p pos gpos : Pos} {wi wi1 : TI} {g g1 : TG} {tt tt1 : TT} {te : TE} {k : Nat}
/-- the places where the second clause's iterator is made -/
abbrev GPI (X : Cx) (k : Nat) (scope : Scope) (tg e : Expr) (t : TI) : Prop := ∀ (s : Shared) (H : Hp) (C : Addr) (cl : List (Str × Addr)) (code : Value) (fp : List Addr) (A : Around), Room k A → PI (gcx X s H (genEnv scope cl C code builtinsNs X.env) fp A) tg e t
theorem pe_anyG2 (hr : Room (k + 1) X.A) (hn : X.N.Nodup) (hgl : Gl X "any") (hm : X.mg "any" = none) (TB : LamX.TabB X.base X.mg c P) (hcode : X.env.code = .ref c) (G : GScp scope) (ok : BlkOk X.N X.env.scope scope own) (hvs : ∀ v ∈ vs1, v ∈ own.map (·.2)) (hi : PI X tg iter wi)
    (hg : GPG X k scope tg g) (ht : GPT X k scope ifs tt) (hi1 : GPI X k scope tg1 iter1 wi1) (hg1 : GPG X k scope tg1 g1) (ht1 : GPT X k scope ifs1 tt1) (he : GPE X k scope elt te)
    (hmono : ∀ σ2 H3 (R R' : It → Hp → Prop), (∀ J H, R J H → R' J H) → wi1 σ2 H3 R → wi1 σ2 H3 R') (gm : ∀ v σ H (R R' : L2.St → Hp → Prop), (∀ σ H, R σ H → R' σ H) → g v σ H R → g v σ H R') (tm : ∀ σ H (R R' : Bool → Hp → Prop), (∀ b H, R b H → R' b H) → tt σ H R → tt σ H R')
    (hb : bootBuiltins "any" = some (.builtin "any") := by first | rfl | decide +kernel) (hs : ∀ v, genFold iter X.env v = pure v := by intro _; rfl) (hs1 : ∀ (C : Addr) (cl : List (Str × Addr)) (code : Value) x, foldedSetIterable iter1 (genEnv scope cl C code builtinsNs X.env) x = pure x := by intro _ _ _ _; rfl)
    (hst : starEach [.GeneratorExp elt [⟨tg, iter, ifs, 0⟩, ⟨tg1, iter1, ifs1, 0⟩] scope gpos] X.env = (false, eval (.GeneratorExp elt [⟨tg, iter, ifs, 0⟩, ⟨tg1, iter1, ifs1, 0⟩] scope gpos) X.env) :: starEach [] X.env := by rfl) :
    PE X (.Call (.Name "any" p) [.GeneratorExp elt [⟨tg, iter, ifs, 0⟩, ⟨tg1, iter1, ifs1, 0⟩] scope gpos] [] pos) (tTill2 true P wi g tt wi1 g1 tt1 te (own.map (·.2)) vs1) := by
  refine ⟨fun pins s σ H Q I h => ?_⟩
  refine wpAny_Call_Name_kw (ld_blt I hgl hm hb ?_)
  refine PyProof.Rows.callWith_builtin1 ?_ hst (by rfl)
  rw [hst]
  show wpAny _ _ (spliced ((false, eval (.GeneratorExp elt [⟨tg, iter, ifs, 0⟩, ⟨tg1, iter1, ifs1, 0⟩] scope gpos) X.env) :: backTo pos (starEach [] X.env))) _ _ s
  refine Calls.spliced_cons (gen_made (R := fun J H1 => _) hr TB hcode G ok hi hs I h fun J H1 H2 s4 cenv fp it tn a gn s5 q tb M => ?_)
  refine Calls.spliced_nil (call_anyP M.isg ?_)
  obtain ⟨W, ⟨m, w0⟩, st⟩ := q H2 tb
  obtain ⟨code, hce⟩ := M.env
  subst hce
  obtain ⟨O, rd⟩ := gen_rdy2 (B := X.A.in1.in1) (Sx := []) hr (nearA2 _) G ok hn hvs M (fun A r => hg _ _ _ _ _ _ A r) (fun A r => ht _ _ _ _ _ _ A r) (fun A r => hi1 _ _ _ _ _ _ A r) (hs1 _ _ _) (fun A r => hg1 _ _ _ _ _ _ A r) (fun A r => ht1 _ _ _ _ _ _ A r) (fun A r => he _ _ _ _ _ _ A r) (fun b z => by cases z) eTill_mono (tTill2_step st hmono gm tm) m w0
  refine any_loop1 (Qd := fun b H => Q (.bl b) H) (Y := mkY X s4 H2 _ fp X.A.in1.in1 (wipe σ (own.map (·.2))) (.GeneratorExp elt [⟨tg, iter, ifs, 0⟩, ⟨tg1, iter1, ifs1, 0⟩] scope gpos) it a gn [] (eTill true fun b H => Q (.bl b) H) (fun _ H => Q (.bl (!true)) H)) O rfl rfl rfl rfl hr.hd hr.depth (fun k ps σ' H' s1 s2 I' af q => ?_) m [] H2 _ s5 s5 rd (Aft.refl ?_) M.isg ?_ ?_
  · exact ⟨.bl k, H', GEx.out (Y := mkY X s4 H2 _ fp X.A.in1.in1 (wipe σ (own.map (·.2))) (.GeneratorExp elt [⟨tg, iter, ifs, 0⟩, ⟨tg1, iter1, ifs1, 0⟩] scope gpos) it a gn [] (eTill true fun b H => Q (.bl b) H) (fun _ H => Q (.bl (!true)) H)) M.inv (fun b hb => (M.fps b hb).1) I' af, rfl, q⟩
  · rw [M.gens]
    exact M.inv.bare.push rfl
  · show s5.gens[gn]? = _
    rw [M.gens, M.num]
    simp
  · exact M.inv.nolimit.keeps M.keep
end
end

/-! ### the forms one uses -/
def gscpB (sc : Scope) : Bool := !sc.isCoroutine && decide (sc.kind = .function) && (sc.names.all fun y => !decide (y.2 = .cell)) && decide (sc.names.lookup (".0" : Str) = some NameKind.local)
theorem gscp_by {sc : Scope} (h : gscpB sc = true) : GScp sc := by
  unfold gscpB at h
  simp only [Bool.and_eq_true, Bool.not_eq_true', decide_eq_true_eq, List.all_eq_true, decide_eq_false_iff_not] at h
  obtain ⟨⟨⟨h1, h2⟩, h3⟩, h4⟩ := h
  exact ⟨h1, h2, h3, h4⟩
section
variable {e : Bool} {K : PySem.W.Frag} {a : Addr} {xs : List V} {g : TG} {tt : TT} {te : TE} {vs : List Nat} {σ : L2.St} {H2 : Hp} {Q : VK}
/-- over a list that the element leaves as it is -/
theorem till_list (Pv : Nat → Hp → Prop) (h0 : Pv 0 H2) (hl : ∀ i H, i ≤ xs.length → Pv i H → SqL K H a xs)
    (hs : ∀ i x H, xs[i]? = some x → Pv i H → g x (wipe σ vs) H fun σ2 H2 => wipe σ2 vs = wipe σ vs ∧ tt σ2 H2 fun b H3 => if b = true then te σ2 H3 fun y H4 => ∃ b, y = .bl b ∧ if b = e then Q (.bl e) H4 else Pv (i + 1) H4 else Pv (i + 1) H3) (hd : ∀ H, Pv xs.length H → Q (.bl (!e)) H) :
    ∃ W : Nat → Nat → Hp → Prop, (∃ m, W 0 m H2) ∧ ∀ i m H, W i m H → ((Itl K a).stop i H ∧ Q (.bl (!e)) H) ∨ ((Itl K a).go i H ∧ ∃ Nx : Hp → Prop, (∀ H', Nx H' → ∃ m', m' < m ∧ W (i + 1) m' H') ∧
      ∀ x H', (Itl K a).yld i H x H' → g x (wipe σ vs) H' fun σ2 H2 => wipe σ2 vs = wipe σ vs ∧ tt σ2 H2 fun b H3 => if b = true then te σ2 H3 fun y H4 => ∃ b, y = .bl b ∧ if b = e then Q (.bl e) H4 else Nx H4 else Nx H3) := by
  refine ⟨fun i m H => m = xs.length - i ∧ i ≤ xs.length ∧ Pv i H, ⟨xs.length, by simp, Nat.zero_le _, h0⟩, fun i m H w => ?_⟩
  obtain ⟨hm, hi, p⟩ := w
  have q := hl i H hi p
  rcases Nat.lt_or_ge i xs.length with z | z
  · refine .inr ⟨⟨xs, xs[i], q, by simp [z]⟩, Pv (i + 1), fun H' p' => ⟨xs.length - (i + 1), by omega, rfl, z, p'⟩, fun x H' y => ?_⟩
    obtain ⟨rfl, y⟩ := y
    exact hs i x _ (y xs q) p
  · obtain rfl : i = xs.length := by omega
    exact .inl ⟨⟨xs, q, Nat.le_refl _⟩, hd H p⟩
/-- over a tuple -/
theorem till_tup (Pv : Nat → Hp → Prop) (h0 : Pv 0 H2) (hl : ∀ i H, i ≤ xs.length → Pv i H → SqT K H a xs)
    (hs : ∀ i x H, xs[i]? = some x → Pv i H → g x (wipe σ vs) H fun σ2 H2 => wipe σ2 vs = wipe σ vs ∧ tt σ2 H2 fun b H3 => if b = true then te σ2 H3 fun y H4 => ∃ b, y = .bl b ∧ if b = e then Q (.bl e) H4 else Pv (i + 1) H4 else Pv (i + 1) H3) (hd : ∀ H, Pv xs.length H → Q (.bl (!e)) H) :
    ∃ W : Nat → Nat → Hp → Prop, (∃ m, W 0 m H2) ∧ ∀ i m H, W i m H → ((Itt K a).stop i H ∧ Q (.bl (!e)) H) ∨ ((Itt K a).go i H ∧ ∃ Nx : Hp → Prop, (∀ H', Nx H' → ∃ m', m' < m ∧ W (i + 1) m' H') ∧
      ∀ x H', (Itt K a).yld i H x H' → g x (wipe σ vs) H' fun σ2 H2 => wipe σ2 vs = wipe σ vs ∧ tt σ2 H2 fun b H3 => if b = true then te σ2 H3 fun y H4 => ∃ b, y = .bl b ∧ if b = e then Q (.bl e) H4 else Nx H4 else Nx H3) := by
  refine ⟨fun i m H => m = xs.length - i ∧ i ≤ xs.length ∧ Pv i H, ⟨xs.length, by simp, Nat.zero_le _, h0⟩, fun i m H w => ?_⟩
  obtain ⟨hm, hi, p⟩ := w
  have q := hl i H hi p
  rcases Nat.lt_or_ge i xs.length with z | z
  · refine .inr ⟨⟨xs, xs[i], q, by simp [z]⟩, Pv (i + 1), fun H' p' => ⟨xs.length - (i + 1), by omega, rfl, z, p'⟩, fun x H' y => ?_⟩
    obtain ⟨rfl, y⟩ := y
    exact hs i x _ (y xs q) p
  · obtain rfl : i = xs.length := by omega
    exact .inl ⟨⟨xs, q, Nat.le_refl _⟩, hd H p⟩
/-- two clauses, both over lists: the outer one -/
def W2 (n ny : Nat) (Pv : Nat → Hp → Prop) (i m : Nat) (H : Hp) : Prop := i ≤ n ∧ m = (n - i) * (ny + 2) ∧ Pv i H
variable {wi1 : TI} {g1 : TG} {tt1 : TT} {vs1 : List Nat} {ny : Nat}
theorem till2_list (ny : Nat) (Pv : Nat → Hp → Prop) (h0 : Pv 0 H2) (hl : ∀ i H, i ≤ xs.length → Pv i H → SqL K H a xs)
    (hs : ∀ i x H, i < xs.length → xs[i]? = some x → Pv i H → g x (wipe σ vs) H fun σ2 H2 => wipe σ2 vs = wipe σ vs ∧ tt σ2 H2 fun b H3 => if b = true then wi1 σ2 H3 fun J1 H4 =>
      ∃ W1 : Nat → Nat → Hp → Prop, (∃ m1, m1 < (xs.length - i) * (ny + 2) ∧ W1 0 m1 H4) ∧ ∀ i1 m1 H, W1 i1 m1 H → (J1.stop i1 H ∧ ∃ m', m' ≤ m1 ∧ m' < (xs.length - i) * (ny + 2) ∧ W2 xs.length ny Pv (i + 1) m' H) ∨ (J1.go i1 H ∧ ∃ N1 : Hp → Prop, (∀ H', N1 H' → ∃ m', m' < m1 ∧ W1 (i1 + 1) m' H') ∧
        ∀ x1 H', J1.yld i1 H x1 H' → g1 x1 (wipe σ2 vs1) H' fun σ3 H5 => wipe σ3 vs1 = wipe σ2 vs1 ∧ tt1 σ3 H5 fun b1 H6 => if b1 = true then te σ3 H6 fun y H7 => ∃ b, y = .bl b ∧ if b = e then Q (.bl e) H7 else N1 H7 else N1 H6)
      else ∃ m', m' < (xs.length - i) * (ny + 2) ∧ W2 xs.length ny Pv (i + 1) m' H3) (hd : ∀ H, Pv xs.length H → Q (.bl (!e)) H) :
    ∃ W : Nat → Nat → Hp → Prop, (∃ m, W 0 m H2) ∧ ∀ i m H, W i m H → ((Itl K a).stop i H ∧ Q (.bl (!e)) H) ∨ ((Itl K a).go i H ∧ ∀ x H', (Itl K a).yld i H x H' → g x (wipe σ vs) H' fun σ2 H2 => wipe σ2 vs = wipe σ vs ∧ tt σ2 H2 fun b H3 => if b = true then wi1 σ2 H3 fun J1 H4 =>
      ∃ W1 : Nat → Nat → Hp → Prop, (∃ m1, m1 < m ∧ W1 0 m1 H4) ∧ ∀ i1 m1 H, W1 i1 m1 H → (J1.stop i1 H ∧ ∃ m', m' ≤ m1 ∧ m' < m ∧ W (i + 1) m' H) ∨ (J1.go i1 H ∧ ∃ N1 : Hp → Prop, (∀ H', N1 H' → ∃ m', m' < m1 ∧ W1 (i1 + 1) m' H') ∧
        ∀ x1 H', J1.yld i1 H x1 H' → g1 x1 (wipe σ2 vs1) H' fun σ3 H5 => wipe σ3 vs1 = wipe σ2 vs1 ∧ tt1 σ3 H5 fun b1 H6 => if b1 = true then te σ3 H6 fun y H7 => ∃ b, y = .bl b ∧ if b = e then Q (.bl e) H7 else N1 H7 else N1 H6)
    else ∃ m', m' < m ∧ W (i + 1) m' H3) := by
  refine ⟨W2 xs.length ny Pv, ⟨_, Nat.zero_le _, rfl, h0⟩, fun i m H w => ?_⟩
  obtain ⟨hi, hm, p⟩ := w
  subst hm
  have q := hl i H hi p
  rcases Nat.lt_or_ge i xs.length with z | z
  · refine .inr ⟨⟨xs, xs[i], q, by simp [z]⟩, fun x H' y => ?_⟩
    obtain ⟨rfl, y⟩ := y
    exact hs i x _ z (y xs q) p
  · obtain rfl : i = xs.length := by omega
    exact .inl ⟨⟨xs, q, Nat.le_refl _⟩, hd H p⟩
/-- .. the inner one -/
theorem till2_in {n i : Nat} {b : Addr} {ys : List V} {σ2 : L2.St} {H4 : Hp} {Pv : Nat → Hp → Prop} (hi : i < n) (Pw : Nat → Hp → Prop) (h0 : Pw 0 H4) (hl : ∀ j H, j ≤ ys.length → Pw j H → SqL K H b ys)
    (hs : ∀ j x H, ys[j]? = some x → Pw j H → g1 x (wipe σ2 vs1) H fun σ3 H5 => wipe σ3 vs1 = wipe σ2 vs1 ∧ tt1 σ3 H5 fun b1 H6 => if b1 = true then te σ3 H6 fun y H7 => ∃ b, y = .bl b ∧ if b = e then Q (.bl e) H7 else Pw (j + 1) H7 else Pw (j + 1) H6) (hd : ∀ H, Pw ys.length H → Pv (i + 1) H) :
    ∃ W1 : Nat → Nat → Hp → Prop, (∃ m1, m1 < (n - i) * (ys.length + 2) ∧ W1 0 m1 H4) ∧ ∀ i1 m1 H, W1 i1 m1 H → ((Itl K b).stop i1 H ∧ ∃ m', m' ≤ m1 ∧ m' < (n - i) * (ys.length + 2) ∧ W2 n ys.length Pv (i + 1) m' H) ∨ ((Itl K b).go i1 H ∧ ∃ N1 : Hp → Prop, (∀ H', N1 H' → ∃ m', m' < m1 ∧ W1 (i1 + 1) m' H') ∧
        ∀ x1 H', (Itl K b).yld i1 H x1 H' → g1 x1 (wipe σ2 vs1) H' fun σ3 H5 => wipe σ3 vs1 = wipe σ2 vs1 ∧ tt1 σ3 H5 fun b1 H6 => if b1 = true then te σ3 H6 fun y H7 => ∃ b, y = .bl b ∧ if b = e then Q (.bl e) H7 else N1 H7 else N1 H6) := by
  have e1 : (n - i) * (ys.length + 2) = (n - (i + 1)) * (ys.length + 2) + (ys.length + 2) := by
    rw [show n - i = (n - (i + 1)) + 1 by omega, Nat.add_mul, Nat.one_mul]
  refine ⟨fun j m1 H => j ≤ ys.length ∧ m1 = (n - (i + 1)) * (ys.length + 2) + (ys.length - j) + 1 ∧ Pw j H, ⟨_, ?_, Nat.zero_le _, rfl, h0⟩, fun j m1 H w => ?_⟩
  · rw [e1]; omega
  · obtain ⟨hj, hm, p⟩ := w
    have q := hl j H hj p
    rcases Nat.lt_or_ge j ys.length with z | z
    · refine .inr ⟨⟨ys, ys[j], q, by simp [z]⟩, Pw (j + 1), fun H' p' => ⟨_, ?_, z, rfl, p'⟩, fun x H' y => ?_⟩
      · rw [hm]; omega
      · obtain ⟨rfl, y⟩ := y
        exact hs j x _ (y ys q) p
    · obtain rfl : j = ys.length := by omega
      exact .inl ⟨⟨ys, q, Nat.le_refl _⟩, (n - (i + 1)) * (ys.length + 2), by omega, by rw [e1]; omega, hi, rfl, hd H p⟩
end
theorem tYes_mono : ∀ (σ : L2.St) (H : Hp) (R R' : Bool → Hp → Prop), (∀ b H, R b H → R' b H) → tYes σ H R → tYes σ H R' := fun _ _ _ _ h q => h _ _ q
theorem gName_mono {i : Nat} : ∀ (v : V) (σ : L2.St) (H : Hp) (R R' : L2.St → Hp → Prop), (∀ σ H, R σ H → R' σ H) → gName i v σ H R → gName i v σ H R' := fun _ _ _ _ _ h q => h _ _ q
theorem iListV_mono {K : PySem.W.Frag} {i : Nat} : ∀ (σ : L2.St) (H : Hp) (R R' : It → Hp → Prop), (∀ J H, R J H → R' J H) → iList K (tVar i) σ H R → iList K (tVar i) σ H R' := fun _ _ _ _ h ⟨v, e, a, ea, s, q⟩ => ⟨v, e, a, ea, s, h _ _ q⟩
theorem yes_if {σ : L2.St} {H : Hp} {A B : Hp → Prop} (h : A H) : tYes σ H (fun b H3 => if b = true then A H3 else B H3) := by
  show (if true = true then A H else B H)
  exact (if_pos rfl).mpr h
end Sk

set_option Elab.async false
set_option linter.all false
set_option maxRecDepth 100000
set_option maxHeartbeats 4000000
namespace Sk
open PySem PySem.Spec PyProof.Rows L2 GenW GxR
/-! min over a generator expression whose element may call own defs -/
/-- the least of some -/
def mins : List Int → Int
  | [] => 0
  | z :: zs => zs.foldl (fun b z => if z < b then z else b) z
theorem mins_app {zs : List Int} {z : Int} (h : zs ≠ []) : mins (zs ++ [z]) = if z < mins zs then z else mins zs := by
  cases zs with
  | nil => exact absurd rfl h
  | cons y ys =>
    show (ys ++ [z]).foldl _ y = _
    rw [List.foldl_append]
    rfl
theorem mins_spec : ∀ {zs : List Int}, zs ≠ [] → mins zs ∈ zs ∧ ∀ z ∈ zs, mins zs ≤ z := by
  have go : ∀ (ys : List Int) (y : Int), ((ys.foldl (fun b z => if z < b then z else b) y) = y ∨ (ys.foldl (fun b z => if z < b then z else b) y) ∈ ys) ∧ (ys.foldl (fun b z => if z < b then z else b) y) ≤ y ∧ ∀ z ∈ ys, (ys.foldl (fun b z => if z < b then z else b) y) ≤ z := by
    intro ys
    induction ys with
    | nil => intro y; exact ⟨.inl rfl, Int.le_refl _, fun _ h => nomatch h⟩
    | cons x ys ih =>
      intro y
      obtain ⟨a, b, c⟩ := ih (if x < y then x else y)
      show (ys.foldl _ (if x < y then x else y) = y ∨ ys.foldl _ (if x < y then x else y) ∈ x :: ys) ∧ ys.foldl _ (if x < y then x else y) ≤ y ∧ _
      refine ⟨?_, Int.le_trans b (by split <;> omega), fun z hz => ?_⟩
      · rcases a with a | a
        · rw [a]
          split
          · exact .inr List.mem_cons_self
          · exact .inl rfl
        · exact .inr (List.mem_cons_of_mem _ a)
      · rcases List.mem_cons.mp hz with rfl | hz
        · exact Int.le_trans b (by split <;> omega)
        · exact c z hz
  intro zs h
  cases zs with
  | nil => exact absurd rfl h
  | cons y ys =>
    obtain ⟨a, b, c⟩ := go ys y
    refine ⟨?_, fun z hz => ?_⟩
    · rcases a with a | a
      · show ys.foldl _ y ∈ _
        rw [a]; exact List.mem_cons_self
      · exact List.mem_cons_of_mem _ a
    · rcases List.mem_cons.mp hz with rfl | hz
      · exact b
      · exact c z hz
/-- every value is a number -/
def eInt : Eats := fun _ y _ go => (∃ z, y = .int z) ∧ go
theorem eInt_mono : EatsMono eInt := fun _ _ _ _ _ f h => ⟨h.1, f h.2⟩
theorem int_inj {xs ys : List Int} (h : xs.map V.int = ys.map V.int) : xs = ys := (List.map_inj_right (fun a b e => V.int.inj e)).mp h
section
variable {Y : GEx} {σ : L2.St} {H : Hp} {s s0 s1 : Shared}
/-- the frame's state goes past what the consumer did -/
theorem GEx.Ok.past (O : Y.Ok) (I : Inv Y.Xg (Y.pn s0) σ H s) (there : ∀ b ∈ Y.a :: Y.Sx, ∃ o, s0.heap.get? b = some o) (A : Aft Y.Sx s s1) : Inv Y.Xg [] σ H s1 := by
  have hT : ∀ b ∈ Y.a :: Y.Sx, H b = none := fun b hb => by
    obtain ⟨o, e⟩ := there b hb
    exact (O.pinned I hb e).2
  have I0 : Inv Y.Xg [] σ H s := I.pins_of fun p hp => absurd (show p ∈ ([] : List (Addr × Obj)) ++ [] from hp) (by simp)
  have nt : ∀ b u, H b = some u → b ∉ Y.Sx := fun b u q hb => by rw [hT b (List.mem_cons_of_mem _ hb)] at q; cases q
  obtain ⟨z1, z2, z3, z4⟩ := A
  obtain ⟨hh, g', d, t, o⟩ := s1
  have ho : o = s.os := z1
  subst ho
  refine I0.step (h' := hh) (g' := g') (t' := t) (d' := d) (ch := Y.Sx) (fun b hb => ?_) (fun b ob _ _ hc q _ => z3 b ob hc q) (fun b ob _ _ hc q _ => ⟨ob.slots, z3 b ob hc q⟩)
      (fun _ _ _ _ n => n) (fun b ob hc q => ⟨ob, z3 b ob hc q⟩) (fun _ _ q => q) (fun _ _ _ q => q) (fun b ps q => ⟨#[], by rw [q]; simp⟩) (fun m hm => ?_) (fun b u q => ?_) z2
  · have h1 := O.new b (List.mem_cons_of_mem _ hb)
    refine ⟨.inr (Nat.le_of_lt h1), fun z => ?_, fun y c e z => ?_, fun p hp => absurd (show p ∈ ([] : List (Addr × Obj)) ++ [] from hp) (by simp)⟩
    · have z : b = Y.cenv.locals := z
      rw [z, O.loc] at h1
      exact Nat.lt_irrefl _ h1
    · have h2 := O.cel y c e
      rw [z] at h2
      exact Nat.lt_irrefl _ (Nat.lt_trans h1 h2)
  · obtain ⟨ob, es, ep, ho, r⟩ := hm
    refine ⟨ob, es, ep, z3 _ ob (fun hb => ?_) ho, r⟩
    have h1 := O.new _ (List.mem_cons_of_mem _ hb)
    have h1 : Y.s4.heap.objs.size < Y.cenv.locals := h1
    rw [O.loc] at h1
    exact Nat.lt_irrefl _ h1
  · refine (I0.hok b u q).stay (fun c v hc y => z3 c v ?_ y) (fun _ y => y) fun _ _ y => y
    rcases hc with y | y
    · rw [y]; exact nt b u q
    · exact nt c _ y
end
abbrev bestL (vs : Array Value) (c : Nat) : Obj := { cls := .type "list", dict := none, data := .seq vs c, slots := #[] }
section
variable {Y : GEx} {A : Around} {R : Result → Shared → Prop} {Qd : Int → Hp → Prop} {S : Addr}
theorem aft_put {s1 s2 : Shared} {x y : Array Value} {c : Nat} (hos : s2.os = s1.os) (hb : AllBare s2.gens) (e : s1.heap.get? S = some (bestL x c)) (hh : s2.heap = s1.heap.update S (Obj.mapSeq fun _ => y)) : Aft [S] s1 s2 := by
  refine ⟨hos, hb, fun b o n e' => ?_, fun b hb => ?_⟩
  · rw [hh]
    exact (Heap.get?_update_other _ _ (fun h : S = b => n (by rw [h]; exact List.mem_singleton.mpr rfl))).trans e'
  · rw [List.mem_singleton.mp hb, hh, Heap.get?_update_self _ e rfl]
    exact ⟨_, rfl, fun v z => by cases z⟩
theorem aft_id {s1 s2 : Shared} {x : Array Value} {c : Nat} (hos : s2.os = s1.os) (hb : AllBare s2.gens) (e : s1.heap.get? S = some (bestL x c)) (hh : s2.heap = s1.heap) : Aft [S] s1 s2 := by
  refine ⟨hos, hb, fun b o n e' => by rw [hh]; exact e', fun b hb => ?_⟩
  rw [List.mem_singleton.mp hb, hh, e]
  exact ⟨_, rfl, fun v z => by cases z⟩
theorem min_loop1 (O : Y.Ok) (hB : Y.B = A.in1.in1) (hS : Y.Sx = [S]) (hC : Y.C = eInt) (hF : Y.F = fun ys H => ∃ zs, ys = zs.map V.int ∧ zs ≠ [] ∧ Qd (mins zs) H) (hh : A.handled = none) (hroom : A.depth < recursionLimit)
    (hR : ∀ k t σ' H' s1, Inv Y.Xg [] σ' H' s1 → Qd k H' → R (.ok (.ret (.int k t))) s1) : ∀ (n : Nat) (zs : List Int) (H : Hp) (gs : GenState) (sp s : Shared) (t : Tok) (c : Nat), zs ≠ [] → Y.Rdy n (zs.map V.int) H gs sp → Aft Y.Sx sp s → s.heap.IsGen Y.a Y.g → s.gens[Y.g]? = some gs → s.heap.NoLimit →
      s.heap.get? S = some (bestL #[.int (mins zs) t, .int (mins zs) t] c) → codeAny Y.M A (.builtin "min.loop" ⟨[.ref Y.a, .none, .ref S], []⟩) R s := by
  have hname : (toString "min" ++ toString ".loop" : String) = "min.loop" := by decide
  have hSm : S ∈ Y.a :: Y.Sx := by rw [hS]; simp
  have main : ∀ (n : Nat) (zs : List Int) (H : Hp) (gs : GenState) (sp s : Shared) (t : Tok) (c : Nat), zs ≠ [] → Y.Rdy n (zs.map V.int) H gs sp → Aft Y.Sx sp s → s.heap.IsGen Y.a Y.g → s.gens[Y.g]? = some gs → s.heap.NoLimit →
      s.heap.get? S = some (bestL #[.int (mins zs) t, .int (mins zs) t] c) →
      (∀ (zs' : List Int) (H' : Hp) (gs' : GenState) (sp' s' : Shared) (t' : Tok) (c' : Nat), zs' ≠ [] → Y.Rp n (zs'.map V.int) H' gs' sp' → Aft Y.Sx sp' s' → s'.heap.IsGen Y.a Y.g → s'.gens[Y.g]? = some gs' → s'.heap.NoLimit →
        s'.heap.get? S = some (bestL #[.int (mins zs') t', .int (mins zs') t'] c') → codeAny Y.M A (.builtin "min.loop" ⟨[.ref Y.a, .none, .ref S], []⟩) R s') → codeAny Y.M A (.builtin "min.loop" ⟨[.ref Y.a, .none, .ref S], []⟩) R s := by
    intro n zs H gs sp s t c hne rd af hg hgs nl hSo ih
    have there : ∀ b ∈ Y.a :: Y.Sx, ∃ o, s.heap.get? b = some o := fun b hb => by
      rcases List.mem_cons.mp hb with z | z
      · obtain ⟨o, n1, n2, e, r⟩ := hg
        exact ⟨o, by rw [z]; exact e⟩
      · rw [hS] at z
        exact ⟨_, by rw [List.mem_singleton.mp z]; exact hSo⟩
    refine codeAny_builtin F.entry_min_loop ?_
    rw [Around.under_plainId F.plain_min_loop _]
    show wpAny _ A.in1 (seqItems? (.ref S) >>= _) _ _ s
    refine wpAny_bind (wpAny_seqItems hSo rfl ?_)
    show wpAny _ A.in1 (tryCatch (pyNext (.ref Y.a)) _ >>= _) _ _ s
    refine wpAny_bind (wpAny_tryCatch (GEx.next O hB hh hroom nl rd af hg hgs (Array.getElem?_eq_some_iff.mp hgs).1 (fun σ' H' s1 s2 I f a => ?_) fun v y σ' H' s1 gs' I r cc hb hsz => ?_))
    · rw [hF] at f
      obtain ⟨zs', ez, _, f⟩ := f
      obtain rfl := int_inj ez
      have e1 := (O.pinned I hSm hSo).1
      have e2 := a.keep _ _ (by simp) e1
      show wpAny _ A.in1 (updateSeq S (fun _ => #[]) >>= _) _ _ _
      refine wpAny_bind ?_
      refine wpAny_updateSeq e2 rfl (wpAny_bind (wpAny_letGo (wpAny_pure ?_)))
      refine hR _ t σ' H' _ (O.past I there ?_) f
      rw [hS]
      refine ⟨a.os, a.bare, fun b o n e' => ?_, fun b hb => ?_⟩
      · exact (Heap.get?_update_other _ _ (fun h : S = b => n (by rw [h]; exact List.mem_singleton.mpr rfl))).trans (a.keep _ _ (by simp) e')
      · rw [List.mem_singleton.mp hb]
        exact ⟨_, Heap.get?_update_self _ e2 rfl, fun v z => by cases z⟩
    · rw [hC] at cc
      obtain ⟨⟨z, rfl⟩, cc⟩ := cc
      obtain ⟨t', rfl⟩ : ∃ t', v = .int z t' := r
      have e1 := (O.pinned I hSm hSo).1
      have e2 : (s1.setGen Y.g gs').heap.get? S = _ := e1
      rw [show zs.map V.int ++ [V.int z] = (zs ++ [z]).map V.int by rw [List.map_append]; rfl] at cc
      have hg1 : (s1.setGen Y.g gs').heap.IsGen Y.a Y.g := by
        obtain ⟨o, n1, n2, e, r⟩ := hg
        exact ⟨o, n1, n2, (O.pinned I List.mem_cons_self e).1, r⟩
      have hgs1 := setGen_at (x := gs') (Nat.lt_of_lt_of_le (Array.getElem?_eq_some_iff.mp hgs).1 hsz)
      have hna : S ≠ Y.a := fun z => O.aS (by rw [← z, hS]; simp)
      show wpAny _ A.in1 (tryCatch (holding [.int z t', .int z t'] (richCompare .Lt (.int z t') (.int (mins zs) t) >>= _)) _ >>= _) _ _ _
      refine wpAny_bind (wpAny_tryCatch (wpAny_holding (wpAny_bind (CmpOf.ints_lt (P := fun j v => ∃ t, v = .int (if j = 0 then z else mins zs) t) (fun j => if j = 0 then z else mins zs) (fun j v h => h) 0 1 _ _ _ _ _ ⟨t', rfl⟩ ⟨t, rfl⟩ ?_))))
      refine wpAny_bind (wpAny_holding (wpAny_truthy_bool ?_))
      refine wpAny_bind (wpAny_letGo (wpAny_pure ?_))
      have em := mins_app (z := z) hne
      show wpAny _ A.in1 (if decide (z < mins zs) = true then _ else _) _ _ _
      by_cases hlt : z < mins zs
      · rw [if_pos (decide_eq_true hlt)]
        rw [if_pos hlt] at em
        refine wpAny_bind ?_
        refine wpAny_updateSeq e2 rfl (wpAny_bind (wpAny_letGo ?_))
        rw [hname]
        refine wpAny_pure ⟨plainId_quiet F.plain_min_loop _, ih (zs ++ [z]) H' gs' s1 _ t' c (by simp) cc ?_ ?_ hgs1 ?_ ?_⟩
        · rw [hS]
          exact aft_put (s2 := { (s1.setGen Y.g gs') with heap := s1.heap.update S (Obj.mapSeq fun _ => #[Value.int z t', Value.int z t']) }) rfl (allBare_setGen I.bare hb) e1 rfl
        · obtain ⟨o, n1, n2, e, r⟩ := hg1
          exact ⟨o, n1, n2, (Heap.get?_update_other _ _ hna).trans e, r⟩
        · exact (O.past (s1 := { (s1.setGen Y.g gs') with heap := s1.heap.update S (Obj.mapSeq fun _ => #[Value.int z t', Value.int z t']) }) I there (by rw [hS]; exact aft_put rfl (allBare_setGen I.bare hb) e1 rfl)).nolimit
        · rw [em]
          exact Heap.get?_update_self _ e2 rfl
      · rw [if_neg (by rw [decide_eq_false hlt]; exact Bool.false_ne_true)]
        rw [if_neg hlt] at em
        refine wpAny_bind (wpAny_letGo ?_)
        rw [hname]
        refine wpAny_pure ⟨plainId_quiet F.plain_min_loop _, ih (zs ++ [z]) H' gs' s1 _ t c (by simp) cc ?_ hg1 hgs1 I.nolimit ?_⟩
        · rw [hS]
          exact aft_id rfl (allBare_setGen I.bare hb) e1 rfl
        · rw [em]
          exact e2
  intro n
  induction n with
  | zero =>
    intro zs H gs sp s t c hne rd af hg hgs nl hSo
    exact main 0 zs H gs sp s t c hne rd af hg hgs nl hSo fun _ _ _ _ _ _ _ _ q => (show False from q).elim
  | succ n ih =>
    intro zs H gs sp s t c hne rd af hg hgs nl hSo
    exact main (n + 1) zs H gs sp s t c hne rd af hg hgs nl hSo fun zs' H' gs' sp' s' t' c' a1 a2 a3 a4 a5 a6 a7 => ih zs' H' gs' sp' s' t' c' a1 a2 a3 a4 a5 a6 a7
/-- .. from the start -/
theorem min_first (O : Y.Ok) (hB : Y.B = A.in1.in1) (hS : Y.Sx = [S]) (hC : Y.C = eInt) (hF : Y.F = fun ys H => ∃ zs, ys = zs.map V.int ∧ zs ≠ [] ∧ Qd (mins zs) H) (hh : A.handled = none) (hroom : A.depth < recursionLimit)
    (hR : ∀ k t σ' H' s1, Inv Y.Xg [] σ' H' s1 → Qd k H' → R (.ok (.ret (.int k t))) s1) (n : Nat) (H : Hp) (gs : GenState) (sp s : Shared) (c : Nat) (rd : Y.Rdy n [] H gs sp) (af : Aft Y.Sx sp s) (hg : s.heap.IsGen Y.a Y.g) (hgs : s.gens[Y.g]? = some gs) (nl : s.heap.NoLimit)
    (hSo : s.heap.get? S = some (bestL #[] c)) : codeAny Y.M A (.builtin "min.loop" ⟨[.ref Y.a, .none, .ref S], []⟩) R s := by
  have hname : (toString "min" ++ toString ".loop" : String) = "min.loop" := by decide
  have hSm : S ∈ Y.a :: Y.Sx := by rw [hS]; simp
  have there : ∀ b ∈ Y.a :: Y.Sx, ∃ o, s.heap.get? b = some o := fun b hb => by
    rcases List.mem_cons.mp hb with z | z
    · obtain ⟨o, n1, n2, e, r⟩ := hg
      exact ⟨o, by rw [z]; exact e⟩
    · rw [hS] at z
      exact ⟨_, by rw [List.mem_singleton.mp z]; exact hSo⟩
  refine codeAny_builtin F.entry_min_loop ?_
  rw [Around.under_plainId F.plain_min_loop _]
  show wpAny _ A.in1 (seqItems? (.ref S) >>= _) _ _ s
  refine wpAny_bind (wpAny_seqItems hSo rfl ?_)
  show wpAny _ A.in1 (tryCatch (pyNext (.ref Y.a)) _ >>= _) _ _ s
  refine wpAny_bind (wpAny_tryCatch (GEx.next O hB hh hroom nl rd af hg hgs (Array.getElem?_eq_some_iff.mp hgs).1 (fun σ' H' s1 s2 I f a => ?_) fun v y σ' H' s1 gs' I r cc hb hsz => ?_))
  · rw [hF] at f
    obtain ⟨zs', ez, ne, f⟩ := f
    cases zs' with
    | nil => exact absurd rfl ne
    | cons u us => cases ez
  · rw [hC] at cc
    obtain ⟨⟨z, rfl⟩, cc⟩ := cc
    obtain ⟨t', rfl⟩ : ∃ t', v = .int z t' := r
    have e1 := (O.pinned I hSm hSo).1
    have e2 : (s1.setGen Y.g gs').heap.get? S = _ := e1
    have hg1 : (s1.setGen Y.g gs').heap.IsGen Y.a Y.g := by
      obtain ⟨o, n1, n2, e, r⟩ := hg
      exact ⟨o, n1, n2, (O.pinned I List.mem_cons_self e).1, r⟩
    have hgs1 := setGen_at (x := gs') (Nat.lt_of_lt_of_le (Array.getElem?_eq_some_iff.mp hgs).1 hsz)
    have hna : S ≠ Y.a := fun z => O.aS (by rw [← z, hS]; simp)
    have put : Aft [S] s1 { (s1.setGen Y.g gs') with heap := s1.heap.update S (Obj.mapSeq fun _ => #[Value.int z t', Value.int z t']) } := aft_put rfl (allBare_setGen I.bare hb) e1 rfl
    show wpAny _ A.in1 (updateSeq S (fun _ => #[.int z t', .int z t']) >>= _) _ _ _
    refine wpAny_bind ?_
    refine wpAny_updateSeq e2 rfl ?_
    rw [hname]
    cases n with
    | zero => exact (show False from cc).elim
    | succ n =>
      refine wpAny_pure ⟨plainId_quiet F.plain_min_loop _, min_loop1 O hB hS hC hF hh hroom hR n [z] H' gs' s1 _ t' (c + 1) (by simp) cc (by rw [hS]; exact put) ?_ hgs1 (O.past I there (by rw [hS]; exact put)).nolimit ?_⟩
      · obtain ⟨o, n1, n2, e, r⟩ := hg1
        exact ⟨o, n1, n2, (Heap.get?_update_other _ _ hna).trans e, r⟩
      · have e3 := Heap.get?_update_self (Obj.mapSeq fun _ => #[Value.int z t', Value.int z t']) e2 rfl
        exact e3
end
section
variable {X : Cx}
theorem call_minP {P : Program} {w : World} {A : Around} {Q : Value → Shared → Prop} {E : Value → Shared → Prop} {s : Shared} {a g : Addr} (hg : s.heap.IsGen a g)
    (h : codeAny (model P w) A (.builtin "min.loop" ⟨[.ref a, .none, .ref s.heap.objs.size], []⟩) (RetQ Q E) { s with heap := s.heap.push (bestL #[] 0) }) : wpAny (model P w) A (call (.builtin "min") [.ref a]) Q E s := by
  have hname : (toString "min" ++ toString ".loop" : String) = "min.loop" := by decide
  refine call_function_tree F.kind_min F.plain_min F.entry_min (F.args_min1 _) ?_
  show wpAny _ A.in1 (Builtin.Builtins.bindParams "min" ["key", "default"] 0 ⟨[], []⟩ >>= _) _ _ s
  refine wpAny_bind (wpAny_of_eq (show Builtin.Builtins.bindParams "min" ["key", "default"] 0 ⟨[], []⟩ = pure [none, none] from rfl) ?_)
  refine wpAny_bind (wpAny_pure ?_)
  refine wpAny_bind (wpAny_pyIter_gen hg ?_)
  refine wpAny_bind (wpAny_newObj_type ?_)
  rw [hname]
  exact wpAny_pure ⟨plainId_quiet F.plain_min_loop _, h⟩
/-- one more value is out -/
def MN (Nx : List Int → Hp → Prop) (zs : List Int) (y : V) (H : Hp) : Prop := (∃ z, y = .int z) ∧ ∃ zs', zs.map V.int ++ [y] = zs'.map V.int ∧ Nx zs' H
theorem MN.of {Nx : List Int → Hp → Prop} {zs : List Int} {z : Int} {H : Hp} (h : Nx (zs ++ [z]) H) : MN Nx zs (.int z) H := ⟨⟨z, rfl⟩, zs ++ [z], by rw [List.map_append]; rfl, h⟩
def MZ (Nx : List Int → Hp → Prop) (zs : List Int) (H : Hp) : Prop := ∃ zs', zs.map V.int = zs'.map V.int ∧ Nx zs' H
/-- min of elt for target in iter if ..; W carries what is out so far -/
def tMinG (P : Addr) (wi : TI) (g : TG) (tt : TT) (te : TE) (vs : List Nat) : TE := fun σ H Q => wi σ H fun J H1 => TabG H1 P ∧ ∀ H2, Tabbed P H1 H2 →
  ∃ W : Nat → Nat → List Int → Hp → Prop, (∃ m, W 0 m [] H2) ∧ ∀ i m zs H, W i m zs H → (J.stop i H ∧ zs ≠ [] ∧ Q (.int (mins zs)) H) ∨ (J.go i H ∧ ∃ Nx : List Int → Hp → Prop, (∀ zs' H', Nx zs' H' → ∃ m', m' < m ∧ W (i + 1) m' zs' H') ∧
    ∀ x H', J.yld i H x H' → g x (wipe σ vs) H' fun σ2 H2 => wipe σ2 vs = wipe σ vs ∧ tt σ2 H2 fun b H3 => if b = true then te σ2 H3 fun y H4 => MN Nx zs y H4 else MZ Nx zs H3)
theorem tMinG_step {J : It} {g : TG} {tt : TT} {te : TE} {vs : List Nat} {σ : L2.St} {Q : VK} {W : Nat → Nat → List Int → Hp → Prop}
    (h : ∀ i m zs H, W i m zs H → (J.stop i H ∧ zs ≠ [] ∧ Q (.int (mins zs)) H) ∨ (J.go i H ∧ ∃ Nx : List Int → Hp → Prop, (∀ zs' H', Nx zs' H' → ∃ m', m' < m ∧ W (i + 1) m' zs' H') ∧
      ∀ x H', J.yld i H x H' → g x (wipe σ vs) H' fun σ2 H2 => wipe σ2 vs = wipe σ vs ∧ tt σ2 H2 fun b H3 => if b = true then te σ2 H3 fun y H4 => MN Nx zs y H4 else MZ Nx zs H3)) :
    GStep (fun i m ys H => ∃ zs, ys = zs.map V.int ∧ W i m zs H) J g tt te vs (wipe σ vs) eInt (fun ys H => ∃ zs, ys = zs.map V.int ∧ zs ≠ [] ∧ Q (.int (mins zs)) H) := fun i m ys H ⟨zs, ey, w⟩ => by
  subst ey
  rcases h i m zs H w with ⟨z1, z2, z3⟩ | ⟨go, Nx, hN, st⟩
  · exact .inl ⟨z1, zs, rfl, z2, z3⟩
  · exact .inr ⟨go, fun ys H => ∃ zs, ys = zs.map V.int ∧ Nx zs H, fun ys' H' ⟨zs', e', nx⟩ => by
      obtain ⟨m', h1, h2⟩ := hN zs' H' nx
      exact ⟨m', h1, zs', e', h2⟩, st⟩
section
variable {c P : Addr} {elt tg iter : Expr} {ifs : List Expr} {scope : Scope} {own : List (Str × Nat)} {p pos gpos : Pos} {wi : TI} {g : TG} {tt : TT} {te : TE} {k : Nat}
theorem pe_minG (hr : Room (k + 1) X.A) (hn : X.N.Nodup) (hgl : Gl X "min") (hm : X.mg "min" = none) (TB : LamX.TabB X.base X.mg c P) (hcode : X.env.code = .ref c) (G : GScp scope) (ok : BlkOk X.N X.env.scope scope own) (hi : PI X tg iter wi)
    (hg : GPG X k scope tg g) (ht : GPT X k scope ifs tt) (he : GPE X k scope elt te)
    (hb : bootBuiltins "min" = some (.builtin "min") := by first | rfl | decide +kernel) (hs : ∀ v, genFold iter X.env v = pure v := by intro _; rfl)
    (hst : starEach [.GeneratorExp elt [⟨tg, iter, ifs, 0⟩] scope gpos] X.env = (false, eval (.GeneratorExp elt [⟨tg, iter, ifs, 0⟩] scope gpos) X.env) :: starEach [] X.env := by rfl) :
    PE X (.Call (.Name "min" p) [.GeneratorExp elt [⟨tg, iter, ifs, 0⟩] scope gpos] [] pos) (tMinG P wi g tt te (own.map (·.2))) := by
  refine ⟨fun pins s σ H Q I h => ?_⟩
  refine wpAny_Call_Name_kw (ld_blt I hgl hm hb ?_)
  refine PyProof.Rows.callWith_builtin1 ?_ hst (by rfl)
  rw [hst]
  show wpAny _ _ (spliced ((false, eval (.GeneratorExp elt [⟨tg, iter, ifs, 0⟩] scope gpos) X.env) :: backTo pos (starEach [] X.env))) _ _ s
  refine Calls.spliced_cons (gen_made (R := fun J H1 => _) hr TB hcode G ok hi hs I h fun J H1 H2 s4 cenv fp it tn a gn s5 q tb M => ?_)
  refine Calls.spliced_nil (call_minP M.isg ?_)
  obtain ⟨W, ⟨m, w0⟩, st⟩ := q H2 tb
  obtain ⟨code, hce⟩ := M.env
  subst hce
  have hlt : a < s5.heap.objs.size := by rw [M.lt]; exact Nat.lt_succ_self a
  obtain ⟨O, rd⟩ := gen_rdy (B := X.A.in1.in1) (Sx := [s5.heap.objs.size]) hr (nearA2 _) G ok hn M (fun A r => hg _ _ _ _ _ _ A r) (fun A r => ht _ _ _ _ _ _ A r) (fun A r => he _ _ _ _ _ _ A r) (fun b z => by rw [List.mem_singleton.mp z]; exact hlt) eInt_mono (tMinG_step st) m ⟨[], rfl, w0⟩
  have hpush : ∀ b o, s5.heap.get? b = some o → (s5.heap.push (bestL #[] 0)).get? b = some o := fun b o e => Heap.get?_push_of_some _ e
  refine min_first (Qd := fun k H => Q (.int k) H) (S := s5.heap.objs.size) (Y := mkY X s4 H2 _ fp X.A.in1.in1 (wipe σ (own.map (·.2))) (.GeneratorExp elt [⟨tg, iter, ifs, 0⟩] scope gpos) it a gn [s5.heap.objs.size] eInt (fun ys H => ∃ zs, ys = zs.map V.int ∧ zs ≠ [] ∧ Q (.int (mins zs)) H)) O rfl rfl rfl rfl hr.hd hr.depth (fun k t σ' H' s1 I' q => ?_) m H2 _ s5 _ 0 rd ?_ ?_ ?_ ?_ (Heap.get?_push_size _ rfl)
  · exact ⟨.int k, H', GEx.out (Y := mkY X s4 H2 _ fp X.A.in1.in1 (wipe σ (own.map (·.2))) (.GeneratorExp elt [⟨tg, iter, ifs, 0⟩] scope gpos) it a gn [s5.heap.objs.size] eInt (fun ys H => ∃ zs, ys = zs.map V.int ∧ zs ≠ [] ∧ Q (.int (mins zs)) H)) M.inv (fun b hb => (M.fps b hb).1) I' (Aft.refl I'.bare), ⟨t, rfl⟩, q⟩
  · refine ⟨rfl, ?_, fun b o _ e => hpush b o e, fun b hb => ?_⟩
    · show AllBare s5.gens
      rw [M.gens]
      exact M.inv.bare.push rfl
    · rw [List.mem_singleton.mp hb]
      exact ⟨_, Heap.get?_push_size _ rfl, fun v z => by cases z⟩
  · obtain ⟨o, n1, n2, e, r⟩ := M.isg
    exact ⟨o, n1, n2, hpush _ _ e, r⟩
  · show s5.gens[gn]? = _
    rw [M.gens, M.num]
    simp
  · exact (M.inv.nolimit.keeps M.keep).push _
end
end
section
variable {K : PySem.W.Frag} {a : Addr} {xs : List V} {g : TG} {tt : TT} {te : TE} {vs : List Nat} {σ : L2.St} {H2 : Hp} {Q : VK}
/-- over a list that the element leaves as it is -/
theorem min_list (Pv : Nat → List Int → Hp → Prop) (h0 : Pv 0 [] H2) (hl : ∀ i zs H, i ≤ xs.length → Pv i zs H → SqL K H a xs)
    (hs : ∀ i zs x H, xs[i]? = some x → Pv i zs H → g x (wipe σ vs) H fun σ2 H2 => wipe σ2 vs = wipe σ vs ∧ tt σ2 H2 fun b H3 => if b = true then te σ2 H3 fun y H4 => MN (Pv (i + 1)) zs y H4 else MZ (Pv (i + 1)) zs H3) (hd : ∀ zs H, Pv xs.length zs H → zs ≠ [] ∧ Q (.int (mins zs)) H) :
    ∃ W : Nat → Nat → List Int → Hp → Prop, (∃ m, W 0 m [] H2) ∧ ∀ i m zs H, W i m zs H → ((Itl K a).stop i H ∧ zs ≠ [] ∧ Q (.int (mins zs)) H) ∨ ((Itl K a).go i H ∧ ∃ Nx : List Int → Hp → Prop, (∀ zs' H', Nx zs' H' → ∃ m', m' < m ∧ W (i + 1) m' zs' H') ∧
      ∀ x H', (Itl K a).yld i H x H' → g x (wipe σ vs) H' fun σ2 H2 => wipe σ2 vs = wipe σ vs ∧ tt σ2 H2 fun b H3 => if b = true then te σ2 H3 fun y H4 => MN Nx zs y H4 else MZ Nx zs H3) := by
  refine ⟨fun i m zs H => m = xs.length - i ∧ i ≤ xs.length ∧ Pv i zs H, ⟨xs.length, by simp, Nat.zero_le _, h0⟩, fun i m zs H w => ?_⟩
  obtain ⟨hm, hi, p⟩ := w
  have q := hl i zs H hi p
  rcases Nat.lt_or_ge i xs.length with z | z
  · refine .inr ⟨⟨xs, xs[i], q, by simp [z]⟩, Pv (i + 1), fun zs' H' p' => ⟨xs.length - (i + 1), by omega, rfl, z, p'⟩, fun x H' y => ?_⟩
    obtain ⟨rfl, y⟩ := y
    exact hs i zs x _ (y xs q) p
  · obtain rfl : i = xs.length := by omega
    exact .inl ⟨⟨xs, q, Nat.le_refl _⟩, hd zs H p⟩
end
end Sk

set_option Elab.async false
set_option linter.all false
set_option maxRecDepth 100000
set_option maxHeartbeats 4000000
namespace Sk
open PySem PySem.Spec PyProof.Rows L2 GenW GxR
/-! sum over a generator expression whose element may call own defs (numbers whose sums fit 64 bits) -/
def sums (zs : List Int) : Int := zs.foldl (fun a b => a + b) 0
theorem sums_app (zs : List Int) (z : Int) : sums (zs ++ [z]) = sums zs + z := by
  unfold sums
  rw [List.foldl_append]
  rfl
/-- every value is a number, and the sum so far fits -/
def eSum : Eats := fun ys y _ go => (∃ z, y = .int z ∧ ∀ zs : List Int, ys = zs.map V.int → InLong z ∧ InLong (sums zs + z)) ∧ go
theorem eSum_mono : EatsMono eSum := fun _ _ _ _ _ f h => ⟨h.1, f h.2⟩
section
variable {Y : GEx} {A : Around} {R : Result → Shared → Prop} {Qd : Int → Hp → Prop} {S : Addr}
theorem sum_loop1 (O : Y.Ok) (hB : Y.B = A.in1.in1) (hS : Y.Sx = [S]) (hC : Y.C = eSum) (hF : Y.F = fun ys H => ∃ zs, ys = zs.map V.int ∧ Qd (sums zs) H) (hh : A.handled = none) (hroom : A.depth < recursionLimit)
    (hR : ∀ k t σ' H' s1, Inv Y.Xg [] σ' H' s1 → Qd k H' → R (.ok (.ret (.int k t))) s1) : ∀ (n : Nat) (zs : List Int) (H : Hp) (gs : GenState) (sp s : Shared) (t : Tok) (c : Nat), Y.Rdy n (zs.map V.int) H gs sp → Aft Y.Sx sp s → s.heap.IsGen Y.a Y.g → s.gens[Y.g]? = some gs → s.heap.NoLimit →
      s.heap.get? S = some (bestL #[.int (sums zs) t] c) → codeAny Y.M A (.builtin "sum.loop" ⟨[.ref Y.a, .ref S, rawInt 0, rawInt 0], []⟩) R s := by
  have hSm : S ∈ Y.a :: Y.Sx := by rw [hS]; simp
  have main : ∀ (n : Nat) (zs : List Int) (H : Hp) (gs : GenState) (sp s : Shared) (t : Tok) (c : Nat), Y.Rdy n (zs.map V.int) H gs sp → Aft Y.Sx sp s → s.heap.IsGen Y.a Y.g → s.gens[Y.g]? = some gs → s.heap.NoLimit →
      s.heap.get? S = some (bestL #[.int (sums zs) t] c) →
      (∀ (zs' : List Int) (H' : Hp) (gs' : GenState) (sp' s' : Shared) (t' : Tok) (c' : Nat), Y.Rp n (zs'.map V.int) H' gs' sp' → Aft Y.Sx sp' s' → s'.heap.IsGen Y.a Y.g → s'.gens[Y.g]? = some gs' → s'.heap.NoLimit →
        s'.heap.get? S = some (bestL #[.int (sums zs') t'] c') → codeAny Y.M A (.builtin "sum.loop" ⟨[.ref Y.a, .ref S, rawInt 0, rawInt 0], []⟩) R s') → codeAny Y.M A (.builtin "sum.loop" ⟨[.ref Y.a, .ref S, rawInt 0, rawInt 0], []⟩) R s := by
    intro n zs H gs sp s t c rd af hg hgs nl hSo ih
    have there : ∀ b ∈ Y.a :: Y.Sx, ∃ o, s.heap.get? b = some o := fun b hb => by
      rcases List.mem_cons.mp hb with z | z
      · obtain ⟨o, n1, n2, e, r⟩ := hg
        exact ⟨o, by rw [z]; exact e⟩
      · rw [hS] at z
        exact ⟨_, by rw [List.mem_singleton.mp z]; exact hSo⟩
    refine codeAny_builtin F.entry_sum_loop ?_
    rw [Around.under_plainId F.plain_sum_loop _]
    show wpAny _ A.in1 (seqItems? (.ref S) >>= _) _ _ s
    refine wpAny_bind (wpAny_seqItems hSo rfl ?_)
    show wpAny _ A.in1 (tryCatch (pyNext (.ref Y.a)) _ >>= _) _ _ s
    refine wpAny_bind (wpAny_tryCatch (GEx.next O hB hh hroom nl rd af hg hgs (Array.getElem?_eq_some_iff.mp hgs).1 (fun σ' H' s1 s2 I f a => ?_) fun v y σ' H' s1 gs' I r cc hb hsz => ?_))
    · rw [hF] at f
      obtain ⟨zs', ez, f⟩ := f
      obtain rfl := int_inj ez
      have e1 := (O.pinned I hSm hSo).1
      have e2 := a.keep _ _ (by simp) e1
      refine wpAny_pure (hR _ t σ' H' _ (O.past I there ?_) f)
      rw [hS]
      refine ⟨a.os, a.bare, fun b o n e' => a.keep _ _ (by simp) e', fun b hb => ?_⟩
      rw [List.mem_singleton.mp hb]
      exact ⟨_, e2, fun v z => by cases z⟩
    · rw [hC] at cc
      obtain ⟨⟨z, rfl, lim⟩, cc⟩ := cc
      obtain ⟨t', rfl⟩ : ∃ t', v = .int z t' := r
      obtain ⟨⟨f1, f2⟩, f3, f4⟩ := lim zs rfl
      have e1 := (O.pinned I hSm hSo).1
      have e2 : (s1.setGen Y.g gs').heap.get? S = _ := e1
      rw [show zs.map V.int ++ [V.int z] = (zs ++ [z]).map V.int by rw [List.map_append]; rfl] at cc
      have hg1 : (s1.setGen Y.g gs').heap.IsGen Y.a Y.g := by
        obtain ⟨o, n1, n2, e, r⟩ := hg
        exact ⟨o, n1, n2, (O.pinned I List.mem_cons_self e).1, r⟩
      have hgs1 := setGen_at (x := gs') (Nat.lt_of_lt_of_le (Array.getElem?_eq_some_iff.mp hgs).1 hsz)
      have hna : S ≠ Y.a := fun z => O.aS (by rw [← z, hS]; simp)
      have hc : ((decide (-(2 ^ 63) ≤ z) && decide (z < 2 ^ 63)) && (decide (-(2 ^ 63) ≤ sums zs + z) && decide (sums zs + z < 2 ^ 63))) = true := by
        simp only [Bool.and_eq_true, decide_eq_true_eq]
        exact ⟨⟨f1, f2⟩, f3, f4⟩
      show wpAny _ A.in1 (if (_ : Bool) = true then (mkInt (sums zs + z) >>= _) else _) _ _ _
      split
      · refine wpAny_bind (wpAny_mkInt ?_)
        show wpAny _ A.in1 (updateSeq S (fun _ => #[.int (sums zs + z) s1.toks]) >>= _) _ _ _
        refine wpAny_bind ?_
        refine wpAny_updateSeq e2 rfl (wpAny_pure ⟨plainId_quiet F.plain_sum_loop _, ih (zs ++ [z]) H' gs' s1 _ s1.toks c cc ?_ ?_ hgs1 ?_ ?_⟩)
        · rw [hS]
          exact aft_put (s2 := { (s1.setGen Y.g gs') with heap := s1.heap.update S (Obj.mapSeq fun _ => #[Value.int (sums zs + z) s1.toks]), toks := s1.toks + 1 }) rfl (allBare_setGen I.bare hb) e1 rfl
        · obtain ⟨o, n1, n2, e, r⟩ := hg1
          exact ⟨o, n1, n2, (Heap.get?_update_other _ _ hna).trans e, r⟩
        · exact (O.past (s1 := { (s1.setGen Y.g gs') with heap := s1.heap.update S (Obj.mapSeq fun _ => #[Value.int (sums zs + z) s1.toks]), toks := s1.toks + 1 }) I there (by rw [hS]; exact aft_put rfl (allBare_setGen I.bare hb) e1 rfl)).nolimit
        · rw [sums_app]
          exact Heap.get?_update_self _ e2 rfl
      · rename_i hneg
        exact absurd hc hneg
  intro n
  induction n with
  | zero =>
    intro zs H gs sp s t c rd af hg hgs nl hSo
    exact main 0 zs H gs sp s t c rd af hg hgs nl hSo fun _ _ _ _ _ _ _ q => (show False from q).elim
  | succ n ih =>
    intro zs H gs sp s t c rd af hg hgs nl hSo
    exact main (n + 1) zs H gs sp s t c rd af hg hgs nl hSo fun zs' H' gs' sp' s' t' c' a2 a3 a4 a5 a6 a7 => ih zs' H' gs' sp' s' t' c' a2 a3 a4 a5 a6 a7
end
section
variable {X : Cx}
theorem call_sumP {P : Program} {w : World} {A : Around} {Q : Value → Shared → Prop} {E : Value → Shared → Prop} {s : Shared} {a g : Addr} (hg : s.heap.IsGen a g)
    (h : codeAny (model P w) A (.builtin "sum.loop" ⟨[.ref a, .ref s.heap.objs.size, rawInt 0, rawInt 0], []⟩) (RetQ Q E) { s with heap := s.heap.push (bestL #[.int 0 s.toks] 0), toks := s.toks + 1 }) : wpAny (model P w) A (call (.builtin "sum") [.ref a]) Q E s := by
  refine call_function_tree F.kind_sum F.plain_sum F.entry_sum (F.args_sum1 _) ?_
  unfold Builtin.«sum»
  simp only [List.length_cons, List.length_nil]
  rw [if_neg (by decide)]
  refine wpAny_bind (wpAny_of_eq (show Builtin.Builtins.bindParams "sum" ["start"] 0 { } = pure [none] from rfl) ?_)
  refine wpAny_bind (wpAny_pyIter_gen hg ?_)
  refine wpAny_bind (wpAny_mkInt ?_)
  refine wpAny_bind (wpAny_pure ?_)
  simp only [List.forIn_cons, List.forIn_nil]
  refine wpAny_bind (wpAny_bind (wpAny_bind (wpAny_isInstance (T := "int") (b := false) (typeIs_int _ _ _) PySem.sub_int_str ?_)))
  simp only [Bool.false_eq_true, if_false]
  refine wpAny_pure (wpAny_bind (wpAny_bind (wpAny_isInstance (T := "int") (b := false) (typeIs_int _ _ _) PySem.sub_int_bytes ?_)))
  simp only [Bool.false_eq_true, if_false]
  refine wpAny_pure (wpAny_bind (wpAny_bind (wpAny_isInstance (T := "int") (b := false) (typeIs_int _ _ _) PySem.sub_int_bytearray ?_)))
  simp only [Bool.false_eq_true, if_false]
  refine wpAny_pure (wpAny_pure ?_)
  refine wpAny_bind (wpAny_newObj_type ?_)
  exact wpAny_pure ⟨plainId_quiet F.plain_sum_loop _, h⟩
/-- one more value is out -/
def SN (Nx : List Int → Hp → Prop) (zs : List Int) (y : V) (H : Hp) : Prop := (∃ z, y = .int z ∧ ∀ zs', zs.map V.int = zs'.map V.int → InLong z ∧ InLong (sums zs' + z)) ∧ ∃ zs', zs.map V.int ++ [y] = zs'.map V.int ∧ Nx zs' H
theorem SN.of {Nx : List Int → Hp → Prop} {zs : List Int} {z : Int} {H : Hp} (h1 : InLong z) (h2 : InLong (sums zs + z)) (h : Nx (zs ++ [z]) H) : SN Nx zs (.int z) H := ⟨⟨z, rfl, fun zs' e => by rw [← int_inj e]; exact ⟨h1, h2⟩⟩, zs ++ [z], by rw [List.map_append]; rfl, h⟩
/-- sum of elt for target in iter if ..; W carries what is out so far -/
def tSumG (P : Addr) (wi : TI) (g : TG) (tt : TT) (te : TE) (vs : List Nat) : TE := fun σ H Q => wi σ H fun J H1 => TabG H1 P ∧ ∀ H2, Tabbed P H1 H2 →
  ∃ W : Nat → Nat → List Int → Hp → Prop, (∃ m, W 0 m [] H2) ∧ ∀ i m zs H, W i m zs H → (J.stop i H ∧ Q (.int (sums zs)) H) ∨ (J.go i H ∧ ∃ Nx : List Int → Hp → Prop, (∀ zs' H', Nx zs' H' → ∃ m', m' < m ∧ W (i + 1) m' zs' H') ∧
    ∀ x H', J.yld i H x H' → g x (wipe σ vs) H' fun σ2 H2 => wipe σ2 vs = wipe σ vs ∧ tt σ2 H2 fun b H3 => if b = true then te σ2 H3 fun y H4 => SN Nx zs y H4 else MZ Nx zs H3)
theorem tSumG_step {J : It} {g : TG} {tt : TT} {te : TE} {vs : List Nat} {σ : L2.St} {Q : VK} {W : Nat → Nat → List Int → Hp → Prop}
    (h : ∀ i m zs H, W i m zs H → (J.stop i H ∧ Q (.int (sums zs)) H) ∨ (J.go i H ∧ ∃ Nx : List Int → Hp → Prop, (∀ zs' H', Nx zs' H' → ∃ m', m' < m ∧ W (i + 1) m' zs' H') ∧
      ∀ x H', J.yld i H x H' → g x (wipe σ vs) H' fun σ2 H2 => wipe σ2 vs = wipe σ vs ∧ tt σ2 H2 fun b H3 => if b = true then te σ2 H3 fun y H4 => SN Nx zs y H4 else MZ Nx zs H3)) :
    GStep (fun i m ys H => ∃ zs, ys = zs.map V.int ∧ W i m zs H) J g tt te vs (wipe σ vs) eSum (fun ys H => ∃ zs, ys = zs.map V.int ∧ Q (.int (sums zs)) H) := fun i m ys H ⟨zs, ey, w⟩ => by
  subst ey
  rcases h i m zs H w with ⟨z1, z3⟩ | ⟨go, Nx, hN, st⟩
  · exact .inl ⟨z1, zs, rfl, z3⟩
  · exact .inr ⟨go, fun ys H => ∃ zs, ys = zs.map V.int ∧ Nx zs H, fun ys' H' ⟨zs', e', nx⟩ => by
      obtain ⟨m', h1, h2⟩ := hN zs' H' nx
      exact ⟨m', h1, zs', e', h2⟩, st⟩
section
variable {c P : Addr} {elt tg iter : Expr} {ifs : List Expr} {scope : Scope} {own : List (Str × Nat)} {p pos gpos : Pos} {wi : TI} {g : TG} {tt : TT} {te : TE} {k : Nat}
theorem pe_sumG (hr : Room (k + 1) X.A) (hn : X.N.Nodup) (hgl : Gl X "sum") (hm : X.mg "sum" = none) (TB : LamX.TabB X.base X.mg c P) (hcode : X.env.code = .ref c) (G : GScp scope) (ok : BlkOk X.N X.env.scope scope own) (hi : PI X tg iter wi)
    (hg : GPG X k scope tg g) (ht : GPT X k scope ifs tt) (he : GPE X k scope elt te)
    (hb : bootBuiltins "sum" = some (.builtin "sum") := by first | rfl | decide +kernel) (hs : ∀ v, genFold iter X.env v = pure v := by intro _; rfl)
    (hst : starEach [.GeneratorExp elt [⟨tg, iter, ifs, 0⟩] scope gpos] X.env = (false, eval (.GeneratorExp elt [⟨tg, iter, ifs, 0⟩] scope gpos) X.env) :: starEach [] X.env := by rfl) :
    PE X (.Call (.Name "sum" p) [.GeneratorExp elt [⟨tg, iter, ifs, 0⟩] scope gpos] [] pos) (tSumG P wi g tt te (own.map (·.2))) := by
  refine ⟨fun pins s σ H Q I h => ?_⟩
  refine wpAny_Call_Name_kw (ld_blt I hgl hm hb ?_)
  refine PyProof.Rows.callWith_builtin1 ?_ hst (by rfl)
  rw [hst]
  show wpAny _ _ (spliced ((false, eval (.GeneratorExp elt [⟨tg, iter, ifs, 0⟩] scope gpos) X.env) :: backTo pos (starEach [] X.env))) _ _ s
  refine Calls.spliced_cons (gen_made (R := fun J H1 => _) hr TB hcode G ok hi hs I h fun J H1 H2 s4 cenv fp it tn a gn s5 q tb M => ?_)
  refine Calls.spliced_nil (call_sumP M.isg ?_)
  obtain ⟨W, ⟨m, w0⟩, st⟩ := q H2 tb
  obtain ⟨code, hce⟩ := M.env
  subst hce
  have hlt : a < s5.heap.objs.size := by rw [M.lt]; exact Nat.lt_succ_self a
  obtain ⟨O, rd⟩ := gen_rdy (B := X.A.in1.in1) (Sx := [s5.heap.objs.size]) hr (nearA2 _) G ok hn M (fun A r => hg _ _ _ _ _ _ A r) (fun A r => ht _ _ _ _ _ _ A r) (fun A r => he _ _ _ _ _ _ A r) (fun b z => by rw [List.mem_singleton.mp z]; exact hlt) eSum_mono (tSumG_step st) m ⟨[], rfl, w0⟩
  have hpush : ∀ b o, s5.heap.get? b = some o → (s5.heap.push (bestL #[.int 0 s5.toks] 0)).get? b = some o := fun b o e => Heap.get?_push_of_some _ e
  refine sum_loop1 (Qd := fun k H => Q (.int k) H) (S := s5.heap.objs.size) (Y := mkY X s4 H2 _ fp X.A.in1.in1 (wipe σ (own.map (·.2))) (.GeneratorExp elt [⟨tg, iter, ifs, 0⟩] scope gpos) it a gn [s5.heap.objs.size] eSum (fun ys H => ∃ zs, ys = zs.map V.int ∧ Q (.int (sums zs)) H)) O rfl rfl rfl rfl hr.hd hr.depth (fun k t σ' H' s1 I' q => ?_) m [] H2 _ s5 _ s5.toks 0 rd ?_ ?_ ?_ ?_ (Heap.get?_push_size _ rfl)
  · exact ⟨.int k, H', GEx.out (Y := mkY X s4 H2 _ fp X.A.in1.in1 (wipe σ (own.map (·.2))) (.GeneratorExp elt [⟨tg, iter, ifs, 0⟩] scope gpos) it a gn [s5.heap.objs.size] eSum (fun ys H => ∃ zs, ys = zs.map V.int ∧ Q (.int (sums zs)) H)) M.inv (fun b hb => (M.fps b hb).1) I' (Aft.refl I'.bare), ⟨t, rfl⟩, q⟩
  · refine ⟨rfl, ?_, fun b o _ e => hpush b o e, fun b hb => ?_⟩
    · show AllBare s5.gens
      rw [M.gens]
      exact M.inv.bare.push rfl
    · rw [List.mem_singleton.mp hb]
      exact ⟨_, Heap.get?_push_size _ rfl, fun v z => by cases z⟩
  · obtain ⟨o, n1, n2, e, r⟩ := M.isg
    exact ⟨o, n1, n2, hpush _ _ e, r⟩
  · show s5.gens[gn]? = _
    rw [M.gens, M.num]
    simp
  · exact (M.inv.nolimit.keeps M.keep).push _
end
end
section
variable {lo : Int} {n : Nat} {g : TG} {tt : TT} {te : TE} {vs : List Nat} {σ : L2.St} {H2 : Hp} {Q : VK}
/-- over a range -/
theorem sum_range (Pv : Nat → List Int → Hp → Prop) (h0 : Pv 0 [] H2)
    (hs : ∀ i zs H, i < n → Pv i zs H → g (.int (lo + i)) (wipe σ vs) H fun σ2 H2 => wipe σ2 vs = wipe σ vs ∧ tt σ2 H2 fun b H3 => if b = true then te σ2 H3 fun y H4 => SN (Pv (i + 1)) zs y H4 else MZ (Pv (i + 1)) zs H3) (hd : ∀ zs H, Pv n zs H → Q (.int (sums zs)) H) :
    ∃ W : Nat → Nat → List Int → Hp → Prop, (∃ m, W 0 m [] H2) ∧ ∀ i m zs H, W i m zs H → ((Itr lo n).stop i H ∧ Q (.int (sums zs)) H) ∨ ((Itr lo n).go i H ∧ ∃ Nx : List Int → Hp → Prop, (∀ zs' H', Nx zs' H' → ∃ m', m' < m ∧ W (i + 1) m' zs' H') ∧
      ∀ x H', (Itr lo n).yld i H x H' → g x (wipe σ vs) H' fun σ2 H2 => wipe σ2 vs = wipe σ vs ∧ tt σ2 H2 fun b H3 => if b = true then te σ2 H3 fun y H4 => SN Nx zs y H4 else MZ Nx zs H3) := by
  refine ⟨fun i m zs H => m = n - i ∧ i ≤ n ∧ Pv i zs H, ⟨n, by simp, Nat.zero_le _, h0⟩, fun i m zs H w => ?_⟩
  obtain ⟨hm, hi, p⟩ := w
  by_cases z : i < n
  · refine .inr ⟨z, Pv (i + 1), fun zs' H' p' => ⟨n - (i + 1), by omega, rfl, z, p'⟩, fun x H' y => ?_⟩
    obtain ⟨e, y⟩ := y
    subst e y
    exact hs i zs _ z p
  · obtain rfl : i = n := by omega
    exact .inl ⟨Nat.le_refl _, hd zs H p⟩
end
end Sk

set_option Elab.async false
set_option linter.all false
set_option maxRecDepth 100000
set_option maxHeartbeats 4000000
namespace Sk
open PySem PySem.Spec PyProof.Rows L2
/-! enumerate over a tuple -/
abbrev titO (t : Addr) : Obj := { cls := .type "tuple_iterator", data := .fields #[.ref t, .int 0 0] }
abbrev enuO (it : Addr) : Obj := { cls := .type "enumerate", data := .fields #[.none, .bool false, .ref it, rawInt 0, .none, .none] }
theorem meets_enumT (t : Addr) (items : Array Value) : Meets (Builtin.«enumerate.__new__» { pos := [.type "enumerate", .ref t] }) fun _ R s =>
    s.heap.IsTuple t items ∧ R (.ok (.ret (.ref (s.heap.push (titO t)).objs.size))) { s with heap := (s.heap.push (titO t)).push (enuO s.heap.objs.size) } := by
  refine Meets.of_wp fun prog w A R s h => ?_
  obtain ⟨hp, g, d, tk, os⟩ := s
  obtain ⟨hl, h⟩ := h
  have hsub := sub_enumerate
  refine wpAny_bind ?_
  refine wpAny_bind ?_
  refine wpAny_pure ?_
  refine wpAny_ite_false rfl ?_
  refine wpAny_bind ?_
  refine wpAny_of_eq hsub ?_
  refine wpAny_ite_false rfl ?_
  refine wpAny_pure ?_
  refine wpAny_ite_true rfl ?_
  refine wpAny_bind ?_
  refine wpAny_bind ?_
  refine wpAny_stack_any fun st => ?_
  refine wpAny_pure ?_
  have tail : wpAny (model prog w) A.in1 (pyIter (.ref t) >>= fun it => Builtin.SmallTypes.newRecord (.type "enumerate") (Builtin.SmallTypes.ownedTupleFields ++ [it, rawInt 0, .none, .none]) >>= fun r => ret r)
      (fun fin s' => ∃ v, fin = Fin.done (Flow.ret v) ∧ R (.ok (.ret v)) s') (fun e s' => R (.error e) s') { heap := hp, gens := g, drawn := d, toks := tk, os := os } := by
    refine wpAny_bind (wpAny_pyIter_tuple hl ?_)
    refine wpAny_bind ?_
    unfold Builtin.SmallTypes.newRecord
    dsimp only
    refine wpAny_newObj_type ?_ (by first | exact True.intro | trivial | (show (6 : Nat) ≤ _; rw [sizeLine_eq]; decide))
    exact wpAny_pure ⟨_, rfl, h⟩
  split
  · rename_i c _ _ _ _ _
    cases hc : (c == Value.type "enumerate")
    · refine wpAny_ite_false rfl (wpAny_bind (wpAny_of_eq (show _ = pure (Value.ref t, none) from rfl) ?_))
      exact tail
    · refine wpAny_ite_true rfl (wpAny_bind (wpAny_of_eq (show _ = pure (Value.ref t, none) from rfl) ?_))
      exact tail
  · refine wpAny_ite_false rfl (wpAny_bind (wpAny_of_eq (show _ = pure (Value.ref t, none) from rfl) ?_))
    exact tail
theorem call_enumT {prog : Program} {w : World} {A : Around} {E : Value → Shared → Prop} {s : Shared} {t : Addr} {items : Array Value} {Q : Value → Shared → Prop} (hl : s.heap.IsTuple t items)
    (h : Q (.ref (s.heap.push (titO t)).objs.size) { s with heap := (s.heap.push (titO t)).push (enuO s.heap.objs.size) }) : wpAny (model prog w) A (call (.type "enumerate") [.ref t]) Q E s :=
  callType_new F.called_enumerate (by decide) (F.typeCall_enumerate_1 (.ref t)) (F.newCall_enumerate_1 (.ref t)) (fun obj => F.args_object_init_2 obj (.ref t)) F.entry_enumerate_new (meets_enumT t items)
    ⟨hl, ⟨_, Heap.get?_push_size _ rfl, rfl⟩, h⟩
theorem ne_cls {h : Heap} {a b : Addr} {o u : Obj} (ha : h.get? a = some o) (hb : h.get? b = some u) (n : o.cls ≠ u.cls) : a ≠ b := fun z => by
  rw [z, hb] at ha
  exact n (congrArg Obj.cls (Option.some.inj ha)).symm
theorem draws_tup {prog : Program} {w : World} {A : Around} {it t : Addr} {items : Array Value} (hh : A.handled = none) :
    Draws prog w A it [it, t] items.size (fun i x => items[i]? = some x) fun i h => h.IsTupleIter it t i ∧ h.IsTuple t items := by
  have ne : ∀ {h : Heap} {i}, h.IsTupleIter it t i ∧ h.IsTuple t items → t ≠ it := fun ⟨⟨o, e, c, _⟩, ⟨u, e2, c2, _⟩⟩ => ne_cls e2 e (by rw [c, c2]; decide)
  refine ⟨fun i h ⟨⟨o, e, _⟩, _⟩ => ⟨o, e⟩, fun i h h' ⟨⟨o, e, q⟩, ⟨u, e2, q2⟩⟩ k => ⟨⟨o, k it (by simp) _ e, q⟩, ⟨u, k t (by simp) _ e2, q2⟩⟩, fun i s Q E hi st k => ?_, fun s Q E st k => ?_⟩
  · refine RZ.nextOf_tuple_item st.1 st.2 (Array.getElem?_eq_getElem hi) fun h' a sb => ?_
    obtain ⟨u, e2, q2⟩ := st.2
    exact k _ h' s.toks (Array.getElem?_eq_getElem hi) ⟨a, ⟨u, (sb.2 t (ne st)).trans e2, q2⟩⟩ sb
  · exact RZ.nextOf_tuple_end hh st.1 st.2 (by simp) fun h' e a b => k h' e a b
/-- the turns of an enumerate over a tuple -/
def IteT (K : PySem.W.Frag) (a : Addr) : It := { go := fun i H => ∃ xs x, SqT K H a xs ∧ xs[i]? = some x, yld := fun i H v H' => ∃ T x, v = .ref T ∧ H T = none ∧ H' = upd H T (.tup [.int (i : Nat), x]) ∧ ∀ xs, SqT K H a xs → xs[i]? = some x, stop := fun i H => ∃ xs, SqT K H a xs ∧ xs.length = i }
theorem walk_enumT {K : PySem.W.Frag} {a : Addr} {xs : List V} : Walk (IteT K a) xs.length (fun H => SqT K H a xs) (YPair (fun i => some (.int (i : Nat))) fun i => xs[i]?) :=
  ⟨fun i H hi q => ⟨xs, xs[i], q, List.getElem?_eq_getElem hi⟩, fun H q => ⟨xs, q, rfl⟩, fun i H x H' hi q ⟨T, y, e, hT, e', f⟩ => ⟨T, _, y, e, hT, e', rfl, f xs q⟩⟩
theorem turn_enumT {P : Program} {w : World} {K : PySem.W.Frag} {elts : List Expr} {kk : Nat} {tpos : Pos} (a e it : Addr) :
    Turn P w K (.Tuple elts kk tpos) (IteT K a) [e, it] e fun i h => (∃ old, IsEnum h e it (i : Nat) old) ∧ h.IsTupleIter it a i ∧ e ≠ it := by
  refine ⟨by simp, fun i h st b hb => ?_, fun i h h' st k => ?_, fun X hP hw hK hc i pins s σ H E I hf st hg => ?_, fun X hP hw hK hc i pins s σ H E I hf st hg => ?_, fun A i s Q E st h => ?_⟩
  · obtain ⟨⟨old, he⟩, ⟨o, ho, hc, hd⟩, _⟩ := st
    rcases List.mem_cons.mp hb with z | z
    · rw [z]; exact ⟨_, he, fun v q => nomatch q⟩
    · rw [List.mem_singleton.mp z]; exact ⟨o, ho, fun v q => by rw [hd] at q; cases q⟩
  · obtain ⟨⟨old, he⟩, ⟨o, ho, q⟩, n⟩ := st
    exact ⟨⟨old, k e (by simp) _ he⟩, ⟨o, k it (by simp) _ ho, q⟩, n⟩
  · subst hP hw hK
    obtain ⟨⟨old, he⟩, hit, hne⟩ := st
    obtain ⟨xs, x, hq, hx⟩ := hg
    obtain ⟨its, rv, p, hz⟩ := I.tuple hq
    obtain ⟨u, hu, ru⟩ := rv.get hx
    have pT : s.heap.IsTuple a its.toArray := p
    have hel := Heap.lt_size he
    have hil : it < s.heap.objs.size := by obtain ⟨o, q, _⟩ := hit; exact Heap.lt_size q
    have hei : i < its.toArray.size := by have := (List.getElem?_eq_some_iff.mp hu).1; simpa using this
    have nea : e ≠ a := by obtain ⟨o, q, c, _⟩ := pT; exact ne_cls he q (by rw [c]; show Value.type "enumerate" ≠ .type "tuple"; decide)
    refine wpAny_pyNext_enum_itemD (draws_tup (A := X.A.in1) (I.ok.hd hc)) he ⟨hit, pT⟩ hei hne (by simp [hne, nea]) fun x' h' tk px ho st' hT hsz hk => ?_
    have ex : x' = u := by
      have px : its.toArray[i]? = some x' := px
      rw [List.getElem?_toArray, hu] at px
      exact (Option.some.inj px).symm
    subst ex
    refine ⟨.ref s.heap.objs.size, rfl, wpAny_letOwnedTupleGo_enum ho fun h'' he' sb => ?_⟩
    have hT2 := (sb.2 s.heap.objs.size (Nat.ne_of_gt hel)).trans hT
    have new : ObjOk X.prog X.w (upd H s.heap.objs.size (.tup [.int (i : Nat), x])) h'' s.heap.objs.size (.tup [.int (i : Nat), x]) := ⟨by show 2 ≤ sizeLine; rw [sizeLine_eq]; decide, [.int (i : Nat) tk, x'], .cons ⟨tk, rfl⟩ (.cons ru .nil), _, hT2, rfl, 0, rfl⟩
    have I1 := I.turnedNew (t' := tk + 1) (ch := [e, it]) (fun b ob hb q => (sb.2 b (fun z => hb (by simp [z]))).trans (hk b ob (fun z => hb (by simp [z])) (fun z => hb (by simp [z])) q)) hf (Nat.le_refl _) new
    refine ⟨.ref s.heap.objs.size, _, I1, rfl, ⟨s.heap.objs.size, x, rfl, I.hok.fresh (Nat.le_refl _), rfl, fun ys hy => ?_⟩, ⟨⟨x', ?_⟩, ?_, hne⟩, fun b hb => ?_⟩
    · rw [I.tuple_inj hy hq]; exact hx
    · have e1 : ((i + 1 : Nat) : Int) = (i : Int) + 1 := by omega
      rw [e1]; exact he'
    · obtain ⟨⟨o, q, r⟩, _⟩ := st'
      exact ⟨o, (sb.2 it (Ne.symm hne)).trans q, r⟩
    · have hb' : b < s.heap.objs.size := by
        rcases List.mem_cons.mp hb with z | z
        · rw [z]; exact hel
        · rw [List.mem_singleton.mp z]; exact hil
      rw [upd_ne (Nat.ne_of_lt hb')]
      exact (hf b hb).1
  · subst hP hw hK
    obtain ⟨⟨old, he⟩, hit, hne⟩ := st
    obtain ⟨xs, hq, hx⟩ := hg
    obtain ⟨its, rv, p, hz⟩ := I.tuple hq
    have pT : s.heap.IsTuple a its.toArray := p
    have hl := rv.length
    have ei : i = its.toArray.size := by rw [List.size_toArray]; omega
    obtain ⟨f0, f1, f2, f3, f4, f5⟩ := hf it (by simp)
    refine wpAny_pyNext_enum_endD (draws_tup (A := X.A.in1) (I.ok.hd hc)) he (by rw [← ei]; exact ⟨hit, pT⟩) fun h' ext => ?_
    exact ⟨rfl, I.turned (fun b o hb q => ext b o hb q) f0 f1 f3 f4 f5⟩
  · obtain ⟨⟨old, he⟩, _⟩ := st
    exact wpAny_pyIter_enum he h
def iEnumT (K : PySem.W.Frag) (ta : TA) : TI := fun σ H R => ta σ H fun vs H1 => ∃ (a : Addr) (xs : List V), vs = [.ref a] ∧ SqT K H1 a xs ∧ R (IteT K a) H1
theorem pi_enumT {X : Cx} {e : Expr} {ta : TA} {p pos tpos : Pos} {elts : List Expr} {kk : Nat} (hg : Gl X "enumerate") (hm : X.mg "enumerate" = none) (ha : PA X [e] ta) (hs : starEach [e] X.env = [(false, eval e X.env)] := by rfl) :
    PI X (.Tuple elts kk tpos) (.Call (.Name "enumerate" p) [e] [] pos) (iEnumT X.K ta) := by
  refine ⟨fun pins s σ H R I h => ?_⟩
  refine Call_ (ld_blt I hg hm boot_enumerate (callWith_type1 (thn (ha.run pos pins s σ H _ I h) fun us s1 hh => ?_) hs rfl)) rfl
  obtain ⟨vs, H1, I1, r1, a, xs, ev, hq, q⟩ := hh
  subst ev
  cases r1 with
  | cons r rr =>
  cases rr
  rename_i u
  obtain rfl : u = Value.ref a := r
  obtain ⟨its, rv, pt, hz⟩ := I1.tuple hq
  have pT : s1.heap.IsTuple a its.toArray := pt
  refine call_enumT pT ?_
  have he : ((s1.heap.push (titO a)).push (enuO s1.heap.objs.size)).get? (s1.heap.push (titO a)).objs.size = some (enuO s1.heap.objs.size) := Heap.get?_push_size _ rfl
  have hk : ∀ b o, s1.heap.get? b = some o → ((s1.heap.push (titO a)).push (enuO s1.heap.objs.size)).get? b = some o := fun b o q => Heap.get?_push_of_some _ (Heap.get?_push_of_some _ q)
  refine wpAny_pyIter_enum he ?_
  have hsz : (s1.heap.push (titO a)).objs.size = s1.heap.objs.size + 1 := Heap.size_push _ _
  refine ⟨_, [(s1.heap.push (titO a)).objs.size, s1.heap.objs.size], _, IteT X.K a, H1, rfl, I1.kept hk, turn_enumT a _ s1.heap.objs.size, ⟨⟨_, he⟩, ⟨_, Heap.get?_push_of_some _ (Heap.get?_push_size _ rfl), rfl, rfl⟩, by rw [hsz]; exact Nat.succ_ne_self _⟩, fun b hb => ?_, q⟩
  have hle : s1.heap.objs.size ≤ b := by
    rcases List.mem_cons.mp hb with z | z
    · rw [z, hsz]; exact Nat.le_succ _
    · rw [List.mem_singleton.mp z]; exact Nat.le_refl _
  exact I1.fpOk hle (I1.hok.fresh hle)
end Sk

set_option Elab.async false
set_option linter.all false
set_option maxRecDepth 100000
set_option maxHeartbeats 4000000
namespace Sk
open PySem PySem.Spec PyProof.Rows L2 GenW GxR
/-! tables of code objects, and the end of a law with several of them -/
def Tabs (T : List Addr) (H : Hp) : Prop := ∀ P ∈ T, TabG H P
/-- all that stood stands, but the tables may have grown -/
structure SameT (T : List Addr) (H H' : Hp) : Prop where
  keep : ∀ b o, H b = some o → b ∉ T → H' b = some o
  tabs : Tabs T H → Tabs T H'
theorem SameT.refl (T : List Addr) (H : Hp) : SameT T H H := ⟨fun _ _ e _ => e, id⟩
theorem SameT.trans {T : List Addr} {H H1 H2 : Hp} (a : SameT T H H1) (b : SameT T H1 H2) : SameT T H H2 := ⟨fun c o e n => b.keep c o (a.keep c o e n) n, fun t => b.tabs (a.tabs t)⟩
theorem SameT.of {T : List Addr} {H H' : Hp} (s : Same H H') : SameT T H H' := ⟨fun c o e _ => s c o e, fun t P hP => by
  obtain ⟨ps, e, r⟩ := t P hP
  exact ⟨ps, s _ _ e, r⟩⟩
theorem SameT.tabbed {T : List Addr} {P : Addr} {H H' : Hp} (hP : P ∈ T) (t : Tabbed P H H') : SameT T H H' := ⟨fun c o e n => by
    rw [t.2 c fun z => n (by rw [z]; exact hP)]
    exact e, fun s Q hQ => by
    by_cases z : Q = P
    · rw [z]; exact t.1
    · obtain ⟨ps, e, r⟩ := s Q hQ
      exact ⟨ps, by rw [t.2 Q z]; exact e, r⟩⟩
theorem tabs_out {T : List Addr} {H : Hp} {a : Addr} {o : HO} (t : Tabs T H) (e : H a = some o) (n : ∀ ps, o ≠ .tbl ps) : a ∉ T := fun h => by
  obtain ⟨ps, e', _⟩ := t a h
  rw [e] at e'
  exact n ps (Option.some.inj e')
section
variable {T : List Addr} {H H' : Hp} {a : Addr}
theorem SameT.t {xs : List V} (s : SameT T H H') (t : Tabs T H) (e : H a = some (.tup xs)) : H' a = some (.tup xs) := s.keep a _ e (tabs_out t e fun ps z => by cases z)
theorem SameT.l {xs : List V} (s : SameT T H H') (t : Tabs T H) (e : H a = some (.lst xs)) : H' a = some (.lst xs) := s.keep a _ e (tabs_out t e fun ps z => by cases z)
theorem SameT.d {kvs : List (Key × V)} (s : SameT T H H') (t : Tabs T H) (e : H a = some (.dK kvs)) : H' a = some (.dK kvs) := s.keep a _ e (tabs_out t e fun ps z => by cases z)
theorem SameT.i {C d : Addr} {fs : List (Str × V)} (s : SameT T H H') (t : Tabs T H) (e : H a = some (.ins C d fs)) : H' a = some (.ins C d fs) := s.keep a _ e (tabs_out t e fun ps z => by cases z)
theorem Same.tabs (s : Same H H') (t : Tabs T H) : Tabs T H' := (SameT.of s).tabs t
theorem Keep.tabs {d : Addr} {kvs : List (Key × V)} (k : Keep d H H') (hd : H d = some (.dK kvs)) (t : Tabs T H) : Tabs T H' := fun P hP => by
  obtain ⟨ps, e, r⟩ := t P hP
  exact ⟨ps, k _ _ e (ne_of e hd (by intro z; cases z)), r⟩
theorem Tabs.new {p : Addr} {o : HO} (t : Tabs T H) (h : H p = none) : Tabs T (upd H p o) := Same.tabs (same_new h) t
theorem SameT.st1 {K : PySem.W.Frag} {d c : Addr} (s : SameT T H H') (t : Tabs T H) (S : St1 K H d c) : St1 K H' d c := by
  obtain ⟨ns, i, l, m, S⟩ := S
  exact ⟨ns, i, l, m, s.d t S.dc, s.l t S.cs, S.nn, S.i0, S.l0, S.m0, S.m1⟩
end
/-- a def whose code object is known -/
theorem okT {P : Program} {w : World} {K : PySem.W.Frag} {mg : Str → Option Value} {base : Heap} {x qual : Str} {st : Stmt} {f c : Addr} {fd : FuncData} {N ps : List Str} {k : Nat} {sp : Sp} (F : Fun K x qual st f fd) (hc : fd.code = .ref c) (S : FnScope N ps (defScope st)) (len : ∀ vs H Q E, sp vs H Q E → vs.length = ps.length)
    (hbody : ∀ (A : Around) (outer : List Env) (s : Shared) (H : Hp) (vs : List V) (Q : VK) (E : XK), Room k (A.deeper (envOfC qual (defScope st) s.heap.objs.size f (.ref c))) → sp vs H Q E →
      ∃ t, PSs (cxOf CX0 P w K mg base N qual (defScope st) f (.ref c) A outer s H E).nox (defBody st) t ∧ t { nx := fun _ H' => Q .non H', rt := Q } (start N vs) H) : FnOk P w K mg base CX0 (k + 1) f fd ps sp := by
  obtain ⟨oc, od, kV, doc, pm, an, cdv, ct, osl, rfl, lk, hcd⟩ := F.ex
  have e : cdv = .ref c := hc
  subst e
  refine fn_of lk hcd S len fun A outer s H vs Q E hr hsp => ?_
  obtain ⟨t, h, q⟩ := hbody A outer s H vs Q E hr hsp
  exact ⟨t, h.nox, q⟩
theorem walk_tabs {l : PySem.W.OpenLaw} {n k : Nat} {q : Program} {loose : List Str} {XP : (Str → Option Value) → Heap → Prop} {YP : World → Heap → Prop} {d : DefRec} {K : Params → PySem.W.Frag} {CX : World → CXT} {x : Str}
    (hn : l.most = some n) (hn2 : n ≤ sizeLine) (hdf : d.params.defaults = []) (hr : Room k callerA) (hY : ∀ (w : World) (h : Heap), YP w h → (K w.params).In h)
    (F : ∀ (w : World) (mg : Str → Option Value) (fa : Addr) (h : Heap), (K w.params).In h → h.Ns mainGlobals mg → mg d.name = some (.ref fa) →
      (∀ (y : Str) (e : DefRec) (c P : Addr), (recsOf q).find? (fun e => e.name == y) = some e → PySem.W.tabIn (K w.params) y = some (c, P) → PySem.W.CodeHd h c P ∧ h.get? P = some { cls := .none, data := .fields #[] }) → LamX.LawAtS l w (K w.params) (CX w) k n x mg fa h)
    (hCX : ∀ (w : World) (H : Hp) (s : Shared) (e : Value) (s' : Shared), CX w [] H s (fun _ _ _ => False) e s' → False) :
    PySem.W.WalkO q loose XP YP l.row.toRowW d [] (fun f vs => PySem.call f vs) := by
  refine Att.attach_callB hn hdf fun w s₀ s₁ mg mb fa o pm cd doc a vs ns G Y ho hd hcd hmg hobj hints hlen hbits hg => ?_
  have KX := hY w _ Y
  obtain ⟨fd, cs, sp, hT, nT, C, hb, hsp, hF⟩ := F w mg fa _ KX G.T.g hmg fun y e c P hf ht => PySem.W.tab_of G.T KX hf ht
  exact LamX.law_callTs KX G.T.g G.T.b G.T.builtins G.T.nolimit hg hT nT C G.T.bmain hobj hints (Nat.le_trans hlen hn2) hr hF hb (fun H hH hS => hsp H a ns hlen hbits hH hS) fun H e s' => hCX w H s₁ e s'
end Sk

set_option Elab.async false
set_option linter.all false
set_option maxRecDepth 100000
set_option maxHeartbeats 4000000
namespace Sk
open PySem PySem.Spec PyProof.Rows L2
/-! ### bounds -/
def BdN (n : Nat) (x : Int) : Prop := x.natAbs ≤ 2 ^ n
theorem BdN.mono {m n : Nat} {x : Int} (h : BdN m x) (hmn : m ≤ n) : BdN n x := Nat.le_trans h (Nat.pow_le_pow_right (by decide) hmn)
theorem BdN.mul {m n : Nat} {x y : Int} (h : BdN m x) (h' : BdN n y) : BdN (m + n) (x * y) := by
  unfold BdN at *
  rw [Int.natAbs_mul, Nat.pow_add]
  exact Nat.mul_le_mul h h'
theorem BdN.add {n : Nat} {x y : Int} (h : BdN n x) (h' : BdN n y) : BdN (n + 1) (x + y) := by
  unfold BdN at *
  rw [Nat.pow_succ]
  have := Int.natAbs_add_le x y
  omega
theorem BdN.sub {n : Nat} {x y : Int} (h : BdN n x) (h' : BdN n y) : BdN (n + 1) (x - y) := by
  unfold BdN at *
  rw [Nat.pow_succ]
  omega
theorem BdN.of {n : Nat} {x : Int} (h0 : -(2 ^ n : Nat) ≤ x) (h1 : x ≤ (2 ^ n : Nat)) : BdN n x := by
  unfold BdN
  omega
theorem wmB {m n : Nat} {x y : Int} (h : BdN m x) (h' : BdN n y) (hm : m < 2000) (hn : n < 2000) : CMulW x y :=
  wide_mul (a := 2000) (b := 2000) (Nat.lt_of_le_of_lt h (Nat.pow_lt_pow_right (by decide) hm)) (Nat.lt_of_le_of_lt h' (Nat.pow_lt_pow_right (by decide) hn)) (by decide) (by decide) (by decide)
/-! ### the plane -/
def trn (ax ay bx bw x y : Int) : Int := (bx - ax) * (y - ay) - (bw - ay) * (x - ax)
def dtp (ox oy ax ay bx bw : Int) : Int := (ax - ox) * (bx - ox) + (ay - oy) * (bw - oy)
/-- the square of the distance of a point from a segment, a fraction -/
def sqr (x y ax ay bx bw : Int) : Int × Int :=
  if (x - ax) * (bx - ax) + (y - ay) * (bw - ay) ≤ 0 then ((x - ax) * (x - ax) + (y - ay) * (y - ay), 1)
  else if (bx - ax) * (bx - ax) + (bw - ay) * (bw - ay) ≤ (x - ax) * (bx - ax) + (y - ay) * (bw - ay) then ((x - bx) * (x - bx) + (y - bw) * (y - bw), 1)
  else (trn ax ay bx bw x y * trn ax ay bx bw x y, (bx - ax) * (bx - ax) + (bw - ay) * (bw - ay))
def crs (ax ay bx bw cx cy dx dy : Int) : Bool := decide (trn ax ay bx bw cx cy * trn ax ay bx bw dx dy < 0) && decide (trn cx cy dx dy ax ay * trn cx cy dx dy bx bw < 0)
def sqs (ax ay bx bw cx cy dx dy : Int) : List (Int × Int) :=
  if crs ax ay bx bw cx cy dx dy = true then [(0, 1)] else [sqr ax ay cx cy dx dy, sqr bx bw cx cy dx dy, sqr cx cy ax ay bx bw, sqr dx dy ax ay bx bw]
/-- closer, from the enlarged ends -/
def cls (ax ay bx bw cx cy dx dy r : Int) : Bool := (sqs ax ay bx bw cx cy dx dy).any fun t => decide (t.1 < r * r * t.2)
structure Seg where
  ax : Int
  ay : Int
  bx : Int
  bw : Int
  d : Int
def clo (s t : Seg) (l : Int) : Bool := if l ≤ 0 then false else cls (s.ax * t.d) (s.ay * t.d) (s.bx * t.d) (s.bw * t.d) (t.ax * s.d) (t.ay * s.d) (t.bx * s.d) (t.bw * s.d) (l * s.d * t.d)
def Seg.tup (s : Seg) : HO := .tup [.int s.ax, .int s.ay, .int s.bx, .int s.bw, .int s.d]
structure SegBd (n m : Nat) (s : Seg) : Prop where
  ax : BdN n s.ax
  ay : BdN n s.ay
  bx : BdN n s.bx
  bw : BdN n s.bw
  d : BdN m s.d
/-! ### promises of the program's plane -/
/-- a segment's tuple * a factor -/
def spEnl : Sp := fun vs H Q _ => ∃ (a : Addr) (s : Seg) (f : Int), vs = [.ref a, .int f] ∧ H a = some s.tup ∧ SegBd 200 100 s ∧ BdN 100 f ∧ ∀ p, H p = none → Q (.ref p) (upd H p (.tup [.int (s.ax * f), .int (s.ay * f), .int (s.bx * f), .int (s.bw * f)]))
def spTurn : Sp := fun vs H Q _ => ∃ (a : Addr) (ax ay bx bw x y : Int), vs = [.ref a, .int x, .int y] ∧ H a = some (.tup [.int ax, .int ay, .int bx, .int bw]) ∧ BdN 300 ax ∧ BdN 300 ay ∧ BdN 300 bx ∧ BdN 300 bw ∧ BdN 300 x ∧ BdN 300 y ∧ Q (.int (trn ax ay bx bw x y)) H
def spParted : Sp := fun vs H Q _ => ∃ (a b : Addr) (ax ay bx bw cx cy dx dy : Int), vs = [.ref a, .ref b] ∧ H a = some (.tup [.int ax, .int ay, .int bx, .int bw]) ∧ H b = some (.tup [.int cx, .int cy, .int dx, .int dy]) ∧ (∀ z ∈ [ax, ay, bx, bw, cx, cy, dx, dy], BdN 300 z) ∧ Q (.bl (decide (trn ax ay bx bw cx cy * trn ax ay bx bw dx dy < 0))) H
def spCross : Sp := fun vs H Q _ => ∃ (a b : Addr) (ax ay bx bw cx cy dx dy : Int), vs = [.ref a, .ref b] ∧ H a = some (.tup [.int ax, .int ay, .int bx, .int bw]) ∧ H b = some (.tup [.int cx, .int cy, .int dx, .int dy]) ∧ (∀ z ∈ [ax, ay, bx, bw, cx, cy, dx, dy], BdN 300 z) ∧ Q (.bl (crs ax ay bx bw cx cy dx dy)) H
def spSquare : Sp := fun vs H Q _ => ∃ (a : Addr) (ax ay bx bw x y : Int), vs = [.int x, .int y, .ref a] ∧ H a = some (.tup [.int ax, .int ay, .int bx, .int bw]) ∧ BdN 300 ax ∧ BdN 300 ay ∧ BdN 300 bx ∧ BdN 300 bw ∧ BdN 300 x ∧ BdN 300 y ∧ ∀ p, H p = none → Q (.ref p) (upd H p (.tup [.int (sqr x y ax ay bx bw).1, .int (sqr x y ax ay bx bw).2]))
/-- the pairs stand at the addresses -/
def PairsAt (H : Hp) : List V → List (Int × Int) → Prop := fun vs ps => vs.length = ps.length ∧ ∀ (i : Nat) (t : Int × Int), ps[i]? = some t → ∃ p : Addr, vs[i]? = some (V.ref p) ∧ H p = some (.tup [.int t.1, .int t.2])
def segSqs (s t : Seg) : List (Int × Int) := sqs (s.ax * t.d) (s.ay * t.d) (s.bx * t.d) (s.bw * t.d) (t.ax * s.d) (t.ay * s.d) (t.bx * s.d) (t.bw * s.d)
def spSquares : Sp := fun vs H Q _ => ∃ (a b : Addr) (s t : Seg), vs = [.ref a, .ref b] ∧ H a = some s.tup ∧ H b = some t.tup ∧ SegBd 200 100 s ∧ SegBd 200 100 t ∧
  ∀ p H' xs, Same H H' → H' p = some (.lst xs) → PairsAt H' xs (segSqs s t) → Q (.ref p) H'
/-- closer; behind it the tables may have grown -/
def spCloser (TT : List Addr) : Sp := fun vs H Q _ => ∃ (a b : Addr) (s t : Seg) (l : Int), vs = [.ref a, .ref b, .int l] ∧ H a = some s.tup ∧ H b = some t.tup ∧ SegBd 200 100 s ∧ SegBd 200 100 t ∧ BdN 100 l ∧ Tabs TT H ∧
  ∀ H', SameT TT H H' → Q (.bl (clo s t l)) H'
def SegsAt (H : Hp) (vs : List V) (ss : List Seg) : Prop := vs.length = ss.length ∧ ∀ (i : Nat) (s : Seg), ss[i]? = some s → ∃ p : Addr, vs[i]? = some (V.ref p) ∧ H p = some s.tup ∧ SegBd 200 100 s
def spLines (K : PySem.W.Frag) (TT : List Addr) : Sp := fun vs H Q _ => ∃ (a b : Addr) (xs ys : List V) (ss ts : List Seg) (l : Int), vs = [.ref a, .ref b, .int l] ∧ H a = some (.lst xs) ∧ H b = some (.lst ys) ∧ SegsAt H xs ss ∧ SegsAt H ys ts ∧ BdN 100 l ∧ Tabs TT H ∧
  ∀ H', SameT TT H H' → Q (.bl (ss.any fun s => ts.any fun t => clo s t l)) H'
theorem sqr_bd {x y ax ay bx bw : Int} (h1 : BdN 300 ax) (h2 : BdN 300 ay) (h3 : BdN 300 bx) (h4 : BdN 300 bw) : BdN 1300 (sqr x y ax ay bx bw).2 := by
  unfold sqr
  split
  · exact BdN.of (by have : (0:Nat) < 2 ^ 1300 := Nat.pow_pos (by decide); omega) (by have : (1:Nat) ≤ 2 ^ 1300 := Nat.one_le_two_pow; show (1 : Int) ≤ _; omega)
  · split
    · exact BdN.of (by have : (0:Nat) < 2 ^ 1300 := Nat.pow_pos (by decide); omega) (by have : (1:Nat) ≤ 2 ^ 1300 := Nat.one_le_two_pow; show (1 : Int) ≤ _; omega)
    · exact (((h3.sub h1).mul (h3.sub h1)).add ((h4.sub h2).mul (h4.sub h2))).mono (by decide)
theorem segSqs_bd {s t : Seg} (hs : SegBd 200 100 s) (ht : SegBd 200 100 t) : ∀ u ∈ segSqs s t, BdN 1300 u.2 := by
  have e1 : ∀ {x y : Int}, BdN 200 x → BdN 100 y → BdN 300 (x * y) := fun h h' => h.mul h'
  intro u hu
  unfold segSqs sqs at hu
  split at hu
  · rw [List.mem_singleton.mp hu]
    exact BdN.of (by have : (0:Nat) < 2 ^ 1300 := Nat.pow_pos (by decide); omega) (by have : (1:Nat) ≤ 2 ^ 1300 := Nat.one_le_two_pow; show (1 : Int) ≤ _; omega)
  · simp only [List.mem_cons, List.not_mem_nil, or_false] at hu
    rcases hu with rfl | rfl | rfl | rfl
    · exact sqr_bd (e1 ht.ax hs.d) (e1 ht.ay hs.d) (e1 ht.bx hs.d) (e1 ht.bw hs.d)
    · exact sqr_bd (e1 ht.ax hs.d) (e1 ht.ay hs.d) (e1 ht.bx hs.d) (e1 ht.bw hs.d)
    · exact sqr_bd (e1 hs.ax ht.d) (e1 hs.ay ht.d) (e1 hs.bx ht.d) (e1 hs.bw ht.d)
    · exact sqr_bd (e1 hs.ax ht.d) (e1 hs.ay ht.d) (e1 hs.bx ht.d) (e1 hs.bw ht.d)
end Sk

set_option Elab.async false
set_option linter.all false
set_option maxRecDepth 100000
set_option maxHeartbeats 4000000
namespace Sk
open PySem PySem.Spec PyProof.Rows L2
/-! ### the law's own comparison is the program's -/
def ptc (px py ax ay bx bw r2 : Int) : Bool :=
  if dtp ax ay bx bw px py ≤ 0 then decide (dtp ax ay px py px py < r2)
  else if dtp ax ay bx bw bx bw ≤ dtp ax ay bx bw px py then decide (dtp bx bw px py px py < r2)
  else decide (trn ax ay bx bw px py * trn ax ay bx bw px py < r2 * dtp ax ay bx bw bx bw)
theorem ptc_eq (px py ax ay bx bw r2 : Int) : ptc px py ax ay bx bw r2 = decide ((sqr px py ax ay bx bw).1 < r2 * (sqr px py ax ay bx bw).2) := by
  unfold ptc sqr dtp
  have e1 : (bx - ax) * (px - ax) + (bw - ay) * (py - ay) = (px - ax) * (bx - ax) + (py - ay) * (bw - ay) := by grind
  rw [e1]
  by_cases c1 : (px - ax) * (bx - ax) + (py - ay) * (bw - ay) ≤ 0
  · rw [if_pos c1, if_pos c1, Int.mul_one]
  · rw [if_neg c1, if_neg c1]
    by_cases c2 : (bx - ax) * (bx - ax) + (bw - ay) * (bw - ay) ≤ (px - ax) * (bx - ax) + (py - ay) * (bw - ay)
    · rw [if_pos c2, if_pos c2, Int.mul_one]
    · rw [if_neg c2, if_neg c2]
theorem sqself {x : Int} (h : x * x = 0) : x = 0 := by
  rcases Int.mul_eq_zero.mp h with z | z <;> exact z
theorem sqr_turn (x y ax ay bx bw : Int) : sqr x y bx bw ax ay = sqr x y ax ay bx bw := by
  unfold sqr
  have e1 : (x - bx) * (ax - bx) + (y - bw) * (ay - bw) = ((bx - ax) * (bx - ax) + (bw - ay) * (bw - ay)) - ((x - ax) * (bx - ax) + (y - ay) * (bw - ay)) := by grind
  have e2 : (ax - bx) * (ax - bx) + (ay - bw) * (ay - bw) = (bx - ax) * (bx - ax) + (bw - ay) * (bw - ay) := by grind
  have e3 : trn bx bw ax ay x y * trn bx bw ax ay x y = trn ax ay bx bw x y * trn ax ay bx bw x y := by unfold trn; grind
  have n1 := sq0 (bx - ax)
  have n2 := sq0 (bw - ay)
  rw [e1, e2, e3]
  have h0 : (bx - ax) * (bx - ax) + (bw - ay) * (bw - ay) = 0 → bx = ax ∧ bw = ay := fun z => by
    have a := sqself (show (bx - ax) * (bx - ax) = 0 by omega)
    have b := sqself (show (bw - ay) * (bw - ay) = 0 by omega)
    omega
  generalize hA : (x - ax) * (bx - ax) + (y - ay) * (bw - ay) = A
  generalize hL : (bx - ax) * (bx - ax) + (bw - ay) * (bw - ay) = L at *
  by_cases c1 : A ≤ 0
  · by_cases c2 : L ≤ A
    · obtain ⟨rfl, rfl⟩ := h0 (by omega)
      rw [if_pos (by omega), if_pos c1]
    · rw [if_neg (by omega), if_pos (by omega), if_pos c1]
  · by_cases c2 : L ≤ A
    · rw [if_pos (by omega), if_neg c1, if_pos c2]
    · rw [if_neg (by omega), if_neg (by omega), if_neg c1, if_neg c2]
theorem cls_swap (ax ay bx bw cx cy dx dy r : Int) : cls cx cy dx dy ax ay bx bw r = cls ax ay bx bw cx cy dx dy r := by
  unfold cls sqs
  have e : crs cx cy dx dy ax ay bx bw = crs ax ay bx bw cx cy dx dy := by unfold crs; exact Bool.and_comm _ _
  rw [e]
  by_cases c : crs ax ay bx bw cx cy dx dy = true
  · rw [if_pos c, if_pos c]
  · rw [if_neg c, if_neg c]
    simp only [List.any_cons, List.any_nil, Bool.or_false]
    cases decide ((sqr ax ay cx cy dx dy).1 < r * r * (sqr ax ay cx cy dx dy).2) <;> cases decide ((sqr bx bw cx cy dx dy).1 < r * r * (sqr bx bw cx cy dx dy).2) <;> cases decide ((sqr cx cy ax ay bx bw).1 < r * r * (sqr cx cy ax ay bx bw).2) <;> cases decide ((sqr dx dy ax ay bx bw).1 < r * r * (sqr dx dy ax ay bx bw).2) <;> rfl
theorem cls_turn (ax ay bx bw cx cy dx dy r : Int) : cls bx bw ax ay cx cy dx dy r = cls ax ay bx bw cx cy dx dy r := by
  unfold cls sqs
  have t1 : ∀ x y, trn bx bw ax ay x y = - trn ax ay bx bw x y := fun x y => by unfold trn; grind
  have e : crs bx bw ax ay cx cy dx dy = crs ax ay bx bw cx cy dx dy := by
    unfold crs
    rw [t1, t1, Int.neg_mul_neg, Int.mul_comm (trn cx cy dx dy bx bw)]
  rw [e, sqr_turn cx cy, sqr_turn dx dy]
  by_cases c : crs ax ay bx bw cx cy dx dy = true
  · rw [if_pos c, if_pos c]
  · rw [if_neg c, if_neg c]
    simp only [List.any_cons, List.any_nil, Bool.or_false]
    cases decide ((sqr ax ay cx cy dx dy).1 < r * r * (sqr ax ay cx cy dx dy).2) <;> cases decide ((sqr bx bw cx cy dx dy).1 < r * r * (sqr bx bw cx cy dx dy).2) <;> rfl
theorem clo_swap (s t : Seg) (l : Int) : clo t s l = clo s t l := by
  unfold clo
  rw [cls_swap, show l * t.d * s.d = l * s.d * t.d by ac_rfl]
def Seg.turn (s : Seg) : Seg := ⟨s.bx, s.bw, s.ax, s.ay, s.d⟩
theorem clo_turn (s t : Seg) (l : Int) : clo s.turn t l = clo s t l := by
  unfold clo Seg.turn
  dsimp only
  rw [cls_turn]
/-- as the law has it -/
def lclo (s t : Seg) (l : Int) : Bool :=
  (decide (0 < l * l * s.d * s.d * t.d * t.d) && crs (s.ax * t.d) (s.ay * t.d) (s.bx * t.d) (s.bw * t.d) (t.ax * s.d) (t.ay * s.d) (t.bx * s.d) (t.bw * s.d)) ||
  (ptc (s.ax * t.d) (s.ay * t.d) (t.ax * s.d) (t.ay * s.d) (t.bx * s.d) (t.bw * s.d) (l * l * s.d * s.d * t.d * t.d) || ptc (s.bx * t.d) (s.bw * t.d) (t.ax * s.d) (t.ay * s.d) (t.bx * s.d) (t.bw * s.d) (l * l * s.d * s.d * t.d * t.d) ||
   (ptc (t.ax * s.d) (t.ay * s.d) (s.ax * t.d) (s.ay * t.d) (s.bx * t.d) (s.bw * t.d) (l * l * s.d * s.d * t.d * t.d) || ptc (t.bx * s.d) (t.bw * s.d) (s.ax * t.d) (s.ay * t.d) (s.bx * t.d) (s.bw * t.d) (l * l * s.d * s.d * t.d * t.d)))
theorem sqr_nn (x y ax ay bx bw : Int) : 0 ≤ (sqr x y ax ay bx bw).1 ∧ 0 ≤ (sqr x y ax ay bx bw).2 := by
  unfold sqr
  have a1 := sq0 (x - ax); have a2 := sq0 (y - ay); have a3 := sq0 (x - bx); have a4 := sq0 (y - bw); have a5 := sq0 (bx - ax); have a6 := sq0 (bw - ay); have a7 := sq0 (trn ax ay bx bw x y)
  split
  · exact ⟨by dsimp only; omega, by dsimp only; omega⟩
  · split
    · exact ⟨by dsimp only; omega, by dsimp only; omega⟩
    · exact ⟨by dsimp only; omega, by dsimp only; omega⟩
theorem lclo_eq {s t : Seg} {l : Int} (hl : 0 ≤ l) (hs : 1 ≤ s.d) (ht : 1 ≤ t.d) : lclo s t l = clo s t l := by
  unfold lclo clo
  simp only [ptc_eq]
  have er : l * s.d * t.d * (l * s.d * t.d) = l * l * s.d * s.d * t.d * t.d := by ac_rfl
  by_cases c : l ≤ 0
  · rw [if_pos c]
    obtain rfl : l = 0 := by omega
    simp only [Int.zero_mul]
    have z : ∀ x y ax ay bx bw, decide ((sqr x y ax ay bx bw).1 < 0) = false := fun x y ax ay bx bw => decide_eq_false (by have := (sqr_nn x y ax ay bx bw).1; omega)
    simp only [z]
    rfl
  · rw [if_neg c]
    have hp : 0 < l * l * s.d * s.d * t.d * t.d := by
      rw [← er]
      have h1 : 0 < l * s.d * t.d := Int.mul_pos (Int.mul_pos (by omega) (by omega)) (by omega)
      exact Int.mul_pos h1 h1
    unfold cls sqs
    rw [er, decide_eq_true hp, Bool.true_and]
    by_cases cc : crs (s.ax * t.d) (s.ay * t.d) (s.bx * t.d) (s.bw * t.d) (t.ax * s.d) (t.ay * s.d) (t.bx * s.d) (t.bw * s.d) = true
    · rw [if_pos cc, cc, Bool.true_or]
      simp only [List.any_cons, List.any_nil, Bool.or_false]
      symm
      exact decide_eq_true (by omega)
    · rw [if_neg cc]
      have cf : crs (s.ax * t.d) (s.ay * t.d) (s.bx * t.d) (s.bw * t.d) (t.ax * s.d) (t.ay * s.d) (t.bx * s.d) (t.bw * s.d) = false := by simpa using cc
      rw [cf, Bool.false_or]
      simp only [List.any_cons, List.any_nil, Bool.or_false, Bool.or_assoc]
end Sk

set_option Elab.async false
set_option linter.all false
set_option maxRecDepth 100000
set_option maxHeartbeats 4000000
namespace Sk
open PySem PySem.Spec PyProof.Rows L2
/-! the mathematics of paths -/
theorem CD.len_nn (D : CD) (s e : Str) : 0 ≤ D.len s e := by
  unfold CD.len
  split
  · exact rt_nn (Int.add_nonneg (sq0 _) (sq0 _))
  · exact Int.le_refl 0
def bg (D : CD) (ns : List Str) : Nat → Int
  | 0 => 0
  | j + 1 => bg D ns j + D.len (rn ns j) (rn ns (j + 1))
theorem bg_step (D : CD) (ns : List Str) (j : Nat) : bg D ns j ≤ bg D ns (j + 1) := by
  have := D.len_nn (rn ns j) (rn ns (j + 1))
  show bg D ns j ≤ bg D ns j + _
  omega
theorem bg_mono (D : CD) (ns : List Str) {i j : Nat} (h : i ≤ j) : bg D ns i ≤ bg D ns j := by
  induction j with
  | zero => rw [show i = 0 by omega]; exact Int.le_refl _
  | succ j ih =>
    by_cases e : i = j + 1
    · rw [e]; exact Int.le_refl _
    · exact Int.le_trans (ih (by omega)) (bg_step D ns j)
theorem bg_nn (D : CD) (ns : List Str) (j : Nat) : 0 ≤ bg D ns j := bg_mono D ns (Nat.zero_le j)
def CD.xy (D : CD) (s : Str) : Int × Int := match D.pt s with
  | some (_, x, y) => (x, y)
  | none => (0, 0)
theorem CD.xy_eq {D : CD} {s : Str} {a : Addr} {x y : Int} (h : D.pt s = some (a, x, y)) : D.xy s = (x, y) := by
  unfold CD.xy
  rw [h]
def Bd (D : CD) : Prop := ∀ s, -100000 ≤ (D.xy s).1 ∧ (D.xy s).1 ≤ 100000 ∧ -100000 ≤ (D.xy s).2 ∧ (D.xy s).2 ≤ 100000
theorem ChartAt.bd {H : Hp} {ch : Addr} {D : CD} (C : ChartAt H ch D) : Bd D := by
  intro s
  unfold CD.xy
  split
  · rename_i a x y h
    exact (C.pf s a x y h).2.2
  · exact ⟨by decide, by decide, by decide, by decide⟩
theorem CD.len_le {D : CD} (b : Bd D) (s e : Str) : D.len s e ≤ 300000 := by
  unfold CD.len
  split
  · rename_i a ax ay a' bx by' h1 h2
    have b1 := b s
    have b2 := b e
    rw [CD.xy_eq h1] at b1
    rw [CD.xy_eq h2] at b2
    dsimp only at b1 b2
    refine rt_small (Int.add_nonneg (sq0 _) (sq0 _)) (by decide) ?_
    have e1 := sq_le (show -200000 ≤ bx - ax by omega) (show bx - ax ≤ 200000 by omega)
    have e2 := sq_le (show -200000 ≤ by' - ay by omega) (show by' - ay ≤ 200000 by omega)
    omega
  · decide
theorem bg_le {D : CD} (b : Bd D) (ns : List Str) (j : Nat) : bg D ns j ≤ 300000 * (j : Int) := by
  induction j with
  | zero => exact Int.le_refl 0
  | succ j ih =>
    have := D.len_le b (rn ns j) (rn ns (j + 1))
    show bg D ns j + _ ≤ _
    omega
/-- the leg to which p belongs, of the first m + 1 -/
def lat (D : CD) (ns : List Str) (m : Nat) (p : Int) : Nat := ((List.range m).find? fun i => decide (p < bg D ns (i + 1))).getD m
theorem find_range {q : Nat → Bool} {m k : Nat} (hk : k < m) (h1 : q k = true) (h0 : ∀ i, i < k → q i = false) : (List.range m).find? q = some k := by
  have e : List.range m = List.range k ++ (List.range (m - k)).map (k + ·) := by
    rw [← List.range_add, Nat.add_sub_cancel' (Nat.le_of_lt hk)]
  rw [e, List.find?_append]
  have a : (List.range k).find? q = none := List.find?_eq_none.mpr fun i hi => by rw [h0 i (List.mem_range.mp hi)]; simp
  rw [a]
  obtain ⟨z, hz⟩ : ∃ z, m - k = z + 1 := ⟨m - k - 1, by omega⟩
  rw [hz, List.range_succ_eq_map]
  simp [h1]
theorem find_none {q : Nat → Bool} {m : Nat} (h0 : ∀ i, i < m → q i = false) : (List.range m).find? q = none :=
  List.find?_eq_none.mpr fun i hi => by rw [h0 i (List.mem_range.mp hi)]; simp
theorem lat_cases (D : CD) (ns : List Str) (m : Nat) (p : Int) : (lat D ns m p ≤ m) ∧ (∀ i, i < lat D ns m p → bg D ns (i + 1) ≤ p) ∧ (lat D ns m p < m → p < bg D ns (lat D ns m p + 1)) := by
  unfold lat
  cases h : (List.range m).find? fun i => decide (p < bg D ns (i + 1)) with
  | none =>
    have h0 := List.find?_eq_none.mp h
    refine ⟨Nat.le_refl m, fun i hi => ?_, fun z => absurd z (Nat.lt_irrefl m)⟩
    have hi : i < m := hi
    have := h0 i (List.mem_range.mpr hi)
    simp at this
    exact this
  | some k =>
    have h1 := List.find?_some h
    have h2 := List.mem_of_find?_eq_some h
    have hk := List.mem_range.mp h2
    refine ⟨Nat.le_of_lt hk, fun i hi => ?_, fun _ => of_decide_eq_true h1⟩
    have hi : i < k := hi
    by_cases e : p < bg D ns (i + 1)
    · exfalso
      have : (List.range m).find? (fun i => decide (p < bg D ns (i + 1))) = some ((List.range (i + 1)).find? (fun i => decide (p < bg D ns (i + 1)))).get! := by
        have e2 : List.range m = List.range (i + 1) ++ (List.range (m - (i + 1))).map ((i + 1) + ·) := by rw [← List.range_add, Nat.add_sub_cancel' (show i + 1 ≤ m by omega)]
        rw [e2, List.find?_append]
        cases w : (List.range (i + 1)).find? fun i => decide (p < bg D ns (i + 1)) with
        | some z => rfl
        | none =>
          have := List.find?_eq_none.mp w i (List.mem_range.mpr (Nat.lt_succ_self i))
          simp [e] at this
      rw [h] at this
      cases w : (List.range (i + 1)).find? fun i => decide (p < bg D ns (i + 1)) with
      | none =>
        have := List.find?_eq_none.mp w i (List.mem_range.mpr (Nat.lt_succ_self i))
        simp [e] at this
      | some z =>
        rw [w] at this
        have hz := List.mem_range.mp (List.mem_of_find?_eq_some w)
        have : k = z := Option.some.inj this
        omega
    · omega
theorem lat_eq {D : CD} {ns : List Str} {m k : Nat} {p : Int} (hk : k ≤ m) (h0 : ∀ i, i < k → bg D ns (i + 1) ≤ p) (h1 : k < m → p < bg D ns (k + 1)) : lat D ns m p = k := by
  obtain ⟨a, b, c⟩ := lat_cases D ns m p
  rcases Nat.lt_trichotomy (lat D ns m p) k with h | h | h
  · have := c (by omega)
    have := h0 _ h
    omega
  · exact h
  · have := b k h
    have := h1 (by omega)
    omega
theorem lat_succ (D : CD) (ns : List Str) (m : Nat) (p : Int) : lat D ns (m + 1) p = if bg D ns (m + 1) ≤ p then m + 1 else lat D ns m p := by
  obtain ⟨a, b, c⟩ := lat_cases D ns m p
  split
  · rename_i h
    exact lat_eq (Nat.le_refl _) (fun i hi => Int.le_trans (bg_mono D ns (show i + 1 ≤ m + 1 by omega)) h) (fun z => absurd z (Nat.lt_irrefl _))
  · rename_i h
    refine lat_eq (by omega) b fun _ => ?_
    by_cases e : lat D ns m p < m
    · exact c e
    · rw [show lat D ns m p = m by omega]
      omega
/-- place on leg k -/
def plc (D : CD) (ns : List Str) (k : Nat) (p : Int) : List Int :=
  let a := D.xy (rn ns k)
  let b := D.xy (rn ns (k + 1))
  let n := D.len (rn ns k) (rn ns (k + 1))
  [a.1 * n + (b.1 - a.1) * (p - bg D ns k), a.2 * n + (b.2 - a.2) * (p - bg D ns k)]
def seg (D : CD) (ns : List Str) (k : Nat) (s e : Int) : List Int := plc D ns k s ++ (plc D ns k e ++ [D.len (rn ns k) (rn ns (k + 1))])
def segOf (D : CD) (ns : List Str) (f l : Int) (k : Nat) : Option (List Int) :=
  let s := if bg D ns k > f then bg D ns k else f
  let e := if bg D ns (k + 1) < l then bg D ns (k + 1) else l
  if s < e then some (seg D ns k s e) else none
def segsOf (D : CD) (ns : List Str) (f l : Int) (ks : List Nat) : List (List Int) := ks.filterMap (segOf D ns f l)
theorem segOf_none {D : CD} {ns : List Str} {f l : Int} {k : Nat} (h : bg D ns (k + 1) ≤ f ∨ l ≤ bg D ns k) : segOf D ns f l k = none := by
  unfold segOf
  dsimp only
  rw [if_neg]
  split <;> split <;> omega
theorem segs_eq {D : CD} {ns : List Str} {f l : Int} {m : Nat} (hfl : f ≤ l) (h : lat D ns m f ≤ lat D ns m l) : segsOf D ns f l (List.range (m + 1)) = segsOf D ns f l ((List.range (lat D ns m l + 1 - lat D ns m f)).map (lat D ns m f + ·)) := by
  obtain ⟨a1, b1, c1⟩ := lat_cases D ns m f
  obtain ⟨a2, b2, c2⟩ := lat_cases D ns m l
  generalize lat D ns m f = u at *
  generalize lat D ns m l = v at *
  have e1 : List.range (m + 1) = List.range u ++ ((List.range (v + 1 - u)).map (u + ·) ++ (List.range (m - v)).map ((v + 1) + ·)) := by
    have x1 : List.range (m + 1) = List.range (v + 1) ++ (List.range (m - v)).map ((v + 1) + ·) := by rw [← List.range_add]; congr 1; omega
    have x2 : List.range (v + 1) = List.range u ++ (List.range (v + 1 - u)).map (u + ·) := by rw [← List.range_add]; congr 1; omega
    rw [x1, x2, List.append_assoc]
  unfold segsOf
  rw [e1, List.filterMap_append, List.filterMap_append]
  have n1 : (List.range u).filterMap (segOf D ns f l) = [] := List.filterMap_eq_nil_iff.mpr fun k hk => segOf_none (.inl (b1 k (List.mem_range.mp hk)))
  have n2 : ((List.range (m - v)).map ((v + 1) + ·)).filterMap (segOf D ns f l) = [] := List.filterMap_eq_nil_iff.mpr fun k hk => by
    obtain ⟨z, hz, rfl⟩ := List.mem_map.mp hk
    have := c2 (by have := List.mem_range.mp hz; omega)
    exact segOf_none (.inr (Int.le_trans (Int.le_of_lt this) (bg_mono D ns (by omega))))
  rw [n1, n2, List.nil_append, List.append_nil]
theorem lat_mono (D : CD) (ns : List Str) (m : Nat) {p q : Int} (h : p ≤ q) : lat D ns m p ≤ lat D ns m q := by
  obtain ⟨a1, b1, c1⟩ := lat_cases D ns m p
  obtain ⟨a2, b2, c2⟩ := lat_cases D ns m q
  rcases Nat.lt_or_ge (lat D ns m q) (lat D ns m p) with w | w
  · have x := b1 _ w
    have y := c2 (by omega)
    omega
  · exact w
/-- the piece, as the document says it -/
def pcs (D : CD) (ns : List Str) (low high : Int) : List (List Int) :=
  let L := ns.length - 1
  let t := bg D ns L
  if high < 0 ∨ t ≤ low then [] else
  let f := if 0 > low then 0 else low
  let l := if t < high then t else high
  if f = l then [seg D ns (lat D ns (L - 1) f) f f] else segsOf D ns f l (List.range L)
/-! lists of tuples of ints -/
def LoT (H : Hp) (l : Addr) (xss : List (List Int)) : Prop := ∃ qs : List (Addr × List Int), H l = some (.lst (qs.map fun q => V.ref q.1)) ∧ (∀ q ∈ qs, H q.1 = some (.tup (q.2.map V.int))) ∧ qs.map (·.2) = xss
theorem LoT.same {H H' : Hp} {l : Addr} {xss : List (List Int)} (L : LoT H l xss) (e : Same H H') : LoT H' l xss := let ⟨qs, h1, h2, h3⟩ := L; ⟨qs, e _ _ h1, fun q h => e _ _ (h2 q h), h3⟩
theorem LoT.keep {K : PySem.W.Frag} {H H' : Hp} {d c l : Addr} {xss : List (List Int)} (L : LoT H l xss) (S : St1 K H d c) (k : Keep d H H') : LoT H' l xss := let ⟨qs, h1, h2, h3⟩ := L; ⟨qs, k.l S h1, fun q h => k.t S (h2 q h), h3⟩
theorem LoT.li {H : Hp} {l : Addr} {xss : List (List Int)} (L : LoT H l xss) : ∃ xs : List V, H l = some (.lst xs) ∧ xs.length = xss.length := let ⟨qs, h1, _, h3⟩ := L; ⟨_, h1, by rw [List.length_map, ← h3, List.length_map]⟩
theorem LoT.snoc {H : Hp} {l p : Addr} {xss : List (List Int)} {xs : List Int} {ys : List V} (L : LoT H l xss) (hl : H l = some (.lst ys)) (hp : H p = some (.tup (xs.map V.int))) : LoT (upd H l (.lst (ys ++ [.ref p]))) l (xss ++ [xs]) := by
  obtain ⟨qs, h1, h2, h3⟩ := L
  rw [h1] at hl
  cases hl
  refine ⟨qs ++ [(p, xs)], by rw [upd_same, List.map_append]; rfl, fun q hq => ?_, by rw [List.map_append, h3]; rfl⟩
  have ht : H q.1 = some (.tup (q.2.map V.int)) := by
    rcases List.mem_append.mp hq with h | h
    · exact h2 q h
    · rw [List.mem_singleton.mp h]; exact hp
  rw [upd_ne (ne_of ht h1 (by intro e; cases e))]
  exact ht
theorem LoT.nil {H : Hp} {l : Addr} (h : H l = some (.lst [])) : LoT H l [] := ⟨[], h, (fun _ h => nomatch h), rfl⟩
def pdT (xs : List Int) : PyData := .tuple (xs.map PyData.int)
theorem dpAll_int {K : PySem.W.Frag} {H : Hp} : ∀ xs : List Int, DpAll K H (xs.map V.int) (xs.map PyData.int)
  | [] => .nil
  | x :: xs => .cons (.int x) (dpAll_int xs)
theorem LoT.dp {K : PySem.W.Frag} {H : Hp} {l : Addr} {xss : List (List Int)} (L : LoT H l xss) : Dp K H (.ref l) (.list (xss.map pdT)) := by
  obtain ⟨qs, h1, h2, rfl⟩ := L
  refine .lst (.inl (.inl h1)) ?_
  clear h1
  induction qs with
  | nil => exact .nil
  | cons q qs ih =>
    refine .cons (.tup (.inl (.inl (h2 q List.mem_cons_self))) (dpAll_int _)) (ih fun z hz => h2 z (List.mem_cons_of_mem _ hz))
/-! a path's object -/
def pfl (r l1 l2 l3 l4 : Addr) : List (Str × V) := [("_route", .ref r), ("_legs", .ref l1), ("_starts", .ref l2), ("_vectors", .ref l3), ("_begins", .ref l4)]
section
variable {r l1 l2 l3 l4 : Addr}
theorem pf1 : (pfl r l1 l2 l3 l4).lookup ("_route" : Str) = some (.ref r) := by rfl
theorem pf2 : (pfl r l1 l2 l3 l4).lookup ("_legs" : Str) = some (.ref l1) := by rfl
theorem pf3 : (pfl r l1 l2 l3 l4).lookup ("_starts" : Str) = some (.ref l2) := by rfl
theorem pf4 : (pfl r l1 l2 l3 l4).lookup ("_vectors" : Str) = some (.ref l3) := by rfl
theorem pf5 : (pfl r l1 l2 l3 l4).lookup ("_begins" : Str) = some (.ref l4) := by rfl
end
structure PathP (C : Addr) (H : Hp) (p : Addr) (D : CD) (ns : List Str) (r : Addr) (i : Nat) (dx l1 l2 l3 l4 : Addr) (sa va : List Addr) : Prop where
  ob : H p = some (.ins C dx (pfl r l1 l2 l3 l4))
  rt : H r = some (.tup (ns.map V.str))
  lg : H l1 = some (.lst ((List.range i).map fun j => optL (D.leg (rn ns j) (rn ns (j + 1)))))
  st : H l2 = some (.lst (sa.map V.ref))
  ve : H l3 = some (.lst (va.map V.ref))
  bgn : H l4 = some (.lst ((List.range (i + 1)).map fun j => V.int (bg D ns j)))
  sl : sa.length = i
  vl : va.length = i
  sx : ∀ j (h : j < sa.length), H sa[j] = some (.tup [.int (D.xy (rn ns j)).1, .int (D.xy (rn ns j)).2])
  vx : ∀ j (h : j < va.length), H va[j] = some (.tup [.int ((D.xy (rn ns (j + 1))).1 - (D.xy (rn ns j)).1), .int ((D.xy (rn ns (j + 1))).2 - (D.xy (rn ns j)).2), .int (D.len (rn ns j) (rn ns (j + 1)))])
  d12 : l1 ≠ l2
  d13 : l1 ≠ l3
  d14 : l1 ≠ l4
  d23 : l2 ≠ l3
  d24 : l2 ≠ l4
  d34 : l3 ≠ l4
theorem PathP.same {C p r dx l1 l2 l3 l4 : Addr} {H H' : Hp} {D : CD} {ns : List Str} {i : Nat} {sa va : List Addr} (P : PathP C H p D ns r i dx l1 l2 l3 l4 sa va) (e : Same H H') : PathP C H' p D ns r i dx l1 l2 l3 l4 sa va :=
  { P with ob := e _ _ P.ob, rt := e _ _ P.rt, lg := e _ _ P.lg, st := e _ _ P.st, ve := e _ _ P.ve, bgn := e _ _ P.bgn, sx := fun j h => e _ _ (P.sx j h), vx := fun j h => e _ _ (P.vx j h) }
theorem PathP.keep {K : PySem.W.Frag} {C p r dx l1 l2 l3 l4 d c : Addr} {H H' : Hp} {D : CD} {ns : List Str} {i : Nat} {sa va : List Addr} (P : PathP C H p D ns r i dx l1 l2 l3 l4 sa va) (S : St1 K H d c) (k : Keep d H H') : PathP C H' p D ns r i dx l1 l2 l3 l4 sa va :=
  { P with ob := k _ _ P.ob (let ⟨_, w⟩ := S.dk; ne_of P.ob w (by intro z; cases z)), rt := k.t S P.rt, lg := k.l S P.lg, st := k.l S P.st, ve := k.l S P.ve, bgn := k.l S P.bgn, sx := fun j h => k.t S (P.sx j h), vx := fun j h => k.t S (P.vx j h) }
def PathAt (C : Addr) (H : Hp) (p : Addr) (D : CD) (ns : List Str) (r : Addr) : Prop := ∃ dx l1 l2 l3 l4 sa va, PathP C H p D ns r (ns.length - 1) dx l1 l2 l3 l4 sa va
theorem PathAt.same {C p r : Addr} {H H' : Hp} {D : CD} {ns : List Str} (P : PathAt C H p D ns r) (e : Same H H') : PathAt C H' p D ns r := let ⟨_, _, _, _, _, _, _, P⟩ := P; ⟨_, _, _, _, _, _, _, P.same e⟩
theorem PathAt.keep {K : PySem.W.Frag} {C p r d c : Addr} {H H' : Hp} {D : CD} {ns : List Str} (P : PathAt C H p D ns r) (S : St1 K H d c) (k : Keep d H H') : PathAt C H' p D ns r := let ⟨_, _, _, _, _, _, _, P⟩ := P; ⟨_, _, _, _, _, _, _, P.keep S k⟩
/-- what the class has -/
structure PathY (K : PySem.W.Frag) (mg : Str → Option Value) (C : Addr) : Prop where
  cl : Cls K C
  n1 : NoAttr K C "_route"
  n2 : NoAttr K C "_legs"
  n3 : NoAttr K C "_starts"
  n4 : NoAttr K C "_vectors"
  n5 : NoAttr K C "_begins"
/-! promises of the methods -/
def spTotal (C : Addr) : Sp := fun vs H Q _ => ∃ (p r dx l1 l2 l3 l4 : Addr) (D : CD) (ns : List Str) (i : Nat), vs = [.ref p] ∧ H p = some (.ins C dx (pfl r l1 l2 l3 l4)) ∧ H l4 = some (.lst ((List.range (i + 1)).map fun j => V.int (bg D ns j))) ∧ Q (.int (bg D ns i)) H
def spLegAt (C : Addr) : Sp := fun vs H Q _ => ∃ (p r : Addr) (D : CD) (ns : List Str) (x : Int), vs = [.ref p, .int x] ∧ PathAt C H p D ns r ∧ 2 ≤ ns.length ∧ ns.length ≤ 20 ∧ Q (.int (lat D ns (ns.length - 1 - 1) x : Nat)) H
def spBegin (C : Addr) : Sp := fun vs H Q _ => ∃ (p r : Addr) (D : CD) (ns : List Str) (j : Nat) (z : Int), vs = [.ref p, .int z] ∧ z = (j : Int) ∧ PathAt C H p D ns r ∧ j ≤ ns.length - 1 ∧ Q (.int (bg D ns j)) H
def spLegI (C : Addr) : Sp := fun vs H Q _ => ∃ (p r : Addr) (D : CD) (ns : List Str) (j : Nat) (z : Int), vs = [.ref p, .int z] ∧ z = (j : Int) ∧ PathAt C H p D ns r ∧ j < ns.length - 1 ∧ Q (optL (D.leg (rn ns j) (rn ns (j + 1)))) H
def spVec (C : Addr) : Sp := fun vs H Q _ => ∃ (p r : Addr) (D : CD) (ns : List Str) (j : Nat) (z : Int), vs = [.ref p, .int z] ∧ z = (j : Int) ∧ PathAt C H p D ns r ∧ j < ns.length - 1 ∧
  ∀ v, H v = some (.tup [.int ((D.xy (rn ns (j + 1))).1 - (D.xy (rn ns j)).1), .int ((D.xy (rn ns (j + 1))).2 - (D.xy (rn ns j)).2), .int (D.len (rn ns j) (rn ns (j + 1)))]) → Q (.ref v) H
def spRoute (C : Addr) : Sp := fun vs H Q _ => ∃ (p r : Addr) (D : CD) (ns : List Str), vs = [.ref p] ∧ PathAt C H p D ns r ∧ Q (.ref r) H
def spPoint (C : Addr) : Sp := fun vs H Q _ => ∃ (p r : Addr) (D : CD) (ns : List Str) (j : Nat) (z x : Int), vs = [.ref p, .int z, .int x] ∧ z = (j : Int) ∧ PathAt C H p D ns r ∧ Bd D ∧ j < ns.length - 1 ∧ ∀ q H', H q = none → Same H H' → H' q = some (.tup ((plc D ns j x).map V.int)) → Q (.ref q) H'
def spSeg (C : Addr) : Sp := fun vs H Q _ => ∃ (p r : Addr) (D : CD) (ns : List Str) (j : Nat) (z s e : Int), vs = [.ref p, .int z, .int s, .int e] ∧ z = (j : Int) ∧ PathAt C H p D ns r ∧ Bd D ∧ j < ns.length - 1 ∧ ∀ q H', H q = none → Same H H' → H' q = some (.tup ((seg D ns j s e).map V.int)) → Q (.ref q) H'
def spSegs (C : Addr) : Sp := fun vs H Q _ => ∃ (p r : Addr) (D : CD) (ns : List Str) (f l : Int), vs = [.ref p, .int f, .int l] ∧ PathAt C H p D ns r ∧ Bd D ∧ 2 ≤ ns.length ∧ ns.length ≤ 20 ∧ f ≤ l ∧
  ∀ q H', H q = none → Same H H' → LoT H' q (segsOf D ns f l (List.range (ns.length - 1))) → Q (.ref q) H'
def spPlace (C : Addr) : Sp := fun vs H Q _ => ∃ (p r : Addr) (D : CD) (ns : List Str) (x : Int), vs = [.ref p, .int x] ∧ PathAt C H p D ns r ∧ Bd D ∧ 2 ≤ ns.length ∧ ns.length ≤ 20 ∧
  ∀ q H', H q = none → Same H H' → H' q = some (.tup ((plc D ns (lat D ns (ns.length - 1 - 1) x) x ++ [D.len (rn ns (lat D ns (ns.length - 1 - 1) x)) (rn ns (lat D ns (ns.length - 1 - 1) x + 1))]).map V.int)) → Q (.ref q) H'
def spPiece (C : Addr) : Sp := fun vs H Q _ => ∃ (p r : Addr) (D : CD) (ns : List Str) (f l : Int), vs = [.ref p, .int f, .int l] ∧ PathAt C H p D ns r ∧ Bd D ∧ 2 ≤ ns.length ∧ ns.length ≤ 20 ∧ f ≤ l ∧
  ∀ q H', H q = none → Same H H' → LoT H' q (pcs D ns f l) → Q (.ref q) H'
def spJoin (C : Addr) : Sp := fun vs H Q _ => ∃ (p ch r dx l1 l2 l3 l4 : Addr) (D : CD) (ns : List Str) (i : Nat) (sa va : List Addr), vs = [.ref p, .ref ch, .str (rn ns i), .str (rn ns (i + 1))] ∧ ChartAt H ch D ∧ PathP C H p D ns r i dx l1 l2 l3 l4 sa va ∧
  (∃ l, D.leg (rn ns i) (rn ns (i + 1)) = some l) ∧ i ≤ 20 ∧ ∀ (s v : Addr) H', PathP C H' p D ns r (i + 1) dx l1 l2 l3 l4 (sa ++ [s]) (va ++ [v]) → (∀ b o, H b = some o → b ≠ l1 → b ≠ l2 → b ≠ l3 → b ≠ l4 → H' b = some o) → Q .non H'
def spPInit (C : Addr) : Sp := fun vs H Q _ => ∃ (p ch r dx : Addr) (D : CD) (ns : List Str), vs = [.ref p, .ref ch, .ref r] ∧ H p = some (.ins C dx []) ∧ ChartAt H ch D ∧ H r = some (.tup (ns.map V.str)) ∧ Route D ns ∧
  ∀ H', PathAt C H' p D ns r → (∀ b o, H b = some o → b ≠ p → H' b = some o) → Q .non H'
theorem ChartAt.fr {H H' : Hp} {ch p C dx : Addr} {fs : List (Str × V)} {D : CD} (Q : ChartAt H ch D) (hp : H p = some (.ins C dx fs)) (e : ∀ b o, H b = some o → b ≠ p → H' b = some o) : ChartAt H' ch D := by
  have e' : ∀ b o, H b = some o → (∀ C dx fs, o ≠ .ins C dx fs) → H' b = some o := fun b o h n => e b o h (ne_of h hp (n _ _ _))
  obtain ⟨⟨kvs, h1, h2, h3⟩, h4, h5, h6, h7, h8, h8', h9⟩ := Q
  exact ⟨⟨kvs, e' _ _ h1 (by intro _ _ _ z; cases z), h2, h3⟩, e' _ _ h4 (by intro _ _ _ z; cases z), e' _ _ h5 (by intro _ _ _ z; cases z), fun l hl => e' _ _ (h6 l hl) (by intro _ _ _ z; cases z),
    fun n a x y hp => let ⟨p1, p2, p3⟩ := h7 n a x y hp; ⟨p1, e' _ _ p2 (by intro _ _ _ z; cases z), p3⟩, h8, h8', h9⟩
/-! a class of the text, ready to be made -/
structure CDef (P : Program) (w : World) (K : PySem.W.Frag) (mg : Str → Option Value) (base : Heap) (k : Nat) (C : Addr) (x : Str) (ps : List Str) (sp : Sp) : Prop where
  ex : ∃ (f : Addr) (fd : FuncData), FnOk P w K mg base CX0 k f fd ps sp ∧ Mk K C f ∧ mg x = some (.ref C) ∧ Binds K fd ps []
theorem pe_cdef {X : Cx} {k : Nat} {C : Addr} {x : Str} {ps : List Str} {sp : Sp} {p pos : Pos} {e : Expr} {es : List Expr} {t : TA} (D : CDef X.prog X.w X.K X.mg X.base k C x ps sp) (hr : Room (k + 1) X.A) (hg : Gl X x)
    (ha : PA X (e :: es) t) (hdb : (x == ("__debug__" : Str)) = false := by decide) (he : starEach (e :: es) X.env = (false, eval e X.env) :: starEach es X.env := by rfl) (hpl : (backTo pos (starEach es X.env)).any (·.1) = false := by rfl) :
    PE X (.Call (.Name x p) (e :: es) [] pos) (tMake C sp [] E0 t) := by
  obtain ⟨f, fd, F, M, m, b⟩ := D.ex
  exact pe_make M F hr hg m b .nil pass0 ha hdb he hpl
/-! what the law's own defs promise -/
def bgs (D : CD) (ns : List Str) : List Int := (List.range ns.length).map (bg D ns)
theorem bgs_at {D : CD} {ns : List Str} {j : Nat} (h : j < ns.length) : ((bgs D ns).map V.int)[j]? = some (.int (bg D ns j)) := by
  unfold bgs
  rw [List.getElem?_map, List.getElem?_map, List.getElem?_range h]
  rfl
theorem bgs_len {D : CD} {ns : List Str} : ((bgs D ns).map V.int).length = ns.length := by
  unfold bgs
  rw [List.length_map, List.length_map, List.length_range]
theorem bgs_last {D : CD} {ns : List Str} (h : 0 < ns.length) : ((bgs D ns).map V.int).getLast? = some (.int (bg D ns (ns.length - 1))) := by
  rw [List.getLast?_eq_getElem?, bgs_len]
  exact bgs_at (by omega)
def spBegins : Sp := fun vs H Q _ => ∃ (ld r : Addr) (D : CD) (ns : List Str), vs = [.ref ld, .ref r] ∧ LenAt H ld D ∧ H r = some (.tup (ns.map V.str)) ∧ Route D ns ∧ ∀ b H', H b = none → Same H H' → H' b = some (.lst ((bgs D ns).map V.int)) → Q (.ref b) H'
def spLawLegAt : Sp := fun vs H Q _ => ∃ (b : Addr) (x : Int) (D : CD) (ns : List Str), vs = [.ref b, .int x] ∧ H b = some (.lst ((bgs D ns).map V.int)) ∧ 2 ≤ ns.length ∧ ns.length ≤ 20 ∧ Q (.int (lat D ns (ns.length - 1 - 1) x : Nat)) H
def spPlaceOn : Sp := fun vs H Q _ => ∃ (ch r b : Addr) (z x : Int) (D : CD) (ns : List Str) (k : Nat), vs = [.ref ch, .ref r, .ref b, .int z, .int x] ∧ z = (k : Int) ∧ ChartAt H ch D ∧ H r = some (.tup (ns.map V.str)) ∧ H b = some (.lst ((bgs D ns).map V.int)) ∧ Route D ns ∧ k + 1 < ns.length ∧
  ∀ q H', H q = none → Same H H' → H' q = some (.tup ((plc D ns k x ++ [D.len (rn ns k) (rn ns (k + 1))]).map V.int)) → Q (.ref q) H'
def spLawPiece : Sp := fun vs H Q _ => ∃ (ch r b : Addr) (f l : Int) (D : CD) (ns : List Str), vs = [.ref ch, .ref r, .ref b, .int f, .int l] ∧ ChartAt H ch D ∧ H r = some (.tup (ns.map V.str)) ∧ H b = some (.lst ((bgs D ns).map V.int)) ∧ Route D ns ∧ f ≤ l ∧
  ∀ q H', H q = none → Same H H' → LoT H' q (pcs D ns f l) → Q (.ref q) H'
def spRight (C : Addr) : Sp := fun vs H Q _ => ∃ (p ch ld r : Addr) (D : CD) (ns : List Str), vs = [.ref p, .ref ch, .ref ld, .ref r] ∧ PathAt C H p D ns r ∧ ChartAt H ch D ∧ LenAt H ld D ∧ Route D ns ∧ ∀ H', Same H H' → Q (.bl true) H'
def spProgress (K : PySem.W.Frag) : Sp := fun vs H Q _ => ∃ (d c b : Addr) (D : CD) (ns : List Str), vs = [.ref d, .ref b] ∧ St1 K H d c ∧ H b = some (.lst ((bgs D ns).map V.int)) ∧ Bd D ∧ 2 ≤ ns.length ∧ ns.length ≤ 20 ∧ ∀ z H', St1 K H' d c → Keep d H H' → Q (.int z) H'
def spAreNum : Sp := fun vs H Q _ => ∃ (l : Addr) (xss : List (List Int)), vs = [.ref l] ∧ LoT H l xss ∧ xss.length ≤ 100 ∧ (∀ xs ∈ xss, xs.length ≤ 100) ∧ ∀ H', Same H H' → Q (.bl true) H'
theorem segsOf_len (D : CD) (ns : List Str) (f l : Int) (ks : List Nat) : (segsOf D ns f l ks).length ≤ ks.length := List.length_filterMap_le _ _
theorem pcs_len (D : CD) (ns : List Str) (f l : Int) : (pcs D ns f l).length ≤ ns.length + 1 := by
  unfold pcs
  dsimp only
  generalize (if 0 > f then 0 else f) = u
  generalize (if bg D ns (ns.length - 1) < l then bg D ns (ns.length - 1) else l) = v
  split
  · exact Nat.zero_le _
  · split
    · show 1 ≤ _
      omega
    · have := segsOf_len D ns u v (List.range (ns.length - 1))
      rw [List.length_range] at this
      omega
theorem seg_len (D : CD) (ns : List Str) (k : Nat) (s e : Int) : (seg D ns k s e).length = 5 := rfl
theorem segOf_len {D : CD} {ns : List Str} {f l : Int} {k : Nat} {xs : List Int} (h : segOf D ns f l k = some xs) : xs.length = 5 := by
  unfold segOf at h
  dsimp only at h
  generalize (if bg D ns k > f then bg D ns k else f) = u at h
  generalize (if bg D ns (k + 1) < l then bg D ns (k + 1) else l) = v at h
  by_cases e : u < v
  · rw [if_pos e] at h
    rw [← Option.some.inj h, seg_len]
  · rw [if_neg e] at h
    cases h
theorem pcs_five (D : CD) (ns : List Str) (f l : Int) : ∀ xs ∈ pcs D ns f l, xs.length ≤ 100 := by
  unfold pcs
  dsimp only
  generalize (if 0 > f then 0 else f) = u
  generalize (if bg D ns (ns.length - 1) < l then bg D ns (ns.length - 1) else l) = v
  intro xs h
  split at h
  · cases h
  · split at h
    · rw [List.mem_singleton.mp h, seg_len]
      decide
    · obtain ⟨k, _, e⟩ := List.mem_filterMap.mp h
      rw [segOf_len e]
      decide
theorem Route.pt {H : Hp} {ch : Addr} {D : CD} {ns : List Str} (R : Route D ns) (C : ChartAt H ch D) {j : Nat} (h : j + 1 < ns.length) : (∃ a x y, D.pt (rn ns j) = some (a, x, y)) ∧ ∃ a x y, D.pt (rn ns (j + 1)) = some (a, x, y) := by
  obtain ⟨l, hl⟩ := R.ch j h
  obtain ⟨h1, h2, h3⟩ := CD.leg_mem hl
  have := C.wf l h1
  rw [h2, h3] at this
  exact this
/-! data that can be compared -/
theorem cla {xs : List PyData} (h : ∀ x ∈ xs, x.canLay0 = true) : PyData.canLayAll0 xs = true := by
  induction xs with
  | nil => rfl
  | cons x xs ih =>
    show (PyData.canLay0 x && PyData.canLayAll0 xs) = true
    rw [h x List.mem_cons_self, ih fun y hy => h y (List.mem_cons_of_mem _ hy)]
    rfl
theorem dpa {xs : List PyData} {n : Nat} (h : ∀ x ∈ xs, x.depth ≤ n) : PyData.depthAll xs ≤ n := by
  induction xs with
  | nil => exact Nat.zero_le _
  | cons x xs ih =>
    show max (PyData.depth x) (PyData.depthAll xs) ≤ n
    exact Nat.max_le.mpr ⟨h x List.mem_cons_self, ih fun y hy => h y (List.mem_cons_of_mem _ hy)⟩
theorem sh_of {d : PyData} (h1 : d.canLay0 = true) (h2 : d.depth ≤ 64) : SeqAt.shaped d = true := by
  unfold SeqAt.shaped
  rw [h1, decide_eq_true h2]
  rfl
theorem can_str {ns : List Str} (h : ∀ n ∈ ns, sOk n) : (PyData.tuple (ns.map PyData.str)).canLay0 = true := by
  show PyData.canLayAll0 _ = true
  refine cla fun x hx => ?_
  obtain ⟨n, hn, rfl⟩ := List.mem_map.mp hx
  exact h n hn
theorem sh_str {ns : List Str} (h : ∀ n ∈ ns, sOk n) : SeqAt.shaped (.tuple (ns.map PyData.str)) = true := by
  refine sh_of (can_str h) ?_
  show PyData.depthAll _ + 1 ≤ 64
  have : PyData.depthAll (ns.map PyData.str) ≤ 1 := dpa fun x hx => by
    obtain ⟨n, _, rfl⟩ := List.mem_map.mp hx
    exact Nat.zero_le _
  omega
theorem can_pd (xs : List Int) : (pdT xs).canLay0 = true := by
  show PyData.canLayAll0 _ = true
  refine cla fun x hx => ?_
  obtain ⟨n, hn, rfl⟩ := List.mem_map.mp hx
  rfl
theorem dep_pd (xs : List Int) : (pdT xs).depth ≤ 2 := by
  show PyData.depthAll _ + 1 ≤ 2
  have : PyData.depthAll (xs.map PyData.int) ≤ 1 := dpa fun x hx => by
    obtain ⟨n, _, rfl⟩ := List.mem_map.mp hx
    exact Nat.zero_le _
  omega
theorem sh_pd (xs : List Int) : SeqAt.shaped (pdT xs) = true := sh_of (can_pd xs) (Nat.le_trans (dep_pd xs) (by decide))
theorem can_pds (xss : List (List Int)) : (PyData.list (xss.map pdT)).canLay0 = true := by
  show PyData.canLayAll0 _ = true
  refine cla fun x hx => ?_
  obtain ⟨n, hn, rfl⟩ := List.mem_map.mp hx
  exact can_pd n
theorem sh_pds (xss : List (List Int)) : SeqAt.shaped (.list (xss.map pdT)) = true := by
  refine sh_of (can_pds xss) ?_
  show PyData.depthAll _ + 1 ≤ 64
  have : PyData.depthAll (xss.map pdT) ≤ 2 := dpa fun x hx => by
    obtain ⟨n, _, rfl⟩ := List.mem_map.mp hx
    exact dep_pd n
  omega
theorem dpAll_str {K : PySem.W.Frag} {H : Hp} : ∀ xs : List Str, DpAll K H (xs.map V.str) (xs.map PyData.str)
  | [] => .nil
  | x :: xs => .cons (.str x) (dpAll_str xs)
def pdL (l : Lg) : PyData := .tuple [.str l.s, .str l.e, .str l.c, .int l.lo, .int l.hi]
theorem can_lg {l : Lg} (h : sOk l.s ∧ sOk l.e ∧ sOk l.c) : (pdL l).canLay0 = true := by
  show (PyData.canLay0 (.str l.s) && (PyData.canLay0 (.str l.e) && (PyData.canLay0 (.str l.c) && (true && (true && true))))) = true
  have h1 : PyData.canLay0 (.str l.s) = true := h.1
  have h2 : PyData.canLay0 (.str l.e) = true := h.2.1
  have h3 : PyData.canLay0 (.str l.c) = true := h.2.2
  rw [h1, h2, h3]
  rfl
theorem dp_lg {K : PySem.W.Frag} {H : Hp} {l : Lg} (h : H l.a = some (.tup l.v)) : Dp K H (.ref l.a) (pdL l) := .tup (.inl (.inl h)) (.cons (.str _) (.cons (.str _) (.cons (.str _) (.cons (.int _) (.cons (.int _) .nil)))))
theorem sh_lg {l : Lg} (h : sOk l.s ∧ sOk l.e ∧ sOk l.c) : SeqAt.shaped (pdL l) = true := sh_of (can_lg h) (by
  show PyData.depthAll _ + 1 ≤ 64
  have : PyData.depthAll [.str l.s, .str l.e, .str l.c, .int l.lo, .int l.hi] ≤ 1 := dpa fun x hx => by
    simp only [List.mem_cons, List.not_mem_nil, or_false] at hx
    rcases hx with rfl | rfl | rfl | rfl | rfl <;> exact Nat.zero_le _
  omega)
theorem Route.sok {H : Hp} {ch : Addr} {D : CD} {ns : List Str} (R : Route D ns) (C : ChartAt H ch D) : ∀ n ∈ ns, sOk n := by
  intro n hn
  obtain ⟨j, hj, rfl⟩ := List.getElem_of_mem hn
  have e : ∀ i (h : i < ns.length), rn ns i = ns[i] := fun i h => by
    unfold rn
    rw [List.getD_eq_getElem?_getD, List.getElem?_eq_getElem h]
    rfl
  have n2 := R.n2
  by_cases h : j + 1 < ns.length
  · obtain ⟨l, hl⟩ := R.ch j h
    obtain ⟨h1, h2, _⟩ := CD.leg_mem hl
    have := (C.sk l h1).1
    rw [h2, e j hj] at this
    exact this
  · obtain ⟨i, rfl⟩ : ∃ i, j = i + 1 := ⟨j - 1, by omega⟩
    obtain ⟨l, hl⟩ := R.ch i hj
    obtain ⟨h1, _, h3⟩ := CD.leg_mem hl
    have := (C.sk l h1).2.1
    rw [h3, e (i + 1) hj] at this
    exact this
end Sk

set_option Elab.async false
set_option linter.all false
set_option maxRecDepth 100000
set_option maxHeartbeats 4000000
namespace Sk
open PySem PySem.Spec PyProof.Rows L2
abbrev WQ := Addr × Int × Int × Int × Int
def wv (q : WQ) : List V := [.int q.2.1, .int q.2.2.1, .int q.2.2.2.1, .int q.2.2.2.2]
def lb (t : Int) (qs : List WQ) : List WQ := qs.filter fun q => decide (q.2.1 ≤ t)
theorem lb_snoc (t : Int) (qs : List WQ) (q : WQ) : lb t (qs ++ [q]) = lb t qs ++ (if q.2.1 ≤ t then [q] else []) := by
  unfold lb
  rw [List.filter_append]
  congr 1
  by_cases h : q.2.1 ≤ t <;> simp [h]
structure WAt (H : Hp) (l : Addr) (qs : List WQ) : Prop where
  li : H l = some (.lst (qs.map fun q => V.ref q.1))
  tu : ∀ q ∈ qs, H q.1 = some (.tup (wv q))
  bd : ∀ q ∈ qs, -10001 ≤ q.2.2.1 ∧ q.2.2.1 ≤ 10001 ∧ -10001 ≤ q.2.2.2.1 ∧ q.2.2.2.1 ≤ 10001 ∧ 0 ≤ q.2.2.2.2 ∧ q.2.2.2.2 ≤ 10001
  hd : ∃ q r, qs = q :: r ∧ q.2.1 = 0
theorem WAt.keep {K : PySem.W.Frag} {d c l : Addr} {H H' : Hp} {qs : List WQ} (W : WAt H l qs) (S : St1 K H d c) (k : Keep d H H') : WAt H' l qs := ⟨k.l S W.li, fun q h => k.t S (W.tu q h), W.bd, W.hd⟩
theorem WAt.same {l : Addr} {H H' : Hp} {qs : List WQ} (W : WAt H l qs) (e : Same H H') : WAt H' l qs := ⟨e _ _ W.li, fun q h => e _ _ (W.tu q h), W.bd, W.hd⟩
theorem WAt.at {l : Addr} {H : Hp} {qs : List WQ} (W : WAt H l qs) {i : Nat} (h : i < qs.length) : (qs.map fun q => V.ref q.1)[i]? = some (.ref qs[i].1) := by simp [h]
theorem WAt.snoc {l : Addr} {H : Hp} {qs : List WQ} {q : WQ} (W : WAt H l qs) (hp : H q.1 = some (.tup (wv q))) (hb : -10001 ≤ q.2.2.1 ∧ q.2.2.1 ≤ 10001 ∧ -10001 ≤ q.2.2.2.1 ∧ q.2.2.2.1 ≤ 10001 ∧ 0 ≤ q.2.2.2.2 ∧ q.2.2.2.2 ≤ 10001) :
    WAt (upd H l (.lst ((qs.map fun q => V.ref q.1) ++ [.ref q.1]))) l (qs ++ [q]) := by
  refine ⟨by rw [upd_same, List.map_append]; rfl, fun z hz => ?_, fun z hz => ?_, ?_⟩
  · have ht : H z.1 = some (.tup (wv z)) := by
      rcases List.mem_append.mp hz with h | h
      · exact W.tu z h
      · rw [List.mem_singleton.mp h]; exact hp
    rw [upd_ne (ne_of ht W.li (by intro e; cases e))]
    exact ht
  · rcases List.mem_append.mp hz with h | h
    · exact W.bd z h
    · rw [List.mem_singleton.mp h]; exact hb
  · obtain ⟨q0, r, h, h0⟩ := W.hd
    exact ⟨q0, r ++ [q], by rw [h]; rfl, h0⟩

def ab (x : Int) : Int := if x < 0 then -x else x
theorem mul_ab {f e x : Int} (h0 : -e ≤ f) (h1 : f ≤ e) : -(e * ab x) ≤ f * x ∧ f * x ≤ e * ab x := by
  unfold ab
  split
  · rename_i h
    have a := Int.mul_le_mul_of_nonneg_right h1 (show 0 ≤ -x by omega)
    have b := Int.mul_le_mul_of_nonneg_right h0 (show 0 ≤ -x by omega)
    simp only [Int.mul_neg, Int.neg_mul, Int.neg_neg] at a b ⊢
    omega
  · rename_i h
    have a := Int.mul_le_mul_of_nonneg_right h1 (show 0 ≤ x by omega)
    have b := Int.mul_le_mul_of_nonneg_right h0 (show 0 ≤ x by omega)
    rw [Int.neg_mul] at b
    omega
def lo (dx dy n s sl wx wy e : Int) : Int := s - sl + (wx * dx + wy * dy - e * (ab dx + ab dy)) / n
def hi (dx dy n s sl wx wy e : Int) : Int := s + sl + (wx * dx + wy * dy + e * (ab dx + ab dy)) / n
def fp (dx dy n x y : Int) : Int := (x * dx + y * dy) / n
theorem div_mono {a b n : Int} (hn : 0 < n) (h : a ≤ b) : a / n ≤ b / n := Int.ediv_le_ediv hn h
def spWind (K : PySem.W.Frag) : Sp := fun vs H Q _ => ∃ (l : Addr) (t : Int) (qs : List WQ), vs = [.ref l, .int t] ∧ WAt H l qs ∧ 0 ≤ t ∧ ∀ q, (lb t qs).getLast? = some q → Q (.ref q.1) H
def spStep : Sp := fun vs H Q _ => ∃ (v w : Addr) (s sl dx dy n t wx wy e : Int), vs = [.ref v, .int s, .int sl, .ref w] ∧ H v = some (.tup [.int dx, .int dy, .int n]) ∧ H w = some (.tup [.int t, .int wx, .int wy, .int e]) ∧
  (-10000000 ≤ dx ∧ dx ≤ 10000000 ∧ -10000000 ≤ dy ∧ dy ≤ 10000000 ∧ -10000000 ≤ wx ∧ wx ≤ 10000000 ∧ -10000000 ≤ wy ∧ wy ≤ 10000000 ∧ -10000000 ≤ e ∧ e ≤ 10000000 ∧ 0 < n ∧ n ≤ 100000000) ∧
  ∀ p, H p = none → Q (.ref p) (upd H p (.tup [.int (lo dx dy n s sl wx wy e), .int (hi dx dy n s sl wx wy e)]))
end Sk

set_option Elab.async false
set_option linter.all false
set_option maxRecDepth 100000
set_option maxHeartbeats 4000000
namespace Sk
open PySem PySem.Spec PyProof.Rows L2
/-! next boxes: the mathematics -/
def clamp (lo hi x : Int) : Int := if hi < (if lo > x then lo else x) then hi else (if lo > x then lo else x)
def tgt (D : CD) (ns : List Str) (k : Nat) (x : Int) : Int :=
  let v := match D.leg (rn ns k) (rn ns (k + 1)) with | some l => clamp l.lo l.hi x | none => x
  if k + 2 < ns.length then match D.leg (rn ns (k + 1)) (rn ns (k + 2)) with | some l => clamp l.lo l.hi v | none => v else v
def PosR (D : CD) (ns : List Str) : Prop := ∀ j, j + 1 < ns.length → 1 ≤ D.len (rn ns j) (rn ns (j + 1))
theorem PosR.of {D : CD} {ns : List Str} (R : Route D ns) (h : ∀ l ∈ D.ls, 1 ≤ D.len l.s l.e) : PosR D ns := fun j hj => by
  obtain ⟨l, hl⟩ := R.ch j hj
  obtain ⟨h1, h2, h3⟩ := CD.leg_mem hl
  have := h l h1
  rw [h2, h3] at this
  exact this
theorem PosR.lt {D : CD} {ns : List Str} (p : PosR D ns) {j : Nat} (h : j + 1 < ns.length) : bg D ns j + 1 ≤ bg D ns (j + 1) := by
  have := p j h
  show _ ≤ bg D ns j + _
  omega
def lowest (a b x g : Int) : Int := if x < g then (if g < x + a then g else x + a) else (if g > x - b then g else x - b)
def highest (a b x g : Int) : Int := if x > g then (if g > x - a then g else x - a) else (if g < x + b then g else x + b)
def tow (x g r : Int) : Int := if x < g then (if g < x + r then g else x + r) else (if g > x - r then g else x - r)
theorem low_mem {a b x g : Int} : lowest a b x g = tow x g a ∨ lowest a b x g = tow x g b := by
  unfold lowest tow
  by_cases h : x < g
  · left; rw [if_pos h, if_pos h]
  · right; rw [if_neg h, if_neg h]
theorem low_le {a b x y g r : Int} (ha : 1 ≤ a) (hab : a ≤ b) (h : x ≤ y) (hr : r = a ∨ r = b) : lowest a b x g ≤ tow y g r := by
  unfold lowest tow
  rcases hr with rfl | rfl <;> (split <;> split <;> split <;> split <;> omega)
theorem high_mem {a b x g : Int} (ha : 1 ≤ a) (hab : a ≤ b) : highest a b x g = tow x g a ∨ highest a b x g = tow x g b := by
  unfold highest tow
  by_cases h : x > g
  · left; rw [if_pos h, if_neg (show ¬ x < g by omega)]
  · right
    by_cases e : x < g
    · rw [if_neg h, if_pos e]
    · rw [if_neg h, if_neg e, if_pos (show g < x + b by omega), if_pos (show g > x - b by omega)]
theorem high_le {a b x y g r : Int} (ha : 1 ≤ a) (hab : a ≤ b) (h : y ≤ x) (hr : r = a ∨ r = b) : tow y g r ≤ highest a b x g := by
  unfold highest tow
  rcases hr with rfl | rfl <;> (split <;> split <;> split <;> split <;> omega)
theorem low_mono {a b x y g : Int} (ha : 1 ≤ a) (hab : a ≤ b) (h : x ≤ y) : lowest a b x g ≤ lowest a b y g := by
  rcases low_mem (a := a) (b := b) (x := y) (g := g) with e | e <;> rw [e]
  · exact low_le ha hab h (.inl rfl)
  · exact low_le ha hab h (.inr rfl)
theorem high_mono {a b x y g : Int} (ha : 1 ≤ a) (hab : a ≤ b) (h : x ≤ y) : highest a b x g ≤ highest a b y g := by
  rcases high_mem (x := x) (g := g) ha hab with e | e <;> rw [e]
  · exact high_le ha hab h (.inl rfl)
  · exact high_le ha hab h (.inr rfl)
theorem low_high {a b x y g : Int} (ha : 1 ≤ a) (hab : a ≤ b) (h : x ≤ y) : lowest a b x g ≤ highest a b y g :=
  Int.le_trans (low_le ha hab (Int.le_refl x) (.inl rfl)) (high_le ha hab h (.inl rfl))
structure NextOf (lt : Int → Nat) (lf hf af : Nat → Int) (a b low high down up v0 v1 v2 v3 : Int) : Prop where
  e0 : ∃ p, low ≤ p ∧ p ≤ high ∧ v0 = p + lf (lt p)
  m0 : ∀ p, low ≤ p → p ≤ high → v0 ≤ p + lf (lt p)
  e1 : ∃ p, low ≤ p ∧ p ≤ high ∧ v1 = p + hf (lt p)
  m1 : ∀ p, low ≤ p → p ≤ high → p + hf (lt p) ≤ v1
  e2 : ∃ p, low ≤ p ∧ p ≤ high ∧ v2 = lowest a b down (af (lt p))
  m2 : ∀ p, low ≤ p → p ≤ high → v2 ≤ lowest a b down (af (lt p))
  e3 : ∃ p, low ≤ p ∧ p ≤ high ∧ v3 = highest a b up (af (lt p))
  m3 : ∀ p, low ≤ p → p ≤ high → highest a b up (af (lt p)) ≤ v3
section
variable {lt : Int → Nat} {lf hf af : Nat → Int} {a b low high down up v0 v1 v2 v3 : Int}
theorem NextOf.uniq {w0 w1 w2 w3 : Int} (X : NextOf lt lf hf af a b low high down up v0 v1 v2 v3) (Y : NextOf lt lf hf af a b low high down up w0 w1 w2 w3) : v0 = w0 ∧ v1 = w1 ∧ v2 = w2 ∧ v3 = w3 := by
  obtain ⟨p0, a0, b0, c0⟩ := X.e0
  obtain ⟨q0, d0, f0, g0⟩ := Y.e0
  obtain ⟨p1, a1, b1, c1⟩ := X.e1
  obtain ⟨q1, d1, f1, g1⟩ := Y.e1
  obtain ⟨p2, a2, b2, c2⟩ := X.e2
  obtain ⟨q2, d2, f2, g2⟩ := Y.e2
  obtain ⟨p3, a3, b3, c3⟩ := X.e3
  obtain ⟨q3, d3, f3, g3⟩ := Y.e3
  have := X.m0 q0 d0 f0
  have := Y.m0 p0 a0 b0
  have := X.m1 q1 d1 f1
  have := Y.m1 p1 a1 b1
  have := X.m2 q2 d2 f2
  have := Y.m2 p2 a2 b2
  have := X.m3 q3 d3 f3
  have := Y.m3 p3 a3 b3
  omega
theorem NextOf.inner {low' high' down' up' w0 w1 w2 w3 : Int} (X : NextOf lt lf hf af a b low high down up v0 v1 v2 v3) (Y : NextOf lt lf hf af a b low' high' down' up' w0 w1 w2 w3) (ha : 1 ≤ a) (hab : a ≤ b) (hlh : ∀ p, lf (lt p) ≤ hf (lt p))
    (h0 : low ≤ low') (h1 : high' ≤ high) (h2 : down ≤ down') (h3 : up' ≤ up) (h4 : down' ≤ up') : v0 ≤ w0 ∧ w0 ≤ w1 ∧ w1 ≤ v1 ∧ v2 ≤ w2 ∧ w2 ≤ w3 ∧ w3 ≤ v3 := by
  obtain ⟨q0, d0, f0, g0⟩ := Y.e0
  obtain ⟨q1, d1, f1, g1⟩ := Y.e1
  obtain ⟨q2, d2, f2, g2⟩ := Y.e2
  obtain ⟨q3, d3, f3, g3⟩ := Y.e3
  have i0 := X.m0 q0 (by omega) (by omega)
  have i1 := Y.m1 q0 d0 f0
  have i2 := hlh q0
  have i3 := X.m1 q1 (by omega) (by omega)
  have i4 := X.m2 q2 (by omega) (by omega)
  have i5 := low_mono (g := af (lt q2)) ha hab h2
  have i6 := Y.m3 q2 d2 f2
  have i7 := low_high (g := af (lt q2)) ha hab h4
  have i8 := X.m3 q3 (by omega) (by omega)
  have i9 := high_mono (g := af (lt q3)) ha hab h3
  omega
/-- from lists over every progress and every level -/
theorem NextOf.every {c : Nat} {L : List Int} (hc : (c : Int) = high + 1 - low) (ha : 1 ≤ a) (hab : a ≤ b) (hdu : down ≤ up)
    (h0 : v0 ∈ (List.range c).map fun j : Nat => low + (j : Int) + lf (lt (low + (j : Int)))) (l0 : ∀ y ∈ (List.range c).map fun j : Nat => low + (j : Int) + lf (lt (low + (j : Int))), v0 ≤ y)
    (h1 : v1 ∈ (List.range c).map fun j : Nat => low + (j : Int) + hf (lt (low + (j : Int)))) (l1 : ∀ y ∈ (List.range c).map fun j : Nat => low + (j : Int) + hf (lt (low + (j : Int))), y ≤ v1)
    (hL : ∀ x ∈ L, ∃ p lv r, low ≤ p ∧ p ≤ high ∧ down ≤ lv ∧ lv ≤ up ∧ (r = a ∨ r = b) ∧ x = tow lv (af (lt p)) r) (hL2 : ∀ p lv r, low ≤ p → p ≤ high → down ≤ lv → lv ≤ up → (r = a ∨ r = b) → tow lv (af (lt p)) r ∈ L)
    (h2 : v2 ∈ L) (l2 : ∀ y ∈ L, v2 ≤ y) (h3 : v3 ∈ L) (l3 : ∀ y ∈ L, y ≤ v3) : NextOf lt lf hf af a b low high down up v0 v1 v2 v3 := by
  have mem : ∀ (g : Int → Int) p, low ≤ p → p ≤ high → g p ∈ (List.range c).map fun j : Nat => g (low + (j : Int)) := fun g p p0 p1 =>
    List.mem_map.mpr ⟨(p - low).toNat, List.mem_range.mpr (by omega), by rw [show low + ((p - low).toNat : Int) = p by omega]⟩
  have low2 : ∀ p, low ≤ p → p ≤ high → v2 ≤ lowest a b down (af (lt p)) := fun p p0 p1 => by
    rcases low_mem (a := a) (b := b) (x := down) (g := af (lt p)) with e | e <;> rw [e]
    · exact l2 _ (hL2 p down a p0 p1 (Int.le_refl _) hdu (.inl rfl))
    · exact l2 _ (hL2 p down b p0 p1 (Int.le_refl _) hdu (.inr rfl))
  have high2 : ∀ p, low ≤ p → p ≤ high → highest a b up (af (lt p)) ≤ v3 := fun p p0 p1 => by
    rcases high_mem (x := up) (g := af (lt p)) ha hab with e | e <;> rw [e]
    · exact l3 _ (hL2 p up a p0 p1 hdu (Int.le_refl _) (.inl rfl))
    · exact l3 _ (hL2 p up b p0 p1 hdu (Int.le_refl _) (.inr rfl))
  refine ⟨?_, fun p p0 p1 => l0 _ (mem (fun p => p + lf (lt p)) p p0 p1), ?_, fun p p0 p1 => l1 _ (mem (fun p => p + hf (lt p)) p p0 p1), ?_, low2, ?_, high2⟩
  · obtain ⟨j, hj, rfl⟩ := List.mem_map.mp h0
    have := List.mem_range.mp hj
    exact ⟨low + (j : Int), by omega, by omega, rfl⟩
  · obtain ⟨j, hj, rfl⟩ := List.mem_map.mp h1
    have := List.mem_range.mp hj
    exact ⟨low + (j : Int), by omega, by omega, rfl⟩
  · obtain ⟨p, lv, r, p0, p1, q0, q1, hr, rfl⟩ := hL v2 h2
    have := low2 p p0 p1
    have := low_le (g := af (lt p)) ha hab q0 hr
    exact ⟨p, p0, p1, by omega⟩
  · obtain ⟨p, lv, r, p0, p1, q0, q1, hr, rfl⟩ := hL v3 h3
    have := high2 p p0 p1
    have := high_le (g := af (lt p)) ha hab q1 hr
    exact ⟨p, p0, p1, by omega⟩
end
/-- from lists over the legs -/
theorem NextOf.legs {D : CD} {ns : List Str} {lf hf af : Nat → Int} {a b low high down up v0 v1 v2 v3 : Int} (pos : PosR D ns) (n2 : 2 ≤ ns.length) (hlh : low ≤ high) {first last : Nat} (hf1 : lat D ns (ns.length - 1 - 1) low = first) (hl1 : lat D ns (ns.length - 1 - 1) high = last) {c : Nat} (hc : c = last + 1 - first)
    (h0 : v0 ∈ (List.range c).map fun j => (if first + j = first then low else bg D ns (first + j)) + lf (first + j)) (l0 : ∀ y ∈ (List.range c).map fun j => (if first + j = first then low else bg D ns (first + j)) + lf (first + j), v0 ≤ y)
    (h1 : v1 ∈ (List.range c).map fun j => (if first + j = last then high else bg D ns (first + j + 1) - 1) + hf (first + j)) (l1 : ∀ y ∈ (List.range c).map fun j => (if first + j = last then high else bg D ns (first + j + 1) - 1) + hf (first + j), y ≤ v1)
    (h2 : v2 ∈ (List.range c).map fun j => lowest a b down (af (first + j))) (l2 : ∀ y ∈ (List.range c).map fun j => lowest a b down (af (first + j)), v2 ≤ y)
    (h3 : v3 ∈ (List.range c).map fun j => highest a b up (af (first + j))) (l3 : ∀ y ∈ (List.range c).map fun j => highest a b up (af (first + j)), y ≤ v3) :
    NextOf (fun x => lat D ns (ns.length - 1 - 1) x) lf hf af a b low high down up v0 v1 v2 v3 := by
  have mono : ∀ p q, p ≤ q → lat D ns (ns.length - 1 - 1) p ≤ lat D ns (ns.length - 1 - 1) q := fun p q h => lat_mono D ns _ h
  obtain ⟨fa, fb, fc⟩ := lat_cases D ns (ns.length - 1 - 1) low
  obtain ⟨ga, gb, gc⟩ := lat_cases D ns (ns.length - 1 - 1) high
  have hfl := mono low high hlh
  rw [hf1] at fa fb fc hfl
  rw [hl1] at ga gb gc hfl
  have lk : ∀ k x, k ≤ ns.length - 1 - 1 → bg D ns k ≤ x → (k < ns.length - 1 - 1 → x < bg D ns (k + 1)) → lat D ns (ns.length - 1 - 1) x = k := fun k x hk hx hx2 =>
    lat_eq hk (fun i hi => Int.le_trans (bg_mono D ns (show i + 1 ≤ k by omega)) hx) hx2
  -- the first progress on leg k
  have C : ∀ k, first ≤ k → k ≤ last → ∃ x, x = (if k = first then low else bg D ns k) ∧ low ≤ x ∧ x ≤ high ∧ lat D ns (ns.length - 1 - 1) x = k := fun k k0 k1 => by
    by_cases e : k = first
    · exact ⟨low, by rw [if_pos e], Int.le_refl _, hlh, by rw [hf1, e]⟩
    · have e1 : lat D ns (ns.length - 1 - 1) (bg D ns k) = k := lk k _ (by omega) (Int.le_refl _) fun h => by have := pos.lt (show k + 1 < ns.length by omega); omega
      refine ⟨_, by rw [if_neg e], ?_, ?_, e1⟩
      · rcases ltge (bg D ns k) low with w | w
        · have := mono _ _ (Int.le_of_lt w)
          rw [e1, hf1] at this
          omega
        · exact w
      · have := gb (k - 1) (by omega)
        rw [show k - 1 + 1 = k by omega] at this
        exact this
  -- the last progress on leg k
  have E : ∀ k, first ≤ k → k ≤ last → ∃ x, x = (if k = last then high else bg D ns (k + 1) - 1) ∧ low ≤ x ∧ x ≤ high ∧ lat D ns (ns.length - 1 - 1) x = k := fun k k0 k1 => by
    by_cases e : k = last
    · exact ⟨high, by rw [if_pos e], hlh, Int.le_refl _, by rw [hl1, e]⟩
    · have p1 := pos.lt (show k + 1 < ns.length by omega)
      have e1 : lat D ns (ns.length - 1 - 1) (bg D ns (k + 1) - 1) = k := lk k _ (by omega) (by omega) fun h => by omega
      refine ⟨_, by rw [if_neg e], ?_, ?_, e1⟩
      · have := fc (by omega)
        have := bg_mono D ns (show first + 1 ≤ k + 1 by omega)
        omega
      · have := gb k (by omega)
        omega
  have leg : ∀ p, low ≤ p → p ≤ high → first ≤ lat D ns (ns.length - 1 - 1) p ∧ lat D ns (ns.length - 1 - 1) p ≤ last := fun p p0 p1 => ⟨hf1 ▸ mono _ _ p0, hl1 ▸ mono _ _ p1⟩
  have mem : ∀ (g : Nat → Int) k, first ≤ k → k ≤ last → g k ∈ (List.range c).map fun j => g (first + j) := fun g k k0 k1 =>
    List.mem_map.mpr ⟨k - first, List.mem_range.mpr (by omega), by rw [show first + (k - first) = k by omega]⟩
  have unm : ∀ (g : Nat → Int) v, v ∈ ((List.range c).map fun j => g (first + j)) → ∃ k, first ≤ k ∧ k ≤ last ∧ v = g k := fun g v h => by
    obtain ⟨j, hj, e⟩ := List.mem_map.mp h
    have := List.mem_range.mp hj
    exact ⟨first + j, by omega, by omega, e.symm⟩
  refine ⟨?_, fun p p0 p1 => ?_, ?_, fun p p0 p1 => ?_, ?_, fun p p0 p1 => ?_, ?_, fun p p0 p1 => ?_⟩
  · obtain ⟨k, k0, k1, e⟩ := unm (fun k => (if k = first then low else bg D ns k) + lf k) v0 h0
    obtain ⟨x, hx, x0, x1, x2⟩ := C k k0 k1
    exact ⟨x, x0, x1, by rw [x2, e, ← hx]⟩
  · obtain ⟨k0, k1⟩ := leg p p0 p1
    obtain ⟨ta, tb, tc⟩ := lat_cases D ns (ns.length - 1 - 1) p
    have := l0 _ (mem (fun k => (if k = first then low else bg D ns k) + lf k) _ k0 k1)
    refine Int.le_trans this ?_
    by_cases e : lat D ns (ns.length - 1 - 1) p = first
    · rw [if_pos e]; omega
    · rw [if_neg e]
      have := tb (lat D ns (ns.length - 1 - 1) p - 1) (by omega)
      rw [show lat D ns (ns.length - 1 - 1) p - 1 + 1 = lat D ns (ns.length - 1 - 1) p by omega] at this
      omega
  · obtain ⟨k, k0, k1, e⟩ := unm (fun k => (if k = last then high else bg D ns (k + 1) - 1) + hf k) v1 h1
    obtain ⟨x, hx, x0, x1, x2⟩ := E k k0 k1
    exact ⟨x, x0, x1, by rw [x2, e, ← hx]⟩
  · obtain ⟨k0, k1⟩ := leg p p0 p1
    obtain ⟨ta, tb, tc⟩ := lat_cases D ns (ns.length - 1 - 1) p
    have := l1 _ (mem (fun k => (if k = last then high else bg D ns (k + 1) - 1) + hf k) _ k0 k1)
    refine Int.le_trans ?_ this
    by_cases e : lat D ns (ns.length - 1 - 1) p = last
    · rw [if_pos e]; omega
    · rw [if_neg e]
      have := tc (by omega)
      omega
  · obtain ⟨k, k0, k1, e⟩ := unm (fun k => lowest a b down (af k)) v2 h2
    obtain ⟨x, hx, x0, x1, x2⟩ := C k k0 k1
    exact ⟨x, x0, x1, by rw [x2, e]⟩
  · obtain ⟨k0, k1⟩ := leg p p0 p1
    exact l2 _ (mem (fun k => lowest a b down (af k)) _ k0 k1)
  · obtain ⟨k, k0, k1, e⟩ := unm (fun k => highest a b up (af k)) v3 h3
    obtain ⟨x, hx, x0, x1, x2⟩ := C k k0 k1
    exact ⟨x, x0, x1, by rw [x2, e]⟩
  · obtain ⟨k0, k1⟩ := leg p p0 p1
    exact l3 _ (mem (fun k => highest a b up (af k)) _ k0 k1)
/-! what stands ready -/
structure ND where
  p : Addr
  r : Addr
  ch : Addr
  cs : Addr
  ki : Addr
  ru : Addr
  wi : Addr
  D : CD
  ns : List Str
  pc : Int
  lv : Int
  w : Int
  s : Int
  f : Int
  a : Int
  b : Int
  sl : Int
  tick : Int
  qs : List WQ
  qw : WQ
structure NIn (C : Addr) (H : Hp) (N : ND) : Prop where
  P : PathAt C H N.p N.D N.ns N.r
  C0 : ChartAt H N.ch N.D
  R : Route N.D N.ns
  ps : PosR N.D N.ns
  cs : H N.cs = some (.tup [.ref N.r, .int N.pc, .int N.lv])
  ki : H N.ki = some (.tup [.int N.w, .int N.s, .int N.f, .int N.a, .int N.b])
  ru : ∃ kvs, H N.ru = some (.dK kvs) ∧ valV kvs (.inr "slip") = some (.int N.sl)
  wi : WAt H N.wi N.qs
  tk : 0 ≤ N.tick
  qw : (lb N.tick N.qs).getLast? = some N.qw
  hab : 1 ≤ N.a ∧ N.a ≤ N.b
  sl0 : 0 ≤ N.sl
  qn : N.qs.length ≤ 100
theorem NIn.same {C : Addr} {H H' : Hp} {N : ND} (I : NIn C H N) (e : Same H H') : NIn C H' N :=
  { I with P := I.P.same e, C0 := I.C0.same e, cs := e _ _ I.cs, ki := e _ _ I.ki, ru := let ⟨kvs, h1, h2⟩ := I.ru; ⟨kvs, e _ _ h1, h2⟩, wi := I.wi.same e }
theorem NIn.keep {K : PySem.W.Frag} {C d c : Addr} {H H' : Hp} {N : ND} (I : NIn C H N) (S : St1 K H d c) (k : Keep d H H') (n1 : N.ch ≠ d) (n2 : N.D.fx ≠ d) (n3 : N.ru ≠ d) : NIn C H' N :=
  { I with P := I.P.keep S k, C0 := I.C0.keep S k n1 n2, cs := k.t S I.cs, ki := k.t S I.ki, ru := let ⟨kvs, h1, h2⟩ := I.ru; ⟨kvs, k _ _ h1 n3, h2⟩, wi := I.wi.keep S k }
theorem NIn.sl {C : Addr} {H : Hp} {N : ND} (I : NIn C H N) : DGet H N.ru (.str "slip") (some (.int N.sl)) := let ⟨_, h1, h2⟩ := I.ru; h2 ▸ DGet.k (k := .inr "slip") h1
theorem NIn.rt {C : Addr} {H : Hp} {N : ND} (I : NIn C H N) : H N.r = some (.tup (N.ns.map V.str)) := let ⟨_, _, _, _, _, _, _, P⟩ := I.P; P.rt
def ND.dx (N : ND) (k : Nat) : Int := (N.D.xy (rn N.ns (k + 1))).1 - (N.D.xy (rn N.ns k)).1
def ND.dy (N : ND) (k : Nat) : Int := (N.D.xy (rn N.ns (k + 1))).2 - (N.D.xy (rn N.ns k)).2
def ND.ln (N : ND) (k : Nat) : Int := N.D.len (rn N.ns k) (rn N.ns (k + 1))
def ND.lf (N : ND) (k : Nat) : Int := lo (N.dx k) (N.dy k) (N.ln k) N.pc N.sl N.qw.2.2.1 N.qw.2.2.2.1 N.qw.2.2.2.2
def ND.hf (N : ND) (k : Nat) : Int := hi (N.dx k) (N.dy k) (N.ln k) N.pc N.sl N.qw.2.2.1 N.qw.2.2.2.1 N.qw.2.2.2.2
def ND.af (N : ND) (k : Nat) : Int := tgt N.D N.ns k N.lv
def ND.lt (N : ND) (x : Int) : Nat := lat N.D N.ns (N.ns.length - 1 - 1) x
def ND.nx (N : ND) (low high down up v0 v1 v2 v3 : Int) : Prop := NextOf N.lt N.lf N.hf N.af N.a N.b low high down up v0 v1 v2 v3
theorem ab_nn (x : Int) : 0 ≤ ab x := by unfold ab; split <;> omega
theorem NIn.qm {C : Addr} {H : Hp} {N : ND} (I : NIn C H N) : N.qw ∈ N.qs := (List.mem_filter.mp (List.mem_of_getLast? I.qw)).1
theorem NIn.lh {C : Addr} {H : Hp} {N : ND} (I : NIn C H N) (k : Nat) (hk : k + 1 < N.ns.length) : N.lf k ≤ N.hf k := by
  unfold ND.lf ND.hf lo hi
  have h1 := I.sl0
  have h2 := I.ps k hk
  have h3 := (I.wi.bd _ I.qm).2.2.2.2.1
  have h4 := Int.mul_nonneg h3 (Int.add_nonneg (ab_nn (N.dx k)) (ab_nn (N.dy k)))
  have h5 := div_mono (n := N.ln k) (a := N.qw.2.2.1 * N.dx k + N.qw.2.2.2.1 * N.dy k - N.qw.2.2.2.2 * (ab (N.dx k) + ab (N.dy k))) (b := N.qw.2.2.1 * N.dx k + N.qw.2.2.2.1 * N.dy k + N.qw.2.2.2.2 * (ab (N.dx k) + ab (N.dy k))) (by show 0 < N.D.len _ _; omega) (by omega)
  omega
/-! promises -/
def spWithin : Sp := fun vs H Q _ => ∃ (l : Lg) (x : Int), vs = [.ref l.a, .int x] ∧ H l.a = some (.tup l.v) ∧ Q (.int (clamp l.lo l.hi x)) H
def spTarget (C : Addr) : Sp := fun vs H Q _ => ∃ (N : ND) (k : Nat) (z : Int), vs = [.ref N.p, .ref N.cs, .int z] ∧ z = (k : Int) ∧ NIn C H N ∧ k + 1 < N.ns.length ∧ Q (.int (N.af k)) H
def spBounds (C : Addr) : Sp := fun vs H Q _ => ∃ (N : ND) (k : Nat) (z : Int), vs = [.ref N.p, .ref N.cs, .ref N.ru, .ref N.wi, .int N.tick, .int z] ∧ z = (k : Int) ∧ NIn C H N ∧ k + 1 < N.ns.length ∧
  ∀ q H', H q = none → Same H H' → H' q = some (.tup [.int (N.lf k), .int (N.hf k)]) → Q (.ref q) H'
def spLowest : Sp := fun vs H Q _ => ∃ (ki : Addr) (x g w s f a b : Int), vs = [.ref ki, .int x, .int g] ∧ H ki = some (.tup [.int w, .int s, .int f, .int a, .int b]) ∧ Q (.int (lowest a b x g)) H
def spHighest : Sp := fun vs H Q _ => ∃ (ki : Addr) (x g w s f a b : Int), vs = [.ref ki, .int x, .int g] ∧ H ki = some (.tup [.int w, .int s, .int f, .int a, .int b]) ∧ Q (.int (highest a b x g)) H
def spNext (C : Addr) : Sp := fun vs H Q _ => ∃ (N : ND) (bx : Addr) (low high down up : Int), vs = [.ref N.p, .ref N.cs, .ref N.ki, .ref N.ru, .ref N.wi, .int N.tick, .ref bx] ∧ NIn C H N ∧ H bx = some (.tup [.int low, .int high, .int down, .int up]) ∧ low ≤ high ∧ down ≤ up ∧
  ∀ q v0 v1 v2 v3 H', H q = none → Same H H' → H' q = some (.tup [.int v0, .int v1, .int v2, .int v3]) → N.nx low high down up v0 v1 v2 v3 → Q (.ref q) H'
def spLawNext (C : Addr) : Sp := fun vs H Q _ => ∃ (N : ND) (b bx : Addr) (low high down up : Int), vs = [.ref N.ch, .ref N.r, .ref b, .ref N.cs, .ref N.ki, .ref N.ru, .ref N.wi, .int N.tick, .ref bx] ∧ NIn C H N ∧ H b = some (.lst ((bgs N.D N.ns).map V.int)) ∧ H bx = some (.tup [.int low, .int high, .int down, .int up]) ∧ low ≤ high ∧ high - low ≤ 40 ∧ down ≤ up ∧ up - down ≤ 11 ∧ -10000000 ≤ low ∧ low ≤ 10000000 ∧ -10000000 ≤ down ∧ down ≤ 10000000 ∧
  ∀ q v0 v1 v2 v3 H', H q = none → Same H H' → H' q = some (.tup [.int v0, .int v1, .int v2, .int v3]) → N.nx low high down up v0 v1 v2 v3 → Q (.ref q) H'
def spLawTarget (C : Addr) : Sp := fun vs H Q _ => ∃ (N : ND) (k : Nat) (z : Int), vs = [.ref N.ch, .ref N.r, .int z, .int N.lv] ∧ z = (k : Int) ∧ NIn C H N ∧ k + 1 < N.ns.length ∧ ∀ H', Same H H' → Q (.int (N.af k)) H'
def spLawBounds (C : Addr) : Sp := fun vs H Q _ => ∃ (N : ND) (b : Addr) (k : Nat) (z : Int), vs = [.ref N.ch, .ref N.r, .ref b, .int z, .int N.pc, .int N.sl, .ref N.qw.1] ∧ z = (k : Int) ∧ NIn C H N ∧ H b = some (.lst ((bgs N.D N.ns).map V.int)) ∧ k + 1 < N.ns.length ∧
  ∀ q H', H q = none → Same H H' → H' q = some (.tup [.int (N.lf k), .int (N.hf k)]) → Q (.ref q) H'
def spLawWindAt (C : Addr) : Sp := fun vs H Q _ => ∃ (N : ND), vs = [.ref N.wi, .int N.tick] ∧ NIn C H N ∧ ∀ H', Same H H' → Q (.ref N.qw.1) H'
def spTowards : Sp := fun vs H Q _ => ∃ (x g r : Int), vs = [.int x, .int g, .int r] ∧ Q (.int (tow x g r)) H
def spKind (K : PySem.W.Frag) : Sp := fun vs H Q _ => ∃ (d c : Addr), vs = [.ref d] ∧ St1 K H d c ∧ ∀ q w s f a b H', H q = none → 1 ≤ s → s ≤ f → f ≤ 1000 → 1 ≤ a → a ≤ b → H' q = some (.tup [.int w, .int s, .int f, .int a, .int b]) → St1 K H' d c → Keep d H H' → Q (.ref q) H'
def spRules (K : PySem.W.Frag) : Sp := fun vs H Q _ => ∃ (d c : Addr), vs = [.ref d] ∧ St1 K H d c ∧ ∀ ru kvs sl H', H ru = none → H' ru = some (.dK kvs) → valV kvs (.inr "slip") = some (.int sl) → 0 ≤ sl → St1 K H' d c → Keep d H H' → Q (.ref ru) H'
def spWinds (K : PySem.W.Frag) : Sp := fun vs H Q _ => ∃ (d c : Addr), vs = [.ref d] ∧ St1 K H d c ∧ ∀ wi qs H', H wi = none → WAt H' wi qs → qs.length ≤ 100 → St1 K H' d c → Keep d H H' → Q (.ref wi) H'
def spLawBox (K : PySem.W.Frag) : Sp := fun vs H Q _ => ∃ (d c b : Addr) (D : CD) (ns : List Str) (wide : Int), vs = [.ref d, .ref b, .int wide] ∧ St1 K H d c ∧ H b = some (.lst ((bgs D ns).map V.int)) ∧ Bd D ∧ 2 ≤ ns.length ∧ ns.length ≤ 20 ∧ 1 ≤ wide ∧ wide ≤ 41 ∧
  ∀ q low high down up H', H q = none → low ≤ high → high - low ≤ 40 → down ≤ up → up - down ≤ 11 → -10000000 ≤ low → low ≤ 10000000 → -10000000 ≤ down → down ≤ 10000000 → H' q = some (.tup [.int low, .int high, .int down, .int up]) → St1 K H' d c → Keep d H H' → Q (.ref q) H'
end Sk

set_option Elab.async false
set_option linter.all false
set_option maxRecDepth 100000
set_option maxHeartbeats 4000000
namespace Sk
open PySem PySem.Spec PyProof.Rows L2
/-! ### separated boxes -/
/-- what the laws want of the rules -/
structure RuD where
  la : Int
  ve : Int
  ra : Int
  ba : Int
structure RuAt (H : Hp) (ru : Addr) (r : RuD) : Prop where
  ex : ∃ kvs, H ru = some (.dK kvs) ∧ valV kvs (.inr "lateral") = some (.int r.la) ∧ valV kvs (.inr "vertical") = some (.int r.ve) ∧ valV kvs (.inr "radius") = some (.int r.ra) ∧ valV kvs (.inr "band") = some (.int r.ba)
  bd : 1 ≤ r.la ∧ r.la ≤ 1000 ∧ 1 ≤ r.ve ∧ r.ve ≤ 1000 ∧ 0 ≤ r.ra ∧ r.ra ≤ 1000 ∧ 0 ≤ r.ba ∧ r.ba ≤ 1000
section
variable {H H' : Hp} {ru : Addr} {r : RuD}
theorem RuAt.same (R : RuAt H ru r) (s : Same H H') : RuAt H' ru r := ⟨let ⟨kvs, e, h⟩ := R.ex; ⟨kvs, s _ _ e, h⟩, R.bd⟩
theorem RuAt.keep {d : Addr} (R : RuAt H ru r) (s : Keep d H H') (n : ru ≠ d) : RuAt H' ru r := ⟨let ⟨kvs, e, h⟩ := R.ex; ⟨kvs, s _ _ e n, h⟩, R.bd⟩
theorem RuAt.st {T : List Addr} (R : RuAt H ru r) (s : SameT T H H') (t : Tabs T H) : RuAt H' ru r := ⟨let ⟨kvs, e, h⟩ := R.ex; ⟨kvs, s.d t e, h⟩, R.bd⟩
theorem RuAt.gla (R : RuAt H ru r) : DGet H ru (.str "lateral") (some (.int r.la)) := let ⟨_, e, h, _⟩ := R.ex; h ▸ DGet.k (k := .inr "lateral") e
theorem RuAt.gve (R : RuAt H ru r) : DGet H ru (.str "vertical") (some (.int r.ve)) := let ⟨_, e, _, h, _⟩ := R.ex; h ▸ DGet.k (k := .inr "vertical") e
theorem RuAt.gra (R : RuAt H ru r) : DGet H ru (.str "radius") (some (.int r.ra)) := let ⟨_, e, _, _, h, _⟩ := R.ex; h ▸ DGet.k (k := .inr "radius") e
theorem RuAt.gba (R : RuAt H ru r) : DGet H ru (.str "band") (some (.int r.ba)) := let ⟨_, e, _, _, _, h⟩ := R.ex; h ▸ DGet.k (k := .inr "band") e
end
def Seg.li (s : Seg) : List Int := [s.ax, s.ay, s.bx, s.bw, s.d]
theorem segs_of {P : Seg → Prop} : ∀ {xss : List (List Int)}, (∀ xs ∈ xss, ∃ s : Seg, xs = s.li ∧ P s) → ∃ ss : List Seg, xss = ss.map Seg.li ∧ ∀ s ∈ ss, P s
  | [], _ => ⟨[], rfl, fun _ h => nomatch h⟩
  | xs :: xss, h => by
    obtain ⟨s, e, p⟩ := h xs List.mem_cons_self
    obtain ⟨ss, e2, q⟩ := segs_of (P := P) (xss := xss) fun ys hy => h ys (List.mem_cons_of_mem _ hy)
    refine ⟨s :: ss, by rw [e, e2]; rfl, fun t ht => ?_⟩
    rcases List.mem_cons.mp ht with rfl | ht
    · exact p
    · exact q t ht
theorem LoT.segs {H : Hp} {l : Addr} {ss : List Seg} (L : LoT H l (ss.map Seg.li)) (hb : ∀ s ∈ ss, SegBd 200 100 s) : ∃ xs, H l = some (.lst xs) ∧ SegsAt H xs ss := by
  obtain ⟨qs, h1, h2, h3⟩ := L
  have el : qs.length = ss.length := by
    have := congrArg List.length h3
    rw [List.length_map, List.length_map] at this
    exact this
  refine ⟨_, h1, by rw [List.length_map]; exact el, fun i s hs => ?_⟩
  have hi := (List.getElem?_eq_some_iff.mp hs).1
  have hi2 : i < qs.length := by omega
  have e : qs[i].2 = s.li := by
    have e1 : (qs.map (·.2))[i]? = (ss.map Seg.li)[i]? := by rw [h3]
    rw [List.getElem?_map, List.getElem?_map, hs, List.getElem?_eq_getElem hi2] at e1
    exact Option.some.inj e1
  refine ⟨qs[i].1, by rw [List.getElem?_map, List.getElem?_eq_getElem hi2]; rfl, ?_, hb s (List.mem_of_getElem? hs)⟩
  have := h2 _ (List.getElem_mem hi2)
  rw [e] at this
  exact this
/-- the piece's segments are small and have a length -/
theorem plc_bd {D : CD} {ns : List Str} (b : Bd D) {k : Nat} {p : Int} (h0 : -100000000 ≤ p) (h1 : p ≤ 100000000) (hk : k ≤ 20) : ∃ x y, plc D ns k p = [x, y] ∧ BdN 200 x ∧ BdN 200 y := by
  have a1 := b (rn ns k)
  have a2 := b (rn ns (k + 1))
  have l0 := D.len_nn (rn ns k) (rn ns (k + 1))
  have l1 := D.len_le b (rn ns k) (rn ns (k + 1))
  have g0 := bg_nn D ns k
  have g1 := bg_le b ns k
  have e : ((2 ^ 30 : Nat) : Int) = 1073741824 := by decide
  have q : ∀ x : Int, -1000000000 ≤ x → x ≤ 1000000000 → BdN 30 x := fun x u v => BdN.of (by rw [e]; omega) (by rw [e]; omega)
  refine ⟨_, _, rfl, (((q _ (by omega) (by omega)).mul (q _ (by omega) (by omega))).add ((q _ (by omega) (by omega)).mul (q _ (by omega) (by omega)))).mono (by decide), (((q _ (by omega) (by omega)).mul (q _ (by omega) (by omega))).add ((q _ (by omega) (by omega)).mul (q _ (by omega) (by omega)))).mono (by decide)⟩
theorem seg_bd {D : CD} {ns : List Str} (b : Bd D) (pos : PosR D ns) {k : Nat} {s e : Int} (h0 : -100000000 ≤ s) (h1 : s ≤ 100000000) (h2 : -100000000 ≤ e) (h3 : e ≤ 100000000) (hk : k ≤ 20) (hk2 : k + 1 < ns.length) : ∃ t : Seg, seg D ns k s e = t.li ∧ SegBd 200 100 t ∧ 1 ≤ t.d := by
  obtain ⟨x, y, e1, b1, b2⟩ := plc_bd (D := D) (ns := ns) b (k := k) (p := s) h0 h1 hk
  obtain ⟨x', y', e2, b3, b4⟩ := plc_bd (D := D) (ns := ns) b (k := k) (p := e) h2 h3 hk
  have l1 := D.len_le b (rn ns k) (rn ns (k + 1))
  have l0 := pos k hk2
  have e : ((2 ^ 30 : Nat) : Int) = 1073741824 := by decide
  refine ⟨⟨x, y, x', y', D.len (rn ns k) (rn ns (k + 1))⟩, ?_, ⟨b1, b2, b3, b4, (BdN.of (x := D.len (rn ns k) (rn ns (k + 1))) (n := 30) (by rw [e]; omega) (by rw [e]; omega)).mono (by decide)⟩, l0⟩
  show plc D ns k s ++ (plc D ns k _ ++ _) = _
  rw [e1, e2]
  rfl
theorem pcs_segs {D : CD} {ns : List Str} (b : Bd D) (pos : PosR D ns) (n2 : 2 ≤ ns.length) (n20 : ns.length ≤ 20) {lo hi : Int} (h0 : -100000000 ≤ lo) (h1 : lo ≤ 100000000) (h2 : -100000000 ≤ hi) (h3 : hi ≤ 100000000) : ∃ ss : List Seg, pcs D ns lo hi = ss.map Seg.li ∧ ∀ s ∈ ss, SegBd 200 100 s ∧ 1 ≤ s.d := by
  refine segs_of (P := fun s => SegBd 200 100 s ∧ 1 ≤ s.d) fun xs hx => ?_
  have t0 := bg_nn D ns (ns.length - 1)
  have t1 := bg_le b ns (ns.length - 1)
  unfold pcs at hx
  dsimp only at hx
  generalize ef : (if 0 > lo then 0 else lo) = f at hx
  generalize el : (if bg D ns (ns.length - 1) < hi then bg D ns (ns.length - 1) else hi) = l at hx
  have f0 : -100000000 ≤ f ∧ f ≤ 100000000 := by split at ef <;> omega
  have l0 : -100000000 ≤ l ∧ l ≤ 100000000 := by split at el <;> omega
  split at hx
  · cases hx
  · split at hx
    · rw [List.mem_singleton.mp hx]
      have := (lat_cases D ns (ns.length - 1 - 1) f).1
      exact seg_bd b pos f0.1 f0.2 f0.1 f0.2 (by omega) (by omega)
    · obtain ⟨k, hk, e⟩ := List.mem_filterMap.mp hx
      have hk := List.mem_range.mp hk
      unfold segOf at e
      dsimp only at e
      have g0 := bg_nn D ns k
      have g1 := bg_le b ns k
      have g2 := bg_nn D ns (k + 1)
      have g3 := bg_le b ns (k + 1)
      generalize eu : (if bg D ns k > f then bg D ns k else f) = u at e
      generalize ev : (if bg D ns (k + 1) < l then bg D ns (k + 1) else l) = v at e
      split at e
      · rw [← Option.some.inj e]
        exact seg_bd b pos (by split at eu <;> omega) (by split at eu <;> omega) (by split at ev <;> omega) (by split at ev <;> omega) (by omega) (by omega)
      · cases e
structure Bx where
  lo : Int
  hi : Int
  dn : Int
  up : Int
def Bx.t (b : Bx) : HO := .tup [.int b.lo, .int b.hi, .int b.dn, .int b.up]
structure Bx.ok (b : Bx) : Prop where
  le : b.lo ≤ b.hi
  l0 : -100000000 ≤ b.lo
  h1 : b.hi ≤ 100000000
  d0 : -100000000 ≤ b.dn
  d1 : b.dn ≤ 100000000
def lvA (r : RuD) (x y : Bx) : Bool := decide (r.ve + 2 * r.ba ≤ x.dn - y.up) || decide (r.ve + 2 * r.ba ≤ y.dn - x.up)
def anyC (ss ts : List Seg) (l : Int) : Bool := ss.any fun s => ts.any fun t => clo s t l
theorem anyC_swap (ss ts : List Seg) (l : Int) : anyC ts ss l = anyC ss ts l := by
  unfold anyC
  rw [Bool.eq_iff_iff, List.any_eq_true, List.any_eq_true]
  constructor
  · rintro ⟨t, ht, h⟩
    obtain ⟨s, hs, h⟩ := List.any_eq_true.mp h
    exact ⟨s, hs, List.any_eq_true.mpr ⟨t, ht, by rw [← clo_swap]; exact h⟩⟩
  · rintro ⟨s, hs, h⟩
    obtain ⟨t, ht, h⟩ := List.any_eq_true.mp h
    exact ⟨t, ht, List.any_eq_true.mpr ⟨s, hs, by rw [← clo_swap]; exact h⟩⟩
def sepB (r : RuD) (x y : Bx) (ss ts : List Seg) : Bool := lvA r x y || !anyC ss ts (r.la + 2 * r.ra)
theorem sepB_swap (r : RuD) (x y : Bx) (ss ts : List Seg) : sepB r y x ts ss = sepB r x y ss ts := by
  unfold sepB lvA
  rw [anyC_swap, Bool.or_comm (decide (r.ve + 2 * r.ba ≤ y.dn - x.up))]
def spLvA : Sp := fun vs H Q _ => ∃ (ru b1 b2 : Addr) (r : RuD) (x y : Bx), vs = [.ref ru, .ref b1, .ref b2] ∧ RuAt H ru r ∧ H b1 = some x.t ∧ H b2 = some y.t ∧ Q (.bl (lvA r x y)) H
def spLeast : Sp := fun vs H Q _ => ∃ (ru : Addr) (r : RuD), vs = [.ref ru] ∧ RuAt H ru r ∧ Q (.int (r.la + 2 * r.ra)) H
def spSep (C : Addr) (TT : List Addr) : Sp := fun vs H Q _ => ∃ (ru p1 b1 p2 b2 r1 r2 : Addr) (r : RuD) (x y : Bx) (D : CD) (ns ms : List Str) (ss ts : List Seg), vs = [.ref ru, .ref p1, .ref b1, .ref p2, .ref b2] ∧ RuAt H ru r ∧ H b1 = some x.t ∧ H b2 = some y.t ∧ x.lo ≤ x.hi ∧ y.lo ≤ y.hi ∧
  PathAt C H p1 D ns r1 ∧ PathAt C H p2 D ms r2 ∧ Bd D ∧ 2 ≤ ns.length ∧ ns.length ≤ 20 ∧ 2 ≤ ms.length ∧ ms.length ≤ 20 ∧ pcs D ns x.lo x.hi = ss.map Seg.li ∧ (∀ s ∈ ss, SegBd 200 100 s ∧ 1 ≤ s.d) ∧ pcs D ms y.lo y.hi = ts.map Seg.li ∧ (∀ s ∈ ts, SegBd 200 100 s ∧ 1 ≤ s.d) ∧ Tabs TT H ∧
  ∀ H', SameT TT H H' → Q (.bl (sepB r x y ss ts)) H'
def spLSep : Sp := fun vs H Q _ => ∃ (ru b1 q1 b2 q2 : Addr) (r : RuD) (x y : Bx) (ss ts : List Seg), vs = [.ref ru, .ref b1, .ref q1, .ref b2, .ref q2] ∧ RuAt H ru r ∧ H b1 = some x.t ∧ H b2 = some y.t ∧ LoT H q1 (ss.map Seg.li) ∧ LoT H q2 (ts.map Seg.li) ∧ (∀ s ∈ ss, SegBd 200 100 s ∧ 1 ≤ s.d) ∧ (∀ s ∈ ts, SegBd 200 100 s ∧ 1 ≤ s.d) ∧ ss.length ≤ 100 ∧ ts.length ≤ 100 ∧
  ∀ H', Same H H' → Q (.bl (sepB r x y ss ts)) H'
def spRulesB (K : PySem.W.Frag) : Sp := fun vs H Q _ => ∃ (d c : Addr), vs = [.ref d] ∧ St1 K H d c ∧ ∀ ru (r : RuD) H', H ru = none → RuAt H' ru r → St1 K H' d c → Keep d H H' → Q (.ref ru) H'
def spBoxB (K : PySem.W.Frag) : Sp := fun vs H Q _ => ∃ (d c b : Addr) (D : CD) (ns : List Str), vs = [.ref d, .ref b] ∧ St1 K H d c ∧ H b = some (.lst ((bgs D ns).map V.int)) ∧ Bd D ∧ 2 ≤ ns.length ∧ ns.length ≤ 20 ∧ ∀ q (x : Bx) H', H q = none → x.ok → H' q = some x.t → St1 K H' d c → Keep d H H' → Q (.ref q) H'
end Sk

set_option Elab.async false
set_option linter.all false
set_option maxRecDepth 100000
set_option maxHeartbeats 4000000
namespace Sk
open PySem PySem.Spec PyProof.Rows L2 GenW GxR
/-! max over a generator expression whose element may call own defs -/
/-- the greatest of some -/
def maxs : List Int → Int
  | [] => 0
  | z :: zs => zs.foldl (fun b z => if b < z then z else b) z
theorem maxs_app {zs : List Int} {z : Int} (h : zs ≠ []) : maxs (zs ++ [z]) = if maxs zs < z then z else maxs zs := by
  cases zs with
  | nil => exact absurd rfl h
  | cons y ys =>
    show (ys ++ [z]).foldl _ y = _
    rw [List.foldl_append]
    rfl
theorem maxs_spec : ∀ {zs : List Int}, zs ≠ [] → maxs zs ∈ zs ∧ ∀ z ∈ zs, z ≤ maxs zs := by
  have go : ∀ (ys : List Int) (y : Int), ((ys.foldl (fun b z => if b < z then z else b) y) = y ∨ (ys.foldl (fun b z => if b < z then z else b) y) ∈ ys) ∧ y ≤ (ys.foldl (fun b z => if b < z then z else b) y) ∧ ∀ z ∈ ys, z ≤ (ys.foldl (fun b z => if b < z then z else b) y) := by
    intro ys
    induction ys with
    | nil => intro y; exact ⟨.inl rfl, Int.le_refl _, fun _ h => nomatch h⟩
    | cons x ys ih =>
      intro y
      obtain ⟨a, b, c⟩ := ih (if y < x then x else y)
      show (ys.foldl _ (if y < x then x else y) = y ∨ ys.foldl _ (if y < x then x else y) ∈ x :: ys) ∧ y ≤ ys.foldl _ (if y < x then x else y) ∧ _
      refine ⟨?_, Int.le_trans (by split <;> omega) b, fun z hz => ?_⟩
      · rcases a with a | a
        · rw [a]
          split
          · exact .inr List.mem_cons_self
          · exact .inl rfl
        · exact .inr (List.mem_cons_of_mem _ a)
      · rcases List.mem_cons.mp hz with rfl | hz
        · exact Int.le_trans (by split <;> omega) b
        · exact c z hz
  intro zs h
  cases zs with
  | nil => exact absurd rfl h
  | cons y ys =>
    obtain ⟨a, b, c⟩ := go ys y
    refine ⟨?_, fun z hz => ?_⟩
    · rcases a with a | a
      · show ys.foldl _ y ∈ _
        rw [a]; exact List.mem_cons_self
      · exact List.mem_cons_of_mem _ a
    · rcases List.mem_cons.mp hz with rfl | hz
      · exact b
      · exact c z hz
section
variable {Y : GEx} {A : Around} {R : Result → Shared → Prop} {Qd : Int → Hp → Prop} {S : Addr}
theorem max_loop1 (O : Y.Ok) (hB : Y.B = A.in1.in1) (hS : Y.Sx = [S]) (hC : Y.C = eInt) (hF : Y.F = fun ys H => ∃ zs, ys = zs.map V.int ∧ zs ≠ [] ∧ Qd (maxs zs) H) (hh : A.handled = none) (hroom : A.depth < recursionLimit)
    (hR : ∀ k t σ' H' s1, Inv Y.Xg [] σ' H' s1 → Qd k H' → R (.ok (.ret (.int k t))) s1) : ∀ (n : Nat) (zs : List Int) (H : Hp) (gs : GenState) (sp s : Shared) (t : Tok) (c : Nat), zs ≠ [] → Y.Rdy n (zs.map V.int) H gs sp → Aft Y.Sx sp s → s.heap.IsGen Y.a Y.g → s.gens[Y.g]? = some gs → s.heap.NoLimit →
      s.heap.get? S = some (bestL #[.int (maxs zs) t, .int (maxs zs) t] c) → codeAny Y.M A (.builtin "max.loop" ⟨[.ref Y.a, .none, .ref S], []⟩) R s := by
  have hname : (toString "max" ++ toString ".loop" : String) = "max.loop" := by decide
  have hSm : S ∈ Y.a :: Y.Sx := by rw [hS]; simp
  have main : ∀ (n : Nat) (zs : List Int) (H : Hp) (gs : GenState) (sp s : Shared) (t : Tok) (c : Nat), zs ≠ [] → Y.Rdy n (zs.map V.int) H gs sp → Aft Y.Sx sp s → s.heap.IsGen Y.a Y.g → s.gens[Y.g]? = some gs → s.heap.NoLimit →
      s.heap.get? S = some (bestL #[.int (maxs zs) t, .int (maxs zs) t] c) →
      (∀ (zs' : List Int) (H' : Hp) (gs' : GenState) (sp' s' : Shared) (t' : Tok) (c' : Nat), zs' ≠ [] → Y.Rp n (zs'.map V.int) H' gs' sp' → Aft Y.Sx sp' s' → s'.heap.IsGen Y.a Y.g → s'.gens[Y.g]? = some gs' → s'.heap.NoLimit →
        s'.heap.get? S = some (bestL #[.int (maxs zs') t', .int (maxs zs') t'] c') → codeAny Y.M A (.builtin "max.loop" ⟨[.ref Y.a, .none, .ref S], []⟩) R s') → codeAny Y.M A (.builtin "max.loop" ⟨[.ref Y.a, .none, .ref S], []⟩) R s := by
    intro n zs H gs sp s t c hne rd af hg hgs nl hSo ih
    have there : ∀ b ∈ Y.a :: Y.Sx, ∃ o, s.heap.get? b = some o := fun b hb => by
      rcases List.mem_cons.mp hb with z | z
      · obtain ⟨o, n1, n2, e, r⟩ := hg
        exact ⟨o, by rw [z]; exact e⟩
      · rw [hS] at z
        exact ⟨_, by rw [List.mem_singleton.mp z]; exact hSo⟩
    refine codeAny_builtin F.entry_max_loop ?_
    rw [Around.under_plainId F.plain_max_loop _]
    show wpAny _ A.in1 (seqItems? (.ref S) >>= _) _ _ s
    refine wpAny_bind (wpAny_seqItems hSo rfl ?_)
    show wpAny _ A.in1 (tryCatch (pyNext (.ref Y.a)) _ >>= _) _ _ s
    refine wpAny_bind (wpAny_tryCatch (GEx.next O hB hh hroom nl rd af hg hgs (Array.getElem?_eq_some_iff.mp hgs).1 (fun σ' H' s1 s2 I f a => ?_) fun v y σ' H' s1 gs' I r cc hb hsz => ?_))
    · rw [hF] at f
      obtain ⟨zs', ez, _, f⟩ := f
      obtain rfl := int_inj ez
      have e1 := (O.pinned I hSm hSo).1
      have e2 := a.keep _ _ (by simp) e1
      show wpAny _ A.in1 (updateSeq S (fun _ => #[]) >>= _) _ _ _
      refine wpAny_bind ?_
      refine wpAny_updateSeq e2 rfl (wpAny_bind (wpAny_letGo (wpAny_pure ?_)))
      refine hR _ t σ' H' _ (O.past I there ?_) f
      rw [hS]
      refine ⟨a.os, a.bare, fun b o n e' => ?_, fun b hb => ?_⟩
      · exact (Heap.get?_update_other _ _ (fun h : S = b => n (by rw [h]; exact List.mem_singleton.mpr rfl))).trans (a.keep _ _ (by simp) e')
      · rw [List.mem_singleton.mp hb]
        exact ⟨_, Heap.get?_update_self _ e2 rfl, fun v z => by cases z⟩
    · rw [hC] at cc
      obtain ⟨⟨z, rfl⟩, cc⟩ := cc
      obtain ⟨t', rfl⟩ : ∃ t', v = .int z t' := r
      have e1 := (O.pinned I hSm hSo).1
      have e2 : (s1.setGen Y.g gs').heap.get? S = _ := e1
      rw [show zs.map V.int ++ [V.int z] = (zs ++ [z]).map V.int by rw [List.map_append]; rfl] at cc
      have hg1 : (s1.setGen Y.g gs').heap.IsGen Y.a Y.g := by
        obtain ⟨o, n1, n2, e, r⟩ := hg
        exact ⟨o, n1, n2, (O.pinned I List.mem_cons_self e).1, r⟩
      have hgs1 := setGen_at (x := gs') (Nat.lt_of_lt_of_le (Array.getElem?_eq_some_iff.mp hgs).1 hsz)
      have hna : S ≠ Y.a := fun z => O.aS (by rw [← z, hS]; simp)
      show wpAny _ A.in1 (tryCatch (holding [.int z t', .int z t'] (richCompare .Gt (.int z t') (.int (maxs zs) t) >>= _)) _ >>= _) _ _ _
      refine wpAny_bind (wpAny_tryCatch (wpAny_holding (wpAny_bind (CmpOf.ints_gt (P := fun j v => ∃ t, v = .int (if j = 0 then z else maxs zs) t) (fun j => if j = 0 then z else maxs zs) (fun j v h => h) 0 1 _ _ _ _ _ ⟨t', rfl⟩ ⟨t, rfl⟩ ?_))))
      refine wpAny_bind (wpAny_holding (wpAny_truthy_bool ?_))
      refine wpAny_bind (wpAny_letGo (wpAny_pure ?_))
      have em := maxs_app (z := z) hne
      show wpAny _ A.in1 (if decide (maxs zs < z) = true then _ else _) _ _ _
      by_cases hlt : maxs zs < z
      · rw [if_pos (decide_eq_true hlt)]
        rw [if_pos hlt] at em
        refine wpAny_bind ?_
        refine wpAny_updateSeq e2 rfl (wpAny_bind (wpAny_letGo ?_))
        rw [hname]
        refine wpAny_pure ⟨plainId_quiet F.plain_max_loop _, ih (zs ++ [z]) H' gs' s1 _ t' c (by simp) cc ?_ ?_ hgs1 ?_ ?_⟩
        · rw [hS]
          exact aft_put (s2 := { (s1.setGen Y.g gs') with heap := s1.heap.update S (Obj.mapSeq fun _ => #[Value.int z t', Value.int z t']) }) rfl (allBare_setGen I.bare hb) e1 rfl
        · obtain ⟨o, n1, n2, e, r⟩ := hg1
          exact ⟨o, n1, n2, (Heap.get?_update_other _ _ hna).trans e, r⟩
        · exact (O.past (s1 := { (s1.setGen Y.g gs') with heap := s1.heap.update S (Obj.mapSeq fun _ => #[Value.int z t', Value.int z t']) }) I there (by rw [hS]; exact aft_put rfl (allBare_setGen I.bare hb) e1 rfl)).nolimit
        · rw [em]
          exact Heap.get?_update_self _ e2 rfl
      · rw [if_neg (by rw [decide_eq_false hlt]; exact Bool.false_ne_true)]
        rw [if_neg hlt] at em
        refine wpAny_bind (wpAny_letGo ?_)
        rw [hname]
        refine wpAny_pure ⟨plainId_quiet F.plain_max_loop _, ih (zs ++ [z]) H' gs' s1 _ t c (by simp) cc ?_ hg1 hgs1 I.nolimit ?_⟩
        · rw [hS]
          exact aft_id rfl (allBare_setGen I.bare hb) e1 rfl
        · rw [em]
          exact e2
  intro n
  induction n with
  | zero =>
    intro zs H gs sp s t c hne rd af hg hgs nl hSo
    exact main 0 zs H gs sp s t c hne rd af hg hgs nl hSo fun _ _ _ _ _ _ _ _ q => (show False from q).elim
  | succ n ih =>
    intro zs H gs sp s t c hne rd af hg hgs nl hSo
    exact main (n + 1) zs H gs sp s t c hne rd af hg hgs nl hSo fun zs' H' gs' sp' s' t' c' a1 a2 a3 a4 a5 a6 a7 => ih zs' H' gs' sp' s' t' c' a1 a2 a3 a4 a5 a6 a7
/-- .. from the start -/
theorem max_first (O : Y.Ok) (hB : Y.B = A.in1.in1) (hS : Y.Sx = [S]) (hC : Y.C = eInt) (hF : Y.F = fun ys H => ∃ zs, ys = zs.map V.int ∧ zs ≠ [] ∧ Qd (maxs zs) H) (hh : A.handled = none) (hroom : A.depth < recursionLimit)
    (hR : ∀ k t σ' H' s1, Inv Y.Xg [] σ' H' s1 → Qd k H' → R (.ok (.ret (.int k t))) s1) (n : Nat) (H : Hp) (gs : GenState) (sp s : Shared) (c : Nat) (rd : Y.Rdy n [] H gs sp) (af : Aft Y.Sx sp s) (hg : s.heap.IsGen Y.a Y.g) (hgs : s.gens[Y.g]? = some gs) (nl : s.heap.NoLimit)
    (hSo : s.heap.get? S = some (bestL #[] c)) : codeAny Y.M A (.builtin "max.loop" ⟨[.ref Y.a, .none, .ref S], []⟩) R s := by
  have hname : (toString "max" ++ toString ".loop" : String) = "max.loop" := by decide
  have hSm : S ∈ Y.a :: Y.Sx := by rw [hS]; simp
  have there : ∀ b ∈ Y.a :: Y.Sx, ∃ o, s.heap.get? b = some o := fun b hb => by
    rcases List.mem_cons.mp hb with z | z
    · obtain ⟨o, n1, n2, e, r⟩ := hg
      exact ⟨o, by rw [z]; exact e⟩
    · rw [hS] at z
      exact ⟨_, by rw [List.mem_singleton.mp z]; exact hSo⟩
  refine codeAny_builtin F.entry_max_loop ?_
  rw [Around.under_plainId F.plain_max_loop _]
  show wpAny _ A.in1 (seqItems? (.ref S) >>= _) _ _ s
  refine wpAny_bind (wpAny_seqItems hSo rfl ?_)
  show wpAny _ A.in1 (tryCatch (pyNext (.ref Y.a)) _ >>= _) _ _ s
  refine wpAny_bind (wpAny_tryCatch (GEx.next O hB hh hroom nl rd af hg hgs (Array.getElem?_eq_some_iff.mp hgs).1 (fun σ' H' s1 s2 I f a => ?_) fun v y σ' H' s1 gs' I r cc hb hsz => ?_))
  · rw [hF] at f
    obtain ⟨zs', ez, ne, f⟩ := f
    cases zs' with
    | nil => exact absurd rfl ne
    | cons u us => cases ez
  · rw [hC] at cc
    obtain ⟨⟨z, rfl⟩, cc⟩ := cc
    obtain ⟨t', rfl⟩ : ∃ t', v = .int z t' := r
    have e1 := (O.pinned I hSm hSo).1
    have e2 : (s1.setGen Y.g gs').heap.get? S = _ := e1
    have hg1 : (s1.setGen Y.g gs').heap.IsGen Y.a Y.g := by
      obtain ⟨o, n1, n2, e, r⟩ := hg
      exact ⟨o, n1, n2, (O.pinned I List.mem_cons_self e).1, r⟩
    have hgs1 := setGen_at (x := gs') (Nat.lt_of_lt_of_le (Array.getElem?_eq_some_iff.mp hgs).1 hsz)
    have hna : S ≠ Y.a := fun z => O.aS (by rw [← z, hS]; simp)
    have put : Aft [S] s1 { (s1.setGen Y.g gs') with heap := s1.heap.update S (Obj.mapSeq fun _ => #[Value.int z t', Value.int z t']) } := aft_put rfl (allBare_setGen I.bare hb) e1 rfl
    show wpAny _ A.in1 (updateSeq S (fun _ => #[.int z t', .int z t']) >>= _) _ _ _
    refine wpAny_bind ?_
    refine wpAny_updateSeq e2 rfl ?_
    rw [hname]
    cases n with
    | zero => exact (show False from cc).elim
    | succ n =>
      refine wpAny_pure ⟨plainId_quiet F.plain_max_loop _, max_loop1 O hB hS hC hF hh hroom hR n [z] H' gs' s1 _ t' (c + 1) (by simp) cc (by rw [hS]; exact put) ?_ hgs1 (O.past I there (by rw [hS]; exact put)).nolimit ?_⟩
      · obtain ⟨o, n1, n2, e, r⟩ := hg1
        exact ⟨o, n1, n2, (Heap.get?_update_other _ _ hna).trans e, r⟩
      · have e3 := Heap.get?_update_self (Obj.mapSeq fun _ => #[Value.int z t', Value.int z t']) e2 rfl
        exact e3
end
section
variable {X : Cx}
theorem call_maxP {P : Program} {w : World} {A : Around} {Q : Value → Shared → Prop} {E : Value → Shared → Prop} {s : Shared} {a g : Addr} (hg : s.heap.IsGen a g)
    (h : codeAny (model P w) A (.builtin "max.loop" ⟨[.ref a, .none, .ref s.heap.objs.size], []⟩) (RetQ Q E) { s with heap := s.heap.push (bestL #[] 0) }) : wpAny (model P w) A (call (.builtin "max") [.ref a]) Q E s := by
  have hname : (toString "max" ++ toString ".loop" : String) = "max.loop" := by decide
  refine call_function_tree F.kind_max F.plain_max F.entry_max (F.args_max1 _) ?_
  show wpAny _ A.in1 (Builtin.Builtins.bindParams "max" ["key", "default"] 0 ⟨[], []⟩ >>= _) _ _ s
  refine wpAny_bind (wpAny_of_eq (show Builtin.Builtins.bindParams "max" ["key", "default"] 0 ⟨[], []⟩ = pure [none, none] from rfl) ?_)
  refine wpAny_bind (wpAny_pure ?_)
  refine wpAny_bind (wpAny_pyIter_gen hg ?_)
  refine wpAny_bind (wpAny_newObj_type ?_)
  rw [hname]
  exact wpAny_pure ⟨plainId_quiet F.plain_max_loop _, h⟩
/-- min of elt for target in iter if ..; W carries what is out so far -/
def tMaxG (P : Addr) (wi : TI) (g : TG) (tt : TT) (te : TE) (vs : List Nat) : TE := fun σ H Q => wi σ H fun J H1 => TabG H1 P ∧ ∀ H2, Tabbed P H1 H2 →
  ∃ W : Nat → Nat → List Int → Hp → Prop, (∃ m, W 0 m [] H2) ∧ ∀ i m zs H, W i m zs H → (J.stop i H ∧ zs ≠ [] ∧ Q (.int (maxs zs)) H) ∨ (J.go i H ∧ ∃ Nx : List Int → Hp → Prop, (∀ zs' H', Nx zs' H' → ∃ m', m' < m ∧ W (i + 1) m' zs' H') ∧
    ∀ x H', J.yld i H x H' → g x (wipe σ vs) H' fun σ2 H2 => wipe σ2 vs = wipe σ vs ∧ tt σ2 H2 fun b H3 => if b = true then te σ2 H3 fun y H4 => MN Nx zs y H4 else MZ Nx zs H3)
theorem tMaxG_step {J : It} {g : TG} {tt : TT} {te : TE} {vs : List Nat} {σ : L2.St} {Q : VK} {W : Nat → Nat → List Int → Hp → Prop}
    (h : ∀ i m zs H, W i m zs H → (J.stop i H ∧ zs ≠ [] ∧ Q (.int (maxs zs)) H) ∨ (J.go i H ∧ ∃ Nx : List Int → Hp → Prop, (∀ zs' H', Nx zs' H' → ∃ m', m' < m ∧ W (i + 1) m' zs' H') ∧
      ∀ x H', J.yld i H x H' → g x (wipe σ vs) H' fun σ2 H2 => wipe σ2 vs = wipe σ vs ∧ tt σ2 H2 fun b H3 => if b = true then te σ2 H3 fun y H4 => MN Nx zs y H4 else MZ Nx zs H3)) :
    GStep (fun i m ys H => ∃ zs, ys = zs.map V.int ∧ W i m zs H) J g tt te vs (wipe σ vs) eInt (fun ys H => ∃ zs, ys = zs.map V.int ∧ zs ≠ [] ∧ Q (.int (maxs zs)) H) := fun i m ys H ⟨zs, ey, w⟩ => by
  subst ey
  rcases h i m zs H w with ⟨z1, z2, z3⟩ | ⟨go, Nx, hN, st⟩
  · exact .inl ⟨z1, zs, rfl, z2, z3⟩
  · exact .inr ⟨go, fun ys H => ∃ zs, ys = zs.map V.int ∧ Nx zs H, fun ys' H' ⟨zs', e', nx⟩ => by
      obtain ⟨m', h1, h2⟩ := hN zs' H' nx
      exact ⟨m', h1, zs', e', h2⟩, st⟩
section
variable {c P : Addr} {elt tg iter : Expr} {ifs : List Expr} {scope : Scope} {own : List (Str × Nat)} {p pos gpos : Pos} {wi : TI} {g : TG} {tt : TT} {te : TE} {k : Nat}
theorem pe_maxG (hr : Room (k + 1) X.A) (hn : X.N.Nodup) (hgl : Gl X "max") (hm : X.mg "max" = none) (TB : LamX.TabB X.base X.mg c P) (hcode : X.env.code = .ref c) (G : GScp scope) (ok : BlkOk X.N X.env.scope scope own) (hi : PI X tg iter wi)
    (hg : GPG X k scope tg g) (ht : GPT X k scope ifs tt) (he : GPE X k scope elt te)
    (hb : bootBuiltins "max" = some (.builtin "max") := by first | rfl | decide +kernel) (hs : ∀ v, genFold iter X.env v = pure v := by intro _; rfl)
    (hst : starEach [.GeneratorExp elt [⟨tg, iter, ifs, 0⟩] scope gpos] X.env = (false, eval (.GeneratorExp elt [⟨tg, iter, ifs, 0⟩] scope gpos) X.env) :: starEach [] X.env := by rfl) :
    PE X (.Call (.Name "max" p) [.GeneratorExp elt [⟨tg, iter, ifs, 0⟩] scope gpos] [] pos) (tMaxG P wi g tt te (own.map (·.2))) := by
  refine ⟨fun pins s σ H Q I h => ?_⟩
  refine wpAny_Call_Name_kw (ld_blt I hgl hm hb ?_)
  refine PyProof.Rows.callWith_builtin1 ?_ hst (by rfl)
  rw [hst]
  show wpAny _ _ (spliced ((false, eval (.GeneratorExp elt [⟨tg, iter, ifs, 0⟩] scope gpos) X.env) :: backTo pos (starEach [] X.env))) _ _ s
  refine Calls.spliced_cons (gen_made (R := fun J H1 => _) hr TB hcode G ok hi hs I h fun J H1 H2 s4 cenv fp it tn a gn s5 q tb M => ?_)
  refine Calls.spliced_nil (call_maxP M.isg ?_)
  obtain ⟨W, ⟨m, w0⟩, st⟩ := q H2 tb
  obtain ⟨code, hce⟩ := M.env
  subst hce
  have hlt : a < s5.heap.objs.size := by rw [M.lt]; exact Nat.lt_succ_self a
  obtain ⟨O, rd⟩ := gen_rdy (B := X.A.in1.in1) (Sx := [s5.heap.objs.size]) hr (nearA2 _) G ok hn M (fun A r => hg _ _ _ _ _ _ A r) (fun A r => ht _ _ _ _ _ _ A r) (fun A r => he _ _ _ _ _ _ A r) (fun b z => by rw [List.mem_singleton.mp z]; exact hlt) eInt_mono (tMaxG_step st) m ⟨[], rfl, w0⟩
  have hpush : ∀ b o, s5.heap.get? b = some o → (s5.heap.push (bestL #[] 0)).get? b = some o := fun b o e => Heap.get?_push_of_some _ e
  refine max_first (Qd := fun k H => Q (.int k) H) (S := s5.heap.objs.size) (Y := mkY X s4 H2 _ fp X.A.in1.in1 (wipe σ (own.map (·.2))) (.GeneratorExp elt [⟨tg, iter, ifs, 0⟩] scope gpos) it a gn [s5.heap.objs.size] eInt (fun ys H => ∃ zs, ys = zs.map V.int ∧ zs ≠ [] ∧ Q (.int (maxs zs)) H)) O rfl rfl rfl rfl hr.hd hr.depth (fun k t σ' H' s1 I' q => ?_) m H2 _ s5 _ 0 rd ?_ ?_ ?_ ?_ (Heap.get?_push_size _ rfl)
  · exact ⟨.int k, H', GEx.out (Y := mkY X s4 H2 _ fp X.A.in1.in1 (wipe σ (own.map (·.2))) (.GeneratorExp elt [⟨tg, iter, ifs, 0⟩] scope gpos) it a gn [s5.heap.objs.size] eInt (fun ys H => ∃ zs, ys = zs.map V.int ∧ zs ≠ [] ∧ Q (.int (maxs zs)) H)) M.inv (fun b hb => (M.fps b hb).1) I' (Aft.refl I'.bare), ⟨t, rfl⟩, q⟩
  · refine ⟨rfl, ?_, fun b o _ e => hpush b o e, fun b hb => ?_⟩
    · show AllBare s5.gens
      rw [M.gens]
      exact M.inv.bare.push rfl
    · rw [List.mem_singleton.mp hb]
      exact ⟨_, Heap.get?_push_size _ rfl, fun v z => by cases z⟩
  · obtain ⟨o, n1, n2, e, r⟩ := M.isg
    exact ⟨o, n1, n2, hpush _ _ e, r⟩
  · show s5.gens[gn]? = _
    rw [M.gens, M.num]
    simp
  · exact (M.inv.nolimit.keeps M.keep).push _
end
end
section
variable {K : PySem.W.Frag} {a : Addr} {xs : List V} {g : TG} {tt : TT} {te : TE} {vs : List Nat} {σ : L2.St} {H2 : Hp} {Q : VK}
/-- over a list that the element leaves as it is -/
theorem max_list (Pv : Nat → List Int → Hp → Prop) (h0 : Pv 0 [] H2) (hl : ∀ i zs H, i ≤ xs.length → Pv i zs H → SqL K H a xs)
    (hs : ∀ i zs x H, xs[i]? = some x → Pv i zs H → g x (wipe σ vs) H fun σ2 H2 => wipe σ2 vs = wipe σ vs ∧ tt σ2 H2 fun b H3 => if b = true then te σ2 H3 fun y H4 => MN (Pv (i + 1)) zs y H4 else MZ (Pv (i + 1)) zs H3) (hd : ∀ zs H, Pv xs.length zs H → zs ≠ [] ∧ Q (.int (maxs zs)) H) :
    ∃ W : Nat → Nat → List Int → Hp → Prop, (∃ m, W 0 m [] H2) ∧ ∀ i m zs H, W i m zs H → ((Itl K a).stop i H ∧ zs ≠ [] ∧ Q (.int (maxs zs)) H) ∨ ((Itl K a).go i H ∧ ∃ Nx : List Int → Hp → Prop, (∀ zs' H', Nx zs' H' → ∃ m', m' < m ∧ W (i + 1) m' zs' H') ∧
      ∀ x H', (Itl K a).yld i H x H' → g x (wipe σ vs) H' fun σ2 H2 => wipe σ2 vs = wipe σ vs ∧ tt σ2 H2 fun b H3 => if b = true then te σ2 H3 fun y H4 => MN Nx zs y H4 else MZ Nx zs H3) := by
  refine ⟨fun i m zs H => m = xs.length - i ∧ i ≤ xs.length ∧ Pv i zs H, ⟨xs.length, by simp, Nat.zero_le _, h0⟩, fun i m zs H w => ?_⟩
  obtain ⟨hm, hi, p⟩ := w
  have q := hl i zs H hi p
  rcases Nat.lt_or_ge i xs.length with z | z
  · refine .inr ⟨⟨xs, xs[i], q, by simp [z]⟩, Pv (i + 1), fun zs' H' p' => ⟨xs.length - (i + 1), by omega, rfl, z, p'⟩, fun x H' y => ?_⟩
    obtain ⟨rfl, y⟩ := y
    exact hs i zs x _ (y xs q) p
  · obtain rfl : i = xs.length := by omega
    exact .inl ⟨⟨xs, q, Nat.le_refl _⟩, hd zs H p⟩
end
end Sk

set_option Elab.async false
set_option linter.all false
set_option maxRecDepth 100000
set_option maxHeartbeats 4000000
namespace Sk
open PySem PySem.Spec PyProof.Rows L2
/-! a place of a stretch is on one of the segments of its piece -/
/-- (px / d, py / d) is on the segment -/
def OnS (px py d : Int) (s : Seg) : Prop := ∃ u v : Int, 0 ≤ u ∧ 0 ≤ v ∧ 1 ≤ u + v ∧ px * s.d * (u + v) = d * (u * s.ax + v * s.bx) ∧ py * s.d * (u + v) = d * (u * s.ay + v * s.bw)
theorem on_first {s : Seg} {px py : Int} (hx : px = s.ax) (hy : py = s.ay) : OnS px py s.d s := by
  refine ⟨1, 0, by decide, by decide, by decide, ?_, ?_⟩
  · rw [hx]; grind
  · rw [hy]; grind
theorem between {A B n g p st en : Int} : (A * n + B * (p - g)) * n * (en - p + (p - st)) = n * ((en - p) * (A * n + B * (st - g)) + (p - st) * (A * n + B * (en - g))) := by grind
theorem at_end {A B n g' : Int} {px d : Int} (h : px = A * d) (en : n * 1 = n) : px * n * (0 + 1) = d * (0 * g' + 1 * (A * n)) := by
  rw [h]; grind
theorem plc_eq (D : CD) (ns : List Str) (k : Nat) (p : Int) : plc D ns k p = [(D.xy (rn ns k)).1 * D.len (rn ns k) (rn ns (k + 1)) + ((D.xy (rn ns (k + 1))).1 - (D.xy (rn ns k)).1) * (p - bg D ns k), (D.xy (rn ns k)).2 * D.len (rn ns k) (rn ns (k + 1)) + ((D.xy (rn ns (k + 1))).2 - (D.xy (rn ns k)).2) * (p - bg D ns k)] := rfl
theorem li_inj {s t : Seg} (h : s.li = t.li) : s = t := by
  obtain ⟨a, b, c, d, e⟩ := s
  obtain ⟨a', b', c', d', e'⟩ := t
  simp only [Seg.li, List.cons.injEq, and_true] at h
  obtain ⟨rfl, rfl, rfl, rfl, rfl⟩ := h
  rfl
theorem place_on_piece {D : CD} {ns : List Str} (pos : PosR D ns) (n2 : 2 ≤ ns.length) {lo hi p px py : Int} {ss : List Seg} (e : pcs D ns lo hi = ss.map Seg.li)
    (h0 : 0 ≤ p) (h1 : p < bg D ns (ns.length - 1)) (hl : lo ≤ p) (hh : p ≤ hi) (hp : plc D ns (lat D ns (ns.length - 1 - 1) p) p = [px, py]) :
    ∃ s ∈ ss, OnS px py (D.len (rn ns (lat D ns (ns.length - 1 - 1) p)) (rn ns (lat D ns (ns.length - 1 - 1) p + 1))) s := by
  obtain ⟨c0, c1, c2⟩ := lat_cases D ns (ns.length - 1 - 1) p
  generalize hk : lat D ns (ns.length - 1 - 1) p = k at *
  have hk1 : k + 1 < ns.length := by omega
  have pk := pos k hk1
  have gk : bg D ns k ≤ p := by
    match k, c1 with
    | 0, _ => exact h0
    | k + 1, c1 => exact c1 k (by omega)
  have gk2 : p < bg D ns (k + 1) := by
    by_cases z : k < ns.length - 1 - 1
    · exact c2 z
    · have : k + 1 = ns.length - 1 := by omega
      rw [this]; exact h1
  have gs : bg D ns (k + 1) = bg D ns k + D.len (rn ns k) (rn ns (k + 1)) := rfl
  rw [plc_eq] at hp
  have hpx := (List.cons.inj hp).1.symm
  have hpy := (List.cons.inj (List.cons.inj hp).2).1.symm
  unfold pcs at e
  dsimp only at e
  rw [if_neg (by omega)] at e
  generalize ef : (if 0 > lo then 0 else lo) = f at e
  generalize el : (if bg D ns (ns.length - 1) < hi then bg D ns (ns.length - 1) else hi) = l at e
  have hf : f ≤ p ∧ 0 ≤ f := by split at ef <;> omega
  have hlp : p ≤ l := by split at el <;> omega
  have hlt : l ≤ bg D ns (ns.length - 1) := by split at el <;> omega
  by_cases fl : f = l
  · rw [if_pos fl] at e
    have fp : f = p := by omega
    rw [fp, hk] at e
    obtain ⟨s, rfl, es⟩ : ∃ s, ss = [s] ∧ s.li = seg D ns k p p := by
      cases ss with
      | nil => cases e
      | cons s r =>
        cases r with
        | nil => exact ⟨s, rfl, (List.cons.inj e).1.symm⟩
        | cons t r =>
          have := congrArg List.length e
          simp at this
    have ed : s.d = D.len (rn ns k) (rn ns (k + 1)) := by
      simp only [seg, plc_eq, Seg.li, List.cons_append, List.nil_append, List.cons.injEq, and_true] at es
      exact es.2.2.2.2
    have ea : s.ax = px ∧ s.ay = py := by
      simp only [seg, plc_eq, Seg.li, List.cons_append, List.nil_append, List.cons.injEq, and_true] at es
      exact ⟨by rw [hpx]; exact es.1, by rw [hpy]; exact es.2.1⟩
    refine ⟨s, List.mem_singleton.mpr rfl, ?_⟩
    rw [← ed]
    exact on_first ea.1.symm ea.2.symm
  · rw [if_neg fl] at e
    have mem : ∀ (k' : Nat) (st en : Int), k' < ns.length - 1 → (if bg D ns k' > f then bg D ns k' else f) = st → (if bg D ns (k' + 1) < l then bg D ns (k' + 1) else l) = en → st < en →
        ∃ s ∈ ss, s.li = seg D ns k' st en := fun k' st en h1 h2 h3 h4 => by
      have hm : seg D ns k' st en ∈ segsOf D ns f l (List.range (ns.length - 1)) := by
        refine List.mem_filterMap.mpr ⟨k', List.mem_range.mpr h1, ?_⟩
        unfold segOf
        dsimp only
        rw [h2, h3, if_pos h4]
      rw [e] at hm
      obtain ⟨s, hs, es⟩ := List.mem_map.mp hm
      exact ⟨s, hs, es⟩
    generalize est : (if bg D ns k > f then bg D ns k else f) = st
    generalize een : (if bg D ns (k + 1) < l then bg D ns (k + 1) else l) = en
    have hst : st ≤ p := by split at est <;> omega
    have hen : p ≤ en := by split at een <;> omega
    by_cases lt : st < en
    · obtain ⟨s, hs, es⟩ := mem k st en (by omega) est een lt
      refine ⟨s, hs, en - p, p - st, by omega, by omega, by omega, ?_, ?_⟩
      all_goals
        simp only [seg, plc_eq, Seg.li, List.cons_append, List.nil_append, List.cons.injEq, and_true] at es
        obtain ⟨e1, e2, e3, e4, e5⟩ := es
      · rw [hpx, e1, e3, e5]
        exact between
      · rw [hpy, e2, e4, e5]
        exact between
    · -- the joint: p is the end of the leg before
      have pst : st = p ∧ en = p := by omega
      have pl : l = p := by
        have := pst.2
        split at een <;> omega
      have pg : bg D ns k = p := by
        have := pst.1
        split at est <;> omega
      have k0 : k ≠ 0 := fun z => by
        rw [z] at pg
        have : (0 : Int) = p := pg
        omega
      obtain ⟨j, rfl⟩ : ∃ j, k = j + 1 := ⟨k - 1, by omega⟩
      have pj := pos j (by omega)
      have gj : bg D ns (j + 1) = bg D ns j + D.len (rn ns j) (rn ns (j + 1)) := rfl
      generalize est' : (if bg D ns j > f then bg D ns j else f) = st'
      have h5 : (if bg D ns (j + 1) < l then bg D ns (j + 1) else l) = p := by split <;> omega
      have h6 : st' < p := by split at est' <;> omega
      obtain ⟨s, hs, es⟩ := mem j st' p (by omega) est' h5 h6
      refine ⟨s, hs, 0, 1, by decide, by decide, by decide, ?_, ?_⟩
      all_goals
        simp only [seg, plc_eq, Seg.li, List.cons_append, List.nil_append, List.cons.injEq, and_true] at es
        obtain ⟨e1, e2, e3, e4, e5⟩ := es
        have q : p - bg D ns j = D.len (rn ns j) (rn ns (j + 1)) := by omega
        have q2 : p - bg D ns (j + 1) = 0 := by omega
        rw [q] at e3 e4
        rw [q2] at hpx hpy
      · rw [hpx, e3, e5]
        grind
      · rw [hpy, e4, e5]
        grind
/-! the greatest rounded down, the least rounded up, of the ends of some segments -/
def c0 (i : Nat) (s : Seg) : Int := if i = 0 then s.ax else s.ay
def c1 (i : Nat) (s : Seg) : Int := if i = 0 then s.bx else s.bw
def dn (i : Nat) (ss : List Seg) : List Int := ss.flatMap fun s => [c0 i s / s.d, c1 i s / s.d]
def up (i : Nat) (ss : List Seg) : List Int := ss.flatMap fun s => [-(-c0 i s / s.d), -(-c1 i s / s.d)]
theorem maxs_eq {zs : List Int} {m : Int} (h : m ∈ zs) (g : ∀ z ∈ zs, z ≤ m) : maxs zs = m := by
  have ne : zs ≠ [] := fun e => by rw [e] at h; cases h
  obtain ⟨a, b⟩ := maxs_spec ne
  have := g _ a
  have := b _ h
  omega
theorem mins_eq {zs : List Int} {m : Int} (h : m ∈ zs) (g : ∀ z ∈ zs, m ≤ z) : mins zs = m := by
  have ne : zs ≠ [] := fun e => by rw [e] at h; cases h
  obtain ⟨a, b⟩ := mins_spec ne
  have := g _ a
  have := b _ h
  omega
theorem maxs_same {zs ws : List Int} (h : ∀ z, z ∈ zs ↔ z ∈ ws) (ne : zs ≠ []) : maxs zs = maxs ws := by
  obtain ⟨a, b⟩ := maxs_spec ne
  exact (maxs_eq ((h _).mp a) fun z hz => b z ((h z).mpr hz)).symm
theorem mins_same {zs ws : List Int} (h : ∀ z, z ∈ zs ↔ z ∈ ws) (ne : zs ≠ []) : mins zs = mins ws := by
  obtain ⟨a, b⟩ := mins_spec ne
  exact (mins_eq ((h _).mp a) fun z hz => b z ((h z).mpr hz)).symm
/-- the ends as fractions, in the program's order -/
def ends (i : Nat) (ss : List Seg) : List (Int × Int) := ss.map (fun s => (c0 i s, s.d)) ++ ss.map (fun s => (c1 i s, s.d))
theorem ends_dn (i : Nat) (ss : List Seg) (z : Int) : z ∈ (ends i ss).map (fun e => e.1 / e.2) ↔ z ∈ dn i ss := by
  unfold ends dn
  simp only [List.map_append, List.map_map, List.mem_append, List.mem_map, List.mem_flatMap, List.mem_cons, List.not_mem_nil, or_false, Function.comp]
  constructor
  · rintro (⟨s, h, e⟩ | ⟨s, h, e⟩)
    · exact ⟨s, h, .inl e.symm⟩
    · exact ⟨s, h, .inr e.symm⟩
  · rintro ⟨s, h, e | e⟩
    · exact .inl ⟨s, h, e.symm⟩
    · exact .inr ⟨s, h, e.symm⟩
theorem ends_up (i : Nat) (ss : List Seg) (z : Int) : z ∈ (ends i ss).map (fun e => -(-e.1 / e.2)) ↔ z ∈ up i ss := by
  unfold ends up
  simp only [List.map_append, List.map_map, List.mem_append, List.mem_map, List.mem_flatMap, List.mem_cons, List.not_mem_nil, or_false, Function.comp]
  constructor
  · rintro (⟨s, h, e⟩ | ⟨s, h, e⟩)
    · exact ⟨s, h, .inl e.symm⟩
    · exact ⟨s, h, .inr e.symm⟩
  · rintro ⟨s, h, e | e⟩
    · exact .inl ⟨s, h, e.symm⟩
    · exact .inr ⟨s, h, e.symm⟩
theorem ends_ne {i : Nat} {ss : List Seg} (h : ss ≠ []) : ends i ss ≠ [] := by
  cases ss with
  | nil => exact absurd rfl h
  | cons s ss => intro z; cases z
theorem ends_bd {i : Nat} {ss : List Seg} (h : ∀ s ∈ ss, SegBd 200 100 s ∧ 1 ≤ s.d) : ∀ e ∈ ends i ss, BdN 200 e.1 ∧ BdN 100 e.2 ∧ 1 ≤ e.2 := fun e he => by
  unfold ends at he
  rcases List.mem_append.mp he with he | he
  · obtain ⟨s, hs, rfl⟩ := List.mem_map.mp he
    obtain ⟨b, d⟩ := h s hs
    exact ⟨by show BdN 200 (c0 i s); unfold c0; split; exact b.ax; exact b.ay, b.d, d⟩
  · obtain ⟨s, hs, rfl⟩ := List.mem_map.mp he
    obtain ⟨b, d⟩ := h s hs
    exact ⟨by show BdN 200 (c1 i s); unfold c1; split; exact b.bx; exact b.bw, b.d, d⟩
/-! the estimate -/
structure Est where
  x1 : Int
  x2 : Int
  y1 : Int
  y2 : Int
def Est.v (e : Est) : List V := [.int e.x1, .int e.x2, .int e.y1, .int e.y2]
def nlo (low told m : Int) (i : Nat) (ss : List Seg) : Int := if told - m - maxs (dn i ss) > low then told - m - maxs (dn i ss) else low
def nhi (high told m : Int) (i : Nat) (ss : List Seg) : Int := if told + m - mins (up i ss) < high then told + m - mins (up i ss) else high
def nar (e : Est) (m x y : Int) (ss : List Seg) : Option Est :=
  if nlo e.x1 x m 0 ss > nhi e.x2 x m 0 ss ∨ nlo e.y1 y m 1 ss > nhi e.y2 y m 1 ss then none else some ⟨nlo e.x1 x m 0 ss, nhi e.x2 x m 0 ss, nlo e.y1 y m 1 ss, nhi e.y2 y m 1 ss⟩
/-- what lies below the greatest end, lies below it rounded down -/
theorem below_max {px d u v w : Int} {i : Nat} {s : Seg} {ss : List Seg} (hs : s ∈ ss) (d1 : 1 ≤ d) (sd : 1 ≤ s.d) (u0 : 0 ≤ u) (v0 : 0 ≤ v) (uv : 1 ≤ u + v) (e : px * s.d * (u + v) = d * (u * c0 i s + v * c1 i s)) (h : w * d ≤ px) : w ≤ maxs (dn i ss) := by
  have ne : dn i ss ≠ [] := fun z => by
    have : c0 i s / s.d ∈ dn i ss := List.mem_flatMap.mpr ⟨s, hs, by simp⟩
    rw [z] at this; cases this
  obtain ⟨_, b⟩ := maxs_spec ne
  have b0 := b _ (show c0 i s / s.d ∈ dn i ss from List.mem_flatMap.mpr ⟨s, hs, by simp⟩)
  have b1 := b _ (show c1 i s / s.d ∈ dn i ss from List.mem_flatMap.mpr ⟨s, hs, by simp⟩)
  rcases Int.lt_or_le (maxs (dn i ss)) w with z | z
  · exfalso
    have q0 : c0 i s < w * s.d := by
      have := Int.lt_ediv_add_one_mul_self (c0 i s) (show 0 < s.d by omega)
      have := Int.mul_le_mul_of_nonneg_right (show c0 i s / s.d + 1 ≤ w by omega) (show 0 ≤ s.d by omega)
      omega
    have q1 : c1 i s < w * s.d := by
      have := Int.lt_ediv_add_one_mul_self (c1 i s) (show 0 < s.d by omega)
      have := Int.mul_le_mul_of_nonneg_right (show c1 i s / s.d + 1 ≤ w by omega) (show 0 ≤ s.d by omega)
      omega
    have r0 : u * c0 i s ≤ u * (w * s.d - 1) := Int.mul_le_mul_of_nonneg_left (by omega) u0
    have r1 : v * c1 i s ≤ v * (w * s.d - 1) := Int.mul_le_mul_of_nonneg_left (by omega) v0
    have r2 : u * (w * s.d - 1) + v * (w * s.d - 1) = (u + v) * (w * s.d) - (u + v) := by grind
    have r3 : u * c0 i s + v * c1 i s ≤ (u + v) * (w * s.d) - 1 := by omega
    have r4 := Int.mul_le_mul_of_nonneg_left r3 (show 0 ≤ d by omega)
    have r5 := Int.mul_le_mul_of_nonneg_right (Int.mul_le_mul_of_nonneg_right h (show 0 ≤ s.d by omega)) (show 0 ≤ u + v by omega)
    have r6 : w * d * s.d * (u + v) = d * ((u + v) * (w * s.d)) := by grind
    have r7 : d * ((u + v) * (w * s.d) - 1) = d * ((u + v) * (w * s.d)) - d := by grind
    omega
  · exact z
theorem above_min {px d u v w : Int} {i : Nat} {s : Seg} {ss : List Seg} (hs : s ∈ ss) (d1 : 1 ≤ d) (sd : 1 ≤ s.d) (u0 : 0 ≤ u) (v0 : 0 ≤ v) (uv : 1 ≤ u + v) (e : px * s.d * (u + v) = d * (u * c0 i s + v * c1 i s)) (h : px ≤ w * d) : mins (up i ss) ≤ w := by
  have ne : up i ss ≠ [] := fun z => by
    have : -(-c0 i s / s.d) ∈ up i ss := List.mem_flatMap.mpr ⟨s, hs, by simp⟩
    rw [z] at this; cases this
  obtain ⟨_, b⟩ := mins_spec ne
  have b0 := b _ (show -(-c0 i s / s.d) ∈ up i ss from List.mem_flatMap.mpr ⟨s, hs, by simp⟩)
  have b1 := b _ (show -(-c1 i s / s.d) ∈ up i ss from List.mem_flatMap.mpr ⟨s, hs, by simp⟩)
  rcases Int.lt_or_le w (mins (up i ss)) with z | z
  · exfalso
    have q0 : w * s.d < c0 i s := by
      have := Int.lt_ediv_add_one_mul_self (-c0 i s) (show 0 < s.d by omega)
      have := Int.mul_le_mul_of_nonneg_right (show -c0 i s / s.d + 1 ≤ -w by omega) (show 0 ≤ s.d by omega)
      rw [Int.neg_mul] at this
      omega
    have q1 : w * s.d < c1 i s := by
      have := Int.lt_ediv_add_one_mul_self (-c1 i s) (show 0 < s.d by omega)
      have := Int.mul_le_mul_of_nonneg_right (show -c1 i s / s.d + 1 ≤ -w by omega) (show 0 ≤ s.d by omega)
      rw [Int.neg_mul] at this
      omega
    have r0 : u * (w * s.d + 1) ≤ u * c0 i s := Int.mul_le_mul_of_nonneg_left (by omega) u0
    have r1 : v * (w * s.d + 1) ≤ v * c1 i s := Int.mul_le_mul_of_nonneg_left (by omega) v0
    have r2 : u * (w * s.d + 1) + v * (w * s.d + 1) = (u + v) * (w * s.d) + (u + v) := by grind
    have r3 : (u + v) * (w * s.d) + 1 ≤ u * c0 i s + v * c1 i s := by omega
    have r4 := Int.mul_le_mul_of_nonneg_left r3 (show 0 ≤ d by omega)
    have r5 := Int.mul_le_mul_of_nonneg_right (Int.mul_le_mul_of_nonneg_right h (show 0 ≤ s.d by omega)) (show 0 ≤ u + v by omega)
    have r6 : w * d * s.d * (u + v) = d * ((u + v) * (w * s.d)) := by grind
    have r7 : d * ((u + v) * (w * s.d) + 1) = d * ((u + v) * (w * s.d)) + d := by grind
    omega
  · exact z
/-- squares and sides -/
theorem side_of {a b m : Int} (hm : 0 ≤ m) (h : a * a + b * b ≤ m * m) : -m ≤ a ∧ a ≤ m := by
  have hb : 0 ≤ b * b := sq0 b
  constructor
  · rcases Int.lt_or_le a (-m) with z | z
    · have := Int.mul_le_mul (show m + 1 ≤ -a by omega) (show m + 1 ≤ -a by omega) (by omega) (by omega)
      rw [Int.neg_mul_neg] at this
      have e : (m + 1) * (m + 1) = m * m + 2 * m + 1 := by grind
      omega
    · exact z
  · rcases Int.lt_or_le m a with z | z
    · have := Int.mul_le_mul (show m + 1 ≤ a by omega) (show m + 1 ≤ a by omega) (by omega) (by omega)
      have e : (m + 1) * (m + 1) = m * m + 2 * m + 1 := by grind
      omega
    · exact z
theorem tri {a b c e M N : Int} (hM : 0 ≤ M) (hN : 0 ≤ N) (h1 : a * a + b * b ≤ M * M) (h2 : c * c + e * e ≤ N * N) : (a + c) * (a + c) + (b + e) * (b + e) ≤ (M + N) * (M + N) := by
  have dot : a * c + b * e ≤ M * N := by
    rcases Int.lt_or_le (M * N) (a * c + b * e) with z | z
    · exfalso
      have mn : 0 ≤ M * N := Int.mul_nonneg hM hN
      have q1 := Int.mul_le_mul (show M * N + 1 ≤ a * c + b * e by omega) (show M * N + 1 ≤ a * c + b * e by omega) (by omega) (by omega)
      have q2 := Int.mul_le_mul h1 h2 (Int.add_nonneg (sq0 c) (sq0 e)) (Int.mul_nonneg hM hM)
      have q3 : (a * c + b * e) * (a * c + b * e) + (a * e - b * c) * (a * e - b * c) = (a * a + b * b) * (c * c + e * e) := by grind
      have q4 := sq0 (a * e - b * c)
      have q5 : (M * N + 1) * (M * N + 1) = M * M * (N * N) + 2 * (M * N) + 1 := by grind
      omega
    · exact z
  have e1 : (a + c) * (a + c) + (b + e) * (b + e) = (a * a + b * b) + (c * c + e * e) + 2 * (a * c + b * e) := by grind
  have e2 : (M + N) * (M + N) = M * M + N * N + 2 * (M * N) := by grind
  omega
end Sk
namespace Sk
open PySem PySem.Spec PyProof.Rows L2
/-- the error of the radars -/
def RrAt (H : Hp) (ru : Addr) (rd : Int) : Prop := ∃ kvs, H ru = some (.dK kvs) ∧ valV kvs (.inr "radar") = some (.int rd)
section
variable {H H' : Hp} {ru : Addr} {rd : Int}
theorem RrAt.same (R : RrAt H ru rd) (s : Same H H') : RrAt H' ru rd := let ⟨kvs, e, h⟩ := R; ⟨kvs, s _ _ e, h⟩
theorem RrAt.keep {d : Addr} (R : RrAt H ru rd) (s : Keep d H H') (n : ru ≠ d) : RrAt H' ru rd := let ⟨kvs, e, h⟩ := R; ⟨kvs, s _ _ e n, h⟩
theorem RrAt.st {T : List Addr} (R : RrAt H ru rd) (s : SameT T H H') (t : Tabs T H) : RrAt H' ru rd := let ⟨kvs, e, h⟩ := R; ⟨kvs, s.d t e, h⟩
theorem RrAt.g (R : RrAt H ru rd) : DGet H ru (.str "radar") (some (.int rd)) := let ⟨_, e, h⟩ := R; h ▸ DGet.k (k := .inr "radar") e
end
def spRulesR (K : PySem.W.Frag) : Sp := fun vs H Q _ => ∃ (d c : Addr), vs = [.ref d] ∧ St1 K H d c ∧ ∀ ru (r : RuD) (rd : Int) H', H ru = none → RuAt H' ru r → RrAt H' ru rd → 0 ≤ rd → rd ≤ 1000 → St1 K H' d c → Keep d H H' → Q (.ref ru) H'
/-- a list of pairs -/
def PrAt (H : Hp) (l : Addr) (es : List (Int × Int)) : Prop := ∃ qs : List (Addr × Int × Int), H l = some (.lst (qs.map fun q => V.ref q.1)) ∧ (∀ q ∈ qs, H q.1 = some (.tup [.int q.2.1, .int q.2.2])) ∧ qs.map (·.2) = es
theorem PrAt.same {H H' : Hp} {l : Addr} {es : List (Int × Int)} (L : PrAt H l es) (e : Same H H') : PrAt H' l es := let ⟨qs, h1, h2, h3⟩ := L; ⟨qs, e _ _ h1, fun q h => e _ _ (h2 q h), h3⟩
theorem PrAt.st {T : List Addr} {H H' : Hp} {l : Addr} {es : List (Int × Int)} (L : PrAt H l es) (s : SameT T H H') (t : Tabs T H) : PrAt H' l es := let ⟨qs, h1, h2, h3⟩ := L; ⟨qs, s.l t h1, fun q h => s.t t (h2 q h), h3⟩
theorem PrAt.nil {H : Hp} {l : Addr} (h : H l = some (.lst [])) : PrAt H l [] := ⟨[], h, (fun _ h => nomatch h), rfl⟩
theorem PrAt.snoc {H : Hp} {l p : Addr} {es : List (Int × Int)} {a b : Int} {ys : List V} (L : PrAt H l es) (hl : H l = some (.lst ys)) (hp : H p = some (.tup [.int a, .int b])) : PrAt (upd H l (.lst (ys ++ [.ref p]))) l (es ++ [(a, b)]) := by
  obtain ⟨qs, h1, h2, h3⟩ := L
  rw [hl] at h1
  cases h1
  refine ⟨qs ++ [(p, a, b)], by rw [upd_same, List.map_append]; rfl, fun q hq => ?_, by rw [List.map_append, h3]; rfl⟩
  have ht : H q.1 = some (.tup [.int q.2.1, .int q.2.2]) := by
    rcases List.mem_append.mp hq with h | h
    · exact h2 q h
    · rw [List.mem_singleton.mp h]; exact hp
  rw [upd_ne (ne_of ht hl (by intro z; cases z))]
  exact ht
theorem PrAt.cat {H : Hp} {l m p : Addr} {es fs : List (Int × Int)} {xs ys : List V} (L : PrAt H l es) (M : PrAt H m fs) (hl : H l = some (.lst xs)) (hm : H m = some (.lst ys)) (hp : H p = none) : PrAt (upd H p (.lst (xs ++ ys))) p (es ++ fs) := by
  obtain ⟨qs, h1, h2, h3⟩ := L
  obtain ⟨rs, g1, g2, g3⟩ := M
  rw [hl] at h1
  rw [hm] at g1
  cases h1
  cases g1
  refine ⟨qs ++ rs, by rw [upd_same, List.map_append], fun q hq => same_new hp _ _ ?_, by rw [List.map_append, h3, g3]⟩
  rcases List.mem_append.mp hq with h | h
  · exact h2 q h
  · exact g2 q h
theorem PrAt.len {H : Hp} {l : Addr} {es : List (Int × Int)} (L : PrAt H l es) : ∃ ys : List V, H l = some (.lst ys) ∧ ys.length = es.length := let ⟨qs, h1, _, h3⟩ := L; ⟨_, h1, by rw [List.length_map, ← h3, List.length_map]⟩
/-- the pair at a place -/
theorem PrAt.at {H : Hp} {l : Addr} {es : List (Int × Int)} (L : PrAt H l es) : ∃ ps : List Addr, H l = some (.lst (ps.map V.ref)) ∧ ps.length = es.length ∧ ∀ (i : Nat) (v : V), (ps.map V.ref)[i]? = some v → ∃ (p : Addr) (e : Int × Int), v = .ref p ∧ es[i]? = some e ∧ H p = some (.tup [.int e.1, .int e.2]) := by
  obtain ⟨qs, h1, h2, h3⟩ := L
  refine ⟨qs.map (·.1), by rw [List.map_map]; exact h1, by rw [List.length_map, ← h3, List.length_map], fun i v h => ?_⟩
  rw [List.map_map, List.getElem?_map] at h
  cases e : qs[i]? with
  | none => rw [e] at h; cases h
  | some q =>
    rw [e] at h
    refine ⟨q.1, q.2, (Option.some.inj h).symm, by rw [← h3, List.getElem?_map, e]; rfl, h2 q (List.mem_of_getElem? e)⟩
/-- the segment at a place -/
theorem LoT.at {H : Hp} {l : Addr} {ss : List Seg} (L : LoT H l (ss.map Seg.li)) : ∃ ps : List Addr, H l = some (.lst (ps.map V.ref)) ∧ ps.length = ss.length ∧ ∀ (i : Nat) (v : V), (ps.map V.ref)[i]? = some v → ∃ (p : Addr) (s : Seg), v = .ref p ∧ ss[i]? = some s ∧ H p = some (.tup (s.li.map V.int)) := by
  obtain ⟨qs, h1, h2, h3⟩ := L
  have hl : qs.length = ss.length := by
    have := congrArg List.length h3
    rw [List.length_map, List.length_map] at this
    exact this
  refine ⟨qs.map (·.1), by rw [List.map_map]; exact h1, by rw [List.length_map]; exact hl, fun i v h => ?_⟩
  rw [List.map_map, List.getElem?_map] at h
  cases e : qs[i]? with
  | none => rw [e] at h; cases h
  | some q =>
    rw [e] at h
    have hi : i < ss.length := by rw [← hl]; exact (List.getElem?_eq_some_iff.mp e).1
    refine ⟨q.1, ss[i], (Option.some.inj h).symm, List.getElem?_eq_getElem hi, ?_⟩
    have e1 : (qs.map (·.2))[i]? = (ss.map Seg.li)[i]? := by rw [h3]
    rw [List.getElem?_map, List.getElem?_map, e, List.getElem?_eq_getElem hi] at e1
    have e2 : q.2 = ss[i].li := Option.some.inj e1
    rw [← e2]
    exact h2 q (List.mem_of_getElem? e)
/-! promises -/
def spEnds (i : Nat) : Sp := fun vs H Q _ => ∃ (l : Addr) (ss : List Seg), vs = [.ref l] ∧ LoT H l (ss.map Seg.li) ∧ ss.length ≤ 100 ∧ ∀ p H', Same H H' → PrAt H' p (ends i ss) → Q (.ref p) H'
def rlo (low told m : Int) (es : List (Int × Int)) : Int := if told - m - maxs (es.map fun e => e.1 / e.2) > low then told - m - maxs (es.map fun e => e.1 / e.2) else low
def rhi (high told m : Int) (es : List (Int × Int)) : Int := if told + m - mins (es.map fun e => -(-e.1 / e.2)) < high then told + m - mins (es.map fun e => -(-e.1 / e.2)) else high
def spRange (TT : List Addr) : Sp := fun vs H Q _ => ∃ (lo hi told m : Int) (l : Addr) (es : List (Int × Int)), vs = [.int lo, .int hi, .int told, .int m, .ref l] ∧ PrAt H l es ∧ es ≠ [] ∧ es.length ≤ 1000 ∧ (∀ e ∈ es, BdN 200 e.1 ∧ BdN 100 e.2 ∧ 1 ≤ e.2) ∧ Tabs TT H ∧
  ∀ q H', SameT TT H H' → H' q = some (.tup [.int (rlo lo told m es), .int (rhi hi told m es)]) → Q (.ref q) H'
theorem rlo_eq {low told m : Int} {i : Nat} {ss : List Seg} (h : ss ≠ []) : rlo low told m (ends i ss) = nlo low told m i ss := by
  have ne : (ends i ss).map (fun e => e.1 / e.2) ≠ [] := fun z => ends_ne h (List.map_eq_nil_iff.mp z)
  unfold rlo nlo
  rw [maxs_same (ends_dn i ss) ne]
theorem rhi_eq {high told m : Int} {i : Nat} {ss : List Seg} (h : ss ≠ []) : rhi high told m (ends i ss) = nhi high told m i ss := by
  have ne : (ends i ss).map (fun e => -(-e.1 / e.2)) ≠ [] := fun z => ends_ne h (List.map_eq_nil_iff.mp z)
  unfold rhi nhi
  rw [mins_same (ends_up i ss) ne]
/-- a tuple of the estimate, or None -/
def optE (H : Hp) (o : Option Est) (v : V) : Prop := match o with
  | none => v = .non
  | some e => ∃ q, v = .ref q ∧ H q = some (.tup e.v)
def pdE : Option Est → PyData
  | none => .none
  | some e => .tuple ([e.x1, e.x2, e.y1, e.y2].map .int)
theorem optE.dp {K : PySem.W.Frag} {H : Hp} {o : Option Est} {v : V} (h : optE H o v) : Dp K H v (pdE o) := by
  cases o with
  | none => rw [show v = .non from h]; exact .non
  | some e =>
    obtain ⟨q, rfl, hq⟩ := h
    exact .tup (.inl (.inl hq)) (dpAll_int [e.x1, e.x2, e.y1, e.y2])
theorem optE.same {H H' : Hp} {o : Option Est} {v : V} (h : optE H o v) (s : Same H H') : optE H' o v := by
  cases o with
  | none => exact h
  | some e =>
    obtain ⟨q, rfl, hq⟩ := h
    exact ⟨q, rfl, s _ _ hq⟩
theorem optE.st {T : List Addr} {H H' : Hp} {o : Option Est} {v : V} (h : optE H o v) (s : SameT T H H') (t : Tabs T H) : optE H' o v := by
  cases o with
  | none => exact h
  | some e =>
    obtain ⟨q, rfl, hq⟩ := h
    exact ⟨q, rfl, s.t t hq⟩
theorem can_e (o : Option Est) : (pdE o).canLay0 = true := by
  cases o with
  | none => rfl
  | some e => exact can_pd _
theorem sh_e (o : Option Est) : SeqAt.shaped (pdE o) = true := by
  cases o with
  | none => rfl
  | some e => exact sh_pd _
structure PtB (H : Hp) (q : Addr) (x y z : Int) : Prop where
  t : H q = some (.tup [.int x, .int y, .int z])
def spNar (C : Addr) (TT : List Addr) : Sp := fun vs H Q _ => ∃ (ru e p b q r1 : Addr) (r : RuD) (rd : Int) (E : Est) (D : CD) (ns : List Str) (x : Bx) (px py pz : Int) (ss : List Seg), vs = [.ref ru, .ref e, .ref p, .ref b, .ref q] ∧ RuAt H ru r ∧ RrAt H ru rd ∧ H e = some (.tup E.v) ∧ H b = some x.t ∧ x.lo ≤ x.hi ∧
  H q = some (.tup [.int px, .int py, .int pz]) ∧ PathAt C H p D ns r1 ∧ Bd D ∧ 2 ≤ ns.length ∧ ns.length ≤ 20 ∧ pcs D ns x.lo x.hi = ss.map Seg.li ∧ (∀ s ∈ ss, SegBd 200 100 s ∧ 1 ≤ s.d) ∧ ss ≠ [] ∧ ss.length ≤ 100 ∧ Tabs TT H ∧
  ∀ v H', SameT TT H H' → optE H' (nar E (rd + r.ra) px py ss) v → Q v H'
/-- what the correction gives -/
def mid (a b : Int) : Int := (a + b) / 2
def side (a b : Int) : Int := if mid a b - a > b - mid a b then mid a b - a else b - mid a b
def spCor : Sp := fun vs H Q _ => ∃ (ru e q : Addr) (rd : Int) (E : Est) (px py pz : Int), vs = [.ref ru, .ref e, .ref q] ∧ RrAt H ru rd ∧ H e = some (.tup E.v) ∧ H q = some (.tup [.int px, .int py, .int pz]) ∧
  0 ≤ side E.x1 E.x2 ∧ side E.x1 E.x2 ≤ 1000000 ∧ 0 ≤ side E.y1 E.y2 ∧ side E.y1 E.y2 ≤ 1000000 ∧
  ∀ (u v : Addr) (H' : Hp), Same H H' → H' u = some (.tup [.ref v, .int (rd + rt (side E.x1 E.x2 * side E.x1 E.x2 + side E.y1 E.y2 * side E.y1 E.y2))]) → H' v = some (.tup [.int (px - mid E.x1 E.x2), .int (py - mid E.y1 E.y2), .int pz]) → Q (.ref u) H'
end Sk
namespace Sk
open PySem PySem.Spec PyProof.Rows L2 GenW GxR
section
variable {K : PySem.W.Frag} {a : Addr} {xs : List V} {g : TG} {tt : TT} {te : TE} {vs : List Nat} {σ : L2.St} {H2 : Hp} {R : List Int → Hp → Prop}
/-- over a list that the element leaves as it is -/
theorem gen_listR (Pv : Nat → List Int → Hp → Prop) (h0 : Pv 0 [] H2) (hl : ∀ i zs H, i ≤ xs.length → Pv i zs H → SqL K H a xs)
    (hs : ∀ i zs x H, xs[i]? = some x → Pv i zs H → g x (wipe σ vs) H fun σ2 H2 => wipe σ2 vs = wipe σ vs ∧ tt σ2 H2 fun b H3 => if b = true then te σ2 H3 fun y H4 => MN (Pv (i + 1)) zs y H4 else MZ (Pv (i + 1)) zs H3) (hd : ∀ zs H, Pv xs.length zs H → zs ≠ [] ∧ R zs H) :
    ∃ W : Nat → Nat → List Int → Hp → Prop, (∃ m, W 0 m [] H2) ∧ ∀ i m zs H, W i m zs H → ((Itl K a).stop i H ∧ zs ≠ [] ∧ R zs H) ∨ ((Itl K a).go i H ∧ ∃ Nx : List Int → Hp → Prop, (∀ zs' H', Nx zs' H' → ∃ m', m' < m ∧ W (i + 1) m' zs' H') ∧
      ∀ x H', (Itl K a).yld i H x H' → g x (wipe σ vs) H' fun σ2 H2 => wipe σ2 vs = wipe σ vs ∧ tt σ2 H2 fun b H3 => if b = true then te σ2 H3 fun y H4 => MN Nx zs y H4 else MZ Nx zs H3) := by
  refine ⟨fun i m zs H => m = xs.length - i ∧ i ≤ xs.length ∧ Pv i zs H, ⟨xs.length, by simp, Nat.zero_le _, h0⟩, fun i m zs H w => ?_⟩
  obtain ⟨hm, hi, p⟩ := w
  have q := hl i zs H hi p
  rcases Nat.lt_or_ge i xs.length with z | z
  · refine .inr ⟨⟨xs, xs[i], q, by simp [z]⟩, Pv (i + 1), fun zs' H' p' => ⟨xs.length - (i + 1), by omega, rfl, z, p'⟩, fun x H' y => ?_⟩
    obtain ⟨rfl, y⟩ := y
    exact hs i zs x _ (y xs q) p
  · obtain rfl : i = xs.length := by omega
    exact .inl ⟨⟨xs, q, Nat.le_refl _⟩, hd zs H p⟩
end
theorem sameU {H H' : Hp} {L : Addr} {o : HO} (hL : H L = none) (sm : Same H H') : Same H (upd H' L o) := fun b u e => by
  rw [upd_ne (ne_of_none e hL)]
  exact sm b u e
end Sk
namespace Sk
open PySem PySem.Spec PyProof.Rows L2
def aLo (E : Est) (i : Nat) : Int := if i = 0 then E.x1 else E.y1
def aHi (E : Est) (i : Nat) : Int := if i = 0 then E.x2 else E.y2
def aP (px py : Int) (i : Nat) : Int := if i = 0 then px else py
theorem est_lo (E : Est) {i : Nat} (h : i < 2) : atI E.v (2 * (0 + (i : Int))) = some (.int (aLo E i)) := by
  match i, h with
  | 0, _ => rfl
  | 1, _ => rfl
theorem est_hi (E : Est) {i : Nat} (h : i < 2) : atI E.v (2 * (0 + (i : Int)) + 1) = some (.int (aHi E i)) := by
  match i, h with
  | 0, _ => rfl
  | 1, _ => rfl
theorem plot_at (px py pz : Int) {i : Nat} (h : i < 2) : atI [V.int px, .int py, .int pz] (0 + (i : Int)) = some (.int (aP px py i)) := by
  match i, h with
  | 0, _ => rfl
  | 1, _ => rfl
theorem seg_at0 (s : Seg) {i : Nat} (h : i < 2) : atI (s.li.map V.int) (0 + (i : Int)) = some (.int (c0 i s)) := by
  match i, h with
  | 0, _ => rfl
  | 1, _ => rfl
theorem seg_at1 (s : Seg) {i : Nat} (h : i < 2) : atI (s.li.map V.int) (0 + (i : Int) + 2) = some (.int (c1 i s)) := by
  match i, h with
  | 0, _ => rfl
  | 1, _ => rfl
theorem two_step {a b : Int} {f : Int → Int} {k : Nat} {x : V} (h : ([V.int a, V.int b])[k]? = some x) : ∃ z, x = .int z ∧ ([f a, f b].take (k + 1)) = [f a, f b].take k ++ [f z] ∧ (z = a ∨ z = b) := by
  match k, h with
  | 0, h => exact ⟨a, (Option.some.inj h).symm, rfl, .inl rfl⟩
  | 1, h => exact ⟨b, (Option.some.inj h).symm, rfl, .inr rfl⟩
theorem dn_step {i j : Nat} {ss : List Seg} {s : Seg} (h : ss[j]? = some s) : dn i (ss.take (j + 1)) = dn i (ss.take j) ++ [c0 i s / s.d, c1 i s / s.d] := by
  unfold dn
  rw [List.take_add_one, h, List.flatMap_append]
  simp
theorem up_step {i j : Nat} {ss : List Seg} {s : Seg} (h : ss[j]? = some s) : up i (ss.take (j + 1)) = up i (ss.take j) ++ [-(-c0 i s / s.d), -(-c1 i s / s.d)] := by
  unfold up
  rw [List.take_add_one, h, List.flatMap_append]
  simp
theorem dn_len (i : Nat) (ss : List Seg) : (dn i ss).length = 2 * ss.length := by
  unfold dn
  induction ss with
  | nil => rfl
  | cons s ss ih => rw [List.flatMap_cons, List.length_append, ih]; simp only [List.length_cons, List.length_nil]; omega
theorem up_len (i : Nat) (ss : List Seg) : (up i ss).length = 2 * ss.length := by
  unfold up
  induction ss with
  | nil => rfl
  | cons s ss ih => rw [List.flatMap_cons, List.length_append, ih]; simp only [List.length_cons, List.length_nil]; omega
/-- both bounds along an axis -/
def axLo (E : Est) (m px py : Int) (ss : List Seg) (i : Nat) : Int := nlo (aLo E i) (aP px py i) m i ss
def axHi (E : Est) (m px py : Int) (ss : List Seg) (i : Nat) : Int := nhi (aHi E i) (aP px py i) m i ss
def axs (E : Est) (m px py : Int) (ss : List Seg) : Nat → List Int
  | 0 => []
  | i + 1 => axs E m px py ss i ++ [axLo E m px py ss i, axHi E m px py ss i]
theorem nar_none {E : Est} {m px py : Int} {ss : List Seg} {i : Nat} (h : i < 2) (c : axHi E m px py ss i < axLo E m px py ss i) : nar E m px py ss = none := by
  unfold nar
  match i, h with
  | 0, _ => rw [if_pos (.inl c)]
  | 1, _ => rw [if_pos (.inr c)]
theorem nar_some {E : Est} {m px py : Int} {ss : List Seg} (c : ∀ i, i < 2 → axLo E m px py ss i ≤ axHi E m px py ss i) : nar E m px py ss = some ⟨axLo E m px py ss 0, axHi E m px py ss 0, axLo E m px py ss 1, axHi E m px py ss 1⟩ := by
  have a : nlo E.x1 px m 0 ss ≤ nhi E.x2 px m 0 ss := c 0 (by decide)
  have b : nlo E.y1 py m 1 ss ≤ nhi E.y2 py m 1 ss := c 1 (by decide)
  unfold nar
  rw [if_neg (by omega)]
  rfl
def spVecR (K : PySem.W.Frag) : Sp := fun vs H Q _ => ∃ (d c : Addr) (m : Int), vs = [.ref d, .int m] ∧ St1 K H d c ∧ 0 ≤ m ∧ m ≤ 2000 ∧
  ∀ (q : Addr) (x y : Int) (H' : Hp), H q = none → H' q = some (.tup [.int x, .int y]) → -m ≤ x → x ≤ m → -m ≤ y → y ≤ m → St1 K H' d c → Keep d H H' → Q (.ref q) H'
def spLNar : Sp := fun vs H Q _ => ∃ (e q l : Addr) (m : Int) (E : Est) (px py pz : Int) (ss : List Seg), vs = [.ref e, .int m, .ref q, .ref l] ∧ H e = some (.tup E.v) ∧ H q = some (.tup [.int px, .int py, .int pz]) ∧ LoT H l (ss.map Seg.li) ∧ (∀ s ∈ ss, SegBd 200 100 s ∧ 1 ≤ s.d) ∧ ss ≠ [] ∧ ss.length ≤ 100 ∧
  ∀ (v : V) (H' : Hp), Same H H' → optE H' (nar E m px py ss) v → Q v H'
def nearB (px py d x y m : Int) : Bool := decide ((px - x * d) * (px - x * d) + (py - y * d) * (py - y * d) ≤ m * m * d * d)
def spNear : Sp := fun vs H Q _ => ∃ (q : Addr) (px py d x y m : Int), vs = [.ref q, .int x, .int y, .int m] ∧ H q = some (.tup [.int px, .int py, .int d]) ∧ BdN 200 px ∧ BdN 200 py ∧ BdN 30 d ∧ BdN 300 x ∧ BdN 300 y ∧ BdN 100 m ∧ Q (.bl (nearB px py d x y m)) H
def spLCor : Sp := fun vs H Q _ => ∃ (e q : Addr) (rd : Int) (E : Est) (px py pz : Int), vs = [.ref e, .ref q, .int rd] ∧ H e = some (.tup E.v) ∧ H q = some (.tup [.int px, .int py, .int pz]) ∧
  0 ≤ side E.x1 E.x2 ∧ side E.x1 E.x2 ≤ 1000000 ∧ 0 ≤ side E.y1 E.y2 ∧ side E.y1 E.y2 ≤ 1000000 ∧
  ∀ (u v : Addr) (H' : Hp), Same H H' → H' u = some (.tup [.ref v, .int (rd + rt (side E.x1 E.x2 * side E.x1 E.x2 + side E.y1 E.y2 * side E.y1 E.y2))]) → H' v = some (.tup [.int (px - mid E.x1 E.x2), .int (py - mid E.y1 E.y2), .int pz]) → Q (.ref u) H'
end Sk
namespace Sk
open PySem PySem.Spec PyProof.Rows L2
structure EstOk (E : Est) (ox oy : Int) : Prop where
  x0 : E.x1 ≤ ox
  x1 : ox ≤ E.x2
  y0 : E.y1 ≤ oy
  y1 : oy ≤ E.y2
  bx0 : -20000 ≤ E.x1
  bx1 : E.x2 ≤ 20000
  by0 : -20000 ≤ E.y1
  by1 : E.y2 ≤ 20000
theorem near_sides {px py d x y m : Int} (hd : 1 ≤ d) (hm : 0 ≤ m) (h : nearB px py d x y m = true) : ((x - m) * d ≤ px ∧ px ≤ (x + m) * d) ∧ (y - m) * d ≤ py ∧ py ≤ (y + m) * d := by
  have h := of_decide_eq_true h
  have e : m * m * d * d = (m * d) * (m * d) := by grind
  rw [e] at h
  have md : 0 ≤ m * d := Int.mul_nonneg hm (by omega)
  have a := side_of md h
  have b := side_of md (show (py - y * d) * (py - y * d) + (px - x * d) * (px - x * d) ≤ (m * d) * (m * d) by omega)
  have e1 : (x - m) * d = x * d - m * d := Int.sub_mul ..
  have e2 : (x + m) * d = x * d + m * d := Int.add_mul ..
  have e3 : (y - m) * d = y * d - m * d := Int.sub_mul ..
  have e4 : (y + m) * d = y * d + m * d := Int.add_mul ..
  omega
theorem nar_fits {E : Est} {ox oy m x y px py d : Int} {ss : List Seg} (hd : 1 ≤ d) (hm : 0 ≤ m) (ok : EstOk E ox oy) (on : ∃ s ∈ ss, OnS px py d s) (sd : ∀ s ∈ ss, SegBd 200 100 s ∧ 1 ≤ s.d) (near : nearB px py d x y m = true) :
    ∃ E2, nar E m (x + ox) (y + oy) ss = some E2 ∧ EstOk E2 ox oy ∧ E.x1 ≤ E2.x1 ∧ E2.y2 ≤ E.y2 := by
  obtain ⟨s, hs, u, v, u0, v0, uv, ex, ey⟩ := on
  obtain ⟨⟨a, b⟩, c, e⟩ := near_sides hd hm near
  have s1 := (sd s hs).2
  have p1 : x - m ≤ maxs (dn 0 ss) := below_max (i := 0) hs hd s1 u0 v0 uv ex a
  have p2 : mins (up 0 ss) ≤ x + m := above_min (i := 0) hs hd s1 u0 v0 uv ex b
  have p3 : y - m ≤ maxs (dn 1 ss) := below_max (i := 1) hs hd s1 u0 v0 uv ey c
  have p4 : mins (up 1 ss) ≤ y + m := above_min (i := 1) hs hd s1 u0 v0 uv ey e
  obtain ⟨k1, k2, k3, k4, k5, k6, k7, k8⟩ := ok
  have q1 : nlo E.x1 (x + ox) m 0 ss ≤ ox ∧ E.x1 ≤ nlo E.x1 (x + ox) m 0 ss := by unfold nlo; split <;> omega
  have q2 : ox ≤ nhi E.x2 (x + ox) m 0 ss ∧ nhi E.x2 (x + ox) m 0 ss ≤ E.x2 := by unfold nhi; split <;> omega
  have q3 : nlo E.y1 (y + oy) m 1 ss ≤ oy ∧ E.y1 ≤ nlo E.y1 (y + oy) m 1 ss := by unfold nlo; split <;> omega
  have q4 : oy ≤ nhi E.y2 (y + oy) m 1 ss ∧ nhi E.y2 (y + oy) m 1 ss ≤ E.y2 := by unfold nhi; split <;> omega
  refine ⟨⟨nlo E.x1 (x + ox) m 0 ss, nhi E.x2 (x + ox) m 0 ss, nlo E.y1 (y + oy) m 1 ss, nhi E.y2 (y + oy) m 1 ss⟩, ?_, ⟨q1.1, q2.1, q3.1, q4.1, ?_, ?_, ?_, ?_⟩, q1.2, q4.2⟩
  · unfold nar
    rw [if_neg (by omega)]
  all_goals (dsimp only; omega)
theorem side_bd {a b : Int} (h : a ≤ b) : 0 ≤ side a b ∧ side a b ≤ b - a := by
  unfold side mid
  split <;> omega
theorem side_in {a b o : Int} (h0 : a ≤ o) (h1 : o ≤ b) : -(side a b) ≤ o - mid a b ∧ o - mid a b ≤ side a b := by
  unfold side mid
  split <;> omega
theorem near_told {E : Est} {ox oy m x y px py d R : Int} (hd : 1 ≤ d) (hm : 0 ≤ m) (hR : 0 ≤ R) (ok : EstOk E ox oy) (near : nearB px py d x y m = true) (hS : side E.x1 E.x2 * side E.x1 E.x2 + side E.y1 E.y2 * side E.y1 E.y2 ≤ R * R) :
    nearB px py d (x + ox - mid E.x1 E.x2) (y + oy - mid E.y1 E.y2) (m + R) = true := by
  have near := of_decide_eq_true near
  obtain ⟨k1, k2, k3, k4, _, _, _, _⟩ := ok
  have sx := side_in k1 k2
  have sy := side_in k3 k4
  have bx := side_bd (show E.x1 ≤ E.x2 by omega)
  have by' := side_bd (show E.y1 ≤ E.y2 by omega)
  generalize side E.x1 E.x2 = sx' at *
  generalize side E.y1 E.y2 = sy' at *
  generalize ec : ox - mid E.x1 E.x2 = cx at *
  generalize ee : oy - mid E.y1 E.y2 = cy at *
  have h1 := sq_le sx.1 sx.2
  have h2 := sq_le sy.1 sy.2
  have md : 0 ≤ m * d := Int.mul_nonneg hm (by omega)
  have rdd : 0 ≤ R * d := Int.mul_nonneg hR (by omega)
  have e1 : m * m * d * d = (m * d) * (m * d) := by grind
  rw [e1] at near
  have h3 : (-(cx * d)) * (-(cx * d)) + (-(cy * d)) * (-(cy * d)) ≤ (R * d) * (R * d) := by
    have q := Int.mul_le_mul_of_nonneg_right (show cx * cx + cy * cy ≤ R * R by omega) (sq0 d)
    have e2 : (-(cx * d)) * (-(cx * d)) + (-(cy * d)) * (-(cy * d)) = (cx * cx + cy * cy) * (d * d) := by grind
    have e3 : (R * d) * (R * d) = R * R * (d * d) := by grind
    rw [e2, e3]
    exact q
  have t := tri md rdd near h3
  refine decide_eq_true ?_
  have e4 : px - (x + ox - mid E.x1 E.x2) * d = (px - x * d) + -(cx * d) := by rw [← ec]; grind
  have e5 : py - (y + oy - mid E.y1 E.y2) * d = (py - y * d) + -(cy * d) := by rw [← ee]; grind
  have e6 : (m + R) * (m + R) * d * d = (m * d + R * d) * (m * d + R * d) := by grind
  rw [e4, e5, e6]
  exact t
theorem BdN.ediv {n : Nat} {x d : Int} (h : BdN n x) (hd : 1 ≤ d) : BdN n (x / d) := by
  have a : (x / d).natAbs ≤ x.natAbs := by
    rcases Int.lt_or_le x 0 with z | z
    · have h1 : x / d < 0 := Int.ediv_neg_of_neg_of_pos z (by omega)
      have h2 : x ≤ x / d := by
        rw [Int.le_ediv_iff_mul_le (by omega)]
        have := Int.mul_le_mul_of_nonpos_left (show x ≤ 0 by omega) (show (1 : Int) ≤ d from hd)
        omega
      omega
    · have h1 : 0 ≤ x / d := Int.ediv_nonneg z (by omega)
      have h2 : x / d ≤ x := Int.ediv_le_self d z
      omega
  exact Nat.le_trans a h
theorem pdc_can (a b c n : Int) : (PyData.tuple [.tuple ([a, b, c].map .int), .int n]).canLay0 = true := by rfl
theorem pdc_sh (a b c n : Int) : SeqAt.shaped (.tuple [.tuple ([a, b, c].map .int), .int n]) = true := by
  refine sh_of (pdc_can a b c n) ?_
  show PyData.depthAll _ + 1 ≤ 64
  have : PyData.depthAll [PyData.tuple ([a, b, c].map .int), .int n] ≤ 3 := dpa fun x hx => by
    simp only [List.mem_cons, List.not_mem_nil, or_false] at hx
    rcases hx with rfl | rfl
    · exact Nat.le_trans (dep_pd [a, b, c]) (by decide)
    · exact Nat.zero_le _
  omega
theorem pdc_dp {K : PySem.W.Frag} {H : Hp} {u v : Addr} {a b c n : Int} (hu : H u = some (.tup [.ref v, .int n])) (hv : H v = some (.tup [.int a, .int b, .int c])) : Dp K H (.ref u) (.tuple [.tuple ([a, b, c].map .int), .int n]) :=
  .tup (.inl (.inl hu)) (.cons (.tup (.inl (.inl hv)) (dpAll_int [_, _, _])) (.cons (.int _) .nil))
end Sk

set_option Elab.async false
set_option linter.all false
set_option maxRecDepth 100000
set_option maxHeartbeats 4000000
namespace Sk
open PySem PySem.Spec PyProof.Rows L2
/-! fitted boxes: which places of a leg are near to a plot -/
def pX (D : CD) (ns : List Str) (k : Nat) (t : Int) : Int := (D.xy (rn ns k)).1 * D.len (rn ns k) (rn ns (k + 1)) + ((D.xy (rn ns (k + 1))).1 - (D.xy (rn ns k)).1) * (t - bg D ns k)
def pY (D : CD) (ns : List Str) (k : Nat) (t : Int) : Int := (D.xy (rn ns k)).2 * D.len (rn ns k) (rn ns (k + 1)) + ((D.xy (rn ns (k + 1))).2 - (D.xy (rn ns k)).2) * (t - bg D ns k)
def alwB (D : CD) (ns : List Str) (k : Nat) (x y m t : Int) : Bool := decide ((pX D ns k t - x * D.len (rn ns k) (rn ns (k + 1))) * (pX D ns k t - x * D.len (rn ns k) (rn ns (k + 1))) + (pY D ns k t - y * D.len (rn ns k) (rn ns (k + 1))) * (pY D ns k t - y * D.len (rn ns k) (rn ns (k + 1))) ≤ m * m * D.len (rn ns k) (rn ns (k + 1)) * D.len (rn ns k) (rn ns (k + 1)))
theorem edge_ok {D : CD} {ns : List Str} (pos : PosR D ns) {k : Nat} (h : k + 1 < ns.length) : 1 ≤ ((D.xy (rn ns (k + 1))).1 - (D.xy (rn ns k)).1) * ((D.xy (rn ns (k + 1))).1 - (D.xy (rn ns k)).1) + ((D.xy (rn ns (k + 1))).2 - (D.xy (rn ns k)).2) * ((D.xy (rn ns (k + 1))).2 - (D.xy (rn ns k)).2) := by
  have p := pos k h
  unfold CD.len at p
  split at p
  · rename_i a ax ay b bx by' h1 h2
    rw [CD.xy_eq h1, CD.xy_eq h2]
    dsimp only
    have s0 := sq0 (bx - ax)
    have s1 := sq0 (by' - ay)
    rcases Int.lt_or_le 0 ((bx - ax) * (bx - ax) + (by' - ay) * (by' - ay)) with z | z
    · exact z
    · have e : (bx - ax) * (bx - ax) + (by' - ay) * (by' - ay) = 0 := by omega
      rw [e] at p
      have := rt_small (n := 0) (b := 0) (by decide) (by decide) (by decide)
      omega
  · omega
/-- a square below a root -/
theorem root_iff {z q r : Int} (r0 : 0 ≤ r) (h0 : r * r ≤ q) (h1 : q < (r + 1) * (r + 1)) : z * z ≤ q ↔ -r ≤ z ∧ z ≤ r := by
  constructor
  · intro h
    have := side_of (a := z) (b := 0) (m := r) r0 (by
      rcases Int.lt_or_le (r * r) (z * z) with c | c
      · exfalso
        -- z * z lies strictly between two squares
        rcases Int.lt_or_le z 0 with s | s
        · rcases Int.lt_or_le r (-z) with k | k
          · have := Int.mul_le_mul (show r + 1 ≤ -z by omega) (show r + 1 ≤ -z by omega) (by omega) (by omega)
            rw [Int.neg_mul_neg] at this
            omega
          · have := Int.mul_le_mul k k (by omega) r0
            rw [Int.neg_mul_neg] at this
            omega
        · rcases Int.lt_or_le r z with k | k
          · have := Int.mul_le_mul (show r + 1 ≤ z by omega) (show r + 1 ≤ z by omega) (by omega) (by omega)
            omega
          · have := Int.mul_le_mul k k s r0
            omega
      · omega)
    exact this
  · rintro ⟨a, b⟩
    have := sq_le a b
    omega
/-- the quadratic's whole numbers -/
theorem quad {a b c t r : Int} (a1 : 1 ≤ a) (r0 : 0 ≤ r) (h0 : r * r ≤ b * b - a * c) (h1 : b * b - a * c < (r + 1) * (r + 1)) : a * t * t + 2 * b * t + c ≤ 0 ↔ -((b + r) / a) ≤ t ∧ t ≤ (r - b) / a := by
  have e : (a * t + b) * (a * t + b) = a * (a * t * t + 2 * b * t + c) + (b * b - a * c) := by grind
  have k : a * t * t + 2 * b * t + c ≤ 0 ↔ (a * t + b) * (a * t + b) ≤ b * b - a * c := by
    rw [e]
    constructor
    · intro h
      have := Int.mul_le_mul_of_nonneg_left h (show 0 ≤ a by omega)
      rw [Int.mul_zero] at this
      omega
    · intro h
      rcases Int.lt_or_le 0 (a * t * t + 2 * b * t + c) with z | z
      · have := Int.mul_pos (show 0 < a by omega) z
        omega
      · exact z
  rw [k, root_iff r0 h0 h1]
  have d1 : t ≤ (r - b) / a ↔ t * a ≤ r - b := Int.le_ediv_iff_mul_le (by omega)
  have d2 : -t ≤ (b + r) / a ↔ -t * a ≤ b + r := Int.le_ediv_iff_mul_le (by omega)
  have e1 : a * t = t * a := Int.mul_comm ..
  have e2 : -t * a = -(t * a) := Int.neg_mul ..
  rw [d1, show (-((b + r) / a) ≤ t ↔ -t ≤ (b + r) / a) from ⟨fun h => by omega, fun h => by omega⟩, d2]
  omega
theorem quad_none {a b c t : Int} (a1 : 1 ≤ a) (h : b * b - a * c < 0) : ¬ a * t * t + 2 * b * t + c ≤ 0 := fun k => by
  have e : (a * t + b) * (a * t + b) = a * (a * t * t + 2 * b * t + c) + (b * b - a * c) := by grind
  have := Int.mul_le_mul_of_nonneg_left k (show 0 ≤ a by omega)
  rw [Int.mul_zero] at this
  have := sq0 (a * t + b)
  omega
/-- near places of a leg, as the quadratic -/
theorem alw_quad {D : CD} {ns : List Str} {k : Nat} {x y m t ex ey n X Y : Int} (hex : (D.xy (rn ns (k + 1))).1 - (D.xy (rn ns k)).1 = ex) (hey : (D.xy (rn ns (k + 1))).2 - (D.xy (rn ns k)).2 = ey) (hn : D.len (rn ns k) (rn ns (k + 1)) = n) (hX : (D.xy (rn ns k)).1 * n - x * n = X) (hY : (D.xy (rn ns k)).2 * n - y * n = Y) :
    alwB D ns k x y m t = true ↔ (ex * ex + ey * ey) * (t - bg D ns k) * (t - bg D ns k) + 2 * (X * ex + Y * ey) * (t - bg D ns k) + (X * X + Y * Y - m * m * n * n) ≤ 0 := by
  unfold alwB pX pY
  rw [hex, hey, hn, decide_eq_true_iff]
  generalize t - bg D ns k = s
  have e1 : (D.xy (rn ns k)).1 * n + ex * s - x * n = X + ex * s := by omega
  have e2 : (D.xy (rn ns k)).2 * n + ey * s - y * n = Y + ey * s := by omega
  rw [e1, e2]
  have e3 : (X + ex * s) * (X + ex * s) + (Y + ey * s) * (Y + ey * s) = (ex * ex + ey * ey) * s * s + 2 * (X * ex + Y * ey) * s + (X * X + Y * Y) := by grind
  omega
theorem lat_begin {D : CD} {ns : List Str} (pos : PosR D ns) {k : Nat} (h : k + 1 < ns.length) : lat D ns (ns.length - 1 - 1) (bg D ns k) = k :=
  lat_eq (by omega) (fun i hi => bg_mono D ns hi) (fun _ => by have := pos.lt h; omega)
/-- which leg a place is on -/
theorem lat_iff {D : CD} {ns : List Str} (n2 : 2 ≤ ns.length) {k : Nat} {p : Int} (hk : k + 1 < ns.length) (p0 : 0 ≤ p) (p1 : p < bg D ns (ns.length - 1)) : lat D ns (ns.length - 1 - 1) p = k ↔ bg D ns k ≤ p ∧ p < bg D ns (k + 1) := by
  obtain ⟨c0, c1, c2⟩ := lat_cases D ns (ns.length - 1 - 1) p
  constructor
  · intro e
    rw [e] at c0 c1 c2
    refine ⟨?_, ?_⟩
    · match k, c1 with
      | 0, _ => exact p0
      | k + 1, c1 => exact c1 k (by omega)
    · by_cases z : k < ns.length - 1 - 1
      · exact c2 z
      · have : k + 1 = ns.length - 1 := by omega
        rw [this]; exact p1
  · rintro ⟨a, b⟩
    exact lat_eq (by omega) (fun i hi => Int.le_trans (bg_mono D ns hi) a) (fun _ => b)
/-- the places that fit -/
def InS (D : CD) (ns : List Str) (x y m lo hi p : Int) : Prop := 0 ≤ p ∧ p < bg D ns (ns.length - 1) ∧ lo ≤ p ∧ p ≤ hi ∧ alwB D ns (lat D ns (ns.length - 1 - 1) p) x y m p = true
structure EndsOf (S : Int → Prop) (es : List Int) : Prop where
  mem : ∀ e ∈ es, S e
  lo : ∀ p, S p → ∃ e ∈ es, e ≤ p
  hi : ∀ p, S p → ∃ e ∈ es, p ≤ e
/-- the fitted box, from the places that fit -/
def FitOk (S : Int → Prop) (dn up : Int) : Option Est → Prop
  | none => (∀ p, ¬ S p) ∨ up < dn
  | some e => S e.x1 ∧ S e.x2 ∧ (∀ p, S p → e.x1 ≤ p ∧ p ≤ e.x2) ∧ e.y1 = dn ∧ e.y2 = up ∧ dn ≤ up
theorem FitOk.eq {S : Int → Prop} {dn up : Int} {o o' : Option Est} (h : FitOk S dn up o) (h' : FitOk S dn up o') : o = o' := by
  cases o with
  | none =>
    cases o' with
    | none => rfl
    | some e =>
      obtain ⟨a, _, _, _, _, b⟩ := h'
      rcases h with h | h
      · exact absurd a (h _)
      · omega
  | some e =>
    obtain ⟨a1, a2, a3, a4, a5, a6⟩ := h
    cases o' with
    | none =>
      rcases h' with h' | h'
      · exact absurd a1 (h' _)
      · omega
    | some e' =>
      obtain ⟨b1, b2, b3, b4, b5, b6⟩ := h'
      obtain ⟨x1, x2, y1, y2⟩ := e
      obtain ⟨x1', x2', y1', y2'⟩ := e'
      simp only at *
      have c1 := a3 _ b1
      have c2 := b3 _ a1
      have c3 := a3 _ b2
      have c4 := b3 _ a2
      have d1 : x1 = x1' := by omega
      have d2 : x2 = x2' := by omega
      subst d1 d2 a4 a5
      rw [b4, b5]
theorem EndsOf.fit {S : Int → Prop} {dn up a b : Int} {es : List Int} (E : EndsOf S es) (ha : a ∈ es) (hb : b ∈ es) (la : ∀ e ∈ es, a ≤ e) (lb : ∀ e ∈ es, e ≤ b) (h : dn ≤ up) : FitOk S dn up (some ⟨a, b, dn, up⟩) := by
  refine ⟨E.mem _ ha, E.mem _ hb, fun p hp => ?_, rfl, rfl, h⟩
  obtain ⟨e, he, k⟩ := E.lo p hp
  obtain ⟨e', he', k'⟩ := E.hi p hp
  have := la e he
  have := lb e' he'
  dsimp only
  omega
theorem EndsOf.none {S : Int → Prop} (E : EndsOf S []) : ∀ p, ¬ S p := fun p hp => by
  obtain ⟨e, he, _⟩ := E.lo p hp
  cases he
theorem plc_small {D : CD} {ns : List Str} (b : Bd D) (n20 : ns.length ≤ 20) {k : Nat} {p : Int} (hk : k ≤ 20) (h0 : -10000000 ≤ p) (h1 : p ≤ 10000000) : BdN 45 (pX D ns k p) ∧ BdN 45 (pY D ns k p) := by
  have a1 := b (rn ns k)
  have a2 := b (rn ns (k + 1))
  have l0 := D.len_nn (rn ns k) (rn ns (k + 1))
  have l1 := D.len_le b (rn ns k) (rn ns (k + 1))
  have g0 := bg_nn D ns k
  have g1 := bg_le b ns k
  have bl : BdN 19 (D.len (rn ns k) (rn ns (k + 1))) := BdN.of (by show -(524288 : Int) ≤ _; omega) (by show _ ≤ (524288 : Int); omega)
  have bp : BdN 25 (p - bg D ns k) := BdN.of (by show -(33554432 : Int) ≤ _; omega) (by show _ ≤ (33554432 : Int); omega)
  have q : ∀ z : Int, -200000 ≤ z → z ≤ 200000 → BdN 18 z := fun z u v => BdN.of (by show -(262144 : Int) ≤ z; omega) (by show z ≤ (262144 : Int); omega)
  unfold pX pY
  exact ⟨((((q _ (by omega) (by omega)).mul bl).mono (show 37 ≤ 43 by decide)).add ((q _ (by omega) (by omega)).mul bp)).mono (by decide), ((((q _ (by omega) (by omega)).mul bl).mono (show 37 ≤ 43 by decide)).add ((q _ (by omega) (by omega)).mul bp)).mono (by decide)⟩
end Sk
namespace Sk
open PySem PySem.Spec PyProof.Rows L2
def mx3 (a b c : Int) : Int := if (if a < b then b else a) < c then c else (if a < b then b else a)
def mn3 (a b c : Int) : Int := if c < (if b < a then b else a) then c else (if b < a then b else a)
theorem numax3 (a b c : Int) : nuMax3 (.int a) (.int b) (.int c) = some (.int (mx3 a b c)) := by
  by_cases h : a < b <;> by_cases k : (if a < b then b else a) < c <;> simp [nuMax3, nuMax2, nuLt, nuCB, mx3, h] <;> split <;> simp_all
theorem numin3 (a b c : Int) : nuMin3 (.int a) (.int b) (.int c) = some (.int (mn3 a b c)) := by
  by_cases h : b < a <;> by_cases k : c < (if b < a then b else a) <;> simp [nuMin3, nuMin2, nuLt, nuCB, mn3, h] <;> split <;> simp_all
theorem mx3_le {a b c p : Int} : mx3 a b c ≤ p ↔ a ≤ p ∧ b ≤ p ∧ c ≤ p := by
  unfold mx3
  split <;> split <;> omega
theorem le_mn3 {a b c p : Int} : p ≤ mn3 a b c ↔ p ≤ a ∧ p ≤ b ∧ p ≤ c := by
  unfold mn3
  split <;> split <;> omega
/-- the rules that fitting wants -/
structure RqAt (H : Hp) (ru : Addr) (ra ba rd ht : Int) : Prop where
  ex : ∃ kvs, H ru = some (.dK kvs) ∧ valV kvs (.inr "radius") = some (.int ra) ∧ valV kvs (.inr "band") = some (.int ba) ∧ valV kvs (.inr "radar") = some (.int rd) ∧ valV kvs (.inr "height") = some (.int ht) ∧ kvs.length ≤ 40
  bd : 0 ≤ ra ∧ ra ≤ 1000 ∧ 0 ≤ ba ∧ ba ≤ 1000 ∧ 0 ≤ rd ∧ rd ≤ 1000 ∧ 0 ≤ ht ∧ ht ≤ 1000
section
variable {H H' : Hp} {ru : Addr} {ra ba rd ht : Int}
theorem RqAt.same (R : RqAt H ru ra ba rd ht) (s : Same H H') : RqAt H' ru ra ba rd ht := ⟨let ⟨kvs, e, h⟩ := R.ex; ⟨kvs, s _ _ e, h⟩, R.bd⟩
theorem RqAt.keep {d : Addr} (R : RqAt H ru ra ba rd ht) (s : Keep d H H') (n : ru ≠ d) : RqAt H' ru ra ba rd ht := ⟨let ⟨kvs, e, h⟩ := R.ex; ⟨kvs, s _ _ e n, h⟩, R.bd⟩
theorem RqAt.gra (R : RqAt H ru ra ba rd ht) : DGet H ru (.str "radius") (some (.int ra)) := let ⟨_, e, h, _⟩ := R.ex; h ▸ DGet.k (k := .inr "radius") e
theorem RqAt.gba (R : RqAt H ru ra ba rd ht) : DGet H ru (.str "band") (some (.int ba)) := let ⟨_, e, _, h, _⟩ := R.ex; h ▸ DGet.k (k := .inr "band") e
theorem RqAt.grd (R : RqAt H ru ra ba rd ht) : DGet H ru (.str "radar") (some (.int rd)) := let ⟨_, e, _, _, h, _⟩ := R.ex; h ▸ DGet.k (k := .inr "radar") e
theorem RqAt.ght (R : RqAt H ru ra ba rd ht) : DGet H ru (.str "height") (some (.int ht)) := let ⟨_, e, _, _, _, h, _⟩ := R.ex; h ▸ DGet.k (k := .inr "height") e
end
def spRulesQ (K : PySem.W.Frag) : Sp := fun vs H Q _ => ∃ (d c : Addr), vs = [.ref d] ∧ St1 K H d c ∧ ∀ ru (ra ba rd ht : Int) H', H ru = none → RqAt H' ru ra ba rd ht → (∀ kvs, H' ru = some (.dK kvs) → kvs.length ≤ 20) → ru ≠ c → St1 K H' d c → Keep d H H' → Q (.ref ru) H'
def spNearLeg (C : Addr) : Sp := fun vs H Q _ => ∃ (p q r : Addr) (D : CD) (ns : List Str) (k : Nat) (z x y pz m : Int), vs = [.ref p, .int z, .ref q, .int m] ∧ z = (k : Int) ∧ PathAt C H p D ns r ∧ Bd D ∧ PosR D ns ∧ k + 1 < ns.length ∧ ns.length ≤ 20 ∧ H q = some (.tup [.int x, .int y, .int pz]) ∧ BdN 46 x ∧ BdN 46 y ∧ 0 ≤ m ∧ m ≤ 5000 ∧
  ∀ (u : Addr) (f l : Int) (H' : Hp), Same H H' → H' u = some (.tup [.int f, .int l]) → (∀ t, alwB D ns k x y m t = true ↔ f ≤ t ∧ t ≤ l) → Q (.ref u) H'
def spNearEnds (C : Addr) : Sp := fun vs H Q _ => ∃ (p q r : Addr) (D : CD) (ns : List Str) (lo hi x y pz m : Int), vs = [.ref p, .int lo, .int hi, .ref q, .int m] ∧ PathAt C H p D ns r ∧ Bd D ∧ PosR D ns ∧ 2 ≤ ns.length ∧ ns.length ≤ 20 ∧ H q = some (.tup [.int x, .int y, .int pz]) ∧ BdN 46 x ∧ BdN 46 y ∧ 0 ≤ m ∧ m ≤ 5000 ∧
  ∀ (a : Addr) (es : List Int) (H' : Hp), Same H H' → H' a = some (.lst (es.map V.int)) → EndsOf (InS D ns x y m lo hi) es → Q (.ref a) H'
def dnF (dn pz w : Int) : Int := if pz - w > dn then pz - w else dn
def upF (up pz w : Int) : Int := if pz + w < up then pz + w else up
def spFitted (C : Addr) : Sp := fun vs H Q _ => ∃ (ru p b q r : Addr) (ra ba rd ht : Int) (D : CD) (ns : List Str) (B : Bx) (x y pz : Int), vs = [.ref ru, .ref p, .ref b, .ref q] ∧ RqAt H ru ra ba rd ht ∧ H b = some B.t ∧ PathAt C H p D ns r ∧ Bd D ∧ PosR D ns ∧ 2 ≤ ns.length ∧ ns.length ≤ 20 ∧ H q = some (.tup [.int x, .int y, .int pz]) ∧ BdN 46 x ∧ BdN 46 y ∧
  ∀ (v : V) (o : Option Est) (H' : Hp), Same H H' → optE H' o v → FitOk (InS D ns x y (rd + ra) B.lo B.hi) (dnF B.dn pz (ht + ba)) (upF B.up pz (ht + ba)) o → Q v H'
def spLFitted : Sp := fun vs H Q _ => ∃ (ch rt b ru bx q : Addr) (ra ba rd ht : Int) (D : CD) (ns : List Str) (B : Bx) (x y pz : Int), vs = [.ref ch, .ref rt, .ref b, .ref ru, .ref bx, .ref q] ∧ ChartAt H ch D ∧ Route D ns ∧ H rt = some (.tup (ns.map V.str)) ∧ H b = some (.lst ((bgs D ns).map V.int)) ∧ RqAt H ru ra ba rd ht ∧ H bx = some B.t ∧ -10000000 ≤ B.lo ∧ B.hi ≤ B.lo + 200 ∧ B.lo ≤ 10000000 ∧ -10000000 ≤ B.hi ∧ PosR D ns ∧ H q = some (.tup [.int x, .int y, .int pz]) ∧ BdN 46 x ∧ BdN 46 y ∧
  ∀ (v : V) (o : Option Est) (H' : Hp), Same H H' → optE H' o v → FitOk (InS D ns x y (rd + ra) B.lo B.hi) (dnF B.dn pz (ht + ba)) (upF B.up pz (ht + ba)) o → Q v H'
def spAllowed : Sp := fun vs H Q _ => ∃ (ch rt b q : Addr) (D : CD) (ns : List Str) (t x y pz m : Int), vs = [.ref ch, .ref rt, .ref b, .int t, .ref q, .int m] ∧ ChartAt H ch D ∧ Route D ns ∧ H rt = some (.tup (ns.map V.str)) ∧ H b = some (.lst ((bgs D ns).map V.int)) ∧ H q = some (.tup [.int x, .int y, .int pz]) ∧ BdN 46 x ∧ BdN 46 y ∧ 0 ≤ m ∧ m ≤ 5000 ∧ -10000000 ≤ t ∧ t ≤ 10000000 ∧
  ∀ H', Same H H' → Q (.bl (alwB D ns (lat D ns (ns.length - 1 - 1) t) x y m t)) H'
theorem sameU' {H H' : Hp} {L : Addr} {o : HO} (hL : H L = none) (sm : Same H H') : Same H (upd H' L o) := sameU hL sm
theorem bl19 {D : CD} (b : Bd D) (s e : Str) : BdN 19 (D.len s e) := by
  have l0 := D.len_nn s e
  have l1 := D.len_le b s e
  exact BdN.of (by show -(524288 : Int) ≤ _; omega) (by show _ ≤ (524288 : Int); omega)
theorem bm13 {m : Int} (h0 : 0 ≤ m) (h1 : m ≤ 5000) : BdN 13 m := BdN.of (by show -(8192 : Int) ≤ m; omega) (by show m ≤ (8192 : Int); omega)
theorem b18 {z : Int} (h0 : -200000 ≤ z) (h1 : z ≤ 200000) : BdN 18 z := BdN.of (by show -(262144 : Int) ≤ z; omega) (by show z ≤ (262144 : Int); omega)
end Sk

set_option Elab.async false
set_option linter.all false
set_option maxRecDepth 100000
set_option maxHeartbeats 4000000
namespace Sk
open PySem PySem.Spec PyProof.Rows L2
theorem ifNotY {c A B : Prop} [Decidable c] (h : c) (q : B) : if (!decide c) = true then A else B := by
  rw [decide_eq_true h]
  exact iteF q
/-! true plots, flights: nothing leaves its box -/
theorem low_le2 {a b x y g r : Int} (h : x ≤ y) (h1 : a ≤ r) (h2 : r ≤ b) : lowest a b x g ≤ tow y g r := by
  unfold lowest tow
  split <;> split <;> split <;> split <;> omega
theorem le_high2 {a b x y g r : Int} (h : y ≤ x) (h0 : 1 ≤ a) (h1 : a ≤ r) (h2 : r ≤ b) : tow y g r ≤ highest a b x g := by
  unfold highest tow
  split <;> split <;> split <;> split <;> omega
theorem NextOf.has {lt : Int → Nat} {lf hf af : Nat → Int} {a b low high down up v0 v1 v2 v3 : Int} (X : NextOf lt lf hf af a b low high down up v0 v1 v2 v3) {p g x r : Int} (p0 : low ≤ p) (p1 : p ≤ high) (x0 : down ≤ x) (x1 : x ≤ up) (g0 : lf (lt p) ≤ g) (g1 : g ≤ hf (lt p)) (a1 : 1 ≤ a) (r0 : a ≤ r) (r1 : r ≤ b) :
    v0 ≤ p + g ∧ p + g ≤ v1 ∧ v2 ≤ tow x (af (lt p)) r ∧ tow x (af (lt p)) r ≤ v3 := by
  have h0 := X.m0 p p0 p1
  have h1 := X.m1 p p0 p1
  have h2 := X.m2 p p0 p1
  have h3 := X.m3 p p0 p1
  have h4 := low_le2 (b := b) (g := af (lt p)) x0 r0 r1
  have h5 := le_high2 (b := b) (g := af (lt p)) x1 a1 r0 r1
  omega
def isTrue (X Y n x y m : Int) : Bool := decide ((X - x * n) * (X - x * n) + (Y - y * n) * (Y - y * n) ≤ m * m * n * n)
theorem isTrue_alw {D : CD} {ns : List Str} {k : Nat} {x y ra rd t : Int} : isTrue (pX D ns k t) (pY D ns k t) (D.len (rn ns k) (rn ns (k + 1))) x y (ra + rd) = alwB D ns k x y (rd + ra) t := by
  unfold isTrue alwB
  rw [Int.add_comm ra rd]
/-- a fitted box holds the place, and lies in the box before -/
theorem FitOk.has {S : Int → Prop} {B : Bx} {z w : Int} {o : Option Est} {p lv : Int} (F : FitOk S (dnF B.dn z w) (upF B.up z w) o) (hS : ∀ q, S q → B.lo ≤ q ∧ q ≤ B.hi) (hp : S p) (l0 : B.dn ≤ lv) (l1 : lv ≤ B.up) (z0 : lv - w ≤ z) (z1 : z ≤ lv + w) :
    ∃ e, o = some e ∧ B.lo ≤ e.x1 ∧ e.x2 ≤ B.hi ∧ B.dn ≤ e.y1 ∧ e.y2 ≤ B.up ∧ e.x1 ≤ p ∧ p ≤ e.x2 ∧ e.y1 ≤ lv ∧ lv ≤ e.y2 := by
  have u0 : dnF B.dn z w ≤ lv ∧ B.dn ≤ dnF B.dn z w := by unfold dnF; split <;> omega
  have u1 : lv ≤ upF B.up z w ∧ upF B.up z w ≤ B.up := by unfold upF; split <;> omega
  cases o with
  | none =>
    rcases F with h | h
    · exact absurd hp (h _)
    · omega
  | some e =>
    obtain ⟨a1, a2, a3, a4, a5, a6⟩ := F
    have b1 := hS _ a1
    have b2 := hS _ a2
    have b3 := a3 _ hp
    exact ⟨e, rfl, b1.1, b2.2, by omega, by omega, b3.1, b3.2, by omega, by omega⟩
theorem NIn.gap {C : Addr} {H : Hp} {N : ND} (I : NIn C H N) (hs : N.sl ≤ 1000) {k : Nat} (hk : k + 1 < N.ns.length) : N.hf k - N.lf k ≤ 1000000000000000000000000000000000000000000000000000000000000 := by
  have n1 : 1 ≤ N.ln k := I.ps k hk
  have w := I.wi.bd _ I.qm
  have a1 := I.C0.bd (rn N.ns k)
  have a2 := I.C0.bd (rn N.ns (k + 1))
  have q : ∀ z : Int, -200000 ≤ z → z ≤ 200000 → BdN 18 z := fun z u v => b18 u v
  have bx : BdN 18 (N.dx k) := by unfold ND.dx; exact b18 (by omega) (by omega)
  have bY : BdN 18 (N.dy k) := by unfold ND.dy; exact b18 (by omega) (by omega)
  have cx : (N.dx k).natAbs ≤ 262144 := bx
  have cy : (N.dy k).natAbs ≤ 262144 := bY
  have g : ∀ z : Int, -10001 ≤ z → z ≤ 10001 → BdN 14 z := fun z u v => BdN.of (by show -(16384 : Int) ≤ z; omega) (by show z ≤ (16384 : Int); omega)
  have ba : BdN 20 (ab (N.dx k) + ab (N.dy k)) := by
    have : ∀ z : Int, z.natAbs ≤ 262144 → 0 ≤ ab z ∧ ab z ≤ 262144 := fun z h => by unfold ab; split <;> omega
    have u1 := this _ cx
    have u2 := this _ cy
    exact BdN.of (by show -(1048576 : Int) ≤ _; omega) (by show _ ≤ (1048576 : Int); omega)
  have m1 : (N.qw.2.2.1 * N.dx k).natAbs ≤ 4294967296 := (g _ (by omega) (by omega)).mul bx
  have m2 : (N.qw.2.2.2.1 * N.dy k).natAbs ≤ 4294967296 := (g _ (by omega) (by omega)).mul bY
  have m3 : (N.qw.2.2.2.2 * (ab (N.dx k) + ab (N.dy k))).natAbs ≤ 17179869184 := (g _ (by omega) (by omega)).mul ba
  unfold ND.hf ND.lf hi lo
  generalize N.qw.2.2.1 * N.dx k = u1 at m1 ⊢
  generalize N.qw.2.2.2.1 * N.dy k = u2 at m2 ⊢
  generalize N.qw.2.2.2.2 * (ab (N.dx k) + ab (N.dy k)) = u3 at m3 ⊢
  generalize N.ln k = n at n1 ⊢
  have z1 : -30000000000 ≤ (u1 + u2 - u3) / n := (Int.le_ediv_iff_mul_le (by omega)).mpr (by omega)
  have z2 : (u1 + u2 + u3) / n < 30000000000 := (Int.ediv_lt_iff_lt_mul (by omega)).mpr (by omega)
  omega
/-! promises -/
def spRulesT (K : PySem.W.Frag) : Sp := fun vs H Q _ => ∃ (d c : Addr), vs = [.ref d] ∧ St1 K H d c ∧ ∀ ru (ra ba rd ht sl : Int) H', H ru = none → RqAt H' ru ra ba rd ht → (∃ kvs, H' ru = some (.dK kvs) ∧ valV kvs (.inr "slip") = some (.int sl)) → 0 ≤ sl → sl ≤ 3 → ru ≠ c → St1 K H' d c → Keep d H H' → Q (.ref ru) H'
def spExtreme (K : PySem.W.Frag) : Sp := fun vs H Q _ => ∃ (d c : Addr) (m : Int), vs = [.ref d, .int m] ∧ St1 K H d c ∧ 0 ≤ m ∧ m ≤ 1000000000000000000000000000000000000000000000000000000000000 ∧ ∀ n H', 0 ≤ n → n ≤ m → St1 K H' d c → Keep d H H' → Q (.int n) H'
def spVector (K : PySem.W.Frag) : Sp := fun vs H Q _ => ∃ (d c : Addr) (r : Int), vs = [.ref d, .int r] ∧ St1 K H d c ∧ 0 ≤ r ∧ r ≤ 1000 ∧ ∀ q x y H', H q = none → H' q = some (.tup [.int x, .int y]) → -1000 ≤ x → x ≤ 1000 → -1000 ≤ y → y ≤ 1000 → St1 K H' d c → Keep d H H' → Q (.ref q) H'
def spNearP (K : PySem.W.Frag) : Sp := fun vs H Q _ => ∃ (d c pl : Addr) (z X Y n : Int), vs = [.ref d, .int z, .ref pl] ∧ St1 K H d c ∧ H pl = some (.tup [.int X, .int Y, .int n]) ∧ 1 ≤ n ∧ n ≤ 524288 ∧ -70368743653376 ≤ z ∧ z ≤ 70368743653376 ∧ ∀ v H', BdN 46 v → St1 K H' d c → Keep d H H' → Q (.int v) H'
def spTruePlot (K : PySem.W.Frag) : Sp := fun vs H Q _ => ∃ (d c ru pl : Addr) (ra ba rd ht X Y n lv : Int), vs = [.ref d, .ref ru, .ref pl, .int lv] ∧ St1 K H d c ∧ RqAt H ru ra ba rd ht ∧ ru ≠ d ∧ H pl = some (.tup [.int X, .int Y, .int n]) ∧ BdN 45 X ∧ BdN 45 Y ∧ 1 ≤ n ∧ n ≤ 524288 ∧ ∀ q x y z H', H' q = some (.tup [.int x, .int y, .int z]) → BdN 46 x → BdN 46 y → lv - (ht + ba) ≤ z → z ≤ lv + (ht + ba) → St1 K H' d c → Keep d H H' → Q (.ref q) H'
def spIsTrue : Sp := fun vs H Q _ => ∃ (ru pl q : Addr) (ra ba rd ht X Y n x y z : Int), vs = [.ref ru, .ref pl, .ref q] ∧ RqAt H ru ra ba rd ht ∧ H pl = some (.tup [.int X, .int Y, .int n]) ∧ H q = some (.tup [.int x, .int y, .int z]) ∧ BdN 45 X ∧ BdN 45 Y ∧ BdN 19 n ∧ BdN 46 x ∧ BdN 46 y ∧ Q (.bl (isTrue X Y n x y (ra + rd))) H
def spCourse (K : PySem.W.Frag) : Sp := fun vs H Q _ => ∃ (d c ch ki : Addr) (D : CD) (w s f a b : Int), vs = [.ref d, .ref ch, .ref ki] ∧ St1 K H d c ∧ ChartAt H ch D ∧ ch ≠ d ∧ D.fx ≠ d ∧ D.ls ≠ [] ∧ H ki = some (.tup [.int w, .int s, .int f, .int a, .int b]) ∧ s ≤ f ∧ f ≤ s + 1000 ∧
  ∀ cs r (ns : List Str) pc lv H', H cs = none → H' cs = some (.tup [.ref r, .int pc, .int lv]) → Route D ns → H' r = some (.tup (ns.map V.str)) → St1 K H' d c → Keep d H H' → Q (.ref cs) H'
def spFly (K : PySem.W.Frag) (C : Addr) : Sp := fun vs H Q _ => ∃ (N : ND) (d c b : Addr) (p x : Int), vs = [.ref d, .ref N.ch, .ref N.r, .ref b, .ref N.cs, .ref N.ki, .ref N.ru, .ref N.wi, .int N.tick, .int p, .int x] ∧ St1 K H d c ∧ NIn C H N ∧ N.ch ≠ d ∧ N.D.fx ≠ d ∧ N.ru ≠ d ∧ N.b ≤ 1000 ∧ N.sl ≤ 1000 ∧ H b = some (.lst ((bgs N.D N.ns).map V.int)) ∧
  ∀ q g r H', H' q = some (.tup [.int (p + g), .int (tow x (N.af (N.lt p)) r)]) → N.lf (N.lt p) ≤ g → g ≤ N.hf (N.lt p) → N.a ≤ r → r ≤ N.b → St1 K H' d c → Keep d H H' → Q (.ref q) H'
def spKindT (K : PySem.W.Frag) : Sp := fun vs H Q _ => ∃ (d c : Addr), vs = [.ref d] ∧ St1 K H d c ∧ ∀ q w s f a b H', H q = none → 1 ≤ s → s ≤ f → f ≤ 1000 → 1 ≤ a → a ≤ b → b ≤ 1000 → H' q = some (.tup [.int w, .int s, .int f, .int a, .int b]) → St1 K H' d c → Keep d H H' → Q (.ref q) H'
def spLaw (K : PySem.W.Frag) : Sp := fun vs H Q _ => ∃ (a : Addr) (ns : List Int), vs = [.ref a] ∧ SqL K H a (ns.map V.int) ∧ ns.length ≤ 63 ∧ ∀ H', Q (.bl true) H'
/-! what the law carries -/
structure LF (K : PySem.W.Frag) (C : Addr) (H : Hp) (d c b : Addr) (ra ba rd ht : Int) (N : ND) : Prop where
  S : St1 K H d c
  I : NIn C H N
  RQ : RqAt H N.ru ra ba rd ht
  hb : H b = some (.lst ((bgs N.D N.ns).map V.int))
  n1 : N.ch ≠ d
  n2 : N.D.fx ≠ d
  n3 : N.ru ≠ d
  b1 : N.b ≤ 1000
  s1 : N.sl ≤ 1000
section
variable {K : PySem.W.Frag} {C : Addr} {H H' : Hp} {d c b : Addr} {ra ba rd ht : Int} {N : ND}
theorem LF.same (A : LF K C H d c b ra ba rd ht N) (e : Same H H') : LF K C H' d c b ra ba rd ht N :=
  { A with S := A.S.same e, I := A.I.same e, RQ := A.RQ.same e, hb := e _ _ A.hb }
theorem LF.keep (A : LF K C H d c b ra ba rd ht N) (S' : St1 K H' d c) (k : Keep d H H') : LF K C H' d c b ra ba rd ht N :=
  { A with S := S', I := A.I.keep A.S k A.n1 A.n2 A.n3, RQ := A.RQ.keep k A.n3, hb := k.l A.S A.hb }
theorem lb_some {H : Hp} {l : Addr} {qs : List WQ} (W : WAt H l qs) {t : Int} (h : 0 ≤ t) : ∃ z, (lb t qs).getLast? = some z := by
  cases e : (lb t qs).getLast? with
  | some z => exact ⟨z, rfl⟩
  | none =>
    exfalso
    have hz := List.getLast?_eq_none_iff.mp e
    obtain ⟨q0, rr, hq0, hz0⟩ := W.hd
    rw [hq0] at hz
    unfold lb at hz
    rw [List.filter_cons, if_pos (decide_eq_true (show q0.2.1 ≤ t by omega))] at hz
    cases hz
theorem LF.at (A : LF K C H d c b ra ba rd ht N) {t : Int} (h : 0 ≤ t) : ∃ q, LF K C H d c b ra ba rd ht { N with tick := t, qw := q } := by
  obtain ⟨q, hq⟩ := lb_some A.I.wi h
  exact ⟨q, A.S, ⟨A.I.P, A.I.C0, A.I.R, A.I.ps, A.I.cs, A.I.ki, A.I.ru, A.I.wi, h, hq, A.I.hab, A.I.sl0, A.I.qn⟩, A.RQ, A.hb, A.n1, A.n2, A.n3, A.b1, A.s1⟩
end
end Sk

set_option Elab.async false
set_option linter.all false
set_option maxRecDepth 100000
set_option maxHeartbeats 4000000
namespace Sk
open PySem PySem.Spec PyProof.Rows L2 NdefX
/-! own error classes over ValueError, or over an own class over it, whose __init__ begins with super().__init__(e) -/
/-- what super() in the __init__ of C wants -/
structure SupOk (P : Program) (K : PySem.W.Frag) (C cc cda : Addr) : Prop where
  cell : ∃ cl cld csl, K.lookup cc = some ⟨cl, cld, .cell (some (.ref C)), csl⟩
  code : ∃ ccl cdd vs ccs file tf, K.lookup cda = some ⟨ccl, cdd, .fields vs, ccs⟩ ∧ vs[2]? = some (.str file tf) ∧ ((P.main.file : Str) == file) = true
  top : (P.main.scope.names.lookup ("super" : Str)).isSome = false
  sub : PySem.W.mroIn K C (.ref C) = some true
  init : PySem.W.ks_superIn K C C "__init__" = some (some (.builtin "ValueError.__init__"))
  noq : PySem.W.nsIn K cStatics "thirdparty.any" = some none
  ve : PySem.W.subIn K (.ref C) (.type "ValueError") = some true
section
variable {P : Program} {w : World} {K : PySem.W.Frag} {mg : Str → Option Value} {base : Heap} {f cc cda C : Addr} {name qual : Str} {params : Arguments} {body rest : List Stmt} {scope : Scope} {kV doc pm ct oc : Value} {an od : Option Addr} {osl : Array (Option Value)} {N ps : List Str} {sp : Sp} {k : Nat}
abbrev errNF (name qual : Str) (params : Arguments) (body : List Stmt) (scope : Scope) (cc cda : Addr) : NF := ⟨name, qual, params, body, scope, [("__class__", cc)], cda⟩
/-- the wrapper at u, bound to the error at a, called -/
theorem call_mw {X : Cx} {σ : L2.St} {H : Hp} {s : Shared} {a u : Addr} {us : List Value} {Q : Value → Shared → Prop} {pins : List (Addr × Obj)} {A : Around} {E : Value → Shared → Prop} (T : OexC X.K C) (I : Inv X pins σ H s) (e : H a = some (exo a C none))
    (hu : s.heap.get? u = some (PySem.W.kxs_mw "ValueError.__init__" a)) (hl : us.length ≤ sizeLine) (h : ∀ s', Inv X pins σ H s' → Q .none s') : wpAny (model X.prog X.w) A (call (.ref u) us) Q E s := by
  obtain ⟨nm, q, N, bs, bm, sn, sub, ab, col, dd, k0, k1, k2, k3, k5, hC, hbm⟩ := T.cls
  obtain ⟨t1, ho⟩ := exo_at I.hok e
  have hC' := I.kIn _ _ hC
  obtain ⟨hp, g, d, t, os⟩ := s
  have fin : ∀ h', (∀ b o, b ≠ a → hp.get? b = some o → h'.get? b = some o) → (∃ t2 : Addr, h'.get? a = some ({ cls := .ref C, dict := none, data := .fields #[.ref t2, .none, .none, .none, .bool false, .none] } : Obj)) → Q .none ⟨h', g, d, t, os⟩ := fun h' k ⟨t2, hx⟩ => by
    have J := I.write (t' := t) (x := a) (e := a) (o := exo a C none) (by rw [e]; exact True.intro) (.inl rfl) k ⟨_, hx⟩ (exo_ok hx)
    have eu : upd H a (exo a C none) = H := by
      funext b
      by_cases hb : b = a
      · rw [hb, upd_same, e]
      · rw [upd_ne hb]
    rw [eu] at J
    exact h _ J
  refine wpAny_call (codeAny_of_tree ?_)
  show wpAny _ A.in1 (callAny (.ref u) ⟨us, []⟩) _ _ _
  simp only [callAny]
  refine wpAny_bind (wpAny_load hu ?_)
  simp only [PySem.W.kxs_mw, show (Value.type "method-wrapper" == Value.type "method" || Value.type "method-wrapper" == Value.type "builtin_function_or_method" || Value.type "method-wrapper" == Value.type "method-wrapper") = true by decide, if_true]
  refine PySem.W.KFB.if_so (by decide) ?_
  refine wpAny_bind (PySem.W.check_bound_init F.excBase_ValueError.toExcCallFacts hC' ho rfl ?_)
  refine wpAny_bind (wpAny_pure (wpAny_pure ?_))
  refine ⟨plainId_quiet F.excBase_ValueError.init.plain _, codeAny_builtin F.excBase_ValueError.initEntry ?_⟩
  exact PySem.W.exc_init_tree (cls := .ref C) (t0 := t1) (dv := none) (c2 := .none) (c3 := .none) (b4 := .bool false) ho hl fun h' k hx _ => fin h' k ⟨_, hx⟩
/-- THE RULE: an own error's __init__ -/
theorem fn_err {CX : CXT} {e : Expr} {pl : Sem Bool} {p0 p1 p2 p3 p4 : Pos} {ar : Arg} (hbd : body = .Expr (.Call (.Attribute (.Call (.Name "super" p0) [] [] p1) "__init__" p2) [e] [] p3) p4 :: rest)
    (lk : K.lookup f = some ⟨oc, od, .func (PySem.W.ksFn name qual params body scope .none kV doc pm an (.ref cda) ct cc), osl⟩) (hcd : PySem.W.codeIn K (.ref cda) qual = true) (S : NScope N ps ["__class__"] scope)
    (hp : (params.posonlyargs ++ params.args).head? = some ar) (har : ps[0]? = some ar.arg) (U : SupOk P K C cc cda) (T : OexC K C) (msup : mg "super" = none)
    (hks : scope.names.lookup ("super" : Str) = some .globalImplicit) (len : ∀ vs H Q E, sp vs H Q E → vs.length = ps.length)
    (he : ∀ env : Env, starEach [e] env = (false, eval e env) :: starEach [] env)
    (hev : ∀ env : Env, eval (.Call (.Attribute (.Call (.Name "super" p0) [] [] p1) "__init__" p2) [e] [] p3) env = (do
      let ov ← attributeBase (.Call (.Name "super" p0) [] [] p1) "__init__" env (eval (.Call (.Name "super" p0) [] [] p1) env)
      standAt p2.atName
      let (f, first) ← holding [ov] (getMethod ov "__init__" pl)
      callWith p3 f first (backTo p3 (starEach [e] env)) []))
    (hbody : ∀ (A : Around) (outer : List Env) (s : Shared) (H : Hp) (vs : List V) (Q : VK) (E : XK), Room k (A.deeper (envF (errNF name qual params body scope cc cda) f s.heap.objs.size)) → sp vs H Q E →
      ∃ (a : Addr) (vs' : List V) (te : TE) (t : TS), vs = .ref a :: vs' ∧ H a = some (exo a C none) ∧ PE (ncx CX P w K mg base N (errNF name qual params body scope cc cda) f A outer s H E) e te ∧ PSs (ncx CX P w K mg base N (errNF name qual params body scope cc cda) f A outer s H E) rest t ∧
        te (startF N vs [some (.ref C)]) H fun v H1 => [v].length ≤ 1000 ∧ H1 a = some (exo a C none) ∧ t { nx := fun _ H' => Q .non H', rt := Q } (startF N vs [some (.ref C)]) H1) :
    FnOk P w K mg base CX (k + 1) f (PySem.W.ksFn name qual params body scope .none kV doc pm an (.ref cda) ct cc) ps sp := by
  refine ⟨len, fun A outer s H args us vs Q E hr e0 hbn r hsp => ?_⟩
  have hl := len _ _ _ _ hsp
  have KX : K.In s.heap := e0.mod.kin.keeps fun b o e => (e0.bs b o e).1
  have lim : s.heap.NoLimit := e0.mod.nolimit.keeps fun b o e => (e0.bs b o e).1
  obtain ⟨cl, cld, csl, hcell⟩ := U.cell
  obtain ⟨ccl, cdd, vsc, ccs, file, tf, hcode, hvs, hfile⟩ := U.code
  obtain ⟨a, vs', te, t, rfl, ea, pe, pss, hq⟩ := hbody A outer s H vs Q E (hr.deeper _) hsp
  have hloc : ∀ y ∈ ps.zip us, scope.names.lookup y.1 = some .local := fun ⟨n, v⟩ hy => S.par n (List.of_mem_zip hy).1
  refine ks_codeAny_call_defAt (fd := PySem.W.ksFn name qual params body scope .none kV doc pm an (.ref cda) ct cc) (body := body) (binds := ps.zip us) hr.depth (KX _ _ lk) rfl lim (PySem.W.codeRec_of KX hcd) rfl hbn S.nocell hloc (fun h₁ hns kp => ?_) S.co S.gen S.kind
  have Ce : CellsAt [("__class__", cc)] ["__class__"] [some (V.ref C)] s.heap H := ⟨rfl, fun y c h => by
      have hc : c = cc := by
        by_cases z : y = "__class__"
        · subst z; simp [List.lookup] at h; exact h.symm
        · have : (y == ("__class__" : Str)) = false := by simpa using z
          simp [List.lookup, this] at h
      subst hc
      exact ⟨(e0.bs _ _ (e0.mod.kin _ _ hcell)).2, _, _, (e0.bs _ _ (e0.mod.kin _ _ hcell)).1, rfl⟩, fun x y c hx hy => by
      have one : ∀ z : Str, ([("__class__", cc)] : List (Str × Addr)).lookup z = some c → z = "__class__" := fun z h => by
        by_cases q : z = "__class__"
        · exact q
        · have : (z == ("__class__" : Str)) = false := by simpa using q
          simp [List.lookup, this] at h
      rw [one x hx, one y hy], fun i y hi => by
      have hy : i = 0 ∧ y = "__class__" := by
        match i, hi with
        | 0, h => exact ⟨rfl, (Option.some.inj h).symm⟩
        | i + 1, h => simp at h
      obtain ⟨rfl, rfl⟩ := hy
      refine ⟨cc, by simp [List.lookup], fun v hv => ?_⟩
      cases hv
      exact ⟨.ref C, rfl, _, (e0.bs _ _ (e0.mod.kin _ _ hcell)).1, rfl⟩⟩
  have I : Inv (ncx CX P w K mg base N (errNF name qual params body scope cc cda) f A outer s H E) [] (startF N (.ref a :: vs') [some (.ref C)]) H { s with heap := h₁, toks := s.toks + (ps.zip us).length } := inv_startN (F := errNF name qual params body scope cc cda) S hr.hd e0 hl r Ce hns kp
  obtain ⟨nm, q, Nn, bs, bm, sn, sub, ab, col, dd, k0, k1, k2, k3, k5, hC, hbm⟩ := T.cls
  have hcl : PySem.W.clsIn K C = some { name := nm, bases := bs, mro := .ref C :: bm, ns := Nn, qualname := q, hasDict := true, slotNames := sn, subclasses := sub, abstract := ab, collection := col, hasDel := false } := by unfold PySem.W.clsIn; rw [hC] <;> rfl
  obtain ⟨t1, ho⟩ := exo_at I.hok ea
  have XI := I.kIn
  have KI : K.In h₁ := XI
  obtain ⟨m, hn, hm⟩ := I.loc
  have hself : m ar.arg = some (.ref a) := by
    have hN : N[0]? = some ar.arg := by
      have h0 : ps.length ≠ 0 := fun z => by rw [List.getElem?_eq_none (by omega)] at har; cases har
      have q : (N.take (ps.length + (["__class__"] : List Str).length))[0]? = (ps ++ (["__class__"] : List Str))[0]? := by rw [S.pre]
      rw [List.getElem?_take_of_lt (by omega), List.getElem?_append_left (by omega), har] at q
      exact q
    have hz := S.par ar.arg (List.mem_of_getElem? har)
    obtain ⟨u, ru, lk2⟩ := hm 0 ar.arg (.ref a) hN rfl (.inl hz)
    have eu : u = .ref a := ru
    subst eu
    rcases lk2 with ⟨_, e⟩ | ⟨h, _⟩
    · exact e
    · rcases h with h | h
      · have := hz.symm.trans h; cases this
      · have := hz.symm.trans h; cases this
  have hza : scope.names.lookup ar.arg = some .local := S.par ar.arg (List.mem_of_getElem? har)
  have hzc : scope.names.lookup ("__class__" : Str) = some .free := S.frk _ (List.mem_singleton.mpr rfl)
  obtain ⟨mb, hb1, hb2⟩ := e0.mod.blt
  subst hbd
  refine ks_wpAt_execs_cons (ks_wpAt_Expr_any (ks_wpAt_MethodCall (pl := pl) ?_ (hev _)) I.quiet)
  refine ks_wpAt_super_base (cc := cda) (f := f) (env := PySem.W.ksEnv qual scope s.heap.objs.size f (.ref cda) cc) hks hzc rfl rfl (KI _ _ lk) rfl hp rfl (KI _ _ hcode) rfl hvs hfile U.top ?_
  refine PySem.W.ks_loadName_global S.kind hks (Calls.loadGlobal_builtin (e0.mod.glob.keeps fun b o e => kp b o (e0.bs b o e).1) msup (hb1.keeps fun b o e => kp b o (e0.bs b o e).1) ((hb2 _ (by decide)).trans (by decide +kernel)) ⟨rfl, ?_⟩)
  refine wpAny_loadName_free S.kind hzc rfl ⟨_, KI _ _ hcell, rfl⟩ ?_
  refine wpAny_loadName_local S.kind hza hn hself ?_
  refine ks_wpAny_isType_cls (KI _ _ hC) rfl ⟨rfl, ?_⟩
  refine ks_wpAny_call_super (KI _ _ hC) rfl ho rfl (fun c e => by cases e) (PySem.W.looks_mroIn KI U.sub) (fun h2 e2 k2 => ?_)
  have KI2 : K.In h2 := KI.keeps k2
  have ho2 := k2 _ _ ho
  have hi := U.init
  unfold PySem.W.ks_superIn at hi
  rw [hcl, Option.bind_some] at hi
  have II : PySem.W.InstAt h2 a ({ cls := .ref C, dict := none, data := .fields #[.ref t1, .none, .none, .none, .bool false, .none] } : Obj) C none := ⟨ho2, rfl, rfl, trivial⟩
  refine PySem.W.kxs_getMethod PySem.W.kxs_ValueError e2 (PySem.W.looks_opaque KI2 U.noq) (l₀ := .ref C :: bm) ?_ rfl KI2 hi (II.type.andThen (PySem.W.looks_subIn KI2 U.ve)) (PySem.W.ks_ne KI2 II hcl) rfl ?_
  · exact fun A Q E s k q => wpAny_bind ((PySem.W.looks_clsIn KI2 hcl) A _ E s k (wpAny_pure q))
  -- the super object and the wrapper stand beside what is told
  have k3 : ∀ b o, h₁.get? b = some o → (h2.push (PySem.W.kxs_mw "ValueError.__init__" a)).get? b = some o := fun b o e => Heap.get?_push_of_some _ (k2 _ _ e)
  have hu3 : (h2.push (PySem.W.kxs_mw "ValueError.__init__" a)).get? h2.objs.size = some (PySem.W.kxs_mw "ValueError.__init__" a) := Heap.get?_push_at rfl rfl
  have hsz : h₁.objs.size ≤ h2.objs.size := Nat.le_of_lt (Heap.lt_size e2)
  have I3 := (I.kept (t' := s.toks + (ps.zip us).length + 1) k3).pins_of (pins' := [(h2.objs.size, PySem.W.kxs_mw "ValueError.__init__" a)]) fun p hp => by
    rw [List.mem_singleton.mp hp]
    refine ⟨hu3, I.hok.fresh hsz, fun z => ?_, fun z => I.nofs hsz z, fun v z => by cases z⟩
    have y := I.lt
    have z' : h2.objs.size = s.heap.objs.size := z
    have y' : s.heap.objs.size < h₁.objs.size := y
    omega
  show wpAny _ _ (callWith p3 (.ref h2.objs.size) [] (backTo p3 (starEach [e] _)) []) _ _ _
  rw [he]
  refine PySem.W.kxs_callWith (i := "ValueError.__init__") (x := a) rfl (Calls.evalArgs_plain (rest := []) ?_)
  have run := (pa_cons pe pa_nil (he _)).run p3 [(h2.objs.size, PySem.W.kxs_mw "ValueError.__init__" a)] _ _ H (fun vs H1 => vs.length ≤ 1000 ∧ H1 a = some (exo a C none) ∧ t { nx := fun _ H' => Q .non H', rt := Q } (startF N (.ref a :: vs') [some (.ref C)]) H1) I3 hq
  rw [he] at run
  refine wpAny_mono run (fun us2 s4 hs4 => ?_) fun _ _ x => x
  obtain ⟨vs4, H4, I4, r4, hl4, ea4, q4⟩ := hs4
  have hu4 := (I4.pin (h2.objs.size, PySem.W.kxs_mw "ValueError.__init__" a) (by simp)).1
  refine ⟨hu4, call_mw T I4 ea4 hu4 (by show us2.length ≤ _; rw [← Paired.length r4, sizeLine_eq]; omega) fun s5 I5 => ?_⟩
  refine wpAt_of_wpAny (wpAny_mono (pss.run _ s5 _ H4 _ I5 q4) (fun fl s' hs => ?_) fun e s' hs => hs)
  cases fl with
  | ret u =>
    obtain ⟨v, σ', H', J, rv, q⟩ := hs
    exact ⟨v, H', J.os, J.bare, J.base, J.hok, rv, q⟩
  | next =>
    obtain ⟨σ', H', J, q⟩ := hs
    exact ⟨V.non, H', J.os, J.bare, J.base, J.hok, rfl, q⟩
  | brk =>
    obtain ⟨_, _, _, q⟩ := hs
    exact False.elim q
  | cont =>
    obtain ⟨_, _, _, q⟩ := hs
    exact False.elim q
end
end Sk

set_option Elab.async false
set_option linter.all false
set_option maxRecDepth 100000
set_option maxHeartbeats 4000000
namespace Sk
open PySem PySem.Spec PyProof.Rows L2 NdefX
/-! own errors, raised and caught; defs that may raise -/
/-- an own error class, ready to be made by its name -/
structure ErrD (P : Program) (w : World) (K : PySem.W.Frag) (mg : Str → Option Value) (base : Heap) (k : Nat) (x : Str) (C : Addr) (ps : List Str) (sp : Sp) : Prop where
  ex : ∃ (f : Addr) (fd : FuncData), FnOk P w K mg base CX0 k f fd ps sp ∧ Binds K fd ps [] ∧ PySem.W.findIn K (.ref C) "__init__" = some (some (.ref f)) ∧ PySem.W.typeIn K (.ref f) = some (.type "function")
  gC : mg x = some (.ref C)
  T : OexC K C
  te : PySem.W.exmOne K (.ref C) (.ref C) = some true
/-- code and tick, as the error's own dict tells them -/
def ctK (s : Str) (t : Int) : List (Str × V) := [("tick", .int t), ("code", .str s)]
def spCErr (C : Addr) : Sp := fun vs H Q _ => ∃ (a : Addr) (s : Str) (t : Int), vs = [.ref a, .str s, .int t] ∧ H a = some (exo a C none) ∧ s.length ≤ 1000 ∧ t.natAbs < 2 ^ 250 ∧
  ∀ dx, H dx = none → dx ≠ a → Q .non (upd (upd (upd H dx (exd dx [("code", .str s)])) a (exo a C (some dx))) dx (exd dx (ctK s t)))
theorem err_heap {H : Hp} {a dx C : Addr} {s : Str} {t : Int} (ha : H a = none) (hd : H dx = none) (n : dx ≠ a) :
    upd (del (upd (upd (upd (upd H a (exo a C none)) dx (exd dx [("code", .str s)])) a (exo a C (some dx))) dx (exd dx (ctK s t))) a) dx (.xd (ctK s t)) = upd H dx (.xd (ctK s t)) := by
  funext b
  by_cases h1 : b = dx
  · rw [h1, upd_same, upd_same]
  · rw [upd_ne h1, upd_ne h1]
    by_cases h2 : b = a
    · rw [h2, del_same, ha]
    · rw [del_ne h2, upd_ne h1, upd_ne h2, upd_ne h1, upd_ne h2]
section
variable {X : Cx} {k : Nat} {x : Str} {C : Addr} {p pos pos2 : Pos} {e1 e2 : Expr} {ta : TA} {W : WX}
/-- raise C(code, tick) -/
def tRaiseC (C : Addr) (W : WX) (ta : TA) : TS := fun _ σ H => ta σ H fun vs H1 => ∃ (s : Str) (t : Int), vs = [.str s, .int t] ∧ s.length ≤ 1000 ∧ t.natAbs < 2 ^ 250 ∧ ∀ d, H1 d = none → W (.ref C) (some d) σ (upd H1 d (.xd (ctK s t)))
theorem pmk_err {ps : List Str} {sp : Sp} (D : ErrD X.prog X.w X.K X.mg X.base k x C ps sp) (hr : Room (k + 1) X.A) (hg : Gl X x) (ha : PA X (e1 :: [e2]) ta) (hdb : (x == ("__debug__" : Str)) = false := by decide)
    (he : starEach (e1 :: [e2]) X.env = (false, eval e1 X.env) :: starEach [e2] X.env := by rfl) (hpl : (backTo pos (starEach [e2] X.env)).any (·.1) = false := by rfl) : PMk X (.Call (.Name x p) (e1 :: [e2]) [] pos) (tMkO C sp [] ta) := by
  obtain ⟨f, fd, F1, b, iC, tI⟩ := D.ex
  exact pmk_oex D.T iC tI F1 hr b .nil pass0 hg D.gC ha hdb he hpl
theorem tMk_of {σ : L2.St} {H : Hp} {Q : XK} (mono : ∀ σ H (R R' : List V → Hp → Prop), (∀ vs H, R vs H → R' vs H) → ta σ H R → ta σ H R') (h : ta σ H fun vs H1 => ∃ (s : Str) (t : Int), vs = [.str s, .int t] ∧ s.length ≤ 1000 ∧ t.natAbs < 2 ^ 250 ∧ ∀ d, H1 d = none → Q (.ref C) (some d) (upd H1 d (.xd (ctK s t)))) : tMkO C (spCErr C) [] ta σ H Q := by
  refine mono _ _ _ _ (fun vs H1 ⟨s, t, ev, hs, ht, q⟩ => ?_) h
  subst ev
  refine ⟨(by show 2 ≤ 1000; decide), fun a ha => ⟨a, s, t, rfl, upd_same, hs, ht, fun dx hdx n => ?_⟩⟩
  have hd1 : H1 dx = none := by rw [upd_ne n] at hdx; exact hdx
  refine ⟨rfl, dx, ctK s t, ?_, upd_same, hd1, ?_⟩
  · rw [upd_ne (Ne.symm n), upd_same]
  · rw [err_heap ha hd1 n]
    exact q dx hd1
/-- raise C(code, tick), both told by expressions -/
theorem ps_raiseC {te1 te2 : TE} (hc : X.calm = true) (D : ErrD X.prog X.w X.K X.mg X.base k x C ["self", "code", "tick"] (spCErr C)) (hr : Room (k + 1) X.A) (tk : Takes X W) (hg : Gl X x) (h1 : PE X e1 te1) (h2 : PE X e2 te2)
    (m1 : ∀ σ H (R R' : VK), (∀ v H, R v H → R' v H) → te1 σ H R → te1 σ H R') (m2 : ∀ σ H (R R' : VK), (∀ v H, R v H → R' v H) → te2 σ H R → te2 σ H R') (hdb : (x == ("__debug__" : Str)) = false := by decide)
    (he : starEach (e1 :: [e2]) X.env = (false, eval e1 X.env) :: starEach [e2] X.env := by rfl) (he2 : starEach (e2 :: []) X.env = (false, eval e2 X.env) :: starEach [] X.env := by rfl) (hpl : (backTo pos (starEach [e2] X.env)).any (·.1) = false := by rfl) :
    PS X (.Raise (some (.Call (.Name x p) (e1 :: [e2]) [] pos)) none pos2) (tRaiseC C W (tCons te1 (tCons te2 tNil))) := by
  have q := ps_raise (pos := pos2) hc tk (pmk_err (p := p) (pos := pos) D hr hg (pa_cons h1 (pa_cons h2 pa_nil he2) he) hdb he hpl)
  refine ⟨fun pins s σ H Dn I h => q.run pins s σ H Dn I ?_⟩
  exact tMk_of (fun σ H R R' im z => m1 _ _ _ _ (fun v H1 z => m2 _ _ _ _ (fun v2 H2 z => im _ _ z) z) z) h
end
/-- a def of the text that may raise, ready to be called by its name -/
structure DefX (P : Program) (w : World) (K : PySem.W.Frag) (mg : Str → Option Value) (base : Heap) (k : Nat) (x : Str) (ps : List Str) (sp : Sp) : Prop where
  ex : ∃ (f : Addr) (fd : FuncData), FnOk P w K mg base (L2.CX P w) k f fd ps sp ∧ mg x = some (.ref f) ∧ PySem.W.keepIn K (.ref f) = true ∧ Binds K fd ps []
theorem DefX.mk' {P : Program} {w : World} {K : PySem.W.Frag} {mg : Str → Option Value} {base : Heap} {k : Nat} {x qual : Str} {st : Stmt} {f : Addr} {fd : FuncData} {ps : List Str} {sp : Sp}
    (F : Fun K x qual st f fd) (b : Binds K fd ps []) (m : mg x = some (.ref f)) (G : FnOk P w K mg base (L2.CX P w) k f fd ps sp) : DefX P w K mg base k x ps sp := ⟨f, fd, G, m, F.kp, b⟩
theorem pe_defX {X : Cx} {W : WX} {k : Nat} {x : Str} {ps : List Str} {sp : Sp} {p pos : Pos} {e : Expr} {es : List Expr} {t : TA} (D : DefX X.prog X.w X.K X.mg X.base k x ps sp) (hr : Room k X.A) (hg : Gl X x) (tk : Takes X W)
    (ha : PA X (e :: es) t) (hdb : (x == ("__debug__" : Str)) = false := by decide) (he : starEach (e :: es) X.env = (false, eval e X.env) :: starEach es X.env := by rfl) (hpl : (backTo pos (starEach es X.env)).any (·.1) = false := by rfl) :
    PE X (.Call (.Name x p) (e :: es) [] pos) (tCallS sp (WE W) t) := by
  obtain ⟨f, fd, F, m, kp, b⟩ := D.ex
  exact pe_callS F hr hg m kp b (fun σ => passAt tk σ) ha hdb he hpl
/-- a def that may raise, whose code object is known -/
theorem okTX {P : Program} {w : World} {K : PySem.W.Frag} {mg : Str → Option Value} {base : Heap} {x qual : Str} {st : Stmt} {f c : Addr} {fd : FuncData} {N ps : List Str} {k : Nat} {sp : Sp} (F : Fun K x qual st f fd) (hc : fd.code = .ref c) (S : FnScope N ps (defScope st)) (len : ∀ vs H Q E, sp vs H Q E → vs.length = ps.length)
    (hbody : ∀ (A : Around) (outer : List Env) (s : Shared) (H : Hp) (vs : List V) (Q : VK) (E : XK), Room k (A.deeper (envOfC qual (defScope st) s.heap.objs.size f (.ref c))) → sp vs H Q E →
      ∃ t, PSs (cxOf (L2.CX P w) P w K mg base N qual (defScope st) f (.ref c) A outer s H E) (defBody st) t ∧ t { nx := fun _ H' => Q .non H', rt := Q } (start N vs) H) : FnOk P w K mg base (L2.CX P w) (k + 1) f fd ps sp := by
  obtain ⟨oc, od, kV, doc, pm, an, cdv, ct, osl, rfl, lk, hcd⟩ := F.ex
  have e : cdv = .ref c := hc
  subst e
  exact fn_of lk hcd S len fun A outer s H vs Q E hr hsp => hbody A outer s H vs Q E hr hsp
/-- a def that raises in one way and else promises as before -/
theorem natAbs_log {t : Int} (h : t.natAbs < 2 ^ 250) : t.natAbs.log2 < 1920 := by
  by_cases z : t.natAbs = 0
  · rw [z]; decide
  · exact (Nat.log2_lt z).mpr (Nat.lt_of_lt_of_le h (Nat.pow_le_pow_right (by decide) (by decide)))
end Sk

set_option Elab.async false
set_option linter.all false
set_option maxRecDepth 100000
set_option maxHeartbeats 4000000
namespace Sk
open PySem PySem.Spec PyProof.Rows L2
/-! tubes of courses -/
theorem op_eqDK {X : Cx} {K : PySem.W.Frag} (e : X.K = K) (hu : X.A.units + 64 < cLine) : OpR X (compareOp .Eq) (rEqD K) := e ▸ op_eqD hu
theorem ChartAt.st {T : List Addr} {H H' : Hp} {ch : Addr} {D : CD} (C : ChartAt H ch D) (s : SameT T H H') (t : Tabs T H) : ChartAt H' ch D := by
  obtain ⟨⟨kvs, h1, h2, h3⟩, h4, h5, h6, h7, h8, h8', h9⟩ := C
  exact ⟨⟨kvs, s.d t h1, h2, h3⟩, s.d t h4, s.l t h5, fun l hl => s.t t (h6 l hl), fun n a x y hp => let ⟨p1, p2, p3⟩ := h7 n a x y hp; ⟨p1, s.t t p2, p3⟩, h8, h8', h9⟩
theorem PathAt.st {T : List Addr} {C : Addr} {H H' : Hp} {p r : Addr} {D : CD} {ns : List Str} (P : PathAt C H p D ns r) (s : SameT T H H') (t : Tabs T H) : PathAt C H' p D ns r := by
  obtain ⟨dx, l1, l2, l3, l4, sa, va, P⟩ := P
  exact ⟨dx, l1, l2, l3, l4, sa, va, { P with ob := s.i t P.ob, rt := s.t t P.rt, lg := s.l t P.lg, st := s.l t P.st, ve := s.l t P.ve, bgn := s.l t P.bgn, sx := fun j h => s.t t (P.sx j h), vx := fun j h => s.t t (P.vx j h) }⟩
theorem Keep.tabsS {K : PySem.W.Frag} {d c : Addr} {TT : List Addr} {H H' : Hp} (k : Keep d H H') (S : St1 K H d c) (t : Tabs TT H) : Tabs TT H' := let ⟨_, e⟩ := S.dk; Keep.tabs k e t
section
variable {T : List Addr} {H H' : Hp}
theorem WAt.st {l : Addr} {qs : List WQ} (W : WAt H l qs) (s : SameT T H H') (t : Tabs T H) : WAt H' l qs := ⟨s.l t W.li, fun q h => s.t t (W.tu q h), W.bd, W.hd⟩
theorem NIn.st {C : Addr} {N : ND} (I : NIn C H N) (s : SameT T H H') (t : Tabs T H) : NIn C H' N :=
  { I with P := I.P.st s t, C0 := I.C0.st s t, cs := s.t t I.cs, ki := s.t t I.ki, ru := let ⟨kvs, h1, h2⟩ := I.ru; ⟨kvs, s.d t h1, h2⟩, wi := I.wi.st s t }
theorem LoT.st {l : Addr} {xss : List (List Int)} (L : LoT H l xss) (s : SameT T H H') (t : Tabs T H) : LoT H' l xss := let ⟨qs, h1, h2, h3⟩ := L; ⟨qs, s.l t h1, fun q h => s.t t (h2 q h), h3⟩
theorem SameT.app {l : Addr} {o : HO} (s : SameT T H H') (h : H l = none) : SameT T H (upd H' l o) := ⟨fun b u e n => by rw [upd_ne (ne_of_none e h)]; exact s.keep b u e n, fun t P hP => by
  obtain ⟨ps, e, r⟩ := s.tabs t P hP
  obtain ⟨ps', e', _⟩ := t P hP
  exact ⟨ps, by rw [upd_ne (ne_of_none e' h)]; exact e, r⟩⟩
theorem SameT.out {a : Addr} (s : SameT T H H') (t : Tabs T H) (h : H' a = none) : H a = none := by
  cases e : H a with
  | none => rfl
  | some o =>
    by_cases z : a ∈ T
    · obtain ⟨ps, e', _⟩ := s.tabs t a z
      rw [h] at e'; cases e'
    · rw [s.keep a o e z] at h; cases h
end
/-- for i, x in enumerate(xs) -/
theorem for_enum {K : PySem.W.Frag} {a : Addr} {xs : List V} {g : TG} {tb : TS} {D : Ends} {σ : L2.St} {H : Hp} (Pv : Nat → L2.St → Hp → Prop) (h0 : Pv 0 σ H) (hl : ∀ i σ H, i ≤ xs.length → Pv i σ H → SqL K H a xs)
    (hs : ∀ i x σ H T, xs[i]? = some x → H T = none → Pv i σ H → g (.ref T) σ (upd H T (.tup [.int (i : Nat), x])) fun σ2 H2 => tb { D with nx := Pv (i + 1), ct := Pv (i + 1), bk := D.nx } σ2 H2) (hd : ∀ σ H, Pv xs.length σ H → D.nx σ H) :
    ∃ W : Nat → Nat → L2.St → Hp → Prop, (∃ m, W 0 m σ H) ∧ ∀ i m σ H, W i m σ H →
      ((Ite K a).stop i H ∧ D.nx σ H) ∨ ((Ite K a).go i H ∧ ∃ N : L2.St → Hp → Prop, (∀ σ' H', N σ' H' → ∃ m', m' < m ∧ W (i + 1) m' σ' H') ∧ ∀ x H', (Ite K a).yld i H x H' → g x σ H' fun σ2 H2 => tb { D with nx := N, ct := N, bk := D.nx } σ2 H2) := by
  refine ⟨fun i m σ H => m = xs.length - i ∧ i ≤ xs.length ∧ Pv i σ H, ⟨xs.length, by simp, Nat.zero_le _, h0⟩, ?_⟩
  rintro i m σ H ⟨rfl, hi, p⟩
  have q := hl i σ H hi p
  by_cases hlt : i < xs.length
  · refine .inr ⟨⟨xs, xs[i], q, by simp [hlt]⟩, Pv (i + 1), fun σ' H' p' => ⟨xs.length - (i + 1), by omega, rfl, hlt, p'⟩, fun x H' y => ?_⟩
    obtain ⟨T, x, rfl, hT, rfl, y⟩ := y
    exact hs i x σ H T (y xs q) hT p
  · obtain rfl : i = xs.length := by omega
    exact .inl ⟨⟨xs, q, Nat.le_refl _⟩, hd σ H p⟩
open GenW GxR in
/-- any over a list, what follows told apart by both answers -/
theorem till_any {K : PySem.W.Frag} {a : Addr} {xs : List V} {g : TG} {tt : TT} {te : TE} {vs : List Nat} {σ : L2.St} {H2 : Hp} {Qe Qn : Hp → Prop} (Pv : Nat → Hp → Prop) (h0 : Pv 0 H2) (hl : ∀ i H, i ≤ xs.length → Pv i H → SqL K H a xs)
    (hs : ∀ i x H, xs[i]? = some x → Pv i H → g x (wipe σ vs) H fun σ2 H2 => wipe σ2 vs = wipe σ vs ∧ tt σ2 H2 fun b H3 => if b = true then te σ2 H3 fun y H4 => ∃ b, y = .bl b ∧ if b = true then Qe H4 else Pv (i + 1) H4 else Pv (i + 1) H3) (hd : ∀ H, Pv xs.length H → Qn H) :
    ∃ W : Nat → Nat → Hp → Prop, (∃ m, W 0 m H2) ∧ ∀ i m H, W i m H → ((Itl K a).stop i H ∧ Qn H) ∨ ((Itl K a).go i H ∧ ∃ Nx : Hp → Prop, (∀ H', Nx H' → ∃ m', m' < m ∧ W (i + 1) m' H') ∧
      ∀ x H', (Itl K a).yld i H x H' → g x (wipe σ vs) H' fun σ2 H2 => wipe σ2 vs = wipe σ vs ∧ tt σ2 H2 fun b H3 => if b = true then te σ2 H3 fun y H4 => ∃ b, y = .bl b ∧ if b = true then Qe H4 else Nx H4 else Nx H3) := by
  refine ⟨fun i m H => m = xs.length - i ∧ i ≤ xs.length ∧ Pv i H, ⟨xs.length, by simp, Nat.zero_le _, h0⟩, fun i m H w => ?_⟩
  obtain ⟨hm, hi, p⟩ := w
  have q := hl i H hi p
  rcases Nat.lt_or_ge i xs.length with z | z
  · refine .inr ⟨⟨xs, xs[i], q, by simp [z]⟩, Pv (i + 1), fun H' p' => ⟨xs.length - (i + 1), by omega, rfl, z, p'⟩, fun x H' y => ?_⟩
    obtain ⟨rfl, y⟩ := y
    exact hs i x _ (y xs q) p
  · obtain rfl : i = xs.length := by omega
    exact .inl ⟨⟨xs, q, Nat.le_refl _⟩, hd H p⟩
/-! the hours of a chart -/
structure HQ where
  a : Addr
  s : Str
  e : Str
  f : Int
  l : Int
def HQ.v (q : HQ) : List V := [.str q.s, .str q.e, .int q.f, .int q.l]
structure HrAt (H : Hp) (ch ho : Addr) (hs : List HQ) : Prop where
  ex : ∃ kvs, H ch = some (.dK kvs) ∧ valV kvs (.inr "hours") = some (.ref ho)
  li : H ho = some (.lst (hs.map fun q => V.ref q.a))
  tu : ∀ q ∈ hs, H q.a = some (.tup q.v)
  ok : ∀ q ∈ hs, sOk q.s ∧ sOk q.e
  n : hs.length ≤ 100
section
variable {H H' : Hp} {ch ho : Addr} {hs : List HQ}
theorem HrAt.same (R : HrAt H ch ho hs) (s : Same H H') : HrAt H' ch ho hs := ⟨let ⟨kvs, e, h⟩ := R.ex; ⟨kvs, s _ _ e, h⟩, s _ _ R.li, fun q h => s _ _ (R.tu q h), R.ok, R.n⟩
theorem HrAt.keep {K : PySem.W.Frag} {d c : Addr} (R : HrAt H ch ho hs) (S : St1 K H d c) (k : Keep d H H') (n : ch ≠ d) : HrAt H' ch ho hs := ⟨let ⟨kvs, e, h⟩ := R.ex; ⟨kvs, k _ _ e n, h⟩, k.l S R.li, fun q h => k.t S (R.tu q h), R.ok, R.n⟩
theorem HrAt.st {T : List Addr} (R : HrAt H ch ho hs) (s : SameT T H H') (t : Tabs T H) : HrAt H' ch ho hs := ⟨let ⟨kvs, e, h⟩ := R.ex; ⟨kvs, s.d t e, h⟩, s.l t R.li, fun q h => s.t t (R.tu q h), R.ok, R.n⟩
theorem HrAt.g (R : HrAt H ch ho hs) : DGet H ch (.str "hours") (some (.ref ho)) := let ⟨_, e, h⟩ := R.ex; h ▸ DGet.k (k := .inr "hours") e
end
def hitB (l : Lg) (t : Int) (q : HQ) : Bool := (decide (q.s = l.s) && decide (q.e = l.e)) && (decide (q.f ≤ t) && decide (t ≤ q.l))
def shutB (hs : List HQ) (l : Lg) (t : Int) : Bool := hs.any (hitB l t)
/-! the checks of a box -/
def ND.tot (N : ND) : Int := bg N.D N.ns (N.ns.length - 1)
def ND.at (N : ND) (t : Int) : ND := { N with tick := t, qw := ((lb t N.qs).getLast?).getD N.qw }
theorem NIn.at {C : Addr} {H : Hp} {N : ND} (I : NIn C H N) {t : Int} (h : 0 ≤ t) : NIn C H (N.at t) := by
  obtain ⟨q, hq⟩ := lb_some I.wi h
  exact ⟨I.P, I.C0, I.R, I.ps, I.cs, I.ki, I.ru, I.wi, h, by show (lb t N.qs).getLast? = some (((lb t N.qs).getLast?).getD N.qw); rw [hq]; rfl, I.hab, I.sl0, I.qn⟩
theorem NIn.atN {C : Addr} {H : Hp} {N : ND} (I : NIn C H N) : N.at N.tick = N := by
  unfold ND.at
  rw [I.qw]
  rfl
def ND.legs (N : ND) (b : Bx) : List Lg := (List.range (N.lt b.hi + 1 - N.lt b.lo)).filterMap fun j => N.D.leg (rn N.ns (N.lt b.lo + j)) (rn N.ns (N.lt b.lo + j + 1))
def lvlB (N : ND) (b : Bx) : Bool := (N.legs b).any fun l => decide (b.dn < l.lo) || decide (l.hi < b.up)
def boxB (N : ND) (hs : List HQ) (b : Bx) : Option Str := if b.hi < 0 then none else if lvlB N b then some "level" else if (N.legs b).any (fun l => shutB hs l N.tick) then some "shut" else none
def paceB (N : ND) (b : Bx) : Bool := (List.range (N.lt b.hi + 1 - N.lt b.lo)).any fun j => decide (N.lf (N.lt b.lo + j) < 1)
def codeB (N : ND) (hs : List HQ) (b : Bx) : Option Str := match boxB N hs b with | some c => some c | none => if paceB N b then some "slow" else none
def Bx.li (b : Bx) : List Int := [b.lo, b.hi, b.dn, b.up]
/-- the boxes so far, and the box at hand -/
structure Chn (N : ND) (hs : List HQ) (b0 : Bx) (bs : List Bx) (b : Bx) : Prop where
  hd : (bs ++ [b])[0]? = some b0
  st : ∀ (i : Nat) (x y : Bx), (bs ++ [b])[i]? = some x → (bs ++ [b])[i + 1]? = some y → x.lo < N.tot ∧ codeB (N.at (N.tick + (i : Int))) hs x = none ∧ (N.at (N.tick + (i : Int))).nx x.lo x.hi x.dn x.up y.lo y.hi y.dn y.up
theorem Chn.nil {N : ND} {hs : List HQ} {b : Bx} : Chn N hs b [] b := ⟨rfl, fun i x y h1 h2 => by
  have := (List.getElem?_eq_some_iff.mp h2).1
  simp at this⟩
theorem Chn.snoc {N : ND} {hs : List HQ} {b0 b b' : Bx} {bs : List Bx} (X : Chn N hs b0 bs b) (h1 : b.lo < N.tot) (h2 : codeB (N.at (N.tick + (bs.length : Int))) hs b = none) (h3 : (N.at (N.tick + (bs.length : Int))).nx b.lo b.hi b.dn b.up b'.lo b'.hi b'.dn b'.up) : Chn N hs b0 (bs ++ [b]) b' := by
  refine ⟨?_, fun i x y hx hy => ?_⟩
  · rw [List.getElem?_append_left (by simp)]
    exact X.hd
  · have hl := (List.getElem?_eq_some_iff.mp hy).1
    rw [List.length_append, List.length_append] at hl
    have hl : i + 1 < bs.length + 1 + 1 := hl
    rw [List.getElem?_append_left (by rw [List.length_append]; show i < bs.length + 1; omega)] at hx
    by_cases e : i < bs.length
    · rw [List.getElem?_append_left (by rw [List.length_append]; show i + 1 < bs.length + 1; omega)] at hy
      exact X.st i x y hx hy
    · have ei : i = bs.length := by omega
      subst ei
      rw [List.getElem?_append_right (by omega), Nat.sub_self] at hx
      have hx : x = b := (Option.some.inj hx).symm
      rw [List.getElem?_append_right (by rw [List.length_append]; show bs.length + 1 ≤ _; omega), List.length_append] at hy
      have e0 : bs.length + 1 - (bs.length + [b].length) = 0 := by show bs.length + 1 - (bs.length + 1) = 0; omega
      rw [e0] at hy
      have hy : y = b' := (Option.some.inj hy).symm
      subst hx hy
      exact ⟨h1, h2, h3⟩
theorem NIn.nx_le {C : Addr} {H : Hp} {N : ND} (I : NIn C H N) {low high down up v0 v1 v2 v3 : Int} (X : N.nx low high down up v0 v1 v2 v3) (h : low ≤ high) (h' : down ≤ up) : v0 ≤ v1 ∧ v2 ≤ v3 := by
  have q := NextOf.inner X X I.hab.1 I.hab.2 (fun p => I.lh (N.lt p) (by have := (lat_cases N.D N.ns (N.ns.length - 1 - 1) p).1; have := I.R.n2; show lat _ _ _ _ + 1 < _; omega)) (Int.le_refl _) (Int.le_refl _) (Int.le_refl _) (Int.le_refl _) h'
  exact ⟨q.2.1, q.2.2.2.2.1⟩
/-! promises -/
def spLegsOf (C : Addr) : Sp := fun vs H Q _ => ∃ (p r bx : Addr) (D : CD) (ns : List Str) (b : Bx), vs = [.ref p, .ref bx] ∧ PathAt C H p D ns r ∧ 2 ≤ ns.length ∧ ns.length ≤ 20 ∧ H bx = some b.t ∧ ∀ q, H q = none → Q (.ref q) (upd H q (.lst (rgV (lat D ns (ns.length - 1 - 1) b.lo : Nat) ((lat D ns (ns.length - 1 - 1) b.hi : Nat) + 1))))
def spShut (TT : List Addr) : Sp := fun vs H Q _ => ∃ (ch ho : Addr) (hs : List HQ) (l : Lg) (t : Int), vs = [.ref ch, .ref l.a, .int t] ∧ HrAt H ch ho hs ∧ H l.a = some (.tup l.v) ∧ sOk l.s ∧ sOk l.e ∧ Tabs TT H ∧ ∀ H', SameT TT H H' → Q (.bl (shutB hs l t)) H'
def spCheckBox (C CE : Addr) (TT : List Addr) : Sp := fun vs H Q E => ∃ (N : ND) (ho bx : Addr) (hs : List HQ) (b : Bx), vs = [.ref N.ch, .ref N.p, .int N.tick, .ref bx] ∧ NIn C H N ∧ HrAt H N.ch ho hs ∧ H bx = some b.t ∧ b.lo ≤ b.hi ∧ N.tick ≤ 1000000000 ∧ Tabs TT H ∧
  (∀ H', boxB N hs b = none → SameT TT H H' → Q .non H') ∧ ∀ c d H', boxB N hs b = some c → SameT TT H H' → H d = none → H' d = some (.xd (ctK c N.tick)) → E (.ref CE) (some d) H'
def spCheckPace (C CE : Addr) : Sp := fun vs H Q E => ∃ (N : ND) (bx : Addr) (b : Bx), vs = [.ref N.p, .ref N.cs, .ref N.ru, .ref N.wi, .int N.tick, .ref bx] ∧ NIn C H N ∧ H bx = some b.t ∧ b.lo ≤ b.hi ∧ N.tick ≤ 1000000000 ∧
  (∀ H', paceB N b = false → Same H H' → Q .non H') ∧ ∀ d H', paceB N b = true → Same H H' → H d = none → H' d = some (.xd (ctK "slow" N.tick)) → E (.ref CE) (some d) H'
/-- why there is no tube -/
def NoTube (N : ND) (hs : List HQ) (b0 : Bx) (c : Str) (t : Int) : Prop := (¬ (N.s ≤ N.pc ∧ N.pc ≤ N.f) ∧ c = "speed" ∧ t = N.tick) ∨ ((N.s ≤ N.pc ∧ N.pc ≤ N.f) ∧ ∃ bs b, Chn N hs b0 bs b ∧ b.lo < N.tot ∧ t = N.tick + (bs.length : Int) ∧ ((bs.length = 240 ∧ c = "long") ∨ (bs.length < 240 ∧ codeB (N.at t) hs b = some c)))
structure IsTube (N : ND) (hs : List HQ) (b0 : Bx) (bs : List Bx) : Prop where
  sp : N.s ≤ N.pc ∧ N.pc ≤ N.f
  ch : ∃ b, Chn N hs b0 bs b ∧ N.tot ≤ b.lo
  n : bs.length ≤ 240
def spTube (C CE : Addr) (TT : List Addr) : Sp := fun vs H Q E => ∃ (N : ND) (ho bx : Addr) (hs : List HQ) (b : Bx), vs = [.ref N.ch, .ref N.p, .ref N.cs, .ref N.ki, .ref N.ru, .ref N.wi, .int N.tick, .ref bx] ∧ NIn C H N ∧ HrAt H N.ch ho hs ∧ H bx = some b.t ∧ b.lo ≤ b.hi ∧ b.dn ≤ b.up ∧ N.tick ≤ 1000000 ∧ Tabs TT H ∧
  (∀ l bs H', SameT TT H H' → H l = none → LoT H' l (bs.map Bx.li) → IsTube N hs b bs → Q (.ref l) H') ∧ ∀ c t d H', SameT TT H H' → H d = none → H' d = some (.xd (ctK c t)) → NoTube N hs b c t → E (.ref CE) (some d) H'
/-- the ticks of a window -/
def winAt (tot : Int) (bs : List Bx) : Nat := bs.findIdx fun b => decide (tot ≤ b.hi)
def spWindow (C : Addr) : Sp := fun vs H Q _ => ∃ (p r l : Addr) (D : CD) (ns : List Str) (t : Int) (bs : List Bx), vs = [.ref p, .int t, .ref l] ∧ PathAt C H p D ns r ∧ 2 ≤ ns.length ∧ ns.length ≤ 20 ∧ LoT H l (bs.map Bx.li) ∧ bs.length ≤ 1000 ∧ ∀ q H', H q = none → Same H H' → H' q = some (.tup [.int (t + (winAt (bg D ns (ns.length - 1)) bs : Nat)), .int (t + (bs.length : Nat))]) → Q (.ref q) H'
end Sk

set_option Elab.async false
set_option linter.all false
set_option maxRecDepth 100000
set_option maxHeartbeats 4000000
namespace Sk
open PySem PySem.Spec PyProof.Rows L2
/-! there is one tube, or one reason against it -/
theorem Bx.ext4 {x y : Bx} (h : x.lo = y.lo ∧ x.hi = y.hi ∧ x.dn = y.dn ∧ x.up = y.up) : x = y := by
  cases x; cases y
  obtain ⟨rfl, rfl, rfl, rfl⟩ := h
  rfl
section
variable {N : ND} {hs : List HQ} {b0 b b' : Bx} {bs bs' : List Bx} {c c' : Str} {t t' : Int}
theorem Chn.same (X : Chn N hs b0 bs b) (Y : Chn N hs b0 bs' b') : ∀ i, i ≤ bs.length → i ≤ bs'.length → (bs ++ [b])[i]? = (bs' ++ [b'])[i]?
  | 0, _, _ => X.hd.trans Y.hd.symm
  | i + 1, h1, h2 => by
    have ih := Chn.same X Y i (by omega) (by omega)
    obtain ⟨x, hx⟩ : ∃ x, (bs ++ [b])[i]? = some x := ⟨_, List.getElem?_eq_getElem (by rw [List.length_append]; show i < bs.length + 1; omega)⟩
    obtain ⟨y, hy⟩ : ∃ y, (bs ++ [b])[i + 1]? = some y := ⟨_, List.getElem?_eq_getElem (by rw [List.length_append]; show i + 1 < bs.length + 1; omega)⟩
    obtain ⟨z, hz⟩ : ∃ z, (bs' ++ [b'])[i + 1]? = some z := ⟨_, List.getElem?_eq_getElem (by rw [List.length_append]; show i + 1 < bs'.length + 1; omega)⟩
    have s1 := (X.st i x y hx hy).2.2
    have s2 := (Y.st i x z (ih ▸ hx) hz).2.2
    rw [hy, hz, Bx.ext4 (NextOf.uniq s1 s2)]
theorem app_at (i : Nat) (h : i < bs.length) : (bs ++ [b])[i]? = some bs[i] := by rw [List.getElem?_append_left h, List.getElem?_eq_getElem h]
theorem app_end : (bs ++ [b])[bs.length]? = some b := by rw [List.getElem?_append_right (Nat.le_refl _), Nat.sub_self]; rfl
/-- a chain that goes on where the other ends -/
theorem Chn.past (X : Chn N hs b0 bs b) (Y : Chn N hs b0 bs' b') (h : bs.length < bs'.length) : b.lo < N.tot ∧ codeB (N.at (N.tick + (bs.length : Int))) hs b = none := by
  have e := Chn.same X Y bs.length (Nat.le_refl _) (Nat.le_of_lt h)
  rw [app_end] at e
  obtain ⟨z, hz⟩ : ∃ z, (bs' ++ [b'])[bs.length + 1]? = some z := ⟨_, List.getElem?_eq_getElem (by rw [List.length_append]; show bs.length + 1 < bs'.length + 1; omega)⟩
  have s := Y.st bs.length b z e.symm hz
  exact ⟨s.1, s.2.1⟩
theorem Chn.ends (X : Chn N hs b0 bs b) (Y : Chn N hs b0 bs' b') (h : bs.length = bs'.length) : b = b' := by
  have e := Chn.same X Y bs.length (Nat.le_refl _) (by omega)
  rw [app_end, h, app_end] at e
  exact Option.some.inj e
theorem IsTube.uniq (X : IsTube N hs b0 bs) (Y : IsTube N hs b0 bs') : bs = bs' := by
  obtain ⟨b, cx, ex⟩ := X.ch
  obtain ⟨b', cy, ey⟩ := Y.ch
  have hl : bs.length = bs'.length := by
    rcases Nat.lt_trichotomy bs.length bs'.length with z | z | z
    · have := (Chn.past cx cy z).1; omega
    · exact z
    · have := (Chn.past cy cx z).1; omega
  refine List.ext_getElem hl fun i h1 h2 => ?_
  have e := Chn.same cx cy i (by omega) (by omega)
  rw [app_at i h1, app_at i h2] at e
  exact Option.some.inj e
theorem IsTube.no (X : IsTube N hs b0 bs) (Y : NoTube N hs b0 c t) : False := by
  rcases Y with ⟨ns, _⟩ | ⟨_, bs', b', cy, lt, et, r⟩
  · exact ns X.sp
  · obtain ⟨b, cx, ex⟩ := X.ch
    have n := X.n
    rcases Nat.lt_trichotomy bs.length bs'.length with z | z | z
    · have := (Chn.past cx cy z).1; omega
    · have := Chn.ends cx cy z
      subst this
      omega
    · have p := (Chn.past cy cx z).2
      rw [← et] at p
      rcases r with r | r
      · omega
      · rw [r.2] at p; cases p
theorem NoTube.uniq (X : NoTube N hs b0 c t) (Y : NoTube N hs b0 c' t') : c = c' ∧ t = t' := by
  rcases X with ⟨n1, e1, f1⟩ | ⟨s1, bs, b, cx, lx, ex, rx⟩ <;> rcases Y with ⟨n2, e2, f2⟩ | ⟨s2, bs', b', cy, ly, ey, ry⟩
  · exact ⟨e1.trans e2.symm, f1.trans f2.symm⟩
  · exact absurd s2 n1
  · exact absurd s1 n2
  · rcases Nat.lt_trichotomy bs.length bs'.length with z | z | z
    · have p := (Chn.past cx cy z).2
      rw [← ex] at p
      rcases rx with r | r
      · have : bs'.length ≤ 240 := by rcases ry with q | q <;> omega
        omega
      · rw [r.2] at p; cases p
    · have e := Chn.ends cx cy z
      subst e
      have et : t = t' := by rw [ex, ey, z]
      subst et
      refine ⟨?_, rfl⟩
      rcases rx with r | r <;> rcases ry with q | q
      · exact r.2.trans q.2.symm
      · omega
      · omega
      · exact Option.some.inj (r.2.symm.trans q.2)
    · have p := (Chn.past cy cx z).2
      rw [← ey] at p
      rcases ry with r | r
      · have : bs.length ≤ 240 := by rcases rx with q | q <;> omega
        omega
      · rw [r.2] at p; cases p
theorem boxB_code (h : boxB N hs b = some c) : c = "level" ∨ c = "shut" := by
  unfold boxB at h
  split at h
  · cases h
  · split at h
    · exact .inl (Option.some.inj h).symm
    · split at h
      · exact .inr (Option.some.inj h).symm
      · cases h
theorem codeB_code (h : codeB N hs b = some c) : c = "level" ∨ c = "shut" ∨ c = "slow" := by
  unfold codeB at h
  cases e : boxB N hs b with
  | some x =>
    rw [e] at h
    have := Option.some.inj h
    subst this
    rcases boxB_code e with z | z
    · exact .inl z
    · exact .inr (.inl z)
  | none =>
    rw [e] at h
    dsimp only at h
    split at h
    · exact .inr (.inr (Option.some.inj h).symm)
    · cases h
theorem NoTube.ok (X : NoTube N hs b0 c t) : sOk c := by
  have : c = "speed" ∨ c = "long" ∨ c = "level" ∨ c = "shut" ∨ c = "slow" := by
    rcases X with ⟨_, e, _⟩ | ⟨_, bs, b, _, _, _, r | r⟩
    · exact .inl e
    · exact .inr (.inl r.2)
    · exact .inr (.inr (codeB_code r.2))
  rcases this with rfl | rfl | rfl | rfl | rfl <;> decide +kernel
end
/-- what the law's own code tells of a box -/
def codeL (N : ND) (hs : List HQ) (b : Bx) (m : Nat) : Str := if m = 240 then "long" else (codeB N hs b).getD ""
def pdC (c : Str) (t : Int) : PyData := .tuple [.str c, .int t]
theorem can_ct {c : Str} {t : Int} (h : sOk c) : (pdC c t).canLay0 = true := by
  show (PyData.canLay0 (.str c) && (true && true)) = true
  have h1 : PyData.canLay0 (.str c) = true := h
  rw [h1]
  rfl
theorem dp_ct {K : PySem.W.Frag} {H : Hp} {q : Addr} {c : Str} {t : Int} (h : H q = some (.tup [.str c, .int t])) : Dp K H (.ref q) (pdC c t) := .tup (.inl (.inl h)) (.cons (.str _) (.cons (.int _) .nil))
theorem sh_ct {c : Str} {t : Int} (h : sOk c) : SeqAt.shaped (pdC c t) = true := sh_of (can_ct h) (by
  show PyData.depthAll _ + 1 ≤ 64
  have : PyData.depthAll [.str c, .int t] ≤ 1 := dpa fun x hx => by
    simp only [List.mem_cons, List.not_mem_nil, or_false] at hx
    rcases hx with rfl | rfl <;> exact Nat.zero_le _
  omega)
theorem two_low {a b x g m : Int} (ha : 1 ≤ a) (hab : a ≤ b) (h : m ∈ [tow x g a, tow x g b]) (hl : ∀ y ∈ [tow x g a, tow x g b], m ≤ y) : m = lowest a b x g := by
  have l1 := hl (tow x g a) (by simp)
  have l2 := hl (tow x g b) (by simp)
  have u1 := low_le (x := x) (y := x) (g := g) (r := a) ha hab (Int.le_refl _) (.inl rfl)
  have u2 := low_le (x := x) (y := x) (g := g) (r := b) ha hab (Int.le_refl _) (.inr rfl)
  have e : m = tow x g a ∨ m = tow x g b := by simpa using h
  rcases low_mem (a := a) (b := b) (x := x) (g := g) with z | z <;> rcases e with e | e <;> omega
theorem two_high {a b x g m : Int} (ha : 1 ≤ a) (hab : a ≤ b) (h : m ∈ [tow x g a, tow x g b]) (hl : ∀ y ∈ [tow x g a, tow x g b], y ≤ m) : m = highest a b x g := by
  have l1 := hl (tow x g a) (by simp)
  have l2 := hl (tow x g b) (by simp)
  have u1 := high_le (x := x) (y := x) (g := g) (r := a) ha hab (Int.le_refl _) (.inl rfl)
  have u2 := high_le (x := x) (y := x) (g := g) (r := b) ha hab (Int.le_refl _) (.inr rfl)
  have e : m = tow x g a ∨ m = tow x g b := by simpa using h
  rcases high_mem (a := a) (b := b) (x := x) (g := g) ha hab with z | z <;> rcases e with e | e <;> omega
/-! the fields of a caught error -/
structure ErrF (K : PySem.W.Frag) (C : Addr) (n m : Str) : Prop where
  xf : XfC K C
  a : PySem.W.findIn K (.ref C) n = some none
  b : PySem.W.findIn K (.ref C) m = some none
theorem LoT.row {H : Hp} {l : Addr} {c : Nat} {g : Nat → List Int} (L : LoT H l ((List.range c).map g)) : ∃ ps : List Addr, H l = some (.lst (ps.map V.ref)) ∧ ps.length = c ∧ ∀ (i : Nat) (y : V), (ps.map V.ref)[i]? = some y → ∃ p, y = .ref p ∧ i < c ∧ H p = some (.tup ((g i).map V.int)) := by
  obtain ⟨qs, h1, h2, h3⟩ := L
  have hl : qs.length = c := by
    have := congrArg List.length h3
    rw [List.length_map, List.length_map, List.length_range] at this
    exact this
  refine ⟨qs.map (·.1), by rw [List.map_map]; exact h1, by rw [List.length_map]; exact hl, fun i y hy => ?_⟩
  rw [List.map_map, List.getElem?_map] at hy
  cases e : qs[i]? with
  | none => rw [e] at hy; cases hy
  | some q =>
    rw [e] at hy
    have hi := (List.getElem?_eq_some_iff.mp e).1
    have e2 : (qs.map (·.2))[i]? = ((List.range c).map g)[i]? := by rw [h3]
    rw [List.getElem?_map, e, List.getElem?_map, List.getElem?_range (by omega)] at e2
    have e3 : q.2 = g i := Option.some.inj e2
    refine ⟨q.1, (Option.some.inj hy).symm, by omega, ?_⟩
    have := h2 q (List.mem_of_getElem? e)
    rw [e3] at this
    exact this
theorem NIn.lt0 {C : Addr} {H : Hp} {N : ND} (I : NIn C H N) (x : Int) : lat N.D N.ns (N.ns.length - 1 - 1) (if 0 > x then 0 else x) = N.lt x := by
  by_cases h : 0 > x
  · rw [if_pos h]
    have n2 := I.R.n2
    have e0 : lat N.D N.ns (N.ns.length - 1 - 1) 0 = 0 := lat_eq (Nat.zero_le _) (fun i hi => absurd hi (by omega)) fun h => by
      have b1 : bg N.D N.ns 0 + 1 ≤ bg N.D N.ns 1 := I.ps.lt (j := 0) (by omega)
      have b0 : bg N.D N.ns 0 = 0 := rfl
      show 0 < bg N.D N.ns 1
      omega
    have m := lat_mono N.D N.ns (N.ns.length - 1 - 1) (show x ≤ 0 by omega)
    rw [e0] at m ⊢
    exact (Nat.le_zero.mp m).symm
  · rw [if_neg h]
    rfl
theorem codeL_ne {N : ND} {hs : List HQ} {b : Bx} {m : Nat} (h : codeL N hs b m ≠ "") (hm : m ≤ 240) : (m = 240 ∧ codeL N hs b m = "long") ∨ (m < 240 ∧ codeB N hs b = some (codeL N hs b m)) := by
  unfold codeL at h ⊢
  by_cases e : m = 240
  · rw [if_pos e]; exact .inl ⟨e, rfl⟩
  · rw [if_neg e] at h ⊢
    refine .inr ⟨by omega, ?_⟩
    cases c : codeB N hs b with
    | none => rw [c] at h; exact absurd rfl h
    | some x => rfl
theorem codeL_nil {N : ND} {hs : List HQ} {b : Bx} {m : Nat} (h : codeL N hs b m = "") : m ≠ 240 ∧ codeB N hs b = none := by
  unfold codeL at h
  by_cases e : m = 240
  · rw [if_pos e] at h; exact absurd h (by decide)
  · rw [if_neg e] at h
    refine ⟨e, ?_⟩
    cases c : codeB N hs b with
    | none => rfl
    | some x =>
      rw [c] at h
      have hx : x = "" := h
      subst hx
      rcases codeB_code c with z | z | z <;> exact absurd z (by decide)
theorem LoT.box {H : Hp} {l : Addr} {bs : List Bx} (L : LoT H l (bs.map Bx.li)) : ∃ ps : List Addr, H l = some (.lst (ps.map V.ref)) ∧ ps.length = bs.length ∧ ∀ (i : Nat) (h : i < bs.length) (h' : i < ps.length), H ps[i] = some (bs[i]).t := by
  obtain ⟨qs, h1, h2, h3⟩ := L
  have ql : qs.length = bs.length := by
    have := congrArg List.length h3
    rw [List.length_map, List.length_map] at this
    exact this
  refine ⟨qs.map (·.1), by rw [List.map_map]; exact h1, by rw [List.length_map]; exact ql, fun i h h' => ?_⟩
  have hq : i < qs.length := by omega
  have eb : qs[i].2 = bs[i].li := by
    have e1 : (qs.map (·.2))[i]? = (bs.map Bx.li)[i]? := by rw [h3]
    rw [List.getElem?_map, List.getElem?_map, List.getElem?_eq_getElem hq, List.getElem?_eq_getElem h] at e1
    exact Option.some.inj e1
  have := h2 _ (List.getElem_mem hq)
  rw [eb] at this
  rw [List.getElem_map]
  exact this
theorem dcomm (a b : Str) : decide (a = b) = decide (b = a) := decide_eq_decide.mpr eq_comm
/-- what the law's own next box is made of -/
def nf0 (N : ND) (B : Bx) (fi j : Nat) : Int := (if fi + j = fi then B.lo else bg N.D N.ns (fi + j)) + N.lf (fi + j)
def nf1 (N : ND) (B : Bx) (fi la j : Nat) : Int := (if fi + j = la then B.hi else bg N.D N.ns (fi + j + 1) - 1) + N.hf (fi + j)
def nf2 (N : ND) (B : Bx) (fi j : Nat) : Int := lowest N.a N.b B.dn (N.af (fi + j))
def nf3 (N : ND) (B : Bx) (fi j : Nat) : Int := highest N.a N.b B.up (N.af (fi + j))
def ent (N : ND) (B : Bx) (fi la j : Nat) : List Int := [nf0 N B fi j, nf1 N B fi la j, nf2 N B fi j, nf3 N B fi j]
/-! promises -/
def spNextL (C : Addr) : Sp := fun vs H Q _ => ∃ (N : ND) (b bx : Addr) (B : Bx), vs = [.ref N.ch, .ref N.r, .ref b, .ref N.cs, .ref N.ki, .ref N.ru, .ref N.wi, .int N.tick, .ref bx] ∧ NIn C H N ∧ H b = some (.lst ((bgs N.D N.ns).map V.int)) ∧ H bx = some B.t ∧ B.lo ≤ B.hi ∧ B.dn ≤ B.up ∧
  ∀ q (B' : Bx) H', H q = none → Same H H' → H' q = some B'.t → N.nx B.lo B.hi B.dn B.up B'.lo B'.hi B'.dn B'.up → Q (.ref q) H'
def spCodeL (C : Addr) : Sp := fun vs H Q _ => ∃ (N : ND) (ho b bx : Addr) (hs : List HQ) (B : Bx) (m : Nat), vs = [.ref N.ch, .ref N.r, .ref b, .ref N.cs, .ref N.ru, .ref N.wi, .int N.tick, .ref bx, .int (m : Nat)] ∧ NIn C H N ∧ HrAt H N.ch ho hs ∧ H b = some (.lst ((bgs N.D N.ns).map V.int)) ∧ H bx = some B.t ∧ B.lo ≤ B.hi ∧ ∀ H', Same H H' → Q (.str (codeL N hs B m)) H'
def spTubeL (C : Addr) : Sp := fun vs H Q _ => ∃ (N : ND) (ho b bx : Addr) (hs : List HQ) (B : Bx), vs = [.ref N.ch, .ref N.r, .ref b, .ref N.cs, .ref N.ki, .ref N.ru, .ref N.wi, .int N.tick, .ref bx] ∧ NIn C H N ∧ HrAt H N.ch ho hs ∧ H b = some (.lst ((bgs N.D N.ns).map V.int)) ∧ H bx = some B.t ∧ B.lo ≤ B.hi ∧ B.dn ≤ B.up ∧
  (∀ l bs H', Same H H' → H l = none → LoT H' l (bs.map Bx.li) → IsTube N hs B bs → Q (.ref l) H') ∧ ∀ q c t H', Same H H' → H q = none → H' q = some (.tup [.str c, .int t]) → NoTube N hs B c t → Q (.ref q) H'
def spFound (C : Addr) (TT : List Addr) : Sp := fun vs H Q _ => ∃ (N : ND) (ho bx : Addr) (hs : List HQ) (B : Bx), vs = [.ref N.ch, .ref N.p, .ref N.cs, .ref N.ki, .ref N.ru, .ref N.wi, .int N.tick, .ref bx] ∧ NIn C H N ∧ HrAt H N.ch ho hs ∧ H bx = some B.t ∧ B.lo ≤ B.hi ∧ B.dn ≤ B.up ∧ N.tick ≤ 1000000 ∧ Tabs TT H ∧
  (∀ l bs H', SameT TT H H' → H l = none → LoT H' l (bs.map Bx.li) → IsTube N hs B bs → Q (.ref l) H') ∧ ∀ q c t H', SameT TT H H' → H q = none → H' q = some (.tup [.str c, .int t]) → NoTube N hs B c t → Q (.ref q) H'
def spWindowL : Sp := fun vs H Q _ => ∃ (b l : Addr) (D : CD) (ns : List Str) (t : Int) (bs : List Bx), vs = [.ref b, .int t, .ref l] ∧ H b = some (.lst ((bgs D ns).map V.int)) ∧ 2 ≤ ns.length ∧ ns.length ≤ 20 ∧ LoT H l (bs.map Bx.li) ∧ bs.length ≤ 1000 ∧ ∀ q H', H q = none → Same H H' → H' q = some (.tup [.int (t + (winAt (bg D ns (ns.length - 1)) bs : Nat)), .int (t + (bs.length : Nat))]) → Q (.ref q) H'
end Sk

set_option Elab.async false
set_option linter.all false
set_option maxRecDepth 100000
set_option maxHeartbeats 4000000
namespace Sk
open PySem PySem.Spec PyProof.Rows L2 NdefX
/-! routes that are checked, and loops put in -/
theorem nxL {D : Ends} {σ : L2.St} {H : Hp} (h : D.nx σ H) : tNext D σ H := h
/-- for i, x in enumerate(t) of a tuple -/
theorem for_enumT {K : PySem.W.Frag} {a : Addr} {xs : List V} {g : TG} {tb : TS} {D : Ends} {σ : L2.St} {H : Hp} (Pv : Nat → L2.St → Hp → Prop) (h0 : Pv 0 σ H) (hl : ∀ i σ H, i ≤ xs.length → Pv i σ H → SqT K H a xs)
    (hs : ∀ i x σ H T, xs[i]? = some x → H T = none → Pv i σ H → g (.ref T) σ (upd H T (.tup [.int (i : Nat), x])) fun σ2 H2 => tb { D with nx := Pv (i + 1), ct := Pv (i + 1), bk := D.nx } σ2 H2) (hd : ∀ σ H, Pv xs.length σ H → D.nx σ H) :
    ∃ W : Nat → Nat → L2.St → Hp → Prop, (∃ m, W 0 m σ H) ∧ ∀ i m σ H, W i m σ H →
      ((IteT K a).stop i H ∧ D.nx σ H) ∨ ((IteT K a).go i H ∧ ∃ N : L2.St → Hp → Prop, (∀ σ' H', N σ' H' → ∃ m', m' < m ∧ W (i + 1) m' σ' H') ∧ ∀ x H', (IteT K a).yld i H x H' → g x σ H' fun σ2 H2 => tb { D with nx := N, ct := N, bk := D.nx } σ2 H2) := by
  refine ⟨fun i m σ H => m = xs.length - i ∧ i ≤ xs.length ∧ Pv i σ H, ⟨xs.length, by simp, Nat.zero_le _, h0⟩, ?_⟩
  rintro i m σ H ⟨rfl, hi, p⟩
  have q := hl i σ H hi p
  by_cases hlt : i < xs.length
  · refine .inr ⟨⟨xs, xs[i], q, by simp [hlt]⟩, Pv (i + 1), fun σ' H' p' => ⟨xs.length - (i + 1), by omega, rfl, hlt, p'⟩, fun x H' y => ?_⟩
    obtain ⟨T, x, rfl, hT, rfl, y⟩ := y
    exact hs i x σ H T (y xs q) hT p
  · obtain rfl : i = xs.length := by omega
    exact .inl ⟨⟨xs, q, rfl⟩, hd σ H p⟩
/-! an own error with code and index -/
def ciK (s : Str) (t : Int) : List (Str × V) := [("index", .int t), ("code", .str s)]
def spCErrR (C : Addr) : Sp := fun vs H Q _ => ∃ (a : Addr) (s : Str) (t : Int), vs = [.ref a, .str s, .int t] ∧ H a = some (exo a C none) ∧ s.length ≤ 1000 ∧ t.natAbs < 2 ^ 250 ∧
  ∀ dx, H dx = none → dx ≠ a → Q .non (upd (upd (upd H dx (exd dx [("code", .str s)])) a (exo a C (some dx))) dx (exd dx (ciK s t)))
theorem err_heapR {H : Hp} {a dx C : Addr} {s : Str} {t : Int} (ha : H a = none) (hd : H dx = none) (n : dx ≠ a) :
    upd (del (upd (upd (upd (upd H a (exo a C none)) dx (exd dx [("code", .str s)])) a (exo a C (some dx))) dx (exd dx (ciK s t))) a) dx (.xd (ciK s t)) = upd H dx (.xd (ciK s t)) := by
  funext b
  by_cases h1 : b = dx
  · rw [h1, upd_same, upd_same]
  · rw [upd_ne h1, upd_ne h1]
    by_cases h2 : b = a
    · rw [h2, del_same, ha]
    · rw [del_ne h2, upd_ne h1, upd_ne h2, upd_ne h1, upd_ne h2]
section
variable {X : Cx} {k : Nat} {x : Str} {C : Addr} {p pos pos2 : Pos} {e1 e2 : Expr} {ta : TA} {W : WX}
/-- raise C(code, index) -/
def tRaiseR (C : Addr) (W : WX) (ta : TA) : TS := fun _ σ H => ta σ H fun vs H1 => ∃ (s : Str) (t : Int), vs = [.str s, .int t] ∧ s.length ≤ 1000 ∧ t.natAbs < 2 ^ 250 ∧ ∀ d, H1 d = none → W (.ref C) (some d) σ (upd H1 d (.xd (ciK s t)))
theorem tMk_ofR {σ : L2.St} {H : Hp} {Q : XK} (mono : ∀ σ H (R R' : List V → Hp → Prop), (∀ vs H, R vs H → R' vs H) → ta σ H R → ta σ H R') (h : ta σ H fun vs H1 => ∃ (s : Str) (t : Int), vs = [.str s, .int t] ∧ s.length ≤ 1000 ∧ t.natAbs < 2 ^ 250 ∧ ∀ d, H1 d = none → Q (.ref C) (some d) (upd H1 d (.xd (ciK s t)))) : tMkO C (spCErrR C) [] ta σ H Q := by
  refine mono _ _ _ _ (fun vs H1 ⟨s, t, ev, hs, ht, q⟩ => ?_) h
  subst ev
  refine ⟨(by show 2 ≤ 1000; decide), fun a ha => ⟨a, s, t, rfl, upd_same, hs, ht, fun dx hdx n => ?_⟩⟩
  have hd1 : H1 dx = none := by rw [upd_ne n] at hdx; exact hdx
  refine ⟨rfl, dx, ciK s t, ?_, upd_same, hd1, ?_⟩
  · rw [upd_ne (Ne.symm n), upd_same]
  · rw [err_heapR ha hd1 n]
    exact q dx hd1
theorem ps_raiseR {te1 te2 : TE} (hc : X.calm = true) (D : ErrD X.prog X.w X.K X.mg X.base k x C ["self", "code", "index"] (spCErrR C)) (hr : Room (k + 1) X.A) (tk : Takes X W) (hg : Gl X x) (h1 : PE X e1 te1) (h2 : PE X e2 te2)
    (m1 : ∀ σ H (R R' : VK), (∀ v H, R v H → R' v H) → te1 σ H R → te1 σ H R') (m2 : ∀ σ H (R R' : VK), (∀ v H, R v H → R' v H) → te2 σ H R → te2 σ H R') (hdb : (x == ("__debug__" : Str)) = false := by decide)
    (he : starEach (e1 :: [e2]) X.env = (false, eval e1 X.env) :: starEach [e2] X.env := by rfl) (he2 : starEach (e2 :: []) X.env = (false, eval e2 X.env) :: starEach [] X.env := by rfl) (hpl : (backTo pos (starEach [e2] X.env)).any (·.1) = false := by rfl) :
    PS X (.Raise (some (.Call (.Name x p) (e1 :: [e2]) [] pos)) none pos2) (tRaiseR C W (tCons te1 (tCons te2 tNil))) := by
  have q := ps_raise (pos := pos2) hc tk (pmk_err (p := p) (pos := pos) D hr hg (pa_cons h1 (pa_cons h2 pa_nil he2) he) hdb he hpl)
  refine ⟨fun pins s σ H Dn I h => q.run pins s σ H Dn I ?_⟩
  exact tMk_ofR (fun σ H R R' im z => m1 _ _ _ _ (fun v H1 z => m2 _ _ _ _ (fun v2 H2 z => im _ _ z) z) z) h
end
/-! what is wrong with a route -/
def badI (D : CD) (ns : List Str) : Option Nat := (List.range (ns.length - 1)).find? fun k => (D.leg (rn ns k) (rn ns (k + 1))).isNone
def flaw (D : CD) (ns : List Str) : Option (Str × Int) := if 2 ≤ ns.length ∧ ns.length ≤ 16 then Option.map (fun k : Nat => (("leg" : Str), (k : Int))) (badI D ns) else some (("size" : Str), (0 : Int))
theorem find_rg {p : Nat → Bool} {m i : Nat} (hi : i < m) (hp : p i = true) (hb : ∀ k, k < i → p k = false) : (List.range m).find? p = some i := by
  refine List.find?_eq_some_iff_append.mpr ⟨hp, List.range i, (List.range (m - (i + 1))).map (fun x => i + 1 + x), ?_, fun a ha => by rw [hb a (List.mem_range.mp ha)]; rfl⟩
  rw [show m = i + (1 + (m - (i + 1))) by omega, List.range_add, List.range_add]
  congr 1
  rw [show i + (1 + (m - (i + 1))) - (i + 1) = m - (i + 1) by omega]
  simp [List.map_map, Function.comp_def, List.range_succ_eq_map, Nat.add_assoc]
theorem find_rg_none {p : Nat → Bool} {m : Nat} (hb : ∀ k, k < m → p k = false) : (List.range m).find? p = none := List.find?_eq_none.mpr fun k hk => by
  rw [hb k (List.mem_range.mp hk)]
  decide
theorem flaw_none {D : CD} {ns : List Str} : flaw D ns = none ↔ 2 ≤ ns.length ∧ ns.length ≤ 16 ∧ Chain D ns := by
  unfold flaw
  split
  · rename_i h
    rw [Option.map_eq_none_iff]
    unfold badI
    rw [List.find?_eq_none]
    constructor
    · intro q
      refine ⟨h.1, h.2, fun j hj => ?_⟩
      have := q j (List.mem_range.mpr (by omega))
      cases e : D.leg (rn ns j) (rn ns (j + 1)) with
      | some l => exact ⟨l, rfl⟩
      | none => rw [e] at this; exact absurd rfl this
    · rintro ⟨_, _, c⟩ k hk
      have hk := List.mem_range.mp hk
      obtain ⟨l, e⟩ := c k (by omega)
      rw [e]
      exact Bool.false_ne_true
  · rename_i h
    constructor
    · intro z; cases z
    · rintro ⟨a, b, _⟩
      exact absurd ⟨a, b⟩ h
theorem flaw_leg {D : CD} {ns : List Str} {k : Nat} (h : 2 ≤ ns.length ∧ ns.length ≤ 16) (hk : k + 1 < ns.length) (hn : D.leg (rn ns k) (rn ns (k + 1)) = none) (hb : ∀ j, j < k → ∃ l, D.leg (rn ns j) (rn ns (j + 1)) = some l) : flaw D ns = some (("leg" : Str), (k : Int)) := by
  unfold flaw badI
  rw [if_pos h, find_rg (i := k) (by omega) (by rw [hn]; rfl) (fun j hj => by obtain ⟨l, e⟩ := hb j hj; rw [e]; rfl)]
  rfl
theorem flaw_size {D : CD} {ns : List Str} (h : ¬ (2 ≤ ns.length ∧ ns.length ≤ 16)) : flaw D ns = some (("size" : Str), (0 : Int)) := by
  unfold flaw
  rw [if_neg h]
/-- a flaw as it is told -/
def FlawP (H : Hp) (v : V) : Option (Str × Int) → Prop
  | none => v = .non
  | some z => ∃ q, v = .ref q ∧ H q = some (.tup [.str z.1, .int z.2])
def pdF : Option (Str × Int) → PyData
  | none => .none
  | some z => .tuple [.str z.1, .int z.2]
theorem FlawP.dp {K : PySem.W.Frag} {H : Hp} {v : V} {o : Option (Str × Int)} (h : FlawP H v o) : Dp K H v (pdF o) := by
  cases o with
  | none =>
    have h : v = .non := h
    rw [h]
    exact .non
  | some z =>
    obtain ⟨q, rfl, hq⟩ := h
    exact .tup (.inl (.inl hq)) (.cons (.str _) (.cons (.int _) .nil))
theorem FlawP.same {H H' : Hp} {v : V} {o : Option (Str × Int)} (h : FlawP H v o) (s : Same H H') : FlawP H' v o := by
  cases o with
  | none => exact h
  | some z =>
    obtain ⟨q, rfl, hq⟩ := h
    exact ⟨q, rfl, s _ _ hq⟩
theorem flaw_ok {D : CD} {ns : List Str} {z : Str × Int} (h : flaw D ns = some z) : sOk z.1 := by
  unfold flaw at h
  split at h
  · cases e : badI D ns with
    | none => rw [e] at h; cases h
    | some k =>
      rw [e] at h
      rw [← Option.some.inj h]
      show sOk "leg"
      decide +kernel
  · rw [← Option.some.inj h]
    show sOk "size"
    decide +kernel
theorem can_flaw (D : CD) (ns : List Str) : (pdF (flaw D ns)).canLay0 = true := by
  cases e : flaw D ns with
  | none => rfl
  | some z =>
    have h := flaw_ok e
    show (PyData.canLay0 (.str z.1) && (true && true)) = true
    rw [show PyData.canLay0 (.str z.1) = true from h]
    rfl
theorem sh_flaw (D : CD) (ns : List Str) : SeqAt.shaped (pdF (flaw D ns)) = true := sh_of (can_flaw D ns) (by
  cases flaw D ns with
  | none => decide
  | some z => exact Nat.le_of_ble_eq_true (show Nat.ble (PyData.depth (.tuple [.str z.1, .int z.2])) 64 = true from rfl))
/-! the holds of a chart -/
def HoldV (D : CD) (hv : List (Key × V)) : Prop := ∀ (s : Str) v, valV hv (.inr s) = some v → ∃ t, v = .str t ∧ sOk t ∧ (∃ l, D.leg s t = some l) ∧ ∃ l, D.leg t s = some l
structure HoldAt (H : Hp) (ch : Addr) (D : CD) (hd : Addr) (hv : List (Key × V)) : Prop where
  ch : ∃ kvs, H ch = some (.dK kvs) ∧ valV kvs (.inr "holds") = some (.ref hd)
  hd : H hd = some (.dK hv)
  ok : HoldV D hv
section
variable {H H' : Hp} {ch hd : Addr} {D : CD} {hv : List (Key × V)}
theorem HoldAt.same (h : HoldAt H ch D hd hv) (s : Same H H') : HoldAt H' ch D hd hv := ⟨let ⟨kvs, a, b⟩ := h.ch; ⟨kvs, s _ _ a, b⟩, s _ _ h.hd, h.ok⟩
theorem HoldAt.keep {d : Addr} (h : HoldAt H ch D hd hv) (k : Keep d H H') (n1 : ch ≠ d) (n2 : hd ≠ d) : HoldAt H' ch D hd hv := ⟨let ⟨kvs, a, b⟩ := h.ch; ⟨kvs, k _ _ a n1, b⟩, k _ _ h.hd n2, h.ok⟩
theorem HoldAt.st {T : List Addr} (h : HoldAt H ch D hd hv) (s : SameT T H H') (t : Tabs T H) : HoldAt H' ch D hd hv := ⟨let ⟨kvs, a, b⟩ := h.ch; ⟨kvs, s.d t a, b⟩, s.d t h.hd, h.ok⟩
theorem HoldAt.gh (h : HoldAt H ch D hd hv) : DGet H ch (.str "holds") (some (.ref hd)) := let ⟨_, a, b⟩ := h.ch; b ▸ DGet.k (k := .inr "holds") a
theorem HoldAt.g (h : HoldAt H ch D hd hv) (s : Str) : DGet H hd (.str s) (valV hv (.inr s)) := DGet.k (k := .inr s) h.hd
end
/-- the partner of the first fix that has one -/
def holdOf (hv : List (Key × V)) (s : Str) : Option Str := match valV hv (.inr s) with
  | some (.str t) => some t
  | _ => none
def firstHold (hv : List (Key × V)) (ns : List Str) : Option Nat := (List.range (ns.length - 1)).find? fun k => (valV hv (.inr (rn ns k))).isSome
def looped (ns : List Str) (k : Nat) (t : Str) (m : Nat) : List Str := ns.take (k + 1) ++ (List.replicate m [t, rn ns k]).flatten ++ ns.drop (k + 1)
/-- what loops make of a route: names, or a code -/
def loopR (hv : List (Key × V)) (ns : List Str) (m : Nat) : Sum Str (List Str) :=
  if m = 0 then .inr ns else match firstHold hv ns with
  | none => .inl "hold"
  | some k => if 16 < ns.length + 2 * m then .inl "size" else .inr (looped ns k ((holdOf hv (rn ns k)).getD "") m)
theorem firstHold_at {hv : List (Key × V)} {ns : List Str} {k : Nat} {v : V} (hk : k + 1 < ns.length) (h : valV hv (.inr (rn ns k)) = some v) (hb : ∀ j, j < k → valV hv (.inr (rn ns j)) = none) : firstHold hv ns = some k := by
  unfold firstHold
  exact find_rg (by omega) (by rw [h]; rfl) (fun j hj => by rw [hb j hj]; rfl)
theorem firstHold_none {hv : List (Key × V)} {ns : List Str} (hb : ∀ j, j + 1 < ns.length → valV hv (.inr (rn ns j)) = none) : firstHold hv ns = none := by
  unfold firstHold
  exact find_rg_none fun j hj => by rw [hb j (by omega)]; rfl
theorem loopR_hold {hv : List (Key × V)} {ns : List Str} {m : Nat} (h0 : m ≠ 0) (hb : ∀ j, j + 1 < ns.length → valV hv (.inr (rn ns j)) = none) : loopR hv ns m = .inl "hold" := by
  unfold loopR
  rw [if_neg h0, firstHold_none hb]
theorem loopR_at {hv : List (Key × V)} {ns : List Str} {m k : Nat} {t : Str} (h0 : m ≠ 0) (hk : k + 1 < ns.length) (h : valV hv (.inr (rn ns k)) = some (.str t)) (hb : ∀ j, j < k → valV hv (.inr (rn ns j)) = none) : loopR hv ns m = if 16 < ns.length + 2 * m then .inl "size" else .inr (looped ns k t m) := by
  unfold loopR holdOf
  rw [if_neg h0, firstHold_at hk h hb]
  dsimp only
  rw [h]
  rfl
theorem loopR_zero {hv : List (Key × V)} {ns : List Str} : loopR hv ns 0 = .inr ns := rfl
/-- legs along a list -/
def chL (D : CD) : List Str → Prop
  | [] => True
  | [_] => True
  | a :: b :: l => (∃ q, D.leg a b = some q) ∧ chL D (b :: l)
theorem rn_cons (a : Str) (l : List Str) (k : Nat) : rn (a :: l) (k + 1) = rn l k := by
  unfold rn
  simp
theorem chL_iff {D : CD} : ∀ {l : List Str}, chL D l ↔ Chain D l
  | [] => ⟨fun _ j hj => by simp at hj, fun _ => True.intro⟩
  | [a] => ⟨fun _ j hj => by simp at hj, fun _ => True.intro⟩
  | a :: b :: l => by
    have ih := chL_iff (D := D) (l := b :: l)
    constructor
    · rintro ⟨h1, h2⟩ j hj
      cases j with
      | zero => exact h1
      | succ j =>
        rw [rn_cons, rn_cons]
        exact ih.mp h2 j (by simp only [List.length_cons] at hj ⊢; omega)
    · intro h
      refine ⟨h 0 (by simp), ih.mpr fun j hj => ?_⟩
      have := h (j + 1) (by simp only [List.length_cons] at hj ⊢; omega)
      rw [rn_cons, rn_cons] at this
      exact this
theorem chL_ins {D : CD} {f t : Str} {rest : List Str} (h1 : ∃ q, D.leg f t = some q) (h2 : ∃ q, D.leg t f = some q) : ∀ {xs : List Str}, chL D (xs ++ f :: rest) → chL D (xs ++ f :: t :: f :: rest)
  | [], h => ⟨h1, h2, h⟩
  | [a], h => ⟨h.1, chL_ins h1 h2 (xs := []) h.2⟩
  | a :: b :: xs, h => ⟨h.1, chL_ins h1 h2 (xs := b :: xs) h.2⟩
theorem looped_zero (ns : List Str) (k : Nat) (t : Str) : looped ns k t 0 = ns := by
  unfold looped
  simp
theorem take_rn {ns : List Str} {k : Nat} (hk : k < ns.length) : ns.take (k + 1) = ns.take k ++ [rn ns k] := by
  rw [List.take_add_one, List.getElem?_eq_getElem hk]
  unfold rn
  simp [hk]
theorem looped_succ {ns : List Str} {k : Nat} (hk : k < ns.length) (t : Str) (m : Nat) : ∃ rest, looped ns k t m = ns.take k ++ rn ns k :: rest ∧ looped ns k t (m + 1) = ns.take k ++ rn ns k :: t :: rn ns k :: rest := by
  refine ⟨(List.replicate m [t, rn ns k]).flatten ++ ns.drop (k + 1), ?_, ?_⟩
  · unfold looped
    rw [take_rn hk]
    simp
  · unfold looped
    rw [take_rn hk, List.replicate_succ, List.flatten_cons]
    simp
theorem looped_ch {D : CD} {ns : List Str} {k : Nat} (hk : k < ns.length) {t : Str} (h1 : ∃ q, D.leg (rn ns k) t = some q) (h2 : ∃ q, D.leg t (rn ns k) = some q) (hc : Chain D ns) : ∀ m, chL D (looped ns k t m)
  | 0 => by rw [looped_zero]; exact chL_iff.mpr hc
  | m + 1 => by
    obtain ⟨rest, e1, e2⟩ := looped_succ hk t m
    have ih := looped_ch hk h1 h2 hc m
    rw [e1] at ih
    rw [e2]
    exact chL_ins h1 h2 ih
theorem looped_len {ns : List Str} {k : Nat} (hk : k < ns.length) (t : Str) (m : Nat) : (looped ns k t m).length = ns.length + 2 * m := by
  induction m with
  | zero => rw [looped_zero]; omega
  | succ m ih =>
    obtain ⟨rest, e1, e2⟩ := looped_succ hk t m
    rw [e1, List.length_append, List.length_cons] at ih
    rw [e2, List.length_append, List.length_cons, List.length_cons, List.length_cons]
    omega
theorem looped_mem {ns : List Str} {k : Nat} (hk : k < ns.length) {t : Str} (m : Nat) {x : Str} (h : x ∈ looped ns k t m) : x ∈ ns ∨ x = t := by
  induction m with
  | zero => rw [looped_zero] at h; exact .inl h
  | succ m ih =>
    obtain ⟨rest, e1, e2⟩ := looped_succ hk t m
    rw [e1] at ih
    rw [e2] at h
    simp only [List.mem_append, List.mem_cons] at h ih
    have hr : rn ns k ∈ ns := by
      have : rn ns k = ns[k] := by unfold rn; simp [hk]
      rw [this]
      exact List.getElem_mem hk
    rcases h with h | rfl | rfl | rfl | h
    · exact ih (.inl h)
    · exact .inl hr
    · exact .inr rfl
    · exact .inl hr
    · exact ih (.inr (.inr h))
/-- a looped route is a route again -/
theorem loopR_ok {D : CD} {hv : List (Key × V)} {ns ls : List Str} {m : Nat} (V' : HoldV D hv) (h : flaw D ns = none) (e : loopR hv ns m = .inr ls) : flaw D ls = none := by
  obtain ⟨n2, n16, c⟩ := flaw_none.mp h
  unfold loopR at e
  split at e
  · rw [← Sum.inr.inj e]; exact h
  · split at e
    · cases e
    · rename_i h0 _ k hk
      split at e
      · cases e
      · rename_i hs
        have e := Sum.inr.inj e
        subst e
        have hp := List.find?_some hk
        have hm := List.mem_range.mp (List.mem_of_find?_eq_some hk)
        cases ev : valV hv (.inr (rn ns k)) with
        | none => rw [ev] at hp; cases hp
        | some v =>
          obtain ⟨t, rfl, _, l1, l2⟩ := V' _ _ ev
          have et : (holdOf hv (rn ns k)).getD "" = t := by unfold holdOf; rw [ev]; rfl
          rw [et]
          have hl := looped_len (show k < ns.length by omega) t m
          exact flaw_none.mpr ⟨by omega, by omega, chL_iff.mp (looped_ch (by omega) l1 l2 c m)⟩
theorem loopR_sok {D : CD} {hv : List (Key × V)} {ns ls : List Str} {m : Nat} (V' : HoldV D hv) (h : ∀ n ∈ ns, sOk n) (e : loopR hv ns m = .inr ls) : ∀ n ∈ ls, sOk n := by
  unfold loopR at e
  split at e
  · rw [← Sum.inr.inj e]; exact h
  · split at e
    · cases e
    · rename_i h0 _ k hk
      split at e
      · cases e
      · have e := Sum.inr.inj e
        subst e
        have hp := List.find?_some hk
        have hm := List.mem_range.mp (List.mem_of_find?_eq_some hk)
        cases ev : valV hv (.inr (rn ns k)) with
        | none => rw [ev] at hp; cases hp
        | some v =>
          obtain ⟨t, rfl, ht, _, _⟩ := V' _ _ ev
          have et : (holdOf hv (rn ns k)).getD "" = t := by unfold holdOf; rw [ev]; rfl
          rw [et]
          intro n hn
          rcases looped_mem (by omega) m hn with hn | rfl
          · exact h n hn
          · exact ht
theorem loopR_code {hv : List (Key × V)} {ns : List Str} {m : Nat} {c : Str} (e : loopR hv ns m = .inl c) : sOk c := by
  unfold loopR at e
  split at e
  · cases e
  · split at e
    · rw [← Sum.inl.inj e]; decide +kernel
    · split at e
      · rw [← Sum.inl.inj e]; decide +kernel
      · cases e
theorem dpa_str {K : PySem.W.Frag} {H : Hp} : ∀ (ls : List Str), DpAll K H (ls.map V.str) (ls.map PyData.str)
  | [] => .nil
  | x :: ls => .cons (.str x) (dpa_str ls)
theorem dp_str {K : PySem.W.Frag} {H : Hp} {q : Addr} {ls : List Str} (h : SqT K H q (ls.map V.str)) : Dp K H (.ref q) (.tuple (ls.map PyData.str)) := .tup h (dpa_str ls)
/-- the answer as it is told -/
def LoopP (H : Hp) (q : Addr) : Sum Str (List Str) → Prop
  | .inr ls => H q = some (.tup (ls.map V.str))
  | .inl c => H q = some (.tup [.str "error", .str c, .int 0])
def pdLo : Sum Str (List Str) → PyData
  | .inr ls => .tuple (ls.map PyData.str)
  | .inl c => .tuple [.str "error", .str c, .int 0]
theorem LoopP.same {H H' : Hp} {q : Addr} {o : Sum Str (List Str)} (h : LoopP H q o) (s : Same H H') : LoopP H' q o := by
  cases o with
  | inl c => exact s _ _ h
  | inr ls => exact s _ _ h
theorem LoopP.dp {K : PySem.W.Frag} {H : Hp} {q : Addr} {o : Sum Str (List Str)} (h : LoopP H q o) : Dp K H (.ref q) (pdLo o) := by
  cases o with
  | inl c => exact .tup (.inl (.inl h)) (.cons (.str _) (.cons (.str _) (.cons (.int _) .nil)))
  | inr ls => exact dp_str (.inl (.inl h))
/-! promises -/
def spCheckRt (C : Addr) : Sp := fun vs H Q E => ∃ (ch r : Addr) (D : CD) (ns : List Str), vs = [.ref ch, .ref r] ∧ ChartAt H ch D ∧ H r = some (.tup (ns.map V.str)) ∧ ns.length ≤ 1000 ∧ (flaw D ns = none → Q .non H) ∧ ∀ c i d, flaw D ns = some (c, i) → H d = none → E (.ref C) (some d) (upd H d (.xd (ciK c i)))
def spRtLen (TT : List Addr) : Sp := fun vs H Q _ => ∃ (ch r : Addr) (D : CD) (ns : List Str), vs = [.ref ch, .ref r] ∧ ChartAt H ch D ∧ H r = some (.tup (ns.map V.str)) ∧ Route D ns ∧ Tabs TT H ∧ ∀ H', SameT TT H H' → Q (.int (bg D ns (ns.length - 1))) H'
def spRtLenL : Sp := fun vs H Q _ => ∃ (ld r : Addr) (D : CD) (ns : List Str), vs = [.ref ld, .ref r] ∧ LenAt H ld D ∧ Bd D ∧ H r = some (.tup (ns.map V.str)) ∧ Route D ns ∧ ∀ H', Same H H' → Q (.int (bg D ns (ns.length - 1))) H'
def spLooped (C : Addr) : Sp := fun vs H Q E => ∃ (r lp : Addr) (ns ls : List Str) (k : Nat) (z : Int), vs = [.ref r, .int z, .ref lp] ∧ z = (k : Int) ∧ H r = some (.tup (ns.map V.str)) ∧ H lp = some (.tup (ls.map V.str)) ∧ k + 1 < ns.length ∧ ns.length ≤ 1000 ∧ ls.length ≤ 1000 ∧ ls ≠ [] ∧
  (ns.length + ls.length ≤ 16 → ∀ q H', Same H H' → H' q = some (.tup ((ns.take (k + 1) ++ ls ++ ns.drop (k + 1)).map V.str)) → Q (.ref q) H') ∧ (16 < ns.length + ls.length → ∀ d, H d = none → E (.ref C) (some d) (upd H d (.xd (ciK "size" 0))))
def spWithLoops (C : Addr) : Sp := fun vs H Q E => ∃ (ch r hd : Addr) (D : CD) (hv : List (Key × V)) (ns : List Str) (m : Nat) (z : Int), vs = [.ref ch, .ref r, .int z] ∧ z = (m : Int) ∧ m ≤ 100 ∧ HoldAt H ch D hd hv ∧ H r = some (.tup (ns.map V.str)) ∧ 2 ≤ ns.length ∧ ns.length ≤ 16 ∧
  (∀ ls q H', loopR hv ns m = .inr ls → Same H H' → LoopP H' q (.inr ls) → Q (.ref q) H') ∧ ∀ c d H', loopR hv ns m = .inl c → Same H H' → H d = none → H' d = some (.xd (ciK c 0)) → E (.ref C) (some d) H'
def spFlawL : Sp := fun vs H Q _ => ∃ (ch r : Addr) (D : CD) (ns : List Str), vs = [.ref ch, .ref r] ∧ ChartAt H ch D ∧ H r = some (.tup (ns.map V.str)) ∧ ns.length ≤ 1000 ∧ ∀ v H', Same H H' → FlawP H' v (flaw D ns) → Q v H'
def spLoopL : Sp := fun vs H Q _ => ∃ (ch r hd : Addr) (D : CD) (hv : List (Key × V)) (ns : List Str) (m : Nat) (z : Int), vs = [.ref ch, .ref r, .int z] ∧ z = (m : Int) ∧ m ≤ 100 ∧ HoldAt H ch D hd hv ∧ H r = some (.tup (ns.map V.str)) ∧ 2 ≤ ns.length ∧ ns.length ≤ 16 ∧ ∀ q H', Same H H' → LoopP H' q (loopR hv ns m) → Q (.ref q) H'
def spWalk8 (K : PySem.W.Frag) : Sp := fun vs H Q _ => ∃ (d c ch : Addr) (D : CD) (m : Int) (ks : List Str), vs = [.ref d, .ref ch, .int m] ∧ St1 K H d c ∧ ChartAt H ch D ∧ ch ≠ d ∧ D.fx ≠ d ∧ H D.lg ≠ none ∧ D.fs.map (·.1) = ks.map Sum.inr ∧ ks ≠ [] ∧ ks.length ≤ 7 ∧ (∀ n ∈ ks, sOk n) ∧ 1 ≤ m ∧ m ≤ 17 ∧
  ∀ (ns : List Str) r H', (∀ n ∈ ns, sOk n) → ns.length ≤ 20 → H' r = some (.tup (ns.map V.str)) → St1 K H' d c → Keep d H H' → Q (.ref r) H'
end Sk
namespace Sk
open PySem PySem.Spec PyProof.Rows L2
/-! cuts of a tuple -/
theorem cut_init {α : Type} (f : α → V) {ns : List α} (h : 1 ≤ ns.length) : cutV (ns.map f) none (some (-1)) = (ns.take (ns.length - 1)).map f := by
  unfold cutV
  have e : HT.sIx ns.length ns.length (some (-1)) = ns.length - 1 := by
    show (if (-1 : Int) < 0 then ((-1 : Int) + (ns.length : Int)).toNat else min (-1 : Int).toNat ns.length) = ns.length - 1
    rw [if_pos (by decide)]
    omega
  rw [List.length_map, e, show HT.sIx ns.length 0 none = 0 from rfl, List.drop_zero, Nat.sub_zero, List.map_take]
theorem cut_take {α : Type} (f : α → V) {ns : List α} {k : Nat} {z : Int} (hz : z = (k : Int)) (h : k ≤ ns.length) : cutV (ns.map f) none (some z) = (ns.take k).map f := by
  subst hz
  unfold cutV
  rw [List.length_map, HT.sIx_nat, show HT.sIx ns.length 0 none = 0 from rfl, List.drop_zero, Nat.sub_zero, List.map_take, Nat.min_eq_left h]
theorem cut_drop {α : Type} (f : α → V) {ns : List α} {k : Nat} {z : Int} (hz : z = (k : Int)) (h : k ≤ ns.length) : cutV (ns.map f) (some z) none = (ns.drop k).map f := by
  subst hz
  unfold cutV
  rw [List.length_map, HT.sIx_nat, show HT.sIx ns.length ns.length none = ns.length from rfl, Nat.min_eq_left h, List.map_drop, List.take_of_length_le]
  rw [List.length_drop, List.length_map]
  exact Nat.le_refl _
theorem nw_init {n : Nat} (h : 1 ≤ n) : ¬ (HT.sIx n 0 none = 0 ∧ HT.sIx n n (some (-1)) = n) := by
  rintro ⟨_, e⟩
  have e : (if (-1 : Int) < 0 then ((-1 : Int) + (n : Int)).toNat else min (-1 : Int).toNat n) = n := e
  rw [if_pos (by decide)] at e
  omega
theorem nw_take {n k : Nat} {z : Int} (hz : z = (k : Int)) (h : k < n) : ¬ (HT.sIx n 0 none = 0 ∧ HT.sIx n n (some z) = n) := by
  subst hz
  rw [HT.sIx_nat]
  rintro ⟨_, e⟩
  omega
theorem nw_drop {n k : Nat} {z : Int} (hz : z = (k : Int)) (h : 1 ≤ k) (h1 : 1 ≤ n) : ¬ (HT.sIx n 0 (some z) = 0 ∧ HT.sIx n n none = n) := by
  subst hz
  rw [HT.sIx_nat]
  rintro ⟨e, _⟩
  omega
end Sk

set_option Elab.async false
set_option linter.all false
set_option maxRecDepth 100000
set_option maxHeartbeats 4000000
namespace Sk
open PySem PySem.Spec PyProof.Rows L2 NdefX
/-! own errors with one field, code -/
def cdK (s : Str) : List (Str × V) := [("code", .str s)]
def spCErr1 (C : Addr) : Sp := fun vs H Q _ => ∃ (a : Addr) (s : Str), vs = [.ref a, .str s] ∧ H a = some (exo a C none) ∧ s.length ≤ 1000 ∧
  ∀ dx, H dx = none → dx ≠ a → Q .non (upd (upd H dx (exd dx (cdK s))) a (exo a C (some dx)))
theorem err_heap1 {H : Hp} {a dx C : Addr} {s : Str} (ha : H a = none) (hd : H dx = none) (n : dx ≠ a) :
    upd (del (upd (upd (upd H a (exo a C none)) dx (exd dx (cdK s))) a (exo a C (some dx))) a) dx (.xd (cdK s)) = upd H dx (.xd (cdK s)) := by
  funext b
  by_cases h1 : b = dx
  · rw [h1, upd_same, upd_same]
  · rw [upd_ne h1, upd_ne h1]
    by_cases h2 : b = a
    · rw [h2, del_same, ha]
    · rw [del_ne h2, upd_ne h2, upd_ne h1, upd_ne h2]
section
variable {X : Cx} {k : Nat} {x : Str} {C : Addr} {p pos pos2 : Pos} {e1 : Expr} {ta : TA} {W : WX}
/-- raise C(code) -/
def tRaiseC1 (C : Addr) (W : WX) (ta : TA) : TS := fun _ σ H => ta σ H fun vs H1 => ∃ (s : Str), vs = [.str s] ∧ s.length ≤ 1000 ∧ ∀ d, H1 d = none → W (.ref C) (some d) σ (upd H1 d (.xd (cdK s)))
theorem pmk_err1 {ps : List Str} {sp : Sp} (D : ErrD X.prog X.w X.K X.mg X.base k x C ps sp) (hr : Room (k + 1) X.A) (hg : Gl X x) (ha : PA X (e1 :: []) ta) (hdb : (x == ("__debug__" : Str)) = false := by decide)
    (he : starEach (e1 :: []) X.env = (false, eval e1 X.env) :: starEach [] X.env := by rfl) (hpl : (backTo pos (starEach [] X.env)).any (·.1) = false := by rfl) : PMk X (.Call (.Name x p) (e1 :: []) [] pos) (tMkO C sp [] ta) := by
  obtain ⟨f, fd, F1, b, iC, tI⟩ := D.ex
  exact pmk_oex D.T iC tI F1 hr b .nil pass0 hg D.gC ha hdb he hpl
theorem tMk_of1 {σ : L2.St} {H : Hp} {Q : XK} (mono : ∀ σ H (R R' : List V → Hp → Prop), (∀ vs H, R vs H → R' vs H) → ta σ H R → ta σ H R') (h : ta σ H fun vs H1 => ∃ (s : Str), vs = [.str s] ∧ s.length ≤ 1000 ∧ ∀ d, H1 d = none → Q (.ref C) (some d) (upd H1 d (.xd (cdK s)))) : tMkO C (spCErr1 C) [] ta σ H Q := by
  refine mono _ _ _ _ (fun vs H1 ⟨s, ev, hs, q⟩ => ?_) h
  subst ev
  refine ⟨(by show 1 ≤ 1000; decide), fun a ha => ⟨a, s, rfl, upd_same, hs, fun dx hdx n => ?_⟩⟩
  have hd1 : H1 dx = none := by rw [upd_ne n] at hdx; exact hdx
  refine ⟨rfl, dx, cdK s, ?_, ?_, hd1, ?_⟩
  · rw [upd_same]
  · rw [upd_ne n, upd_same]
  · rw [err_heap1 ha hd1 n]
    exact q dx hd1
theorem ps_raiseC1 {te1 : TE} (hc : X.calm = true) (D : ErrD X.prog X.w X.K X.mg X.base k x C ["self", "code"] (spCErr1 C)) (hr : Room (k + 1) X.A) (tk : Takes X W) (hg : Gl X x) (h1 : PE X e1 te1)
    (m1 : ∀ σ H (R R' : VK), (∀ v H, R v H → R' v H) → te1 σ H R → te1 σ H R') (hdb : (x == ("__debug__" : Str)) = false := by decide)
    (he : starEach (e1 :: []) X.env = (false, eval e1 X.env) :: starEach [] X.env := by rfl) (hpl : (backTo pos (starEach [] X.env)).any (·.1) = false := by rfl) :
    PS X (.Raise (some (.Call (.Name x p) (e1 :: []) [] pos)) none pos2) (tRaiseC1 C W (tCons te1 tNil)) := by
  have q := ps_raise (pos := pos2) hc tk (pmk_err1 (p := p) (pos := pos) D hr hg (pa_cons h1 pa_nil he) hdb he hpl)
  refine ⟨fun pins s σ H Dn I h => q.run pins s σ H Dn I ?_⟩
  exact tMk_of1 (fun σ H R R' im z => m1 _ _ _ _ (fun v H1 z => im _ _ z) z) h
end
end Sk

set_option Elab.async false
set_option linter.all false
set_option maxRecDepth 100000
set_option maxHeartbeats 4000000
namespace Sk
open PySem PySem.Spec PyProof.Rows L2
/-! min of a list of whole numbers, with default= -/
def minD (zs : List Int) (y : V) : V := if zs = [] then y else .int (mins zs)
def rMinD (K : PySem.W.Frag) : List V → List V → Hp → VK → Prop := fun xs ys H Q => ∃ (a : Addr) (zs : List Int) (y : V), xs = [.ref a] ∧ ys = [y] ∧ SqL K H a (zs.map V.int) ∧ Q (minD zs y) H
theorem vals_at : ∀ {zs : List Int} {vs : List Value}, Vals (zs.map V.int) vs → vs.length = zs.length ∧ ∀ (j : Nat) (z : Int), zs[j]? = some z → ∃ t, vs[j]? = some (PySem.Value.int z t)
  | [], vs, h => by
    cases h
    exact ⟨rfl, fun j z e => by simp at e⟩
  | z :: zs, vs, h => by
    cases h with
    | cons rv rn =>
      obtain ⟨h1, h2⟩ := vals_at rn
      refine ⟨by rw [List.length_cons, List.length_cons, h1], fun j x e => ?_⟩
      cases j with
      | zero =>
        have : z = x := Option.some.inj e
        subst this
        obtain ⟨t, rfl⟩ : ∃ t, _ = Value.int z t := rv
        exact ⟨t, rfl⟩
      | succ j => exact h2 j x e
section
variable {P : Program} {w : World} {A : Around} {R : Result → Shared → Prop} {s0 : Shared} {l I S : Addr} {vs : List Value} {zs : List Int} {d : Value}
theorem mind_loop (hh : A.handled = none) (hl : s0.heap.IsList l vs.toArray) (hv : Vals (zs.map V.int) vs) (hI : s0.heap.objs.size ≤ I) (hS : s0.heap.objs.size ≤ S) (hIS : S ≠ I)
    (hR : ∀ h tk v, (∀ b o, s0.heap.get? b = some o → h.get? b = some o) → (zs = [] → v = d) → (zs ≠ [] → ∃ t, v = .int (mins zs) t) → R (.ok (.ret v)) { s0 with heap := h, toks := tk }) :
    ∀ (r j : Nat) (h : Heap) (tk : Nat) (arr : Array Value) (c : Nat), zs.length - j = r → j ≤ zs.length → (∀ b o, s0.heap.get? b = some o → h.get? b = some o) → h.IsListIter I l j → h.get? S = some (bestL arr c) →
      ((j = 0 ∧ arr = #[]) ∨ (0 < j ∧ ∃ t, arr = #[.int (mins (zs.take j)) t, .int (mins (zs.take j)) t])) →
      codeAny (model P w) A (.builtin "min.loop" ⟨[.ref I, .none, .ref S], [(Str.ofString "default", d)]⟩) R { s0 with heap := h, toks := tk } := by
  have hname : (toString "min" ++ toString ".loop" : String) = "min.loop" := by decide
  obtain ⟨vl, vat⟩ := vals_at hv
  have old : ∀ {b : Addr} {o : Obj}, s0.heap.get? b = some o → b < s0.heap.objs.size := fun e => Heap.lt_size e
  have nS : ∀ {b : Addr} {o : Obj}, s0.heap.get? b = some o → S ≠ b := fun e z => absurd (old e) (Nat.not_lt.mpr (by rw [← z]; exact hS))
  have nI : ∀ {b : Addr} {o : Obj}, s0.heap.get? b = some o → b ≠ I := fun e z => absurd (old e) (Nat.not_lt.mpr (by rw [z]; exact hI))
  intro r
  induction r with
  | zero =>
    intro j h tk arr c hr hj kp hi hSo ha
    have hjz : j = zs.length := by omega
    have hl' : h.IsList l vs.toArray := by
      obtain ⟨o, e, q⟩ := hl
      exact ⟨o, kp _ _ e, q⟩
    refine codeAny_builtin F.entry_min_loop ?_
    rw [Around.under_plainId F.plain_min_loop _]
    show wpAny _ A.in1 (seqItems? (.ref S) >>= _) _ _ _
    refine wpAny_bind (wpAny_seqItems hSo rfl ?_)
    show wpAny _ A.in1 (tryCatch (pyNext (.ref I)) _ >>= _) _ _ _
    refine wpAny_bind (wpAny_tryCatch (wpAny_pyNext_list_end hh hi hl' (by rw [List.getElem?_toArray]; exact List.getElem?_eq_none (by omega)) fun h' ext => ?_))
    have kp' : ∀ b o, s0.heap.get? b = some o → h'.get? b = some o := fun b o e => ext b o (nI e) (kp b o e)
    rcases ha with ⟨j0, rfl⟩ | ⟨j0, t, rfl⟩
    · have z0 : zs = [] := List.eq_nil_of_length_eq_zero (by omega)
      refine wpAny_bind (wpAny_rule ?_)
      exact wpAny_pure (hR _ _ _ kp' (fun _ => rfl) (fun n => absurd z0 n))
    · have hS2 : h'.get? S = some (bestL #[.int (mins (zs.take j)) t, .int (mins (zs.take j)) t] c) := ext _ _ hIS hSo
      show wpAny _ A.in1 (updateSeq S (fun _ => #[]) >>= _) _ _ _
      refine wpAny_bind ?_
      refine wpAny_updateSeq hS2 rfl (wpAny_bind (wpAny_letGo (wpAny_pure ?_)))
      have hz : zs ≠ [] := fun z => by rw [z] at hjz; have : j = 0 := hjz; omega
      refine hR _ _ _ (fun b o e => (Heap.get?_update_other _ _ (nS e)).trans (kp' b o e)) (fun n => absurd n hz) fun _ => ⟨t, ?_⟩
      rw [hjz, List.take_length]
  | succ r ih =>
    intro j h tk arr c hr hj kp hi hSo ha
    have hl' : h.IsList l vs.toArray := by
      obtain ⟨o, e, q⟩ := hl
      exact ⟨o, kp _ _ e, q⟩
    have hjl : j < zs.length := by omega
    obtain ⟨t', hvt⟩ := vat j zs[j] (List.getElem?_eq_getElem hjl)
    have htk : zs.take (j + 1) = zs.take j ++ [zs[j]] := by rw [List.take_add_one, List.getElem?_eq_getElem hjl]; rfl
    generalize zs[j] = z at hvt htk
    refine codeAny_builtin F.entry_min_loop ?_
    rw [Around.under_plainId F.plain_min_loop _]
    show wpAny _ A.in1 (seqItems? (.ref S) >>= _) _ _ _
    refine wpAny_bind (wpAny_seqItems hSo rfl ?_)
    show wpAny _ A.in1 (tryCatch (pyNext (.ref I)) _ >>= _) _ _ _
    refine wpAny_bind (wpAny_tryCatch (wpAny_pyNext_list_item hi hl' (x := .int z t') (by rw [List.getElem?_toArray]; exact hvt) fun h' hi' sb => ?_))
    have kp' : ∀ b o, s0.heap.get? b = some o → h'.get? b = some o := fun b o e => (sb.2 b (nI e)).trans (kp b o e)
    have hS2 : h'.get? S = some (bestL arr c) := (sb.2 S hIS).trans hSo
    have put : ∀ arr', (∀ b o, s0.heap.get? b = some o → (h'.update S (Obj.mapSeq fun _ => arr')).get? b = some o) ∧ (h'.update S (Obj.mapSeq fun _ => arr')).IsListIter I l (j + 1) ∧ ∃ c', (h'.update S (Obj.mapSeq fun _ => arr')).get? S = some (bestL arr' c') := fun arr' => by
      refine ⟨fun b o e => (Heap.get?_update_other _ _ (nS e)).trans (kp' b o e), ?_, ⟨_, Heap.get?_update_self (Obj.mapSeq fun _ => arr') hS2 rfl⟩⟩
      obtain ⟨o, e, q⟩ := hi'
      exact ⟨o, (Heap.get?_update_other _ _ hIS).trans e, q⟩
    rcases ha with ⟨j0, rfl⟩ | ⟨j0, t, rfl⟩
    · show wpAny _ A.in1 (updateSeq S (fun _ => #[.int z t', .int z t']) >>= _) _ _ _
      refine wpAny_bind ?_
      refine wpAny_updateSeq hS2 rfl ?_
      rw [hname]
      obtain ⟨p1, p2, c', p3⟩ := put #[.int z t', .int z t']
      refine wpAny_pure ⟨plainId_quiet F.plain_min_loop _, ih (j + 1) _ _ _ c' (by omega) (by omega) p1 p2 p3 (.inr ⟨by omega, t', ?_⟩)⟩
      rw [htk, j0]
      rfl
    · have hne : zs.take j ≠ [] := fun e => by
        have := congrArg List.length e
        rw [List.length_take] at this
        have : min j zs.length = 0 := this
        omega
      have em := mins_app (z := z) hne
      rw [← htk] at em
      show wpAny _ A.in1 (tryCatch (holding [.int z t', .int z t'] (richCompare .Lt (.int z t') (.int (mins (zs.take j)) t) >>= _)) _ >>= _) _ _ _
      refine wpAny_bind (wpAny_tryCatch (wpAny_holding (wpAny_bind (CmpOf.ints_lt (P := fun k v => ∃ t, v = .int (if k = 0 then z else mins (zs.take j)) t) (fun k => if k = 0 then z else mins (zs.take j)) (fun k v h => h) 0 1 _ _ _ _ _ ⟨t', rfl⟩ ⟨t, rfl⟩ ?_))))
      refine wpAny_bind (wpAny_holding (wpAny_truthy_bool ?_))
      refine wpAny_bind (wpAny_letGo (wpAny_pure ?_))
      show wpAny _ A.in1 (if decide (z < mins (zs.take j)) = true then _ else _) _ _ _
      by_cases hlt : z < mins (zs.take j)
      · rw [if_pos (decide_eq_true hlt)]
        rw [if_pos hlt] at em
        refine wpAny_bind ?_
        refine wpAny_updateSeq hS2 rfl (wpAny_bind (wpAny_letGo ?_))
        rw [hname]
        obtain ⟨p1, p2, c', p3⟩ := put #[.int z t', .int z t']
        refine wpAny_pure ⟨plainId_quiet F.plain_min_loop _, ih (j + 1) _ _ _ c' (by omega) (by omega) p1 p2 p3 (.inr ⟨by omega, t', ?_⟩)⟩
        rw [em]
      · rw [if_neg (by rw [decide_eq_false hlt]; exact Bool.false_ne_true)]
        rw [if_neg hlt] at em
        refine wpAny_bind (wpAny_letGo ?_)
        rw [hname]
        refine wpAny_pure ⟨plainId_quiet F.plain_min_loop _, ih (j + 1) _ _ _ c (by omega) (by omega) kp' hi' hS2 (.inr ⟨by omega, t, ?_⟩)⟩
        rw [em]
end
theorem cr_minD {X : Cx} (hc : X.calm = true) : CallRK X (.builtin "min") ["default"] (rMinD X.K) := by
  intro pins s σ H xs ys us ws Q I rx ry h
  obtain ⟨a, zs, y, rfl, rfl, hq, k⟩ := h
  cases rx with
  | cons rv rn =>
  cases rn
  rename_i u
  obtain rfl : u = Value.ref a := rv
  cases ry with
  | cons rv2 rn2 =>
  cases rn2
  rename_i d
  obtain ⟨vs, hv, pl, _⟩ := I.list hq
  have hl : s.heap.IsList a vs.toArray := pl.isList
  have hname : (toString "min" ++ toString ".loop" : String) = "min.loop" := by decide
  show wpAny _ _ (call (.builtin "min") [.ref a] [(Str.ofString "default", d)]) _ _ _
  refine kmk_tree F.kind_min F.plain_min F.entry_min (by rfl) ?_
  show wpAny _ X.A.in1 (Builtin.Builtins.bindParams "min" ["key", "default"] 0 ⟨[], [(Str.ofString "default", d)]⟩ >>= _) _ _ s
  refine wpAny_bind (wpAny_of_eq (show Builtin.Builtins.bindParams "min" ["key", "default"] 0 ⟨[], [(Str.ofString "default", d)]⟩ = pure [none, some d] from rfl) ?_)
  refine wpAny_bind (wpAny_pure ?_)
  refine wpAny_bind (wpAny_pyIter_list hl ?_)
  refine wpAny_bind (wpAny_newObj_type ?_)
  rw [hname]
  have p1 : ∀ b o, s.heap.get? b = some o → ((s.heap.push { cls := .type "list_iterator", data := .fields #[.ref a, .int 0 0] }).push (bestL #[] 0)).get? b = some o := fun b o e => Heap.get?_push_of_some _ (Heap.get?_push_of_some _ e)
  refine wpAny_pure ⟨plainId_quiet F.plain_min_loop _, mind_loop (P := X.prog) (w := X.w) (d := d) (R := RetQ (EP X pins σ Q) X.xe) (s0 := s) (I := s.heap.objs.size) (S := (s.heap.push { cls := .type "list_iterator", data := .fields #[.ref a, .int 0 0] }).objs.size) (I.ok.hd hc) hl hv (Nat.le_refl _) (by rw [Heap.size_push]; exact Nat.le_succ _) (by rw [Heap.size_push]; exact Nat.succ_ne_self _) (fun h tk v kp v0 v1 => ?_) zs.length 0 _ s.toks #[] 0 rfl (Nat.zero_le _) p1 ?_ ?_ (.inl ⟨rfl, rfl⟩)⟩
  · refine ⟨minD zs y, H, I.turnedL (ch := []) (fun b o _ e => kp b o e) (fun _ h => nomatch h), ?_, k⟩
    unfold minD
    by_cases z : zs = []
    · rw [if_pos z, v0 z]
      exact rv2
    · rw [if_neg z]
      obtain ⟨t, e⟩ := v1 z
      exact ⟨t, e⟩
  · exact ⟨_, Heap.get?_push_of_some _ (Heap.get?_push_size _ rfl), rfl, rfl⟩
  · exact Heap.get?_push_size _ rfl
end Sk

set_option Elab.async false
set_option linter.all false
set_option maxRecDepth 100000
set_option maxHeartbeats 4000000
namespace Sk
open PySem PySem.Spec PyProof.Rows L2
/-! min of a tuple of whole numbers -/
section
variable {P : Program} {w : World} {A : Around} {R : Result → Shared → Prop} {s0 : Shared} {l I S : Addr} {vs : List Value} {zs : List Int}
theorem mint_loop (hh : A.handled = none) (hl : s0.heap.IsTuple l vs.toArray) (hv : Vals (zs.map V.int) vs) (hI : s0.heap.objs.size ≤ I) (hS : s0.heap.objs.size ≤ S) (hIS : S ≠ I) (hz : zs ≠ [])
    (hR : ∀ h tk v, (∀ b o, s0.heap.get? b = some o → h.get? b = some o) → (∃ t, v = .int (mins zs) t) → R (.ok (.ret v)) { s0 with heap := h, toks := tk }) :
    ∀ (r j : Nat) (h : Heap) (tk : Nat) (arr : Array Value) (c : Nat), zs.length - j = r → j ≤ zs.length → (∀ b o, s0.heap.get? b = some o → h.get? b = some o) → h.IsTupleIter I l j → h.get? S = some (bestL arr c) →
      ((j = 0 ∧ arr = #[]) ∨ (0 < j ∧ ∃ t, arr = #[.int (mins (zs.take j)) t, .int (mins (zs.take j)) t])) →
      codeAny (model P w) A (.builtin "min.loop" ⟨[.ref I, .none, .ref S], []⟩) R { s0 with heap := h, toks := tk } := by
  have hname : (toString "min" ++ toString ".loop" : String) = "min.loop" := by decide
  obtain ⟨vl, vat⟩ := vals_at hv
  have old : ∀ {b : Addr} {o : Obj}, s0.heap.get? b = some o → b < s0.heap.objs.size := fun e => Heap.lt_size e
  have nS : ∀ {b : Addr} {o : Obj}, s0.heap.get? b = some o → S ≠ b := fun e z => absurd (old e) (Nat.not_lt.mpr (by rw [← z]; exact hS))
  have nI : ∀ {b : Addr} {o : Obj}, s0.heap.get? b = some o → b ≠ I := fun e z => absurd (old e) (Nat.not_lt.mpr (by rw [z]; exact hI))
  intro r
  induction r with
  | zero =>
    intro j h tk arr c hr hj kp hi hSo ha
    have hjz : j = zs.length := by omega
    have hl' : h.IsTuple l vs.toArray := by
      obtain ⟨o, e, q⟩ := hl
      exact ⟨o, kp _ _ e, q⟩
    refine codeAny_builtin F.entry_min_loop ?_
    rw [Around.under_plainId F.plain_min_loop _]
    show wpAny _ A.in1 (seqItems? (.ref S) >>= _) _ _ _
    refine wpAny_bind (wpAny_seqItems hSo rfl ?_)
    show wpAny _ A.in1 (tryCatch (pyNext (.ref I)) _ >>= _) _ _ _
    refine wpAny_bind (wpAny_tryCatch (wpAny_pyNext_tuple_end hh hi hl' (by rw [List.getElem?_toArray]; exact List.getElem?_eq_none (by omega)) fun h' ext => ?_))
    have kp' : ∀ b o, s0.heap.get? b = some o → h'.get? b = some o := fun b o e => ext b o (nI e) (kp b o e)
    rcases ha with ⟨j0, rfl⟩ | ⟨j0, t, rfl⟩
    · have z0 : zs = [] := List.eq_nil_of_length_eq_zero (by omega)
      exact absurd z0 hz
    · have hS2 : h'.get? S = some (bestL #[.int (mins (zs.take j)) t, .int (mins (zs.take j)) t] c) := ext _ _ hIS hSo
      show wpAny _ A.in1 (updateSeq S (fun _ => #[]) >>= _) _ _ _
      refine wpAny_bind ?_
      refine wpAny_updateSeq hS2 rfl (wpAny_bind (wpAny_letGo (wpAny_pure ?_)))
      refine hR _ _ _ (fun b o e => (Heap.get?_update_other _ _ (nS e)).trans (kp' b o e)) ⟨t, ?_⟩
      rw [hjz, List.take_length]
  | succ r ih =>
    intro j h tk arr c hr hj kp hi hSo ha
    have hl' : h.IsTuple l vs.toArray := by
      obtain ⟨o, e, q⟩ := hl
      exact ⟨o, kp _ _ e, q⟩
    have hjl : j < zs.length := by omega
    obtain ⟨t', hvt⟩ := vat j zs[j] (List.getElem?_eq_getElem hjl)
    have htk : zs.take (j + 1) = zs.take j ++ [zs[j]] := by rw [List.take_add_one, List.getElem?_eq_getElem hjl]; rfl
    generalize zs[j] = z at hvt htk
    refine codeAny_builtin F.entry_min_loop ?_
    rw [Around.under_plainId F.plain_min_loop _]
    show wpAny _ A.in1 (seqItems? (.ref S) >>= _) _ _ _
    refine wpAny_bind (wpAny_seqItems hSo rfl ?_)
    show wpAny _ A.in1 (tryCatch (pyNext (.ref I)) _ >>= _) _ _ _
    refine wpAny_bind (wpAny_tryCatch (wpAny_pyNext_tuple_item hi hl' (x := .int z t') (by rw [List.getElem?_toArray]; exact hvt) fun h' hi' sb => ?_))
    have kp' : ∀ b o, s0.heap.get? b = some o → h'.get? b = some o := fun b o e => (sb.2 b (nI e)).trans (kp b o e)
    have hS2 : h'.get? S = some (bestL arr c) := (sb.2 S hIS).trans hSo
    have put : ∀ arr', (∀ b o, s0.heap.get? b = some o → (h'.update S (Obj.mapSeq fun _ => arr')).get? b = some o) ∧ (h'.update S (Obj.mapSeq fun _ => arr')).IsTupleIter I l (j + 1) ∧ ∃ c', (h'.update S (Obj.mapSeq fun _ => arr')).get? S = some (bestL arr' c') := fun arr' => by
      refine ⟨fun b o e => (Heap.get?_update_other _ _ (nS e)).trans (kp' b o e), ?_, ⟨_, Heap.get?_update_self (Obj.mapSeq fun _ => arr') hS2 rfl⟩⟩
      obtain ⟨o, e, q⟩ := hi'
      exact ⟨o, (Heap.get?_update_other _ _ hIS).trans e, q⟩
    rcases ha with ⟨j0, rfl⟩ | ⟨j0, t, rfl⟩
    · show wpAny _ A.in1 (updateSeq S (fun _ => #[.int z t', .int z t']) >>= _) _ _ _
      refine wpAny_bind ?_
      refine wpAny_updateSeq hS2 rfl ?_
      rw [hname]
      obtain ⟨p1, p2, c', p3⟩ := put #[.int z t', .int z t']
      refine wpAny_pure ⟨plainId_quiet F.plain_min_loop _, ih (j + 1) _ _ _ c' (by omega) (by omega) p1 p2 p3 (.inr ⟨by omega, t', ?_⟩)⟩
      rw [htk, j0]
      rfl
    · have hne : zs.take j ≠ [] := fun e => by
        have := congrArg List.length e
        rw [List.length_take] at this
        have : min j zs.length = 0 := this
        omega
      have em := mins_app (z := z) hne
      rw [← htk] at em
      show wpAny _ A.in1 (tryCatch (holding [.int z t', .int z t'] (richCompare .Lt (.int z t') (.int (mins (zs.take j)) t) >>= _)) _ >>= _) _ _ _
      refine wpAny_bind (wpAny_tryCatch (wpAny_holding (wpAny_bind (CmpOf.ints_lt (P := fun k v => ∃ t, v = .int (if k = 0 then z else mins (zs.take j)) t) (fun k => if k = 0 then z else mins (zs.take j)) (fun k v h => h) 0 1 _ _ _ _ _ ⟨t', rfl⟩ ⟨t, rfl⟩ ?_))))
      refine wpAny_bind (wpAny_holding (wpAny_truthy_bool ?_))
      refine wpAny_bind (wpAny_letGo (wpAny_pure ?_))
      show wpAny _ A.in1 (if decide (z < mins (zs.take j)) = true then _ else _) _ _ _
      by_cases hlt : z < mins (zs.take j)
      · rw [if_pos (decide_eq_true hlt)]
        rw [if_pos hlt] at em
        refine wpAny_bind ?_
        refine wpAny_updateSeq hS2 rfl (wpAny_bind (wpAny_letGo ?_))
        rw [hname]
        obtain ⟨p1, p2, c', p3⟩ := put #[.int z t', .int z t']
        refine wpAny_pure ⟨plainId_quiet F.plain_min_loop _, ih (j + 1) _ _ _ c' (by omega) (by omega) p1 p2 p3 (.inr ⟨by omega, t', ?_⟩)⟩
        rw [em]
      · rw [if_neg (by rw [decide_eq_false hlt]; exact Bool.false_ne_true)]
        rw [if_neg hlt] at em
        refine wpAny_bind (wpAny_letGo ?_)
        rw [hname]
        refine wpAny_pure ⟨plainId_quiet F.plain_min_loop _, ih (j + 1) _ _ _ c (by omega) (by omega) kp' hi' hS2 (.inr ⟨by omega, t, ?_⟩)⟩
        rw [em]
end
def rMinT (K : PySem.W.Frag) : List V → Hp → VK → Prop := fun xs H Q => ∃ (a : Addr) (zs : List Int), xs = [.ref a] ∧ SqT K H a (zs.map V.int) ∧ zs ≠ [] ∧ Q (.int (mins zs)) H
theorem cr_minT {X : Cx} (hc : X.calm = true) : CallR X (.builtin "min") (rMinT X.K) := by
  intro pins s σ H xs us Q I rx h
  obtain ⟨a, zs, rfl, hq, hz, k⟩ := h
  cases rx with
  | cons rv rn =>
  cases rn
  rename_i u
  obtain rfl : u = Value.ref a := rv
  obtain ⟨vs, hv, pl, _⟩ := I.tuple hq
  have hl : s.heap.IsTuple a vs.toArray := pl
  have hname : (toString "min" ++ toString ".loop" : String) = "min.loop" := by decide
  show wpAny _ _ (call (.builtin "min") [.ref a] []) _ _ _
  refine kmk_tree F.kind_min F.plain_min F.entry_min (by rfl) ?_
  show wpAny _ X.A.in1 (Builtin.Builtins.bindParams "min" ["key", "default"] 0 ⟨[], []⟩ >>= _) _ _ s
  refine wpAny_bind (wpAny_of_eq (show Builtin.Builtins.bindParams "min" ["key", "default"] 0 ⟨[], []⟩ = pure [none, none] from rfl) ?_)
  refine wpAny_bind (wpAny_pure ?_)
  refine wpAny_bind (wpAny_pyIter_tuple hl ?_)
  refine wpAny_bind (wpAny_newObj_type ?_)
  rw [hname]
  have p1 : ∀ b o, s.heap.get? b = some o → ((s.heap.push { cls := .type "tuple_iterator", data := .fields #[.ref a, .int 0 0] }).push (bestL #[] 0)).get? b = some o := fun b o e => Heap.get?_push_of_some _ (Heap.get?_push_of_some _ e)
  refine wpAny_pure ⟨plainId_quiet F.plain_min_loop _, mint_loop (P := X.prog) (w := X.w) (R := RetQ (EP X pins σ Q) X.xe) (s0 := s) (I := s.heap.objs.size) (S := (s.heap.push { cls := .type "tuple_iterator", data := .fields #[.ref a, .int 0 0] }).objs.size) (I.ok.hd hc) hl hv (Nat.le_refl _) (by rw [Heap.size_push]; exact Nat.le_succ _) (by rw [Heap.size_push]; exact Nat.succ_ne_self _) hz (fun h tk v kp v1 => ?_) zs.length 0 _ s.toks #[] 0 rfl (Nat.zero_le _) p1 ?_ ?_ (.inl ⟨rfl, rfl⟩)⟩
  · exact ⟨.int (mins zs), H, I.turnedL (ch := []) (fun b o _ e => kp b o e) (fun _ h => nomatch h), v1, k⟩
  · exact ⟨_, Heap.get?_push_of_some _ (Heap.get?_push_size _ rfl), rfl, rfl⟩
  · exact Heap.get?_push_size _ rfl
end Sk

set_option Elab.async false
set_option linter.all false
set_option maxRecDepth 100000
set_option maxHeartbeats 4000000
namespace Sk
open PySem PySem.Spec PyProof.Rows L2
/-! max of a tuple of whole numbers -/
section
variable {P : Program} {w : World} {A : Around} {R : Result → Shared → Prop} {s0 : Shared} {l I S : Addr} {vs : List Value} {zs : List Int}
theorem maxt_loop (hh : A.handled = none) (hl : s0.heap.IsTuple l vs.toArray) (hv : Vals (zs.map V.int) vs) (hI : s0.heap.objs.size ≤ I) (hS : s0.heap.objs.size ≤ S) (hIS : S ≠ I) (hz : zs ≠ [])
    (hR : ∀ h tk v, (∀ b o, s0.heap.get? b = some o → h.get? b = some o) → (∃ t, v = .int (maxs zs) t) → R (.ok (.ret v)) { s0 with heap := h, toks := tk }) :
    ∀ (r j : Nat) (h : Heap) (tk : Nat) (arr : Array Value) (c : Nat), zs.length - j = r → j ≤ zs.length → (∀ b o, s0.heap.get? b = some o → h.get? b = some o) → h.IsTupleIter I l j → h.get? S = some (bestL arr c) →
      ((j = 0 ∧ arr = #[]) ∨ (0 < j ∧ ∃ t, arr = #[.int (maxs (zs.take j)) t, .int (maxs (zs.take j)) t])) →
      codeAny (model P w) A (.builtin "max.loop" ⟨[.ref I, .none, .ref S], []⟩) R { s0 with heap := h, toks := tk } := by
  have hname : (toString "max" ++ toString ".loop" : String) = "max.loop" := by decide
  obtain ⟨vl, vat⟩ := vals_at hv
  have old : ∀ {b : Addr} {o : Obj}, s0.heap.get? b = some o → b < s0.heap.objs.size := fun e => Heap.lt_size e
  have nS : ∀ {b : Addr} {o : Obj}, s0.heap.get? b = some o → S ≠ b := fun e z => absurd (old e) (Nat.not_lt.mpr (by rw [← z]; exact hS))
  have nI : ∀ {b : Addr} {o : Obj}, s0.heap.get? b = some o → b ≠ I := fun e z => absurd (old e) (Nat.not_lt.mpr (by rw [z]; exact hI))
  intro r
  induction r with
  | zero =>
    intro j h tk arr c hr hj kp hi hSo ha
    have hjz : j = zs.length := by omega
    have hl' : h.IsTuple l vs.toArray := by
      obtain ⟨o, e, q⟩ := hl
      exact ⟨o, kp _ _ e, q⟩
    refine codeAny_builtin F.entry_max_loop ?_
    rw [Around.under_plainId F.plain_max_loop _]
    show wpAny _ A.in1 (seqItems? (.ref S) >>= _) _ _ _
    refine wpAny_bind (wpAny_seqItems hSo rfl ?_)
    show wpAny _ A.in1 (tryCatch (pyNext (.ref I)) _ >>= _) _ _ _
    refine wpAny_bind (wpAny_tryCatch (wpAny_pyNext_tuple_end hh hi hl' (by rw [List.getElem?_toArray]; exact List.getElem?_eq_none (by omega)) fun h' ext => ?_))
    have kp' : ∀ b o, s0.heap.get? b = some o → h'.get? b = some o := fun b o e => ext b o (nI e) (kp b o e)
    rcases ha with ⟨j0, rfl⟩ | ⟨j0, t, rfl⟩
    · have z0 : zs = [] := List.eq_nil_of_length_eq_zero (by omega)
      exact absurd z0 hz
    · have hS2 : h'.get? S = some (bestL #[.int (maxs (zs.take j)) t, .int (maxs (zs.take j)) t] c) := ext _ _ hIS hSo
      show wpAny _ A.in1 (updateSeq S (fun _ => #[]) >>= _) _ _ _
      refine wpAny_bind ?_
      refine wpAny_updateSeq hS2 rfl (wpAny_bind (wpAny_letGo (wpAny_pure ?_)))
      refine hR _ _ _ (fun b o e => (Heap.get?_update_other _ _ (nS e)).trans (kp' b o e)) ⟨t, ?_⟩
      rw [hjz, List.take_length]
  | succ r ih =>
    intro j h tk arr c hr hj kp hi hSo ha
    have hl' : h.IsTuple l vs.toArray := by
      obtain ⟨o, e, q⟩ := hl
      exact ⟨o, kp _ _ e, q⟩
    have hjl : j < zs.length := by omega
    obtain ⟨t', hvt⟩ := vat j zs[j] (List.getElem?_eq_getElem hjl)
    have htk : zs.take (j + 1) = zs.take j ++ [zs[j]] := by rw [List.take_add_one, List.getElem?_eq_getElem hjl]; rfl
    generalize zs[j] = z at hvt htk
    refine codeAny_builtin F.entry_max_loop ?_
    rw [Around.under_plainId F.plain_max_loop _]
    show wpAny _ A.in1 (seqItems? (.ref S) >>= _) _ _ _
    refine wpAny_bind (wpAny_seqItems hSo rfl ?_)
    show wpAny _ A.in1 (tryCatch (pyNext (.ref I)) _ >>= _) _ _ _
    refine wpAny_bind (wpAny_tryCatch (wpAny_pyNext_tuple_item hi hl' (x := .int z t') (by rw [List.getElem?_toArray]; exact hvt) fun h' hi' sb => ?_))
    have kp' : ∀ b o, s0.heap.get? b = some o → h'.get? b = some o := fun b o e => (sb.2 b (nI e)).trans (kp b o e)
    have hS2 : h'.get? S = some (bestL arr c) := (sb.2 S hIS).trans hSo
    have put : ∀ arr', (∀ b o, s0.heap.get? b = some o → (h'.update S (Obj.mapSeq fun _ => arr')).get? b = some o) ∧ (h'.update S (Obj.mapSeq fun _ => arr')).IsTupleIter I l (j + 1) ∧ ∃ c', (h'.update S (Obj.mapSeq fun _ => arr')).get? S = some (bestL arr' c') := fun arr' => by
      refine ⟨fun b o e => (Heap.get?_update_other _ _ (nS e)).trans (kp' b o e), ?_, ⟨_, Heap.get?_update_self (Obj.mapSeq fun _ => arr') hS2 rfl⟩⟩
      obtain ⟨o, e, q⟩ := hi'
      exact ⟨o, (Heap.get?_update_other _ _ hIS).trans e, q⟩
    rcases ha with ⟨j0, rfl⟩ | ⟨j0, t, rfl⟩
    · show wpAny _ A.in1 (updateSeq S (fun _ => #[.int z t', .int z t']) >>= _) _ _ _
      refine wpAny_bind ?_
      refine wpAny_updateSeq hS2 rfl ?_
      rw [hname]
      obtain ⟨p1, p2, c', p3⟩ := put #[.int z t', .int z t']
      refine wpAny_pure ⟨plainId_quiet F.plain_max_loop _, ih (j + 1) _ _ _ c' (by omega) (by omega) p1 p2 p3 (.inr ⟨by omega, t', ?_⟩)⟩
      rw [htk, j0]
      rfl
    · have hne : zs.take j ≠ [] := fun e => by
        have := congrArg List.length e
        rw [List.length_take] at this
        have : min j zs.length = 0 := this
        omega
      have em := maxs_app (z := z) hne
      rw [← htk] at em
      show wpAny _ A.in1 (tryCatch (holding [.int z t', .int z t'] (richCompare .Gt (.int z t') (.int (maxs (zs.take j)) t) >>= _)) _ >>= _) _ _ _
      refine wpAny_bind (wpAny_tryCatch (wpAny_holding (wpAny_bind (CmpOf.ints_gt (P := fun k v => ∃ t, v = .int (if k = 0 then z else maxs (zs.take j)) t) (fun k => if k = 0 then z else maxs (zs.take j)) (fun k v h => h) 0 1 _ _ _ _ _ ⟨t', rfl⟩ ⟨t, rfl⟩ ?_))))
      refine wpAny_bind (wpAny_holding (wpAny_truthy_bool ?_))
      refine wpAny_bind (wpAny_letGo (wpAny_pure ?_))
      show wpAny _ A.in1 (if decide (z > maxs (zs.take j)) = true then _ else _) _ _ _
      by_cases hlt : z > maxs (zs.take j)
      · rw [if_pos (decide_eq_true hlt)]
        rw [if_pos hlt] at em
        refine wpAny_bind ?_
        refine wpAny_updateSeq hS2 rfl (wpAny_bind (wpAny_letGo ?_))
        rw [hname]
        obtain ⟨p1, p2, c', p3⟩ := put #[.int z t', .int z t']
        refine wpAny_pure ⟨plainId_quiet F.plain_max_loop _, ih (j + 1) _ _ _ c' (by omega) (by omega) p1 p2 p3 (.inr ⟨by omega, t', ?_⟩)⟩
        rw [em]
      · rw [if_neg (by rw [decide_eq_false hlt]; exact Bool.false_ne_true)]
        rw [if_neg hlt] at em
        refine wpAny_bind (wpAny_letGo ?_)
        rw [hname]
        refine wpAny_pure ⟨plainId_quiet F.plain_max_loop _, ih (j + 1) _ _ _ c (by omega) (by omega) kp' hi' hS2 (.inr ⟨by omega, t, ?_⟩)⟩
        rw [em]
end
def rMaxT (K : PySem.W.Frag) : List V → Hp → VK → Prop := fun xs H Q => ∃ (a : Addr) (zs : List Int), xs = [.ref a] ∧ SqT K H a (zs.map V.int) ∧ zs ≠ [] ∧ Q (.int (maxs zs)) H
theorem cr_maxT {X : Cx} (hc : X.calm = true) : CallR X (.builtin "max") (rMaxT X.K) := by
  intro pins s σ H xs us Q I rx h
  obtain ⟨a, zs, rfl, hq, hz, k⟩ := h
  cases rx with
  | cons rv rn =>
  cases rn
  rename_i u
  obtain rfl : u = Value.ref a := rv
  obtain ⟨vs, hv, pl, _⟩ := I.tuple hq
  have hl : s.heap.IsTuple a vs.toArray := pl
  have hname : (toString "max" ++ toString ".loop" : String) = "max.loop" := by decide
  show wpAny _ _ (call (.builtin "max") [.ref a] []) _ _ _
  refine kmk_tree F.kind_max F.plain_max F.entry_max (by rfl) ?_
  show wpAny _ X.A.in1 (Builtin.Builtins.bindParams "max" ["key", "default"] 0 ⟨[], []⟩ >>= _) _ _ s
  refine wpAny_bind (wpAny_of_eq (show Builtin.Builtins.bindParams "max" ["key", "default"] 0 ⟨[], []⟩ = pure [none, none] from rfl) ?_)
  refine wpAny_bind (wpAny_pure ?_)
  refine wpAny_bind (wpAny_pyIter_tuple hl ?_)
  refine wpAny_bind (wpAny_newObj_type ?_)
  rw [hname]
  have p1 : ∀ b o, s.heap.get? b = some o → ((s.heap.push { cls := .type "tuple_iterator", data := .fields #[.ref a, .int 0 0] }).push (bestL #[] 0)).get? b = some o := fun b o e => Heap.get?_push_of_some _ (Heap.get?_push_of_some _ e)
  refine wpAny_pure ⟨plainId_quiet F.plain_max_loop _, maxt_loop (P := X.prog) (w := X.w) (R := RetQ (EP X pins σ Q) X.xe) (s0 := s) (I := s.heap.objs.size) (S := (s.heap.push { cls := .type "tuple_iterator", data := .fields #[.ref a, .int 0 0] }).objs.size) (I.ok.hd hc) hl hv (Nat.le_refl _) (by rw [Heap.size_push]; exact Nat.le_succ _) (by rw [Heap.size_push]; exact Nat.succ_ne_self _) hz (fun h tk v kp v1 => ?_) zs.length 0 _ s.toks #[] 0 rfl (Nat.zero_le _) p1 ?_ ?_ (.inl ⟨rfl, rfl⟩)⟩
  · exact ⟨.int (maxs zs), H, I.turnedL (ch := []) (fun b o _ e => kp b o e) (fun _ h => nomatch h), v1, k⟩
  · exact ⟨_, Heap.get?_push_of_some _ (Heap.get?_push_size _ rfl), rfl, rfl⟩
  · exact Heap.get?_push_size _ rfl
end Sk

set_option Elab.async false
set_option linter.all false
set_option maxRecDepth 100000
set_option maxHeartbeats 4000000
namespace Sk
open PySem PySem.Spec PyProof.Rows L2
/-! rules and kinds -/
def tChain3 (r1 r2 r3 : R2) (ta tb tc td : TE) : TE := fun σ H Q => ta σ H fun x H1 => tb σ H1 fun y H2 => r1 x y H2 fun z H3 => ∃ k, z = .bl k ∧
  (if k = true then tc σ H3 fun u H4 => r2 y u H4 fun z2 H5 => ∃ k2, z2 = .bl k2 ∧ (if k2 = true then td σ H5 fun v H6 => r3 u v H6 Q else Q (.bl false) H5) else Q (.bl false) H3)
theorem pe_chain3 {X : Cx} {op1 op2 op3 : CmpOp} {r1 r2 r3 : R2} {a b c d : Expr} {ta tb tc td : TE} {pos : Pos} (h1 : OpR X (compareOp op1) r1) (h2 : OpR X (compareOp op2) r2) (h3 : OpR X (compareOp op3) r3) (ha : PE X a ta) (hb : PE X b tb) (hc : PE X c tc) (hd : PE X d td)
    (hm : lastMarks [op1, op2, op3] [b, c, d] = false := by with_unfolding_all rfl) : PE X (.Compare a [op1, op2, op3] [b, c, d] pos) (tChain3 r1 r2 r3 ta tb tc td) := by
  refine ⟨fun pins s σ H Q I h => ?_⟩
  refine Compare_chain (thn (ha.run pins s σ H _ I h) fun v s1 ⟨x, H1, I1, q1, p1⟩ => chain_link (thn (hb.run pins s1 σ H1 _ I1 p1) fun u s2 ⟨y, H2, I2, q2, p2⟩ =>
    thn (h1 pins s2 σ H2 x y v u _ I2 q1 q2 p2) fun e s3 ⟨z, H3, I3, q3, k, ek, p3⟩ => ?_)) hm
  subst ek
  cases q3
  refine wpAny_truthy_bool ?_
  cases k with
  | false => exact ite_ff ⟨.bl false, H3, I3, rfl, p3⟩
  | true =>
    refine ite_tt (chain_link (thn (hc.run pins s3 σ H3 _ I3 p3) fun u2 s4 ⟨y2, H4, I4, q4, p4⟩ => thn (h2 pins s4 σ H4 y y2 u u2 _ I4 q2 q4 p4) fun e2 s5 ⟨z2, H5, I5, q5, k2, ek2, p5⟩ => ?_))
    subst ek2
    cases q5
    refine wpAny_truthy_bool ?_
    cases k2 with
    | false => exact ite_ff ⟨.bl false, H5, I5, rfl, p5⟩
    | true => exact ite_tt (chain_last (thn (hd.run pins s5 σ H5 _ I5 p5) fun u3 s6 ⟨y3, H6, I6, q6, p6⟩ => h3 pins s6 σ H6 y2 y3 u2 u3 Q I6 q4 q6 p6))
def isK (w s f a b : Int) : Bool := (decide (0 ≤ w) && decide (w ≤ 3)) && ((decide (1 ≤ s) && (decide (s ≤ f) && decide (f ≤ 10000))) && (decide (1 ≤ a) && (decide (a ≤ b) && decide (b ≤ 100))))
def spIsKind : Sp := fun vs H Q _ => ∃ (ki : Addr) (w s f a b : Int), vs = [.ref ki] ∧ H ki = some (.tup [.int w, .int s, .int f, .int a, .int b]) ∧ Q (.bl (isK w s f a b)) H
def spNearN (K : PySem.W.Frag) : Sp := fun vs H Q _ => ∃ (d c : Addr) (lo hi : Int), vs = [.ref d, .int lo, .int hi] ∧ St1 K H d c ∧ lo ≤ hi ∧ -1000000 ≤ lo ∧ hi ≤ 1000000 ∧ ∀ z H', lo - 1 ≤ z → z ≤ hi + 1 → St1 K H' d c → Keep d H H' → Q (.int z) H'
/-- the ranges of the rules -/
def rngs : List (Str × Int × Int) := [("lateral", 1, 100000), ("vertical", 1, 600), ("radius", 0, 10000), ("band", 0, 100), ("slip", 0, 1000), ("radar", 0, 10000), ("height", 0, 300), ("foreign", 0, 10000), ("climb", 0, 600), ("memory", 1, 60), ("ahead", 0, 60)]
/-- a list of rows, each a list -/
def rgV3 (r : Str × Int × Int) : List V := [.str r.1, .int r.2.1, .int r.2.2]
def RngL (H : Hp) (l : Addr) (rs : List (Str × Int × Int)) : Prop := ∃ qs : List (Addr × (Str × Int × Int)), H l = some (.lst (qs.map fun q => V.ref q.1)) ∧ (∀ q ∈ qs, H q.1 = some (.lst (rgV3 q.2))) ∧ qs.map (·.2) = rs
theorem RngL.same {H H' : Hp} {l : Addr} {rs : List (Str × Int × Int)} (L : RngL H l rs) (e : Same H H') : RngL H' l rs := let ⟨qs, h1, h2, h3⟩ := L; ⟨qs, e _ _ h1, fun q h => e _ _ (h2 q h), h3⟩
def spRanges : Sp := fun vs H Q _ => vs = [] ∧ ∀ q H', H q = none → Same H H' → RngL H' q rngs → Q (.ref q) H'
theorem pe_def0 {X : Cx} {k : Nat} {x : Str} {ps : List Str} {sp : Sp} {p pos : Pos} (D : Def X.prog X.w X.K X.mg X.base k x ps sp) (hr : Room k X.A) (hg : Gl X x) (hdb : (x == ("__debug__" : Str)) = false := by decide) :
    PE X (.Call (.Name x p) [] [] pos) (tCall sp [] E0 tNil) := by
  obtain ⟨f, fd, F, m, kp, b⟩ := D.ex
  exact pe_call0 F hr hg m kp b .nil pass0 hdb
/-- rules by their names -/
structure RuA (H : Hp) (ru g : Addr) (f : Str → Int) (rs : List (List Int)) : Prop where
  ex : ∃ kvs, H ru = some (.dK kvs) ∧ (∀ r ∈ rngs, valV kvs (.inr r.1) = some (.int (f r.1))) ∧ valV kvs (.inr "gaps") = some (.ref g)
  gp : ∃ qs : List (Addr × List Int), H g = some (.tup (qs.map fun q => V.ref q.1)) ∧ (∀ q ∈ qs, H q.1 = some (.tup (q.2.map V.int))) ∧ qs.map (·.2) = rs
  ne : ∀ r ∈ rs, r ≠ []
theorem RuA.same {H H' : Hp} {ru g : Addr} {f : Str → Int} {rs : List (List Int)} (R : RuA H ru g f rs) (e : Same H H') : RuA H' ru g f rs :=
  ⟨let ⟨kvs, h1, h2⟩ := R.ex; ⟨kvs, e _ _ h1, h2⟩, let ⟨qs, h1, h2, h3⟩ := R.gp; ⟨qs, e _ _ h1, fun q h => e _ _ (h2 q h), h3⟩, R.ne⟩
theorem RuA.at {H : Hp} {ru g : Addr} {f : Str → Int} {rs : List (List Int)} (R : RuA H ru g f rs) {r : Str × Int × Int} (h : r ∈ rngs) : DGet H ru (.str r.1) (some (.int (f r.1))) := let ⟨kvs, h1, h2, _⟩ := R.ex; (h2 r h) ▸ DGet.k (k := .inr r.1) h1
theorem RuA.gg {H : Hp} {ru g : Addr} {f : Str → Int} {rs : List (List Int)} (R : RuA H ru g f rs) : DGet H ru (.str "gaps") (some (.ref g)) := let ⟨kvs, h1, _, h3⟩ := R.ex; h3 ▸ DGet.k (k := .inr "gaps") h1
def rngBad (f : Str → Int) (r : Str × Int × Int) : Bool := decide (f r.1 < r.2.1) || decide (f r.1 > r.2.2)
def gapBad (xs : List Int) : Bool := xs.any fun x => decide (x < 1) || decide (x > 200)
theorem gapBad_eq {xs : List Int} (h : xs ≠ []) : gapBad xs = (decide (mins xs < 1) || decide (maxs xs > 200)) := by
  obtain ⟨a1, a2⟩ := mins_spec h
  obtain ⟨b1, b2⟩ := maxs_spec h
  unfold gapBad
  rw [Bool.eq_iff_iff, List.any_eq_true]
  simp only [Bool.or_eq_true, decide_eq_true_eq]
  constructor
  · rintro ⟨x, hx, c | c⟩
    · have := a2 x hx; exact .inl (by omega)
    · have := b2 x hx; exact .inr (by omega)
  · rintro (c | c)
    · exact ⟨_, a1, .inl c⟩
    · exact ⟨_, b1, .inr c⟩
theorem find_first {α : Type} {p : α → Bool} {xs : List α} {i : Nat} {x : α} (h : xs[i]? = some x) (hx : p x = true) (hb : ∀ y ∈ xs.take i, p y = false) : xs.find? p = some x := by
  obtain ⟨hi, e⟩ := List.getElem?_eq_some_iff.mp h
  refine List.find?_eq_some_iff_append.mpr ⟨hx, xs.take i, xs.drop (i + 1), ?_, fun a ha => by rw [hb a ha]; rfl⟩
  rw [← e, ← List.drop_eq_getElem_cons hi, List.take_append_drop]
/-- the first code that applies, or none -/
def codeR (f : Str → Int) (rs : List (List Int)) : Option Str := match rngs.find? (rngBad f) with
  | some r => some r.1
  | none => if rs.any gapBad then some ("gaps" : Str) else if f "lateral" ≤ f "radar" + f "radar" then some ("radar" : Str) else if f "vertical" ≤ f "height" + f "height" then some ("height" : Str) else none
def spCodeRu : Sp := fun vs H Q _ => ∃ (ru g : Addr) (f : Str → Int) (rs : List (List Int)), vs = [.ref ru] ∧ RuA H ru g f rs ∧ ∀ H', Same H H' → Q (.str ((codeR f rs).getD "")) H'
end Sk

set_option Elab.async false
set_option linter.all false
set_option maxRecDepth 100000
set_option maxHeartbeats 4000000
namespace Sk
open PySem PySem.Spec PyProof.Rows L2 NdefX
/-! names -/
def LET : List Nat := ("ABCDEFGHIJKLMNOPQRSTUVWXYZ" : Str).cps.toList
def DIG : List Nat := ("0123456789" : Str).cps.toList
def signB (c : Nat) : Bool := decide (c ∈ LET) || decide (c ∈ DIG)
def nameB (t : Str) : Bool := decide (1 ≤ t.length ∧ t.length ≤ 5) && (match t.cps.toList.head? with | some c => decide (c ∈ LET) | none => false) && t.cps.toList.all signB
theorem till_str {z : Str} {g : TG} {tt : TT} {te : TE} {vs : List Nat} {σ : L2.St} {H2 : Hp} {e : Bool} {Q : VK} (Pv : Nat → Hp → Prop) (h0 : Pv 0 H2)
    (hs : ∀ i c H, z.cps[i]? = some c → Pv i H → g (.str ⟨#[c]⟩) (wipe σ vs) H fun σ2 H2 => wipe σ2 vs = wipe σ vs ∧ tt σ2 H2 fun b H3 => if b = true then te σ2 H3 fun y H4 => ∃ b, y = .bl b ∧ if b = e then Q (.bl e) H4 else Pv (i + 1) H4 else Pv (i + 1) H3) (hd : ∀ H, Pv z.cps.size H → Q (.bl (!e)) H) :
    ∃ W : Nat → Nat → Hp → Prop, (∃ m, W 0 m H2) ∧ ∀ i m H, W i m H → ((Its z).stop i H ∧ Q (.bl (!e)) H) ∨ ((Its z).go i H ∧ ∃ Nx : Hp → Prop, (∀ H', Nx H' → ∃ m', m' < m ∧ W (i + 1) m' H') ∧
      ∀ x H', (Its z).yld i H x H' → g x (wipe σ vs) H' fun σ2 H2 => wipe σ2 vs = wipe σ vs ∧ tt σ2 H2 fun b H3 => if b = true then te σ2 H3 fun y H4 => ∃ b, y = .bl b ∧ if b = e then Q (.bl e) H4 else Nx H4 else Nx H3) := by
  refine ⟨fun i m H => m = z.cps.size - i ∧ i ≤ z.cps.size ∧ Pv i H, ⟨z.cps.size, by simp, Nat.zero_le _, h0⟩, fun i m H w => ?_⟩
  obtain ⟨rfl, hi, p⟩ := w
  by_cases hlt : i < z.cps.size
  · refine .inr ⟨hlt, Pv (i + 1), fun H' p' => ⟨z.cps.size - (i + 1), by omega, rfl, hlt, p'⟩, fun x H' y => ?_⟩
    obtain ⟨rfl, c, hc, rfl⟩ := y
    exact hs i c _ hc p
  · obtain rfl : i = z.cps.size := by omega
    exact .inl ⟨Nat.le_refl _, hd H p⟩
theorem lc_str {z : Str} {g : TG} {tt : TT} {te : TE} {vs : List Nat} {σ : L2.St} {H1 : Hp} {D : Addr} {Qd : Hp → Prop} (Pv : Nat → Hp → Prop) (h0 : Pv 0 (upd H1 D (.lst [])))
    (hs : ∀ i c H, z.cps[i]? = some c → Pv i H → g (.str ⟨#[c]⟩) (wipe σ vs) H fun σ2 H2 => wipe σ2 vs = wipe σ vs ∧ tt σ2 H2 fun b H3 =>
      if b = true then te σ2 H3 fun y H4 => ∃ acc, H4 D = some (.lst acc) ∧ acc.length < sizeLine ∧ Pv (i + 1) (upd H4 D (.lst (acc ++ [y]))) else Pv (i + 1) H3) (hd : ∀ H, Pv z.cps.size H → Qd H) :
    ∃ W : Nat → Nat → Hp → Prop, (∃ m, W 0 m (upd H1 D (.lst []))) ∧ ∀ i m H, W i m H →
      ((Its z).stop i H ∧ Qd H) ∨ ((Its z).go i H ∧ ∃ Nx : Hp → Prop, (∀ H', Nx H' → ∃ m', m' < m ∧ W (i + 1) m' H') ∧ ∀ x H', (Its z).yld i H x H' → g x (wipe σ vs) H' fun σ2 H2 => wipe σ2 vs = wipe σ vs ∧ tt σ2 H2 fun b H3 =>
        if b = true then te σ2 H3 fun y H4 => ∃ acc, H4 D = some (.lst acc) ∧ acc.length < sizeLine ∧ Nx (upd H4 D (.lst (acc ++ [y]))) else Nx H3) := by
  refine ⟨fun i m H => m = z.cps.size - i ∧ i ≤ z.cps.size ∧ Pv i H, ⟨z.cps.size, by simp, Nat.zero_le _, h0⟩, fun i m H w => ?_⟩
  obtain ⟨rfl, hi, p⟩ := w
  by_cases hlt : i < z.cps.size
  · refine .inr ⟨hlt, Pv (i + 1), fun H' p' => ⟨z.cps.size - (i + 1), by omega, rfl, hlt, p'⟩, fun x H' y => ?_⟩
    obtain ⟨rfl, c, hc, rfl⟩ := y
    exact hs i c _ hc p
  · obtain rfl : i = z.cps.size := by omega
    exact .inl ⟨Nat.le_refl _, hd H p⟩
def spNameB (TT : List Addr) : Sp := fun vs H Q _ => ∃ t : Str, vs = [.str t] ∧ t.length ≤ 1000 ∧ Tabs TT H ∧ ∀ H', SameT TT H H' → Q (.bl (nameB t)) H'
def spNameL : Sp := fun vs H Q _ => ∃ t : Str, vs = [.str t] ∧ t.length ≤ 1000 ∧ ∀ H', Same H H' → Q (.bl (nameB t)) H'
theorem nameB_len {t : Str} (h : ¬ (1 ≤ t.length ∧ t.length ≤ 5)) : nameB t = false := by
  unfold nameB
  rw [decide_eq_false h, Bool.false_and, Bool.false_and]
theorem head_str {t : Str} (h : 1 ≤ t.length) : ∃ c, atI t.cps.toList 0 = some c ∧ t.cps.toList.head? = some c := by
  have hl : 0 < t.cps.toList.length := by
    have : t.length = t.cps.size := rfl
    rw [Array.length_toList]
    omega
  exact ⟨t.cps.toList[0], atI_nat (j := 0) (List.getElem?_eq_getElem hl), by rw [List.head?_eq_getElem?, List.getElem?_eq_getElem hl]⟩
theorem same_newC {H H1 : Hp} {a : Addr} {o : HO} (h : H a = none) (s : Same H H1) : Same H (upd H1 a o) := fun b x e => by
  rw [upd_ne (ne_of_none e h)]
  exact s b x e
theorem pt_chain3 {X : Cx} {op1 op2 op3 : CmpOp} {r1 r2 r3 : R2} {a b c d : Expr} {ta tb tc td : TE} {pos : Pos} (h1 : OpR X (compareOp op1) r1) (h2 : OpR X (compareOp op2) r2) (h3 : OpR X (compareOp op3) r3) (ha : PE X a ta) (hb : PE X b tb) (hc : PE X c tc) (hd : PE X d td)
    (hm : lastMarks [op1, op2, op3] [b, c, d] = false := by with_unfolding_all rfl) : PT X (.Compare a [op1, op2, op3] [b, c, d] pos) (tTest (tChain3 r1 r2 r3 ta tb tc td)) := by
  refine ⟨fun pins s σ H Q I h => ?_⟩
  refine isTrue_chain (thn (ha.run pins s σ H _ I h) fun v s1 ⟨x, H1, I1, q1, p1⟩ => test_link (thn (hb.run pins s1 σ H1 _ I1 p1) fun u s2 ⟨y, H2, I2, q2, p2⟩ =>
    thn (h1 pins s2 σ H2 x y v u _ I2 q1 q2 p2) fun e s3 ⟨z, H3, I3, q3, k, ek, p3⟩ => ?_)) hm
  subst ek
  cases q3
  refine wpAny_truthy_bool ?_
  cases k with
  | false =>
    obtain ⟨k', e', q'⟩ := p3
    cases e'
    exact ite_ff ⟨H3, I3, q'⟩
  | true =>
    refine ite_tt (test_link (thn (hc.run pins s3 σ H3 _ I3 p3) fun u2 s4 ⟨y2, H4, I4, q4, p4⟩ => thn (h2 pins s4 σ H4 y y2 u u2 _ I4 q2 q4 p4) fun e2 s5 ⟨z2, H5, I5, q5, k2, ek2, p5⟩ => ?_))
    subst ek2
    cases q5
    refine wpAny_truthy_bool ?_
    cases k2 with
    | false =>
      obtain ⟨k', e', q'⟩ := p5
      cases e'
      exact ite_ff ⟨H5, I5, q'⟩
    | true =>
      refine ite_tt (test_last (thn (hd.run pins s5 σ H5 _ I5 p5) fun u3 s6 ⟨y3, H6, I6, q6, p6⟩ => thn (h3 pins s6 σ H6 y2 y3 u2 u3 _ I6 q4 q6 p6) fun e3 s7 ⟨z3, H7, I7, q7, k3, ek3, p7⟩ => ?_))
      subst ek3
      cases q7
      exact wpAny_truthy_bool ⟨H7, I7, p7⟩
end Sk

set_option Elab.async false
set_option linter.all false
set_option maxRecDepth 100000
set_option maxHeartbeats 4000000
namespace Sk
open PySem PySem.Spec PyProof.Rows L2
/-! a module's tuple of rows (text, number, number), written out in the part that stands -/
def tupB (K : PySem.W.Frag) (a : Addr) : Option (List Value) :=
  match List.lookup a K with
  | some o => if o.cls = .type "tuple" then (match o.data with | .seq its _ => if its.size ≤ 1000 then some its.toList else none | _ => none) else none
  | none => none
def rowK (K : PySem.W.Frag) : Value → Option (Str × Int × Int)
  | .ref b => match tupB K b with
    | some [.str s _, .int x _, .int y _] => some (s, x, y)
    | _ => none
  | _ => none
def rowsK (K : PySem.W.Frag) (a : Addr) : Option (List (Str × Int × Int)) := (tupB K a).bind fun its => its.mapM (rowK K)
theorem tupB_sq {K : PySem.W.Frag} {a : Addr} {its : List Value} {xs : List V} (h : tupB K a = some its) (hv : Vals xs its) (H : Hp) : SqT K H a xs := by
  unfold tupB at h
  cases e : List.lookup a K with
  | none => rw [e] at h; cases h
  | some o =>
    rw [e] at h
    dsimp only at h
    by_cases c : o.cls = .type "tuple"
    · rw [if_pos c] at h
      split at h
      · rename_i its' n hd
        by_cases z : its'.size ≤ 1000
        · rw [if_pos z] at h
          have h := Option.some.inj h
          subst h
          exact .inr ⟨o, its', n, e, c, hd, by rw [sizeLine_eq]; omega, hv⟩
        · rw [if_neg z] at h; cases h
      · cases h
    · rw [if_neg c] at h; cases h
theorem rowK_sq {K : PySem.W.Frag} {v : Value} {r : Str × Int × Int} (h : rowK K v = some r) : ∃ b, v = .ref b ∧ ∀ H, SqT K H b [.str r.1, .int r.2.1, .int r.2.2] := by
  unfold rowK at h
  split at h
  · rename_i b
    refine ⟨b, rfl, fun H => ?_⟩
    split at h
    · rename_i s t1 x t2 y t3 e
      have h := Option.some.inj h
      subst h
      exact tupB_sq (xs := [.str s, .int x, .int y]) e (.cons ⟨t1, rfl⟩ (.cons ⟨t2, rfl⟩ (.cons ⟨t3, rfl⟩ .nil))) H
    · cases h
  · cases h
theorem rows_all {K : PySem.W.Frag} : ∀ {its : List Value} {rs : List (Str × Int × Int)}, its.mapM (rowK K) = some rs → ∃ ts : List Addr, Vals (ts.map V.ref) its ∧ ts.length = rs.length ∧ ∀ (i : Nat) (h1 : i < ts.length) (h2 : i < rs.length) (H : Hp), SqT K H ts[i] [.str rs[i].1, .int rs[i].2.1, .int rs[i].2.2]
  | [], rs, h => by
    have : rs = [] := (Option.some.inj h).symm
    subst this
    exact ⟨[], .nil, rfl, fun i h1 => absurd h1 (Nat.not_lt_zero _)⟩
  | v :: its, rs, h => by
    rw [List.mapM_cons] at h
    cases e1 : rowK K v with
    | none => rw [e1] at h; cases h
    | some r =>
      cases e2 : its.mapM (rowK K) with
      | none => rw [e1, e2] at h; cases h
      | some rs' =>
        rw [e1, e2] at h
        have : rs = r :: rs' := (Option.some.inj h).symm
        subst this
        obtain ⟨b, rfl, hb⟩ := rowK_sq e1
        obtain ⟨ts, hv, hl, ha⟩ := rows_all e2
        refine ⟨b :: ts, .cons rfl hv, by rw [List.length_cons, List.length_cons, hl], fun i h1 h2 H => ?_⟩
        cases i with
        | zero => exact hb H
        | succ i => exact ha i (Nat.lt_of_succ_lt_succ h1) (Nat.lt_of_succ_lt_succ h2) H
theorem rows_of {K : PySem.W.Frag} {a : Addr} {rs : List (Str × Int × Int)} (h : rowsK K a = some rs) : ∃ ts : List Addr, (∀ H, SqT K H a (ts.map V.ref)) ∧ ts.length = rs.length ∧ ∀ (i : Nat) (h1 : i < ts.length) (h2 : i < rs.length) (H : Hp), SqT K H ts[i] [.str rs[i].1, .int rs[i].2.1, .int rs[i].2.2] := by
  unfold rowsK at h
  cases e : tupB K a with
  | none => rw [e] at h; cases h
  | some its =>
    rw [e] at h
    obtain ⟨ts, hv, hl, ha⟩ := rows_all h
    exact ⟨ts, tupB_sq e hv, hl, ha⟩
open GenW GxR in
/-- all over a tuple, what follows told apart by both answers -/
theorem till_allT {K : PySem.W.Frag} {a : Addr} {xs : List V} {g : TG} {tt : TT} {te : TE} {vs : List Nat} {σ : L2.St} {H2 : Hp} {Qe Qn : Hp → Prop} (Pv : Nat → Hp → Prop) (h0 : Pv 0 H2) (hl : ∀ i H, i ≤ xs.length → Pv i H → SqT K H a xs)
    (hs : ∀ i x H, xs[i]? = some x → Pv i H → g x (wipe σ vs) H fun σ2 H2 => wipe σ2 vs = wipe σ vs ∧ tt σ2 H2 fun b H3 => if b = true then te σ2 H3 fun y H4 => ∃ b, y = .bl b ∧ if b = false then Qe H4 else Pv (i + 1) H4 else Pv (i + 1) H3) (hd : ∀ H, Pv xs.length H → Qn H) :
    ∃ W : Nat → Nat → Hp → Prop, (∃ m, W 0 m H2) ∧ ∀ i m H, W i m H → ((Itt K a).stop i H ∧ Qn H) ∨ ((Itt K a).go i H ∧ ∃ Nx : Hp → Prop, (∀ H', Nx H' → ∃ m', m' < m ∧ W (i + 1) m' H') ∧
      ∀ x H', (Itt K a).yld i H x H' → g x (wipe σ vs) H' fun σ2 H2 => wipe σ2 vs = wipe σ vs ∧ tt σ2 H2 fun b H3 => if b = true then te σ2 H3 fun y H4 => ∃ b, y = .bl b ∧ if b = false then Qe H4 else Nx H4 else Nx H3) := by
  refine ⟨fun i m H => m = xs.length - i ∧ i ≤ xs.length ∧ Pv i H, ⟨xs.length, by simp, Nat.zero_le _, h0⟩, fun i m H w => ?_⟩
  obtain ⟨hm, hi, p⟩ := w
  have q := hl i H hi p
  rcases Nat.lt_or_ge i xs.length with z | z
  · refine .inr ⟨⟨xs, xs[i], q, by simp [z]⟩, Pv (i + 1), fun H' p' => ⟨xs.length - (i + 1), by omega, rfl, z, p'⟩, fun x H' y => ?_⟩
    obtain ⟨rfl, y⟩ := y
    exact hs i x _ (y xs q) p
  · obtain rfl : i = xs.length := by omega
    exact .inl ⟨⟨xs, q, Nat.le_refl _⟩, hd H p⟩
def spCheckR (CE : Addr) (TT : List Addr) : Sp := fun vs H Q E => ∃ (ru g : Addr) (f : Str → Int) (rs : List (List Int)), vs = [.ref ru] ∧ RuA H ru g f rs ∧ Tabs TT H ∧ (∀ H', codeR f rs = none → SameT TT H H' → Q .non H') ∧ ∀ c d H', codeR f rs = some c → SameT TT H H' → H d = none → H' d = some (.xd (cdK c)) → E (.ref CE) (some d) H'
theorem RuA.st {T : List Addr} {H H' : Hp} {ru g : Addr} {f : Str → Int} {rs : List (List Int)} (R : RuA H ru g f rs) (s : SameT T H H') (t : Tabs T H) : RuA H' ru g f rs :=
  ⟨let ⟨kvs, h1, h2⟩ := R.ex; ⟨kvs, s.d t h1, h2⟩, let ⟨qs, h1, h2, h3⟩ := R.gp; ⟨qs, s.t t h1, fun q h => s.t t (h2 q h), h3⟩, R.ne⟩
def spCheckedR (TT : List Addr) : Sp := fun vs H Q _ => ∃ (ru g : Addr) (f : Str → Int) (rs : List (List Int)), vs = [.ref ru] ∧ RuA H ru g f rs ∧ Tabs TT H ∧ ∀ H', SameT TT H H' → Q (.str ((codeR f rs).getD "")) H'
end Sk

set_option Elab.async false
set_option linter.all false
set_option maxRecDepth 100000
set_option maxHeartbeats 4000000
namespace Sk
open PySem PySem.Spec PyProof.Rows L2 PySem.W
/-! ways over open legs, and how they are ranked -/
def Lw (D : CD) (ns : List Str) : Int := bg D ns (ns.length - 1)
def key (D : CD) (ns : List Str) : PyData := .tuple [.int (Lw D ns), .int (ns.length : Int), .tuple (ns.map PyData.str)]
def slt (a b : List Str) : Bool := PyProof.Rows.lexLt itemOrd (keyToksAll (a.map PyData.str)) (keyToksAll (b.map PyData.str))
def klt (D : CD) (a b : List Str) : Bool := dataLt (key D a) (key D b)
theorem str_dec {x y : Str} : PyData.eqv (.str x) (.str y) = decide (x = y) := by
  by_cases h : x = y <;> simp [PyData.eqv, h]
theorem slt_cons (x y : Str) (a b : List Str) : slt (x :: a) (y :: b) = if x = y then slt a b else dataLt (.str x) (.str y) := by
  unfold slt
  rw [List.map_cons, List.map_cons, dataLt_cons (by simp [alike]), str_dec]
  by_cases h : x = y
  · rw [if_pos h, if_pos (decide_eq_true h)]
  · rw [if_neg h, if_neg (by simpa using h)]
theorem str_tot {x y : Str} (h : dataLt (.str x) (.str y) = false) (k : dataLt (.str y) (.str x) = false) : x = y := by
  have := lex_total _ _ h k
  simp only [keyToks, List.cons.injEq, Sum.inr.injEq, and_true] at this
  exact str_of_cps this
theorem slt_tot : ∀ (a b : List Str), a.length = b.length → slt a b = false → slt b a = false → a = b
  | [], [], _, _, _ => rfl
  | x :: a, y :: b, hl, h, k => by
    rw [slt_cons] at h k
    by_cases e : x = y
    · rw [if_pos e] at h
      rw [if_pos e.symm] at k
      rw [e, slt_tot a b (by simpa using hl) h k]
    · rw [if_neg e] at h
      rw [if_neg fun z => e z.symm] at k
      exact absurd (str_tot h k) e
theorem slt_irr (a : List Str) : slt a a = false := lex_irrefl _
theorem slt_app (x : Str) : ∀ (a b : List Str), a.length = b.length → slt (a ++ [x]) (b ++ [x]) = slt a b
  | [], [], _ => by
    show slt [x] [x] = slt [] []
    rw [slt_irr, slt_irr]
  | y :: a, z :: b, hl => by
    rw [List.cons_append, List.cons_append, slt_cons, slt_cons, slt_app x a b (by simpa using hl)]
theorem int_dec {x y : Int} : PyData.eqv (.int x) (.int y) = decide (x = y) := by
  by_cases h : x = y <;> simp [PyData.eqv, h]
theorem alike_strs (xs ys : List Str) : alikeAll (xs.map PyData.str) (ys.map PyData.str) = true := by
  induction xs generalizing ys with
  | nil => simp [alikeAll]
  | cons x xs ih =>
    cases ys with
    | nil => simp [alikeAll]
    | cons y ys =>
      rw [List.map_cons, List.map_cons, alikeAll, ih]
      simp [alike]
theorem key_alike (D : CD) (a b : List Str) : alike (key D a) (key D b) = true := by
  unfold key
  rw [alike, alikeAll, alikeAll, alikeAll, alike, alike, alike, alike_strs, alikeAll]
  rfl
theorem eqv_strs (a b : List Str) : PyData.eqv (.tuple (a.map PyData.str)) (.tuple (b.map PyData.str)) = true → slt a b = false := fun e => by
  have h := (toks_eqv (.tuple (a.map PyData.str)) (.tuple (b.map PyData.str)) (by rw [alike]; exact alike_strs a b)).1 e
  unfold slt
  rw [show keyToksAll (a.map PyData.str) = keyToksAll (b.map PyData.str) from h]
  exact lex_irrefl _
theorem klt_eq (D : CD) (a b : List Str) : klt D a b = if Lw D a = Lw D b then (if a.length = b.length then slt a b else decide (a.length < b.length)) else decide (Lw D a < Lw D b) := by
  unfold klt key
  rw [dataLt_tuple, dataLt_cons (by simp [alike]), dataLt_cons (by simp [alike]), dataLt_cons (by rw [alike]; exact alike_strs a b), int_dec, int_dec, dataLt_int, dataLt_int]
  by_cases h1 : Lw D a = Lw D b
  · rw [if_pos h1, if_pos (decide_eq_true h1)]
    by_cases h2 : a.length = b.length
    · rw [if_pos h2, if_pos (decide_eq_true (by rw [h2]))]
      cases e : PyData.eqv (.tuple (a.map PyData.str)) (.tuple (b.map PyData.str)) with
      | true =>
        rw [if_pos rfl, eqv_strs a b e]
        exact lex_irrefl _
      | false =>
        rw [if_neg Bool.false_ne_true, dataLt_tuple]
        rfl
    · rw [if_neg h2, if_neg (by simp; omega)]
      by_cases z : a.length < b.length
      · rw [decide_eq_true z, decide_eq_true (by omega)]
      · rw [decide_eq_false z, decide_eq_false (by omega)]
  · rw [if_neg h1, if_neg (by simpa using h1)]
theorem klt_irr (D : CD) (a : List Str) : klt D a a = false := lex_irrefl _
theorem klt_tr {D : CD} {a b c : List Str} (h : klt D a b = true) (k : klt D b c = true) : klt D a c = true := lex_trans _ _ _ h k
theorem klt_neg {D : CD} {a b c : List Str} (h : klt D a b = false) (k : klt D b c = false) : klt D a c = false := by
  cases e : klt D a c with
  | false => rfl
  | true =>
    rcases lex_negTrans _ (keyToks (key D b)) _ e with w | w
    · rw [show klt D a b = true from w] at h; cases h
    · rw [show klt D b c = true from w] at k; cases k
theorem klt_tot {D : CD} {a b : List Str} (h : klt D a b = false) (k : klt D b a = false) : a = b := by
  rw [klt_eq] at h k
  by_cases h1 : Lw D a = Lw D b
  · rw [if_pos h1] at h
    rw [if_pos h1.symm] at k
    by_cases h2 : a.length = b.length
    · rw [if_pos h2] at h
      rw [if_pos h2.symm] at k
      exact slt_tot a b h2 h k
    · rw [if_neg h2] at h
      rw [if_neg fun z => h2 z.symm] at k
      have := of_decide_eq_false h
      have := of_decide_eq_false k
      omega
  · rw [if_neg h1] at h
    rw [if_neg fun z => h1 z.symm] at k
    have := of_decide_eq_false h
    have := of_decide_eq_false k
    omega
/-! one leg more -/
def lst (ns : List Str) : Str := rn ns (ns.length - 1)
theorem lst_app (ns : List Str) (x : Str) : lst (ns ++ [x]) = x := by
  unfold lst
  rw [List.length_append, List.length_singleton, Nat.add_sub_cancel]
  exact rn_r ns x
theorem bg_app (D : CD) (ns ys : List Str) : ∀ k, k < ns.length → bg D (ns ++ ys) k = bg D ns k
  | 0, _ => rfl
  | k + 1, h => by
    show bg D (ns ++ ys) k + D.len (rn (ns ++ ys) k) (rn (ns ++ ys) (k + 1)) = bg D ns k + D.len (rn ns k) (rn ns (k + 1))
    rw [bg_app D ns ys k (by omega), rn_l (by omega), rn_l h]
theorem Lw_app (D : CD) {ns : List Str} (h : ns ≠ []) (x : Str) : Lw D (ns ++ [x]) = Lw D ns + D.len (lst ns) x := by
  obtain ⟨k, hk⟩ : ∃ k, ns.length = k + 1 := ⟨ns.length - 1, by have : ns.length ≠ 0 := fun z => h (List.length_eq_zero_iff.mp z); omega⟩
  unfold Lw lst
  rw [List.length_append, List.length_singleton, hk, Nat.add_sub_cancel, Nat.add_sub_cancel]
  show bg D (ns ++ [x]) k + D.len (rn (ns ++ [x]) k) (rn (ns ++ [x]) (k + 1)) = _
  rw [bg_app D ns [x] k (by omega), rn_l (by omega), ← hk, rn_r]
theorem klt_app {D : CD} {a b : List Str} (x : Str) (ha : a ≠ []) (hb : b ≠ []) (e : lst a = lst b) : klt D (a ++ [x]) (b ++ [x]) = klt D a b := by
  rw [klt_eq, klt_eq, Lw_app D ha, Lw_app D hb, e, List.length_append, List.length_append]
  by_cases h1 : Lw D a = Lw D b
  · rw [if_pos h1, if_pos (by rw [h1])]
    by_cases h2 : a.length = b.length
    · rw [if_pos h2, if_pos (by rw [h2]), slt_app x a b h2]
    · rw [if_neg h2, if_neg (by omega)]
      by_cases z : a.length < b.length
      · rw [decide_eq_true z, decide_eq_true (by omega)]
      · rw [decide_eq_false z, decide_eq_false (by omega)]
  · rw [if_neg h1, if_neg (by omega)]
    by_cases z : Lw D a < Lw D b
    · rw [decide_eq_true z, decide_eq_true (by omega)]
    · rw [decide_eq_false z, decide_eq_false (by omega)]
theorem klt_more {D : CD} {a : List Str} {x : Str} (ha : a ≠ []) (h : 1 ≤ D.len (lst a) x) : klt D (a ++ [x]) a = false := by
  rw [klt_eq, Lw_app D ha, if_neg (by omega)]
  exact decide_eq_false (by omega)
def opn (lv : Int) (l : Lg) : Bool := decide (l.lo ≤ lv ∧ lv ≤ l.hi)
def goes (lv : Int) (ns : List Str) (l : Lg) : Bool := decide (l.s = lst ns) && (decide (l.e ∉ ns) && opn lv l)
def exts (D : CD) (lv : Int) (ns : List Str) : List (List Str) := (D.ls.filter (goes lv ns)).map fun l => ns ++ [l.e]
inductive Way (D : CD) (lv : Int) (st : Str) : List Str → Prop
  | one : Way D lv st [st]
  | ext {w v : List Str} : Way D lv st w → v ∈ exts D lv w → Way D lv st v
theorem mem_exts {D : CD} {lv : Int} {w v : List Str} (h : v ∈ exts D lv w) : ∃ l ∈ D.ls, v = w ++ [l.e] ∧ l.s = lst w ∧ l.e ∉ w ∧ opn lv l = true := by
  obtain ⟨l, hl, rfl⟩ := List.mem_map.mp h
  obtain ⟨h1, h2⟩ := List.mem_filter.mp hl
  unfold goes at h2
  simp only [Bool.and_eq_true, decide_eq_true_eq] at h2
  exact ⟨l, h1, rfl, h2.1, h2.2.1, h2.2.2⟩
theorem in_exts {D : CD} {lv : Int} {w : List Str} {l : Lg} (h : l ∈ D.ls) (a : l.s = lst w) (b : l.e ∉ w) (c : opn lv l = true) : w ++ [l.e] ∈ exts D lv w := by
  refine List.mem_map.mpr ⟨l, List.mem_filter.mpr ⟨h, ?_⟩, rfl⟩
  unfold goes
  rw [decide_eq_true a, decide_eq_true b, c]
  rfl
section
variable {D : CD} {lv : Int} {st : Str}
theorem Way.ne {w : List Str} (h : Way D lv st w) : w ≠ [] := by
  cases h with
  | one => simp
  | ext _ h => obtain ⟨l, _, rfl, _⟩ := mem_exts h; simp
theorem Way.nd {w : List Str} (h : Way D lv st w) : w.Nodup := by
  induction h with
  | one => simp
  | ext _ h ih =>
    obtain ⟨l, _, rfl, _, hn, _⟩ := mem_exts h
    rw [List.nodup_append]
    exact ⟨ih, by simp, fun a ha b hb => by rw [List.mem_singleton.mp hb]; exact fun z => hn (z ▸ ha)⟩
theorem Way.chain {w : List Str} (h : Way D lv st w) : Chain D w := by
  induction h with
  | one => intro j hj; simp at hj
  | @ext w v hw h ih =>
    obtain ⟨l, hl, rfl, hs, _, _⟩ := mem_exts h
    have hne := hw.ne
    refine ih.snoc (a := lst w) ?_ (by rw [← hs]; exact CD.leg_some hl)
    rw [List.getLast?_eq_getElem?]
    unfold lst rn
    rw [List.getD_eq_getElem?_getD, List.getElem?_eq_getElem (by have : w.length ≠ 0 := fun z => hne (List.length_eq_zero_iff.mp z); omega)]
    rfl
theorem Way.lst_mem {w : List Str} (h : Way D lv st w) : lst w ∈ w := by
  cases h with
  | one => simp [lst, rn]
  | ext _ h =>
    obtain ⟨l, _, rfl, _⟩ := mem_exts h
    rw [lst_app]
    simp
/-! the shortest ways: S holds the settled fixes with their ways -/
structure Dj (D : CD) (lv : Int) (st : Str) (S : List (Str × List Str)) (q : List (List Str)) : Prop where
  a : ∀ w ∈ q, Way D lv st w
  b : ∀ x ∈ S, Way D lv st x.2 ∧ lst x.2 = x.1 ∧ ∀ v, Way D lv st v → lst v = x.1 → klt D v x.2 = false
  c : ∀ x ∈ S, ∀ y ∈ x.2, ∃ z ∈ S, z.1 = y
  d : ∀ w ∈ q, w = [st] ∨ ∃ x ∈ S, w ∈ exts D lv x.2
  e : ∀ x ∈ S, ∀ v ∈ exts D lv x.2, v ∈ q ∨ ∃ z ∈ S, z.1 = lst v
  f : (∃ z ∈ S, z.1 = st) ∨ [st] ∈ q
variable {S : List (Str × List Str)} {q : List (List Str)}
theorem Dj.start : Dj D lv st [] [[st]] := ⟨fun w h => by rw [List.mem_singleton.mp h]; exact .one, (fun _ h => nomatch h), (fun _ h => nomatch h), fun w h => .inl (List.mem_singleton.mp h), (fun _ h => nomatch h), .inr (List.mem_singleton.mpr rfl)⟩
theorem Dj.cover (pos : ∀ l ∈ D.ls, 1 ≤ D.len l.s l.e) (J : Dj D lv st S q) {v : List Str} (h : Way D lv st v) : (∃ e ∈ q, klt D v e = false) ∨ ∃ z ∈ S, z.1 = lst v := by
  induction h with
  | one =>
    rcases J.f with z | z
    · exact .inr z
    · exact .inl ⟨_, z, klt_irr D _⟩
  | @ext w v hw hv ih =>
    obtain ⟨l, hl, rfl, hs, hn, ho⟩ := mem_exts hv
    rcases ih with ⟨e, he, hk⟩ | ⟨z, hz, hz1⟩
    · exact .inl ⟨e, he, klt_neg (klt_more hw.ne (by rw [← hs]; exact pos l hl)) hk⟩
    · by_cases hx : ∃ y ∈ S, y.1 = l.e
      · exact .inr (by rw [lst_app]; exact hx)
      · obtain ⟨b1, b2, b3⟩ := J.b z hz
        have nu : l.e ∉ z.2 := fun m => hx (J.c z hz l.e m)
        have hin := in_exts hl (w := z.2) (by rw [b2, hz1, hs]) nu ho
        rcases J.e z hz _ hin with m | ⟨y, hy, hy1⟩
        · refine .inl ⟨_, m, ?_⟩
          rw [klt_app l.e hw.ne b1.ne (by rw [b2, hz1])]
          exact b3 w hw hz1.symm
        · exact absurd ⟨y, hy, by rw [hy1, lst_app]⟩ hx
/-- the least way in the queue leads to a fix that is settled already -/
theorem Dj.skip {m : List Str} {q' : List (List Str)} (J : Dj D lv st S q) (p : (m :: q').Perm q) (h : ∃ z ∈ S, z.1 = lst m) : Dj D lv st S q' := by
  refine ⟨fun w hw => J.a w (p.mem_iff.mp (List.mem_cons_of_mem _ hw)), J.b, J.c, fun w hw => J.d w (p.mem_iff.mp (List.mem_cons_of_mem _ hw)), fun x hx v hv => ?_, ?_⟩
  · rcases J.e x hx v hv with z | z
    · rcases List.mem_cons.mp (p.mem_iff.mpr z) with y | y
      · exact .inr (by rw [y]; exact h)
      · exact .inl y
    · exact .inr z
  · rcases J.f with z | z
    · exact .inl z
    · rcases List.mem_cons.mp (p.mem_iff.mpr z) with y | y
      · exact .inl (by
          have e : lst m = st := by rw [← y]; rfl
          rw [e] at h
          exact h)
      · exact .inr y
theorem Dj.least (pos : ∀ l ∈ D.ls, 1 ≤ D.len l.s l.e) {m : List Str} {q' : List (List Str)} (J : Dj D lv st S q) (p : (m :: q').Perm q) (mn : ∀ w ∈ q', klt D w m = false) (h : ¬ ∃ z ∈ S, z.1 = lst m) : ∀ v, Way D lv st v → lst v = lst m → klt D v m = false := fun v hv e => by
  rcases J.cover pos hv with ⟨w, hw, hk⟩ | z
  · rcases List.mem_cons.mp (p.mem_iff.mpr hw) with y | y
    · rw [← y]; exact hk
    · exact klt_neg hk (mn w y)
  · rw [e] at z
    exact absurd z h
/-- or it settles one more -/
theorem Dj.settle (pos : ∀ l ∈ D.ls, 1 ≤ D.len l.s l.e) {m : List Str} {q' : List (List Str)} (J : Dj D lv st S q) (p : (m :: q').Perm q) (mn : ∀ w ∈ q', klt D w m = false) (h : ¬ ∃ z ∈ S, z.1 = lst m) {q2 : List (List Str)} (p2 : q2.Perm (q' ++ exts D lv m)) : Dj D lv st (S ++ [(lst m, m)]) q2 := by
  have hm := J.a m (p.mem_iff.mp List.mem_cons_self)
  have old : ∀ {y : Str}, (∃ z ∈ S, z.1 = y) → ∃ z ∈ S ++ [(lst m, m)], z.1 = y := fun ⟨z, hz, e⟩ => ⟨z, List.mem_append_left _ hz, e⟩
  have new : ∃ z ∈ S ++ [(lst m, m)], z.1 = lst m := ⟨_, List.mem_append_right _ (List.mem_singleton.mpr rfl), rfl⟩
  refine ⟨fun w hw => ?_, fun x hx => ?_, fun x hx y hy => ?_, fun w hw => ?_, fun x hx v hv => ?_, ?_⟩
  · rcases List.mem_append.mp (p2.mem_iff.mp hw) with z | z
    · exact J.a w (p.mem_iff.mp (List.mem_cons_of_mem _ z))
    · exact .ext hm z
  · rcases List.mem_append.mp hx with z | z
    · exact J.b x z
    · rw [List.mem_singleton.mp z]
      exact ⟨hm, rfl, J.least pos p mn h⟩
  · rcases List.mem_append.mp hx with z | z
    · exact old (J.c x z y hy)
    · rw [List.mem_singleton.mp z] at hy
      have hy : y ∈ m := hy
      rcases J.d m (p.mem_iff.mp List.mem_cons_self) with e | ⟨u, hu, he⟩
      · rw [e] at hy
        rw [List.mem_singleton.mp hy]
        have : lst m = st := by rw [e]; rfl
        rw [← this]
        exact new
      · obtain ⟨l, _, em, _⟩ := mem_exts he
        rw [em] at hy
        rcases List.mem_append.mp hy with hy | hy
        · exact old (J.c u hu y hy)
        · rw [List.mem_singleton.mp hy]
          have : lst m = l.e := by rw [em, lst_app]
          rw [← this]
          exact new
  · rcases List.mem_append.mp (p2.mem_iff.mp hw) with z | z
    · rcases J.d w (p.mem_iff.mp (List.mem_cons_of_mem _ z)) with y | ⟨u, hu, he⟩
      · exact .inl y
      · exact .inr ⟨u, List.mem_append_left _ hu, he⟩
    · exact .inr ⟨_, List.mem_append_right _ (List.mem_singleton.mpr rfl), z⟩
  · rcases List.mem_append.mp hx with z | z
    · rcases J.e x z v hv with y | y
      · rcases List.mem_cons.mp (p.mem_iff.mpr y) with y | y
        · exact .inr (by rw [y]; exact new)
        · exact .inl (p2.mem_iff.mpr (List.mem_append_left _ y))
      · exact .inr (old y)
    · rw [List.mem_singleton.mp z] at hv
      exact .inl (p2.mem_iff.mpr (List.mem_append_right _ hv))
  · rcases J.f with z | z
    · exact .inl (old z)
    · rcases List.mem_cons.mp (p.mem_iff.mpr z) with y | y
      · have e : lst m = st := by rw [← y]; rfl
        rw [e] at new
        exact .inl (by rw [e]; exact new)
      · exact .inr (p2.mem_iff.mpr (List.mem_append_left _ y))
theorem Dj.done (pos : ∀ l ∈ D.ls, 1 ≤ D.len l.s l.e) (J : Dj D lv st S []) {v : List Str} (h : Way D lv st v) : ∃ z ∈ S, z.1 = lst v := by
  rcases J.cover pos h with ⟨_, z, _⟩ | z
  · cases z
  · exact z
end
end Sk

set_option Elab.async false
set_option linter.all false
set_option maxRecDepth 100000
set_option maxHeartbeats 4000000
namespace Sk
open PySem PySem.Spec PyProof.Rows L2
/-! charts in which no two legs join the same names -/
def UQ (ls : List Lg) : Prop := ls.Pairwise fun a b => ¬ (a.s = b.s ∧ a.e = b.e)
theorem UQ.snoc {ls : List Lg} {q : Lg} (h : UQ ls) (k : ∀ l ∈ ls, ¬ (l.s = q.s ∧ l.e = q.e)) : UQ (ls ++ [q]) :=
  List.pairwise_append.mpr ⟨h, List.pairwise_singleton _ _, fun a ha b hb => by rw [List.mem_singleton.mp hb]; exact k a ha⟩
theorem bs_none {ls : List Lg} {bs : List Bool} {s e : Str} {u : Nat} (h : bs = (ls.take u).map (fun q => decide (q.s = s) && decide (q.e = e))) (hb : bs.any id = false) (hu : ls.length ≤ u := by simp) : ∀ l ∈ ls, ¬ (l.s = s ∧ l.e = e) := fun l hl ⟨h1, h2⟩ => by
  rw [List.take_of_length_le hu] at h
  have : bs.any id = true := List.any_eq_true.mpr ⟨true, by rw [h]; exact List.mem_map.mpr ⟨l, hl, by rw [decide_eq_true h1, decide_eq_true h2]; rfl⟩, rfl⟩
  rw [this] at hb
  cases hb
/-- the places of a chart, by name -/
def CE (D : CD) : Prop := ∃ ns : List Str, D.fs.map (·.1) = ns.map Sum.inr ∧ ns.Nodup ∧ 2 ≤ ns.length ∧ ns.length ≤ 7 ∧ (∀ n ∈ ns, sOk n ∧ ∃ a x y, D.pt n = some (a, x, y)) ∧ ∀ s ∈ ns, ∀ e ∈ ns, s ≠ e → 1 ≤ D.len s e
def spLegs7 (K : PySem.W.Frag) : Sp := fun vs H Q _ => ∃ (d c l : Addr) (ns : List Str), vs = [.ref d, .ref l] ∧ St1 K H d c ∧ H l = some (.lst (ns.map V.str)) ∧ 2 ≤ ns.length ∧ ns.length ≤ 12 ∧
  ∀ (ls : List Lg) p H', LegsAt H' p ns ls → UQ ls → ls.length ≤ 100 → H p = none → St1 K H' d c → Keep d H H' → Q (.ref p) H'
def spChart7 (K : PySem.W.Frag) : Sp := fun vs H Q _ => ∃ (d c : Addr) (m z : Int), vs = [.ref d, .int m, .int z] ∧ St1 K H d c ∧ 2 ≤ m ∧ m ≤ 7 ∧ 1 ≤ z ∧ z ≤ 9000 ∧
  ∀ (D : CD) ch H', CE D → UQ D.ls → H D.lg = none → (∀ l ∈ D.ls, 1 ≤ D.len l.s l.e) → ChartAt H' ch D → H ch = none → H D.fx = none → St1 K H' d c → Keep d H H' → Q (.ref ch) H'
end Sk

set_option Elab.async false
set_option linter.all false
set_option maxRecDepth 100000
set_option maxHeartbeats 4000000
namespace Sk
/-! heaps in lists, and what a sift does to them -/
section
variable {α : Type}
/-- a strict order whose complement is transitive -/
structure Ord' (lt : α → α → Bool) : Prop where
  asym : ∀ x y, lt x y = true → lt y x = false
  neg : ∀ x y z, lt x y = false → lt y z = false → lt x z = false
theorem Ord'.tr {lt : α → α → Bool} (O : Ord' lt) {x y z : α} (h : lt x y = true) (k : lt y z = true) : lt x z = true := by
  cases e : lt x z with
  | true => rfl
  | false =>
    have := O.neg x z y e (O.asym _ _ k)
    rw [h] at this; cases this
def par (i : Nat) : Nat := (i - 1) / 2
def IsHeap (lt : α → α → Bool) (zs : List α) : Prop := ∀ i x y, 0 < i → zs[i]? = some x → zs[par i]? = some y → lt x y = false
def Up (lt : α → α → Bool) (zs : List α) (p : Nat) : Prop := (∀ i x y, 0 < i → i ≠ p → zs[i]? = some x → zs[par i]? = some y → lt x y = false) ∧ ∀ c x y, 0 < c → par c = p → 0 < p → zs[c]? = some x → zs[par p]? = some y → lt x y = false
def Down (lt : α → α → Bool) (zs : List α) (p : Nat) : Prop := (∀ i x y, 0 < i → i ≠ p → par i ≠ p → zs[i]? = some x → zs[par i]? = some y → lt x y = false) ∧ ∀ c x y, 0 < c → par c = p → 0 < p → zs[c]? = some x → zs[par p]? = some y → lt x y = false
/-- x stands at i, y at j: exchanged -/
def swp (zs : List α) (i j : Nat) (x y : α) : List α := (zs.set i y).set j x
theorem swp_len (zs : List α) (i j : Nat) (x y : α) : (swp zs i j x y).length = zs.length := by unfold swp; rw [List.length_set, List.length_set]
theorem swp_perm {zs : List α} {i j : Nat} {x y : α} (hi : zs[i]? = some x) (hj : zs[j]? = some y) (n : i ≠ j) : (swp zs i j x y).Perm zs := by
  obtain ⟨li, rfl⟩ := List.getElem?_eq_some_iff.mp hi
  obtain ⟨lj, rfl⟩ := List.getElem?_eq_some_iff.mp hj
  unfold swp
  exact List.set_set_perm li lj
theorem swp_i {zs : List α} {i j : Nat} {x y : α} (hi : i < zs.length) (n : i ≠ j) : (swp zs i j x y)[i]? = some y := by
  unfold swp
  rw [List.getElem?_set_ne (Ne.symm n), List.getElem?_set_self hi]
theorem swp_j {zs : List α} {i j : Nat} {x y : α} (hj : j < zs.length) : (swp zs i j x y)[j]? = some x := by
  unfold swp
  rw [List.getElem?_set_self (by rw [List.length_set]; exact hj)]
theorem swp_k {zs : List α} {i j k : Nat} {x y : α} (n1 : k ≠ i) (n2 : k ≠ j) : (swp zs i j x y)[k]? = zs[k]? := by
  unfold swp
  rw [List.getElem?_set_ne (Ne.symm n2), List.getElem?_set_ne (Ne.symm n1)]
variable {lt : α → α → Bool}
theorem up_done {zs : List α} {p : Nat} (U : Up lt zs p) (h : p = 0 ∨ ∀ x y, zs[p]? = some x → zs[par p]? = some y → lt x y = false) : IsHeap lt zs := fun i x y i0 hx hy => by
  by_cases e : i = p
  · subst e
    rcases h with h | h
    · omega
    · exact h x y hx hy
  · exact U.1 i x y i0 e hx hy
theorem par_lt {i : Nat} (h : 0 < i) : par i < i := by unfold par; omega
theorem hup_step (O : Ord' lt) {zs : List α} {p : Nat} {x y : α} (U : Up lt zs p) (p0 : 0 < p) (hx : zs[p]? = some x) (hy : zs[par p]? = some y) (h : lt x y = true) : Up lt (swp zs (par p) p y x) (par p) := by
  have pl := par_lt p0
  have lp := (List.getElem?_eq_some_iff.mp hx).1
  have lq := (List.getElem?_eq_some_iff.mp hy).1
  have nq : par p ≠ p := by omega
  have ep : (swp zs (par p) p y x)[p]? = some y := swp_j lp
  have eq : (swp zs (par p) p y x)[par p]? = some x := swp_i lq nq
  refine ⟨fun i a b i0 ni ha hb => ?_, fun c a b c0 hc q0 ha hb => ?_⟩
  · by_cases e1 : i = p
    · subst e1
      rw [ep] at ha
      rw [eq] at hb
      cases ha
      cases hb
      exact O.asym _ _ h
    · rw [swp_k ni e1] at ha
      by_cases e2 : par i = p
      · rw [e2, ep] at hb
        cases hb
        exact U.2 i a y i0 e2 p0 ha hy
      · by_cases e3 : par i = par p
        · rw [e3, eq] at hb
          cases hb
          have z := U.1 i a y i0 e1 ha (by rw [e3]; exact hy)
          cases ea : lt a x with
          | false => rfl
          | true =>
            rw [O.tr ea h] at z
            cases z
        · rw [swp_k e3 e2] at hb
          exact U.1 i a b i0 e1 ha hb
  · have r1 : par (par p) ≠ par p := by have := par_lt q0; omega
    have r2 : par (par p) ≠ p := by have := par_lt q0; omega
    rw [swp_k r1 r2] at hb
    have z := U.1 (par p) y b q0 nq hy hb
    by_cases e1 : c = p
    · subst e1
      rw [ep] at ha
      cases ha
      exact z
    · have nc : c ≠ par p := by
        intro e
        rw [e] at hc
        exact r1 hc
      rw [swp_k nc e1] at ha
      have w := U.1 c a y c0 e1 ha (by rw [hc]; exact hy)
      exact O.neg _ _ _ w z
theorem par_of {i p : Nat} (h : 0 < i) (e : par i = p) : i = 2 * p + 1 ∨ i = 2 * p + 2 := by unfold par at e; omega
theorem down_end {zs : List α} {p : Nat} (D : Down lt zs p) (h : zs.length ≤ 2 * p + 1) : Up lt zs p := by
  refine ⟨fun i x y i0 ni hx hy => ?_, D.2⟩
  by_cases e : par i = p
  · have := (List.getElem?_eq_some_iff.mp hx).1
    rcases par_of i0 e with z | z <;> omega
  · exact D.1 i x y i0 ni e hx hy
theorem hdown_step {zs : List α} {p c : Nat} {x y : α} (D : Down lt zs p) (hc : par c = p) (c0 : 0 < c) (hx : zs[c]? = some x) (hy : zs[p]? = some y) (least : ∀ d z, 0 < d → d ≠ c → par d = p → zs[d]? = some z → lt z x = false) : Down lt (swp zs c p x y) c := by
  have pl := par_lt c0
  rw [hc] at pl
  have ncp : c ≠ p := by omega
  have lc := (List.getElem?_eq_some_iff.mp hx).1
  have lp := (List.getElem?_eq_some_iff.mp hy).1
  have ec : (swp zs c p x y)[c]? = some y := swp_i lc ncp
  have ep : (swp zs c p x y)[p]? = some x := swp_j lp
  refine ⟨fun i a b i0 ni np ha hb => ?_, fun d a b d0 hd _ ha hb => ?_⟩
  · by_cases e1 : i = p
    · subst e1
      rw [ep] at ha
      cases ha
      have r2 : par i ≠ i := by have := par_lt i0; omega
      rw [swp_k np r2] at hb
      exact D.2 c x b c0 hc i0 hx hb
    · rw [swp_k ni e1] at ha
      by_cases e2 : par i = p
      · rw [e2, ep] at hb
        cases hb
        exact least i a i0 ni e2 ha
      · rw [swp_k np e2] at hb
        exact D.1 i a b i0 e1 e2 ha hb
  · rw [hc, ep] at hb
    cases hb
    have dl := par_lt d0
    rw [hd] at dl
    rw [swp_k (by omega) (by omega)] at ha
    exact D.1 d a x d0 (by omega) (by omega) ha (by rw [hd]; exact hx)
theorem heap_push {zs : List α} {x : α} (H : IsHeap lt zs) : Up lt (zs ++ [x]) zs.length := by
  refine ⟨fun i a b i0 ni ha hb => ?_, fun c a b c0 hc q0 ha hb => ?_⟩
  · have := (List.getElem?_eq_some_iff.mp ha).1
    rw [List.length_append, List.length_singleton] at this
    have pl := par_lt i0
    rw [List.getElem?_append_left (by omega)] at ha
    rw [List.getElem?_append_left (by omega)] at hb
    exact H i a b i0 ha hb
  · have := (List.getElem?_eq_some_iff.mp ha).1
    rw [List.length_append, List.length_singleton] at this
    have := par_lt c0
    omega
theorem heap_pop {zs : List α} {l : α} (H : IsHeap lt (zs ++ [l])) (h : zs ≠ []) : Down lt (zs.set 0 l) 0 := by
  refine ⟨fun i a b i0 _ np ha hb => ?_, fun c a b c0 hc q0 ha hb => absurd q0 (by omega)⟩
  have la := (List.getElem?_eq_some_iff.mp ha).1
  rw [List.length_set] at la
  have pl := par_lt i0
  rw [List.getElem?_set_ne (by omega)] at ha
  rw [List.getElem?_set_ne (by omega)] at hb
  refine H i a b i0 (by rw [List.getElem?_append_left la]; exact ha) (by rw [List.getElem?_append_left (by omega)]; exact hb)
theorem heap_min (O : Ord' lt) {zs : List α} (H : IsHeap lt zs) {m : α} (h0 : zs[0]? = some m) (irr : ∀ x, lt x x = false) : ∀ (i : Nat) (x : α), zs[i]? = some x → lt x m = false := by
  intro i
  induction i using Nat.strongRecOn with
  | ind i ih =>
    intro x hx
    rcases Nat.eq_zero_or_pos i with e | e
    · subst e
      rw [h0] at hx
      cases hx
      exact irr _
    · have pl := par_lt e
      have li := (List.getElem?_eq_some_iff.mp hx).1
      have hy : zs[par i]? = some zs[par i] := List.getElem?_eq_getElem (by omega)
      exact O.neg _ _ _ (H i x _ e hx hy) (ih _ pl _ hy)
theorem heap_nil : IsHeap lt ([] : List α) := fun i x y _ h => by cases h
theorem heap_one (x : α) : IsHeap lt [x] := fun i y z i0 h => by
  have := (List.getElem?_eq_some_iff.mp h).1
  rw [List.length_singleton] at this
  omega
theorem heap_init {zs : List α} {l : α} (H : IsHeap lt (zs ++ [l])) : IsHeap lt zs := fun i a b i0 ha hb => by
  have la := (List.getElem?_eq_some_iff.mp ha).1
  have pl := par_lt i0
  exact H i a b i0 (by rw [List.getElem?_append_left la]; exact ha) (by rw [List.getElem?_append_left (by omega)]; exact hb)
end
end Sk

set_option Elab.async false
set_option linter.all false
set_option maxRecDepth 100000
set_option maxHeartbeats 4000000
namespace Sk
open PySem PySem.Spec PyProof.Rows L2 PySem.SeqAt PySem.W
/-! heappush, heappop over items that are data -/
theorem hq_kind_push : builtinKind "_heapq.heappush" = none := by kernel_rfl
theorem hq_kind_pop : builtinKind "_heapq.heappop" = none := by kernel_rfl
theorem hq_plain_push : plainId "_heapq.heappush" = true := by decide +kernel
theorem hq_plain_pop : plainId "_heapq.heappop" = true := by decide +kernel
theorem hq_plain_sift : plainId "_heapq.heapify.sift" = true := by decide +kernel
theorem hq_entry_push : entryFor table "_heapq.heappush" = some Builtin.«_heapq.heappush» := entryFor_of_tree (by kernel_rfl)
theorem hq_entry_pop : entryFor table "_heapq.heappop" = some Builtin.«_heapq.heappop» := entryFor_of_tree (by kernel_rfl)
theorem hq_entry_sift : entryFor table "_heapq.heapify.sift" = some Builtin.«_heapq.heapify.sift» := entryFor_of_tree (by kernel_rfl)
theorem hq_args_push (a b : Value) : argsOk "_heapq.heappush" ⟨[a, b], []⟩ := by unfold argsOk; kernel_rfl
theorem hq_args_pop (a : Value) : argsOk "_heapq.heappop" ⟨[a], []⟩ := by unfold argsOk; kernel_rfl
abbrev Zd := V × PyData
def ltz (x y : Zd) : Bool := dataLt x.2 y.2
theorem ltz_asym (x y : Zd) (h : ltz x y = true) : ltz y x = false := by
  cases e : ltz y x with
  | false => rfl
  | true =>
    have := lex_trans _ _ _ h e
    rw [lex_irrefl] at this
    cases this
theorem ltz_neg (x y z : Zd) (h : ltz x y = false) (k : ltz y z = false) : ltz x z = false := by
  cases e : ltz x z with
  | false => rfl
  | true =>
    rcases lex_negTrans _ (keyToks y.2) _ e with w | w
    · rw [show ltz x y = true from w] at h; cases h
    · rw [show ltz y z = true from w] at k; cases k
theorem ord_ltz : Ord' ltz := ⟨ltz_asym, ltz_neg⟩
theorem irr_ltz (x : Zd) : ltz x x = false := lex_irrefl _
section
variable {X : Cx} {pins : List (Addr × Obj)} {σ : L2.St} {H : Hp} {a : Addr}
theorem upd_upd (H : Hp) (a : Addr) (o o' : HO) : upd (upd H a o) a o' = upd H a o' := by
  funext b
  by_cases e : b = a
  · rw [e, upd_same, upd_same]
  · rw [upd_ne e, upd_ne e, upd_ne e]
theorem upd_self {H : Hp} {a : Addr} {o : HO} (h : H a = some o) : upd H a o = H := by
  funext b
  by_cases e : b = a
  · rw [e, upd_same, h]
  · rw [upd_ne e]
/-- what is known of the items, however they stand in the list -/
structure ZOk (K : PySem.W.Frag) (H : Hp) (a : Addr) (zs : List Zd) : Prop where
  dp : ∀ z ∈ zs, ∀ ys, Dp K (upd H a (.lst ys)) z.1 z.2
  al : ∀ z ∈ zs, ∀ w ∈ zs, alike z.2 w.2 = true
  nn : ∀ z ∈ zs, z.2 ≠ .none
  dep : ∀ z ∈ zs, z.2.depth ≤ 50
theorem ZOk.perm {K : PySem.W.Frag} {zs ws : List Zd} (h : ZOk K H a zs) (p : ws.Perm zs) : ZOk K H a ws :=
  ⟨fun z hz => h.dp z (p.mem_iff.mp hz), fun z hz w hw => h.al z (p.mem_iff.mp hz) w (p.mem_iff.mp hw), fun z hz => h.nn z (p.mem_iff.mp hz), fun z hz => h.dep z (p.mem_iff.mp hz)⟩
theorem opt_run {M : Model} {A : Around} {E : Value → Shared → Prop} {Q : Value → Shared → Prop} {s : Shared} {o : Option Value} {u : Value} {g : Sem Value} (ho : o = some u) (h : Q u s) : wpAny M A (match o with | some v => pure v | none => g) Q E s := by
  rw [ho]
  exact wpAny_pure h
theorem up_run {R : Result → Shared → Prop} (hu : X.A.units + 60 < cLine) (res : Value) : ∀ (m : Nat) (zs : List Zd) (p : Nat) (s : Shared), p = m → Inv X pins σ (upd H a (.lst (zs.map (·.1)))) s → ZOk X.K H a zs → Up ltz zs p → p < zs.length →
    (∀ zs' s', zs'.Perm zs → IsHeap ltz zs' → Inv X pins σ (upd H a (.lst (zs'.map (·.1)))) s' → R (.ok (.ret res)) s') →
    codeAny (model X.prog X.w) X.A (.builtin "_heapq.heapify.sift" ⟨[.ref a, .bool false, .bool false, rawInt p, rawInt 0, res, rawInt (-1)], []⟩) R s := by
  intro m
  induction m using Nat.strongRecOn with
  | ind m ih =>
    intro zs p s hm I Z U hp k
    refine codeAny_builtin hq_entry_sift ?_
    rw [Around.under_plainId hq_plain_sift _]
    unfold Builtin.«_heapq.heapify.sift»
    obtain ⟨zl, its, n, r, hl, e⟩ := I.lstM upd_same
    dsimp only [rawInt]
    refine wpAny_bind ?_
    refine wpAny_bind (wpAny_seqItems e rfl ?_)
    refine wpAny_pure ?_
    rw [if_neg Bool.false_ne_true]
    simp only [Int.toNat_natCast]
    by_cases p0 : 0 < p
    · rw [if_pos (show p > Int.toNat 0 from p0)]
      have hx : zs[p]? = some zs[p] := List.getElem?_eq_getElem hp
      have hq : par p < zs.length := Nat.lt_trans (par_lt p0) hp
      have hy : zs[par p]? = some zs[par p] := List.getElem?_eq_getElem hq
      generalize zs[p] = x at hx
      generalize zs[par p] = y at hy
      obtain ⟨u, hu', ru⟩ := r.get (i := p) (x := x.1) (by rw [List.getElem?_map, hx]; rfl)
      obtain ⟨v, hv', rv⟩ := r.get (i := par p) (x := y.1) (by rw [List.getElem?_map, hy]; rfl)
      refine wpAny_bind (opt_run (o := its.toArray[p]?) (u := u) (by rw [List.getElem?_toArray]; exact hu') ?_)
      refine wpAny_bind (opt_run (o := its.toArray[(p - 1) / 2]?) (u := v) (by rw [List.getElem?_toArray]; exact hv') ?_)
      rw [if_neg Bool.false_ne_true]
      obtain ⟨as, ra⟩ := Dp.reads I x.2 x.1 u (Z.dp x (List.mem_of_getElem? hx) _) ru
      obtain ⟨bs, rb⟩ := Dp.reads I y.2 y.1 v (Z.dp y (List.mem_of_getElem? hy) _) rv
      have dx := Z.dep x (List.mem_of_getElem? hx)
      refine wpAny_bind ?_
      refine wpAny_bind (wpAny_holding (wpAny_bind (rcLt_alike x.2 y.2 X.A.in1 s u v as bs ra rb (Z.al x (List.mem_of_getElem? hx) y (List.mem_of_getElem? hy)) (Z.nn x (List.mem_of_getElem? hx)) (by show X.A.units + 1 + _ < cLine; omega) _ _ _ _ (wpAny_truthy_bool ?_))))
      refine wpAny_bind (wpAny_bind (wpAny_seqItems e rfl (wpAny_pure ?_)))
      rw [if_neg (by simp)]
      refine wpAny_pure ?_
      cases lt : dataLt x.2 y.2 with
      | true =>
        rw [if_pos rfl]
        refine wpAny_bind ?_
        refine wpAny_bind (wpAny_bind (wpAny_seqItems e rfl (wpAny_pure ?_)))
        refine wpAny_bind (opt_run (o := its.toArray[(p - 1) / 2]?) (u := v) (by rw [List.getElem?_toArray]; exact hv') ?_)
        refine wpAny_bind (opt_run (o := its.toArray[p]?) (u := u) (by rw [List.getElem?_toArray]; exact hu') ?_)
        refine wpAny_updateSeq e rfl ?_
        have I' := I.lset (l := a) (t' := s.toks) (f := fun xs => (xs.setIfInBounds ((p - 1) / 2) u).setIfInBounds p v) (its' := (its.set (par p) u).set p v) (ys := (swp zs (par p) p y x).map (·.1)) upd_same e (by simp [par]) (by
          unfold swp
          rw [List.map_set, List.map_set]
          exact (r.set ru (par p)).set rv p) (by rw [List.length_map, swp_len]; rw [List.length_map] at zl; exact zl)
        rw [upd_upd] at I'
        have nq : par p ≠ p := by have := par_lt p0; omega
        exact wpAny_pure ⟨plainId_quiet hq_plain_sift _, ih (par p) (by rw [← hm]; exact par_lt p0) (swp zs (par p) p y x) (par p) _ rfl I' (Z.perm (swp_perm hy hx nq)) (hup_step ord_ltz U p0 hx hy lt) (by rw [swp_len]; exact hq) fun zs' s' pz h I => k zs' s' (pz.trans (swp_perm hy hx nq)) h I⟩
      | false =>
        rw [if_neg Bool.false_ne_true, if_pos (by decide)]
        exact wpAny_pure (k zs s (List.Perm.refl _) (up_done U (.inr fun x' y' hx' hy' => by
          rw [hx] at hx'
          rw [hy] at hy'
          cases hx'
          cases hy'
          exact lt)) I)
    · rw [if_neg (show ¬ p > Int.toNat 0 from p0), if_pos (by decide)]
      exact wpAny_pure (k zs s (List.Perm.refl _) (up_done U (.inl (by omega))) I)
theorem down_run {R : Result → Shared → Prop} (hu : X.A.units + 60 < cLine) (res : Value) : ∀ (m : Nat) (zs : List Zd) (p : Nat) (s : Shared), zs.length - p = m → Inv X pins σ (upd H a (.lst (zs.map (·.1)))) s → ZOk X.K H a zs → Down ltz zs p → p < zs.length →
    (∀ zs' s', zs'.Perm zs → IsHeap ltz zs' → Inv X pins σ (upd H a (.lst (zs'.map (·.1)))) s' → R (.ok (.ret res)) s') →
    codeAny (model X.prog X.w) X.A (.builtin "_heapq.heapify.sift" ⟨[.ref a, .bool false, .bool true, rawInt p, rawInt 0, res, rawInt (-1)], []⟩) R s := by
  intro m
  induction m using Nat.strongRecOn with
  | ind m ih =>
    intro zs p s hm I Z D hp k
    refine codeAny_builtin hq_entry_sift ?_
    rw [Around.under_plainId hq_plain_sift _]
    unfold Builtin.«_heapq.heapify.sift»
    obtain ⟨zl, its, n, r, hl, e⟩ := I.lstM upd_same
    have hl : zs.length = its.length := by rw [List.length_map] at hl; exact hl
    dsimp only [rawInt]
    refine wpAny_bind ?_
    refine wpAny_bind (wpAny_seqItems e rfl ?_)
    refine wpAny_pure ?_
    rw [if_pos rfl]
    simp only [Int.toNat_natCast, List.size_toArray, ← hl]
    -- the child c with x goes up, y goes down
    have step : ∀ (c : Nat) (x y : Zd) (u v : Value), par c = p → 0 < c → zs[c]? = some x → zs[p]? = some y → its[c]? = some u → its[p]? = some v → L2.RelV x.1 u → L2.RelV y.1 v → (∀ d z, 0 < d → d ≠ c → par d = p → zs[d]? = some z → ltz z x = false) →
        ∀ s', s' = ({ s with heap := s.heap.update a (Obj.mapSeq fun xs => (xs.setIfInBounds c v).setIfInBounds p u) } : Shared) → codeAny (model X.prog X.w) X.A (.builtin "_heapq.heapify.sift" ⟨[.ref a, .bool false, .bool true, rawInt c, rawInt 0, res, rawInt (-1)], []⟩) R s' := by
      rintro c x y u v hc c0 hx hy hcu hpv ru rv least s' rfl
      have I' := I.lset (l := a) (t' := s.toks) (f := fun xs => (xs.setIfInBounds c v).setIfInBounds p u) (its' := (its.set c v).set p u) (ys := (swp zs c p x y).map (·.1)) upd_same e (by simp) (by
          unfold swp
          rw [List.map_set, List.map_set]
          exact (r.set rv c).set ru p) (by rw [List.length_map, swp_len]; rw [List.length_map] at zl; exact zl)
      rw [upd_upd] at I'
      have pl := par_lt c0
      have lc := (List.getElem?_eq_some_iff.mp hx).1
      exact ih (zs.length - c) (by omega) (swp zs c p x y) c _ (by rw [swp_len]) I' (Z.perm (swp_perm hx hy (by omega))) (hdown_step D hc c0 hx hy least) (by rw [swp_len]; exact lc) fun zs' s' pz h I => k zs' s' (pz.trans (swp_perm hx hy (by omega))) h I
    have hy : zs[p]? = some zs[p] := List.getElem?_eq_getElem hp
    generalize zs[p] = y at hy
    obtain ⟨v, hv', rv⟩ := r.get (i := p) (x := y.1) (by rw [List.getElem?_map, hy]; rfl)
    by_cases ph : p < zs.length / 2
    · rw [if_pos ph]
      have hl1 : 2 * p + 1 < zs.length := by omega
      have hx1 : zs[2 * p + 1]? = some zs[2 * p + 1] := List.getElem?_eq_getElem hl1
      generalize zs[2 * p + 1] = x1 at hx1
      obtain ⟨u1, hu1, ru1⟩ := r.get (i := 2 * p + 1) (x := x1.1) (by rw [List.getElem?_map, hx1]; rfl)
      by_cases h2 : 2 * p + 1 + 1 < zs.length
      · rw [if_pos h2]
        have hx2 : zs[2 * p + 1 + 1]? = some zs[2 * p + 1 + 1] := List.getElem?_eq_getElem h2
        generalize zs[2 * p + 1 + 1] = x2 at hx2
        obtain ⟨u2, hu2, ru2⟩ := r.get (i := 2 * p + 1 + 1) (x := x2.1) (by rw [List.getElem?_map, hx2]; rfl)
        refine wpAny_bind (opt_run (o := its.toArray[2 * p + 1]?) (u := u1) (by rw [List.getElem?_toArray]; exact hu1) ?_)
        refine wpAny_bind (opt_run (o := its.toArray[2 * p + 1 + 1]?) (u := u2) (by rw [List.getElem?_toArray]; exact hu2) ?_)
        rw [if_neg Bool.false_ne_true]
        obtain ⟨as, ra⟩ := Dp.reads I x1.2 x1.1 u1 (Z.dp x1 (List.mem_of_getElem? hx1) _) ru1
        obtain ⟨bs, rb⟩ := Dp.reads I x2.2 x2.1 u2 (Z.dp x2 (List.mem_of_getElem? hx2) _) ru2
        have dx := Z.dep x1 (List.mem_of_getElem? hx1)
        refine wpAny_bind ?_
        refine wpAny_bind (wpAny_holding (wpAny_bind (rcLt_alike x1.2 x2.2 X.A.in1 s u1 u2 as bs ra rb (Z.al x1 (List.mem_of_getElem? hx1) x2 (List.mem_of_getElem? hx2)) (Z.nn x1 (List.mem_of_getElem? hx1)) (by show X.A.units + 1 + _ < cLine; omega) _ _ _ _ (wpAny_truthy_bool ?_))))
        refine wpAny_bind (wpAny_bind (wpAny_seqItems e rfl (wpAny_pure ?_)))
        rw [if_neg (by rw [List.size_toArray, hl]; simp)]
        refine wpAny_pure ?_
        cases lt : dataLt x1.2 x2.2 with
        | true =>
          rw [if_neg (by decide)]
          refine wpAny_bind ?_
          refine wpAny_bind (wpAny_bind (wpAny_seqItems e rfl (wpAny_pure ?_)))
          refine wpAny_bind (opt_run (o := its.toArray[2 * p + 1]?) (u := u1) (by rw [List.getElem?_toArray]; exact hu1) ?_)
          refine wpAny_bind (opt_run (o := its.toArray[p]?) (u := v) (by rw [List.getElem?_toArray]; exact hv') ?_)
          refine wpAny_updateSeq e rfl ?_
          refine wpAny_pure ⟨plainId_quiet hq_plain_sift _, step (2 * p + 1) x1 y u1 v (by unfold par; omega) (by omega) hx1 hy hu1 hv' ru1 rv (fun d z d0 nd hd hz => ?_) _ rfl⟩
          rcases par_of d0 hd with q | q
          · exact absurd q nd
          · rw [q] at hz
            rw [show 2 * p + 2 = 2 * p + 1 + 1 by omega, hx2] at hz
            cases hz
            exact ltz_asym _ _ lt
        | false =>
          rw [if_pos (show (!false) = true from rfl)]
          refine wpAny_bind ?_
          refine wpAny_bind (wpAny_bind (wpAny_seqItems e rfl (wpAny_pure ?_)))
          refine wpAny_bind (opt_run (o := its.toArray[2 * p + 1 + 1]?) (u := u2) (by rw [List.getElem?_toArray]; exact hu2) ?_)
          refine wpAny_bind (opt_run (o := its.toArray[p]?) (u := v) (by rw [List.getElem?_toArray]; exact hv') ?_)
          refine wpAny_updateSeq e rfl ?_
          refine wpAny_pure ⟨plainId_quiet hq_plain_sift _, step (2 * p + 1 + 1) x2 y u2 v (by unfold par; omega) (by omega) hx2 hy hu2 hv' ru2 rv (fun d z d0 nd hd hz => ?_) _ rfl⟩
          rcases par_of d0 hd with q | q
          · rw [q, hx1] at hz
            cases hz
            exact lt
          · exact absurd q nd
      · rw [if_neg h2]
        refine wpAny_bind ?_
        refine wpAny_bind (wpAny_bind (wpAny_seqItems e rfl (wpAny_pure ?_)))
        refine wpAny_bind (opt_run (o := its.toArray[2 * p + 1]?) (u := u1) (by rw [List.getElem?_toArray]; exact hu1) ?_)
        refine wpAny_bind (opt_run (o := its.toArray[p]?) (u := v) (by rw [List.getElem?_toArray]; exact hv') ?_)
        refine wpAny_updateSeq e rfl ?_
        refine wpAny_pure ⟨plainId_quiet hq_plain_sift _, step (2 * p + 1) x1 y u1 v (by unfold par; omega) (by omega) hx1 hy hu1 hv' ru1 rv (fun d z d0 nd hd hz => ?_) _ rfl⟩
        rcases par_of d0 hd with q | q
        · exact absurd q nd
        · have := (List.getElem?_eq_some_iff.mp hz).1
          omega
    · rw [if_neg ph]
      exact wpAny_pure ⟨plainId_quiet hq_plain_sift _, up_run hu res p zs p s rfl I Z (down_end D (by omega)) hp k⟩
end
end Sk

set_option Elab.async false
set_option linter.all false
set_option maxRecDepth 100000
set_option maxHeartbeats 4000000
namespace Sk
open PySem PySem.Spec PyProof.Rows L2 PySem.SeqAt PySem.W
theorem sub_ll : isSubtype (.type "list") (.type "list") = pure true := by rw [isSubtype_type]; kernel_rfl
theorem call_fn_in {prog : Program} {w : World} {A : Around} {E : Value → Shared → Prop} {s : Shared} {id : String} {B : Builtin} {args : List Value} {Q : Value → Shared → Prop} (kind : builtinKind id = none) (plain : plainId id = true)
    (entry : entryFor table id = some B) (ok : argsOk id ⟨args, []⟩)
    (h : wpAny (model prog w) A.in1 (B ⟨args, []⟩) (fun fin s' => match fin with | .done f => wants Q E (.ok f) s' | .again c' => c'.quiet = true ∧ codeAny (model prog w) A c' (wants Q E) s') (fun e s' => wants Q E (.error e) s') s) : wpAny (model prog w) A (call (.builtin id) args) Q E s := by
  refine wpAny_call (codeAny_call_builtin plain entry ?_)
  simp only [checkBuiltinCall, kind]
  cases hsig : Manifest.signature? id with
  | none => exact wpAny_pure h
  | some sig =>
    simp only [argsOk, hsig] at ok
    have h2 : Bind.checkArgs id sig ⟨args, []⟩ = pure () := ok
    show wpAny _ _ (Bind.checkArgs id sig ⟨args, []⟩) _ _ s
    rw [h2]; exact wpAny_pure h
def rPush (K : PySem.W.Frag) : List V → Hp → VK → Prop := fun vs H Q => ∃ (a : Addr) (x : V) (d : PyData) (zs : List Zd), vs = [.ref a, x] ∧ H a = some (.lst (zs.map (·.1))) ∧ IsHeap ltz zs ∧ ZOk K H a (zs ++ [(x, d)]) ∧ zs.length ≤ 10000 ∧
  ∀ zs', zs'.Perm (zs ++ [(x, d)]) → IsHeap ltz zs' → Q .non (upd H a (.lst (zs'.map (·.1))))
theorem cr_push {X : Cx} (hu : X.A.units + 60 < cLine) : CallR X (.builtin "_heapq.heappush") (rPush X.K) := by
  intro pins s σ H vs us Q I r h
  obtain ⟨a, x, d, zs, rfl, ha, hh, Z, hz, k⟩ := h
  obtain ⟨u, v, rfl, ru, rv⟩ := vals2 r
  obtain rfl : u = Value.ref a := ru
  obtain ⟨zl, its, n, r, hl, e⟩ := I.lstM ha
  have hl : zs.length = its.length := by rw [List.length_map] at hl; exact hl
  refine call_fn_in hq_kind_push hq_plain_push hq_entry_push (hq_args_push _ _) ?_
  unfold Builtin.«_heapq.heappush»
  refine wpAny_bind ?_
  refine wpAny_bind (wpAny_pure ?_)
  refine wpAny_bind (wpAny_pure ?_)
  dsimp only
  refine wpAny_bind ?_
  refine wpAny_bind (wpAny_isInstance (b := true) ⟨_, e, rfl⟩ sub_ll ?_)
  rw [if_pos rfl]
  dsimp only
  refine wpAny_pure ?_
  refine wpAny_pure ?_
  dsimp only
  refine wpAny_bind (wpAny_updateSeq e rfl ?_)
  have I1 := I.lset (l := a) (t' := s.toks) (f := fun x => x.push v) (its' := its ++ [v]) (ys := (zs ++ [(x, d)]).map (·.1)) ha e (by simp) (by
    rw [List.map_append]
    exact r.append (.cons rv .nil)) (by rw [List.length_map, List.length_append, sizeLine_eq]; show zs.length + 1 ≤ _; omega)
  obtain ⟨zl2, its2, n2, r2, hl2, e2⟩ := I1.lstM upd_same
  have hs : its2.toArray.size - 1 = zs.length := by
    rw [List.size_toArray, ← hl2, List.length_map, List.length_append, List.length_singleton]
    omega
  refine wpAny_bind (wpAny_bind (wpAny_seqItems e2 rfl (wpAny_pure ?_)))
  rw [hs]
  exact wpAny_pure ⟨plainId_quiet hq_plain_sift _, up_run (pins := pins) (σ := σ) (H := H) (a := a) hu .none zs.length (zs ++ [(x, d)]) zs.length _ rfl I1 Z (heap_push hh) (by rw [List.length_append, List.length_singleton]; omega) fun zs' s' pz h I' => ⟨.non, _, I', rfl, k zs' pz h⟩⟩
def rPop (K : PySem.W.Frag) : List V → Hp → VK → Prop := fun vs H Q => ∃ (a : Addr) (zs : List Zd), vs = [.ref a] ∧ H a = some (.lst (zs.map (·.1))) ∧ IsHeap ltz zs ∧ ZOk K H a zs ∧ zs ≠ [] ∧
  ∀ z zs', (z :: zs').Perm zs → IsHeap ltz zs' → (∀ w ∈ zs', ltz w z = false) → Q z.1 (upd H a (.lst (zs'.map (·.1))))
theorem cr_pop {X : Cx} (hu : X.A.units + 60 < cLine) : CallR X (.builtin "_heapq.heappop") (rPop X.K) := by
  intro pins s σ H vs us Q I r h
  obtain ⟨a, zs, rfl, ha, hh, Z, hne, k⟩ := h
  obtain ⟨u, rfl, ru⟩ := vals1 r
  obtain rfl : u = Value.ref a := ru
  obtain ⟨zi, l, rfl⟩ : ∃ zi l, zs = zi ++ [l] := ⟨zs.dropLast, zs.getLast hne, (List.dropLast_concat_getLast hne).symm⟩
  obtain ⟨zl, its, n, r, hl, e⟩ := I.lstM ha
  have hl : zi.length + 1 = its.length := by rw [List.length_map, List.length_append] at hl; exact hl
  have zl : zi.length + 1 ≤ sizeLine := by rw [List.length_map, List.length_append] at zl; exact zl
  obtain ⟨v, hv, rv⟩ := r.get (i := zi.length) (x := l.1) (by simp)
  have hb : its.toArray.back? = some v := by
    rw [Array.back?, List.size_toArray, ← hl]
    simpa using hv
  refine call_fn_in hq_kind_pop hq_plain_pop hq_entry_pop (hq_args_pop _) ?_
  unfold Builtin.«_heapq.heappop»
  refine wpAny_bind ?_
  refine wpAny_bind (wpAny_pure ?_)
  refine wpAny_bind ?_
  refine wpAny_bind (wpAny_isInstance (b := true) ⟨_, e, rfl⟩ sub_ll ?_)
  rw [if_pos rfl]
  refine wpAny_pure ?_
  refine wpAny_pure ?_
  refine wpAny_bind (wpAny_bind (wpAny_seqItems e rfl (wpAny_pure ?_)))
  rw [hb]
  refine wpAny_bind (wpAny_updateSeq e rfl ?_)
  have I1 := I.lset (l := a) (t' := s.toks) (f := fun x => x.pop) (its' := its.dropLast) (ys := zi.map (·.1)) ha e (by simp) (by
    have := r.dropLast
    rw [List.map_append] at this
    simpa using this) (by rw [List.length_map]; omega)
  by_cases h1 : zi = []
  · rw [if_pos (by rw [List.size_toArray, ← hl, h1]; rfl)]
    subst h1
    exact wpAny_pure ⟨l.1, _, I1, rv, k l [] (List.Perm.refl _) heap_nil (fun _ h => nomatch h)⟩
  rw [if_neg (by
    rw [List.size_toArray, ← hl]
    have : zi.length ≠ 0 := fun z => h1 (List.length_eq_zero_iff.mp z)
    simp [this])]
  obtain ⟨f, zt, rfl⟩ : ∃ f zt, zi = f :: zt := by
    cases zi with
    | nil => exact absurd rfl h1
    | cons f zt => exact ⟨f, zt, rfl⟩
  obtain ⟨w, hw, rw_⟩ := r.get (i := 0) (x := f.1) rfl
  refine wpAny_bind (opt_run (o := its.toArray[0]?) (u := w) (by rw [List.getElem?_toArray]; exact hw) ?_)
  obtain ⟨zl2, its2, n2, r2, hl2, e2⟩ := I1.lstM upd_same
  refine wpAny_bind (wpAny_updateSeq e2 rfl ?_)
  have I2 := I1.lset (l := a) (t' := s.toks) (f := fun x => x.setIfInBounds 0 v) (its' := its2.set 0 v) (ys := ((f :: zt).set 0 l).map (·.1)) upd_same e2 (by simp) (by
    rw [List.map_set]
    exact r2.set rv 0) (by rw [List.length_map, List.length_set]; omega)
  rw [upd_upd] at I2
  have pz : ((f :: zt).set 0 l).Perm (zt ++ [l]) := by
    show (l :: zt).Perm (zt ++ [l])
    exact (List.perm_append_singleton l zt).symm
  have Z2 : ZOk X.K H a ((f :: zt).set 0 l) := by
    have sub : ∀ z ∈ (f :: zt).set 0 l, z ∈ (f :: zt) ++ [l] := fun z hz => by
      have := pz.mem_iff.mp hz
      rcases List.mem_append.mp this with h | h
      · exact List.mem_append_left _ (List.mem_cons_of_mem _ h)
      · exact List.mem_append_right _ h
    exact ⟨fun z hz => Z.dp z (sub z hz), fun z hz w hw => Z.al z (sub z hz) w (sub w hw), fun z hz => Z.nn z (sub z hz), fun z hz => Z.dep z (sub z hz)⟩
  exact wpAny_pure ⟨plainId_quiet hq_plain_sift _, down_run (pins := pins) (σ := σ) (H := H) (a := a) hu w _ ((f :: zt).set 0 l) 0 _ rfl I2 Z2 (heap_pop hh h1) (by rw [List.length_set]; exact Nat.succ_pos _) fun zs' s' pz' h I' => ⟨f.1, _, I', rw_, by
    have p2 : zs'.Perm (zt ++ [l]) := pz'.trans pz
    refine k f zs' (List.Perm.cons f p2) h fun w hw => ?_
    have hm : w ∈ (f :: zt) ++ [l] := List.mem_cons_of_mem _ (p2.mem_iff.mp hw)
    obtain ⟨i, hi⟩ := List.getElem?_of_mem hm
    exact heap_min ord_ltz hh (m := f) rfl irr_ltz i w hi⟩⟩
end Sk

set_option Elab.async false
set_option linter.all false
set_option maxRecDepth 100000
set_option maxHeartbeats 4000000
namespace Sk
open PySem PySem.Spec PyProof.Rows L2 PySem.W
/-! permutations of images -/
theorem perm_map_inv {α β : Type} {f : α → β} : ∀ {bs : List α} {zs : List β}, zs.Perm (bs.map f) → ∃ bs' : List α, bs'.Perm bs ∧ zs = bs'.map f
  | [], zs, h => ⟨[], List.Perm.refl _, List.perm_nil.mp h⟩
  | b :: bs, zs, h => by
    have hm : f b ∈ zs := h.mem_iff.mpr List.mem_cons_self
    obtain ⟨s, t, rfl⟩ := List.append_of_mem hm
    have h2 : (s ++ t).Perm (bs.map f) := by
      have : (f b :: (s ++ t)).Perm (f b :: bs.map f) := (List.perm_middle.symm).trans h
      exact this.cons_inv
    obtain ⟨bs', p, e⟩ := perm_map_inv h2
    obtain ⟨s', t', rfl, rfl, rfl⟩ := List.map_eq_append_iff.mp e.symm
    exact ⟨s' ++ b :: t', List.perm_middle.trans (p.cons b), by rw [List.map_append, List.map_cons]⟩
/-! sorted lists by a total order are one -/
def Srt (D : CD) (l : List (List Str)) : Prop := l.Pairwise fun x y => klt D y x = false
theorem srt_uniq {D : CD} : ∀ {a b : List (List Str)}, a.Perm b → Srt D a → Srt D b → a = b
  | [], b, p, _, _ => (List.nil_perm.mp p).symm
  | x :: a, b, p, ha, hb => by
    obtain ⟨y, b, rfl⟩ : ∃ y b', b = y :: b' := by
      cases b with
      | nil => exact absurd p.length_eq (by simp)
      | cons y b => exact ⟨y, b, rfl⟩
    have ha' := List.pairwise_cons.mp ha
    have hb' := List.pairwise_cons.mp hb
    have e : x = y := by
      have hx : x ∈ y :: b := p.mem_iff.mp List.mem_cons_self
      have hy : y ∈ x :: a := p.mem_iff.mpr List.mem_cons_self
      rcases List.mem_cons.mp hx with e | hx
      · exact e
      · rcases List.mem_cons.mp hy with e | hy
        · exact e.symm
        · exact klt_tot (hb'.1 x hx) (ha'.1 y hy)
    subst e
    rw [srt_uniq p.cons_inv ha'.2 hb'.2]
theorem flat_congr {α β : Type} {f g : α → List β} : ∀ {l : List α}, (∀ x ∈ l, f x = g x) → l.flatMap f = l.flatMap g
  | [], _ => rfl
  | x :: l, h => by rw [List.flatMap_cons, List.flatMap_cons, h x List.mem_cons_self, flat_congr fun y hy => h y (List.mem_cons_of_mem _ hy)]
/-! all ways to the goal, n legs more at most -/
def desc (D : CD) (lv : Int) (g : Str) : Nat → List Str → List (List Str)
  | 0, _ => []
  | n + 1, w => (exts D lv w).flatMap fun v => if lst v = g then [v] else desc D lv g n v
def con (D : CD) (lv : Int) (g : Str) (w : List Str) : List (List Str) := if lst w = g then [w] else desc D lv g (8 - w.length) w
section
variable {D : CD} {lv : Int} {st g : Str}
theorem ext_len {w v : List Str} (h : v ∈ exts D lv w) : v.length = w.length + 1 := by
  obtain ⟨l, _, rfl, _⟩ := mem_exts h
  rw [List.length_append, List.length_singleton]
theorem ext_gt (pos : ∀ l ∈ D.ls, 1 ≤ D.len l.s l.e) {w v : List Str} (hw : w ≠ []) (h : v ∈ exts D lv w) : klt D v w = false := by
  obtain ⟨l, hl, rfl, hs, _⟩ := mem_exts h
  exact klt_more hw (by rw [← hs]; exact pos l hl)
theorem ext_ne {w v : List Str} (h : v ∈ exts D lv w) : v ≠ [] := by
  obtain ⟨l, _, rfl, _⟩ := mem_exts h
  simp
theorem desc_gt (pos : ∀ l ∈ D.ls, 1 ≤ D.len l.s l.e) : ∀ (n : Nat) (w v : List Str), w ≠ [] → v ∈ desc D lv g n w → klt D v w = false
  | 0, _, _, _, h => nomatch h
  | n + 1, w, v, hw, h => by
    obtain ⟨u, hu, hv⟩ := List.mem_flatMap.mp h
    have := ext_gt pos hw hu
    split at hv
    · rw [List.mem_singleton.mp hv]
      exact this
    · exact klt_neg (desc_gt pos n u v (ext_ne hu) hv) this
theorem con_gt (pos : ∀ l ∈ D.ls, 1 ≤ D.len l.s l.e) {w v : List Str} (hw : w ≠ []) (h : v ∈ con D lv g w) : klt D v w = false := by
  unfold con at h
  split at h
  · rw [List.mem_singleton.mp h]
    exact klt_irr D w
  · exact desc_gt pos _ w v hw h
theorem con_step {w : List Str} (h : lst w ≠ g) (h8 : w.length < 8) : con D lv g w = (exts D lv w).flatMap (con D lv g) := by
  unfold con
  rw [if_neg h, show 8 - w.length = (8 - (w.length + 1)) + 1 by omega]
  show (exts D lv w).flatMap _ = _
  refine flat_congr fun v hv => ?_
  rw [ext_len hv]
theorem con_end {w : List Str} (h : lst w ≠ g) (h8 : 8 ≤ w.length) : con D lv g w = [] := by
  unfold con
  rw [if_neg h, show 8 - w.length = 0 by omega]
  rfl
/-! the first ones -/
structure Alt (D : CD) (lv : Int) (st g : Str) (fd q : List (List Str)) : Prop where
  ne : ∀ w ∈ q, w ≠ []
  sr : Srt D fd
  le : ∀ x ∈ fd, ∀ w ∈ q, klt D w x = false
  pm : (fd ++ q.flatMap (con D lv g)).Perm (con D lv g [st])
theorem Alt.start : Alt D lv st g [] [[st]] := ⟨fun w h => by rw [List.mem_singleton.mp h]; simp, .nil, (fun _ h => nomatch h), by simp⟩
variable {fd q q' : List (List Str)} {m : List Str}
theorem Alt.hit (A : Alt D lv st g fd q) (p : (m :: q').Perm q) (mn : ∀ w ∈ q', klt D w m = false) (h : lst m = g) : Alt D lv st g (fd ++ [m]) q' := by
  refine ⟨fun w hw => A.ne w (p.mem_iff.mp (List.mem_cons_of_mem _ hw)), List.pairwise_append.mpr ⟨A.sr, List.pairwise_singleton _ _, fun x hx y hy => ?_⟩, fun x hx w hw => ?_, ?_⟩
  · rw [List.mem_singleton.mp hy]
    exact A.le x hx m (p.mem_iff.mp List.mem_cons_self)
  · rcases List.mem_append.mp hx with hx | hx
    · exact A.le x hx w (p.mem_iff.mp (List.mem_cons_of_mem _ hw))
    · rw [List.mem_singleton.mp hx]
      exact mn w hw
  · refine List.Perm.trans ?_ A.pm
    rw [List.append_assoc]
    refine List.Perm.append_left _ ?_
    have := p.flatMap_right (con D lv g)
    rw [List.flatMap_cons] at this
    refine List.Perm.trans ?_ this
    unfold con
    rw [if_pos h]
theorem Alt.drop (A : Alt D lv st g fd q) (p : (m :: q').Perm q) (h : lst m ≠ g) (h8 : 8 ≤ m.length) : Alt D lv st g fd q' := by
  refine ⟨fun w hw => A.ne w (p.mem_iff.mp (List.mem_cons_of_mem _ hw)), A.sr, fun x hx w hw => A.le x hx w (p.mem_iff.mp (List.mem_cons_of_mem _ hw)), ?_⟩
  refine List.Perm.trans ?_ A.pm
  refine List.Perm.append_left _ ?_
  have := p.flatMap_right (con D lv g)
  rw [List.flatMap_cons, con_end h h8] at this
  exact this
theorem Alt.go (pos : ∀ l ∈ D.ls, 1 ≤ D.len l.s l.e) (A : Alt D lv st g fd q) (p : (m :: q').Perm q) (h : lst m ≠ g) (h8 : m.length < 8) {q2 : List (List Str)} (p2 : q2.Perm (q' ++ exts D lv m)) : Alt D lv st g fd q2 := by
  have hm : m ∈ q := p.mem_iff.mp List.mem_cons_self
  refine ⟨fun w hw => ?_, A.sr, fun x hx w hw => ?_, ?_⟩
  · rcases List.mem_append.mp (p2.mem_iff.mp hw) with z | z
    · exact A.ne w (p.mem_iff.mp (List.mem_cons_of_mem _ z))
    · exact ext_ne z
  · rcases List.mem_append.mp (p2.mem_iff.mp hw) with z | z
    · exact A.le x hx w (p.mem_iff.mp (List.mem_cons_of_mem _ z))
    · exact klt_neg (ext_gt pos (A.ne m hm) z) (A.le x hx m hm)
  · refine List.Perm.trans ?_ A.pm
    refine List.Perm.append_left _ ?_
    have e1 := p2.flatMap_right (con D lv g)
    have e2 := p.flatMap_right (con D lv g)
    rw [List.flatMap_append] at e1
    rw [List.flatMap_cons, con_step h h8] at e2
    exact e1.trans (List.perm_append_comm.trans e2)
theorem Alt.done (pos : ∀ l ∈ D.ls, 1 ≤ D.len l.s l.e) (A : Alt D lv st g fd q) {n : Nat} (hn : fd.length ≤ n) (e : q = [] ∨ n ≤ fd.length) {al : List (List Str)} (hs : Srt D al) (hp : al.Perm (con D lv g [st])) : al.take n = fd := by
  obtain ⟨rest, pr, sr⟩ : ∃ rest : List (List Str), rest.Perm (q.flatMap (con D lv g)) ∧ Srt D rest := by
    refine ⟨(q.flatMap (con D lv g)).mergeSort (fun x y => !klt D y x), List.mergeSort_perm _ _, ?_⟩
    have := List.pairwise_mergeSort (le := fun x y => !klt D y x) (fun x y z h k => by
      have h : klt D y x = false := by simpa using h
      have k : klt D z y = false := by simpa using k
      show (!klt D z x) = true
      rw [klt_neg k h]; rfl) (fun x y => by
      show (!klt D y x || !klt D x y) = true
      cases e : klt D y x with
      | false => rfl
      | true =>
        cases e2 : klt D x y with
        | false => rfl
        | true =>
          have := klt_tr e e2
          rw [klt_irr] at this
          cases this) (q.flatMap (con D lv g))
    exact this.imp fun {x y} h => by simpa using h
  have key : al = fd ++ rest := srt_uniq (hp.trans ((List.Perm.append_left _ pr).trans A.pm).symm) hs (List.pairwise_append.mpr ⟨A.sr, sr, fun x hx y hy => by
    obtain ⟨w, hw, hy⟩ := List.mem_flatMap.mp (pr.mem_iff.mp hy)
    exact klt_neg (con_gt pos (A.ne w hw) hy) (A.le x hx w hw)⟩)
  rw [key]
  rcases e with e | e
  · subst e
    have : rest = [] := List.perm_nil.mp pr
    rw [this, List.append_nil, List.take_of_length_le hn]
  · rw [List.take_append_of_le_length (by omega), List.take_of_length_le (by omega)]
/-! walked level by level -/
theorem split_goal (f : List Str → List (List Str)) : ∀ L : List (List Str), (L.flatMap fun v => if lst v = g then [v] else f v).Perm (L.filter (fun v => decide (lst v = g)) ++ (L.filter (fun v => decide (lst v ≠ g))).flatMap f)
  | [] => List.Perm.refl _
  | v :: L => by
    have ih := split_goal f L
    rw [List.flatMap_cons]
    by_cases h : lst v = g
    · rw [if_pos h, List.filter_cons_of_pos (by simpa using h), List.filter_cons_of_neg (by simpa using h)]
      exact ih.cons v
    · rw [if_neg h, List.filter_cons_of_neg (by simpa using h), List.filter_cons_of_pos (by simpa using h), List.flatMap_cons]
      refine (List.Perm.append_left _ ih).trans ?_
      rw [← List.append_assoc, ← List.append_assoc]
      exact List.Perm.append_right _ List.perm_append_comm
theorem walk_step (W fd : List (List Str)) (n : Nat) : (fd ++ (W.flatMap (exts D lv)).filter (fun v => decide (lst v = g)) ++ ((W.flatMap (exts D lv)).filter (fun v => decide (lst v ≠ g))).flatMap (desc D lv g n)).Perm (fd ++ W.flatMap (desc D lv g (n + 1))) := by
  rw [List.append_assoc]
  refine List.Perm.append_left _ ?_
  refine (split_goal (desc D lv g n) (W.flatMap (exts D lv))).symm.trans ?_
  rw [List.flatMap_assoc]
  exact List.Perm.refl _
end
end Sk

set_option Elab.async false
set_option linter.all false
set_option maxRecDepth 100000
set_option maxHeartbeats 4000000
namespace Sk
open PySem PySem.Spec PyProof.Rows L2 PySem.W
/-! how many ways there are -/
theorem nodup_sub_len {α : Type} : ∀ {a b : List α}, a.Nodup → (∀ x ∈ a, x ∈ b) → a.length ≤ b.length
  | [], _, _, _ => Nat.zero_le _
  | x :: a, b, nd, h => by
    obtain ⟨s, t, rfl⟩ := List.append_of_mem (h x List.mem_cons_self)
    have nd' := List.nodup_cons.mp nd
    have : a.length ≤ (s ++ t).length := nodup_sub_len nd'.2 fun y hy => by
      have hy2 := h y (List.mem_cons_of_mem _ hy)
      have ne : y ≠ x := fun z => nd'.1 (z ▸ hy)
      rcases List.mem_append.mp hy2 with m | m
      · exact List.mem_append_left _ m
      · rcases List.mem_cons.mp m with m | m
        · exact absurd m ne
        · exact List.mem_append_right _ m
    simp only [List.length_append, List.length_cons] at this ⊢
    omega
def wt : Nat → Nat
  | 0 => 1
  | r + 1 => 1 + (r + 1) * wt r
theorem wt_pos : ∀ r, 1 ≤ wt r
  | 0 => Nat.le_refl _
  | r + 1 => Nat.le_add_right _ _
def mu (q : List (List Str)) : Nat := (q.map fun w => wt (7 - w.length)).sum
theorem mu_nil : mu [] = 0 := rfl
theorem mu_cons (w : List Str) (q : List (List Str)) : mu (w :: q) = wt (7 - w.length) + mu q := by unfold mu; rw [List.map_cons, List.sum_cons]
theorem mu_app (p q : List (List Str)) : mu (p ++ q) = mu p + mu q := by unfold mu; rw [List.map_append, List.sum_append]
theorem mu_perm {p q : List (List Str)} (h : p.Perm q) : mu p = mu q := by
  induction h with
  | nil => rfl
  | cons x _ ih => rw [mu_cons, mu_cons, ih]
  | swap x y l => rw [mu_cons, mu_cons, mu_cons, mu_cons]; omega
  | trans _ _ a b => rw [a, b]
theorem len_mu : ∀ q : List (List Str), q.length ≤ mu q
  | [] => Nat.le_refl _
  | w :: q => by
    have := len_mu q
    have := wt_pos (7 - w.length)
    rw [mu_cons, List.length_cons]
    omega
theorem mu_filter (f : List Str → Bool) : ∀ q : List (List Str), mu (q.filter f) ≤ mu q
  | [] => Nat.le_refl _
  | w :: q => by
    have := mu_filter f q
    rw [mu_cons]
    cases e : f w with
    | true => rw [List.filter_cons_of_pos e, mu_cons]; omega
    | false => rw [List.filter_cons_of_neg (by simp [e])]; omega
theorem mu_const : ∀ (q : List (List Str)) (k : Nat), (∀ w ∈ q, w.length = k) → mu q = q.length * wt (7 - k)
  | [], k, _ => by rw [mu_nil, List.length_nil, Nat.zero_mul]
  | w :: q, k, h => by
    rw [mu_cons, mu_const q k fun v hv => h v (List.mem_cons_of_mem _ hv), h w List.mem_cons_self, List.length_cons, Nat.add_mul, Nat.one_mul, Nat.add_comm]
/-- a chart small enough to walk -/
structure Nm (D : CD) (nm : List Str) : Prop where
  uq : UQ D.ls
  en : ∀ l ∈ D.ls, l.e ∈ nm
  n7 : nm.length ≤ 7
def Gd (nm w : List Str) : Prop := w ≠ [] ∧ w.Nodup ∧ ∀ y ∈ w, y ∈ nm
section
variable {D : CD} {lv : Int} {nm w v : List Str} {g st : Str}
theorem Gd.one (h : st ∈ nm) : Gd nm [st] := ⟨by simp, by simp, fun y hy => by rw [List.mem_singleton.mp hy]; exact h⟩
theorem Gd.ext (N : Nm D nm) (G : Gd nm w) (h : v ∈ exts D lv w) : Gd nm v := by
  obtain ⟨l, hl, rfl, _, hn, _⟩ := mem_exts h
  refine ⟨by simp, ?_, fun y hy => ?_⟩
  · rw [List.nodup_append]
    exact ⟨G.2.1, by simp, fun a ha b hb => by rw [List.mem_singleton.mp hb]; exact fun z => hn (z ▸ ha)⟩
  · rcases List.mem_append.mp hy with hy | hy
    · exact G.2.2 y hy
    · rw [List.mem_singleton.mp hy]
      exact N.en l hl
theorem Gd.len (N : Nm D nm) (G : Gd nm w) : 1 ≤ w.length ∧ w.length ≤ 7 := by
  have h0 : w.length ≠ 0 := fun z => G.1 (List.length_eq_zero_iff.mp z)
  have := nodup_sub_len G.2.1 G.2.2
  have := N.n7
  omega
theorem exts_len (N : Nm D nm) (G : Gd nm w) : (exts D lv w).length + w.length ≤ 7 := by
  have nd : (w ++ (D.ls.filter (goes lv w)).map (·.e)).Nodup := by
    rw [List.nodup_append]
    refine ⟨G.2.1, ?_, fun a ha b hb => ?_⟩
    · have h1 : (D.ls.filter (goes lv w)).Pairwise fun a b => a.e ≠ b.e := by
        have h2 := List.Pairwise.and_mem.mp (List.Pairwise.filter (goes lv w) N.uq)
        refine h2.imp fun {a b} ⟨ha, hb, k⟩ e => k ⟨?_, e⟩
        have ha := (List.mem_filter.mp ha).2
        have hb := (List.mem_filter.mp hb).2
        unfold goes at ha hb
        simp only [Bool.and_eq_true, decide_eq_true_eq] at ha hb
        rw [ha.1, hb.1]
      exact List.pairwise_map.mpr h1
    · obtain ⟨l, hl, rfl⟩ := List.mem_map.mp hb
      have hl := (List.mem_filter.mp hl).2
      unfold goes at hl
      simp only [Bool.and_eq_true, decide_eq_true_eq] at hl
      exact fun z => hl.2.1 (z ▸ ha)
  have := nodup_sub_len nd fun y hy => by
    rcases List.mem_append.mp hy with hy | hy
    · exact G.2.2 y hy
    · obtain ⟨l, hl, rfl⟩ := List.mem_map.mp hy
      exact N.en l (List.mem_filter.mp hl).1
  have := N.n7
  unfold exts
  simp only [List.length_append, List.length_map] at *
  omega
theorem mu_exts (N : Nm D nm) (G : Gd nm w) : mu (exts D lv w) + 1 ≤ wt (7 - w.length) := by
  have h1 := exts_len (lv := lv) N G
  rw [mu_const _ (w.length + 1) fun v hv => ext_len hv]
  obtain ⟨g1, g2⟩ := G.len N
  rcases Nat.lt_or_ge w.length 7 with h | h
  · obtain ⟨r, hr⟩ : ∃ r, 7 - w.length = r + 1 := ⟨6 - w.length, by omega⟩
    rw [hr, show 7 - (w.length + 1) = r by omega]
    show _ ≤ 1 + (r + 1) * wt r
    have : (exts D lv w).length * wt r ≤ (r + 1) * wt r := Nat.mul_le_mul_right _ (by omega)
    omega
  · rw [show (exts D lv w).length = 0 by omega, Nat.zero_mul]
    exact wt_pos _
theorem mu_flat (N : Nm D nm) : ∀ (W : List (List Str)), (∀ w ∈ W, Gd nm w) → mu (W.flatMap (exts D lv)) ≤ mu W
  | [], _ => Nat.le_refl _
  | w :: W, h => by
    have := mu_flat N W fun v hv => h v (List.mem_cons_of_mem _ hv)
    have := mu_exts (lv := lv) N (h w List.mem_cons_self)
    rw [List.flatMap_cons, mu_app, mu_cons]
    omega
theorem len_flat_le {f : List Str → List (List Str)} : ∀ (W : List (List Str)), (∀ w ∈ W, (f w).length ≤ wt (7 - w.length)) → (W.flatMap f).length ≤ mu W
  | [], _ => Nat.le_refl _
  | w :: W, h => by
    have := len_flat_le W fun v hv => h v (List.mem_cons_of_mem _ hv)
    have := h w List.mem_cons_self
    rw [List.flatMap_cons, List.length_append, mu_cons]
    omega
theorem desc_len (N : Nm D nm) : ∀ (n : Nat) (w : List Str), Gd nm w → (desc D lv g n w).length ≤ wt (7 - w.length)
  | 0, _, _ => Nat.zero_le _
  | n + 1, w, G => by
    have h1 := mu_exts (lv := lv) N G
    have := len_flat_le (f := fun v => if lst v = g then [v] else desc D lv g n v) (exts D lv w) fun v hv => by
      show (if lst v = g then [v] else desc D lv g n v).length ≤ _
      split
      · exact wt_pos _
      · exact desc_len N n v (G.ext N hv)
    show ((exts D lv w).flatMap _).length ≤ _
    omega
end
theorem wt6 : wt 6 = 1957 := rfl
end Sk

set_option Elab.async false
set_option linter.all false
set_option maxRecDepth 100000
set_option maxHeartbeats 4000000
namespace Sk
open PySem PySem.Spec PyProof.Rows L2 PySem.SeqAt PySem.W
/-! sorted over items that are data -/
theorem vals_each {zs : List Zd} : ∀ {us : List Value}, Vals (zs.map (·.1)) us → EachIs (fun v (z : Zd) => RelV z.1 v) us zs := by
  induction zs with
  | nil => intro us r; cases r; exact .nil
  | cons z zs ih =>
    intro us r
    rw [List.map_cons] at r
    cases r with
    | cons a b => exact .cons a (ih b)
theorem each_vals {zs : List Zd} : ∀ {us : List Value}, EachIs (fun v (z : Zd) => RelV z.1 v) us zs → Vals (zs.map (·.1)) us := by
  induction zs with
  | nil => intro us r; cases r; exact .nil
  | cons z zs ih =>
    intro us r
    cases r with
    | cons a b => exact .cons a (ih b)
theorem each_mono_mem {α β : Type} {R S : α → β → Prop} : ∀ {as : List α} {bs : List β}, EachIs R as bs → (∀ a b, b ∈ bs → R a b → S a b) → EachIs S as bs
  | _, _, .nil, _ => .nil
  | _, _, .cons r t, h => .cons (h _ _ List.mem_cons_self r) (each_mono_mem t fun a b m => h a b (List.mem_cons_of_mem _ m))
def rSortZ (K : PySem.W.Frag) : List V → Hp → VK → Prop := fun vs H Q => ∃ (a : Addr) (zs : List Zd), vs = [.ref a] ∧ SqL K H a (zs.map (·.1)) ∧ (∀ z ∈ zs, Dp K H z.1 z.2) ∧ (∀ z ∈ zs, ∀ w ∈ zs, alike z.2 w.2 = true) ∧ (∀ z ∈ zs, (∃ x r, z.2 = .tuple (x :: r)) ∧ z.2.depth ≤ 50) ∧
  ∀ (zs' : List Zd) (p : Addr), zs'.Perm zs → zs'.Pairwise (fun x y => ltz y x = false) → H p = none → Q (.ref p) (upd H p (.lst (zs'.map (·.1))))
theorem cr_sortZ {X : Cx} (hu : X.A.units + 60 < cLine) : CallR X (.builtin "sorted") (rSortZ X.K) := by
  intro pins s σ H vs us Q I r h
  obtain ⟨a, zs, rfl, hs, hd, ha, ht, q⟩ := h
  obtain ⟨its, rv, hl, hz⟩ := I.list hs
  obtain ⟨u, rfl, ru⟩ := vals1 r
  obtain rfl : u = Value.ref a := ru
  have e := vals_each rv
  refine sorted_data (R := fun v (z : Zd) => RelV z.1 v) (enc := fun z : Zd => z.2) hl.isList e (each_mono_mem e fun v z m r => Dp.reads I z.2 z.1 v (hd z m) r) (fun d hd d' hd' => ?_) (.inl fun d hd => ?_) (by rw [List.length_map] at hz; exact hz) (fun z m => by have := (ht z m).2; omega) fun out ho eo => ?_
  · obtain ⟨z, m, rfl⟩ := List.mem_map.mp hd
    obtain ⟨w, m', rfl⟩ := List.mem_map.mp hd'
    exact ha z m w m'
  · obtain ⟨z, m, rfl⟩ := List.mem_map.mp hd
    exact (ht z m).1
  · obtain ⟨c, hc⟩ := sortedAll_at s.heap its out.toArray
    have pz : (zs.mergeSort (dataLe false fun z : Zd => z.2)).Perm zs := List.mergeSort_perm _ _
    have lt : ∀ x y : Zd, dataLe false (fun z : Zd => z.2) x y = !ltz y x := fun x y => rfl
    refine ⟨.ref _, upd H (s.heap.objs.size + 1) (.lst ((zs.mergeSort (dataLe false fun z : Zd => z.2)).map (·.1))), I.laid (t' := s.toks) (fun _ _ => sortedAll_old) (Nat.le_succ _) ⟨by rw [List.length_map, pz.length_eq]; rw [List.length_map] at hz; exact hz, out, c, each_vals eo, hc⟩, rfl, q _ _ pz ?_ (I.hok.fresh (Nat.le_succ _))⟩
    have := List.pairwise_mergeSort (le := dataLe false fun z : Zd => z.2) (fun x y z h k => by
      rw [lt] at h k ⊢
      have h : ltz y x = false := by simpa using h
      have k : ltz z y = false := by simpa using k
      rw [ltz_neg z y x k h]; rfl) (fun x y => by
      rw [lt, lt]
      cases e : ltz y x with
      | false => rfl
      | true => rw [ltz_asym y x e]; rfl) zs
    exact this.imp fun {x y} h => by rw [lt] at h; simpa using h
end Sk

set_option Elab.async false
set_option linter.all false
set_option maxRecDepth 100000
set_option maxHeartbeats 4000000
namespace Sk
open PySem PySem.Spec PyProof.Rows L2 PySem.W
/-! ways in the heap -/
def WyAt (H : Hp) (D : CD) (p : Addr) (ns : List Str) : Prop := ∃ r, H p = some (.tup [.int (Lw D ns), .int (ns.length : Int), .ref r]) ∧ H r = some (.tup (ns.map V.str))
abbrev Wy := Addr × List Str
def zd (D : CD) (z : Wy) : Zd := (.ref z.1, key D z.2)
def wref (z : Wy) : V := .ref z.1
theorem zd_fst (D : CD) (zs : List Wy) : (zs.map (zd D)).map (·.1) = zs.map wref := by rw [List.map_map]; rfl
section
variable {K : PySem.W.Frag} {H H' : Hp} {D : CD} {p l : Addr} {ns : List Str} {zs : List Wy}
theorem WyAt.same (w : WyAt H D p ns) (s : Same H H') : WyAt H' D p ns := let ⟨r, h1, h2⟩ := w; ⟨r, s _ _ h1, s _ _ h2⟩
theorem WyAt.put {xs ys : List V} (w : WyAt H D p ns) (hl : H l = some (.lst xs)) : WyAt (upd H l (.lst ys)) D p ns := by
  obtain ⟨r, h1, h2⟩ := w
  refine ⟨r, ?_, ?_⟩
  · rw [upd_ne (ne_of h1 hl (by intro e; cases e))]; exact h1
  · rw [upd_ne (ne_of h2 hl (by intro e; cases e))]; exact h2
theorem WyAt.dp (w : WyAt H D p ns) : Dp K H (.ref p) (key D ns) := by
  obtain ⟨r, h1, h2⟩ := w
  exact .tup (.inl (.inl h1)) (.cons (.int _) (.cons (.int _) (.cons (.tup (.inl (.inl h2)) (dpAll_str ns)) .nil)))
theorem depth_strs : ∀ xs : List Str, PyData.depthAll (xs.map .str) = 0
  | [] => by simp [PyData.depthAll]
  | x :: xs => by
    show PyData.depthAll (.str x :: xs.map .str) = 0
    rw [PyData.depthAll, depth_strs xs]
    simp [PyData.depth]
theorem key_depth (D : CD) (ns : List Str) : (key D ns).depth ≤ 50 := by
  unfold key
  simp [PyData.depth, PyData.depthAll, depth_strs]
def WysAt (H : Hp) (l : Addr) (D : CD) (zs : List Wy) : Prop := H l = some (.lst (zs.map wref)) ∧ ∀ z ∈ zs, WyAt H D z.1 z.2
theorem WysAt.same (w : WysAt H l D zs) (s : Same H H') : WysAt H' l D zs := ⟨s _ _ w.1, fun z m => (w.2 z m).same s⟩
theorem WysAt.put {a : Addr} {xs ys : List V} (w : WysAt H l D zs) (ha : H a = some (.lst xs)) (n : l ≠ a) : WysAt (upd H a (.lst ys)) l D zs := ⟨by rw [upd_ne n]; exact w.1, fun z m => (w.2 z m).put ha⟩
theorem WysAt.zok (w : WysAt H l D zs) : ZOk K H l (zs.map (zd D)) := by
  refine ⟨fun z hz ys => ?_, fun z hz v hv => ?_, fun z hz => ?_, fun z hz => ?_⟩
  · obtain ⟨x, m, rfl⟩ := List.mem_map.mp hz
    exact ((w.2 x m).put w.1).dp
  · obtain ⟨x, m, rfl⟩ := List.mem_map.mp hz
    obtain ⟨y, m', rfl⟩ := List.mem_map.mp hv
    exact key_alike D _ _
  · obtain ⟨x, m, rfl⟩ := List.mem_map.mp hz
    exact fun e => by cases e
  · obtain ⟨x, m, rfl⟩ := List.mem_map.mp hz
    exact key_depth D _
/-- a queue -/
structure QAt (H : Hp) (l : Addr) (D : CD) (zs : List Wy) : Prop where
  w : WysAt H l D zs
  h : IsHeap ltz (zs.map (zd D))
theorem QAt.same (Z : QAt H l D zs) (s : Same H H') : QAt H' l D zs := ⟨Z.w.same s, Z.h⟩
theorem QAt.put {a : Addr} {xs ys : List V} (Z : QAt H l D zs) (ha : H a = some (.lst xs)) (n : l ≠ a) : QAt (upd H a (.lst ys)) l D zs := ⟨Z.w.put ha n, Z.h⟩
theorem QAt.pop {Q : VK} (Z : QAt H l D zs) (ne : zs ≠ []) (k : ∀ (z : Wy) (zs' : List Wy), (z :: zs').Perm zs → WyAt H D z.1 z.2 → QAt (upd H l (.lst (zs'.map wref))) l D zs' → (∀ w ∈ zs', klt D w.2 z.2 = false) → Q (.ref z.1) (upd H l (.lst (zs'.map wref)))) : rPop K [.ref l] H Q := by
  refine ⟨l, zs.map (zd D), rfl, by rw [zd_fst]; exact Z.w.1, Z.h, Z.w.zok, by simpa using ne, fun z zs' p h mn => ?_⟩
  obtain ⟨bs, pb, e⟩ := perm_map_inv p
  obtain ⟨b, bs, rfl⟩ : ∃ b bs', bs = b :: bs' := by
    cases bs with
    | nil => exact absurd e (by simp)
    | cons b bs => exact ⟨b, bs, rfl⟩
  rw [List.map_cons] at e
  obtain ⟨rfl, rfl⟩ := List.cons.inj e
  rw [zd_fst]
  have mem : ∀ w ∈ b :: bs, WyAt H D w.1 w.2 := fun w m => Z.w.2 w (pb.mem_iff.mp m)
  exact k b bs pb (mem b List.mem_cons_self) ⟨⟨upd_same, fun w m => (mem w (List.mem_cons_of_mem _ m)).put Z.w.1⟩, h⟩ fun w m => mn _ (List.mem_map.mpr ⟨w, m, rfl⟩)
theorem QAt.push {Q : VK} (Z : QAt H l D zs) (hp : WyAt H D p ns) (hz : zs.length ≤ 10000) (k : ∀ zs' : List Wy, zs'.Perm (zs ++ [(p, ns)]) → QAt (upd H l (.lst (zs'.map wref))) l D zs' → Q .non (upd H l (.lst (zs'.map wref)))) : rPush K [.ref l, .ref p] H Q := by
  have W2 : ∀ w ∈ zs ++ [(p, ns)], WyAt H D w.1 w.2 := fun w m => by
    rcases List.mem_append.mp m with m | m
    · exact Z.w.2 w m
    · rw [List.mem_singleton.mp m]; exact hp
  have zok : ZOk K H l (zs.map (zd D) ++ [((.ref p : V), key D ns)]) := by
    have e : zs.map (zd D) ++ [((.ref p : V), key D ns)] = (zs ++ [(p, ns)]).map (zd D) := by rw [List.map_append]; rfl
    rw [e]
    refine ⟨fun z hz ys => ?_, fun z hz v hv => ?_, fun z hz => ?_, fun z hz => ?_⟩
    · obtain ⟨x, m, rfl⟩ := List.mem_map.mp hz
      exact ((W2 x m).put Z.w.1).dp
    · obtain ⟨x, m, rfl⟩ := List.mem_map.mp hz
      obtain ⟨y, m', rfl⟩ := List.mem_map.mp hv
      exact key_alike D _ _
    · obtain ⟨x, m, rfl⟩ := List.mem_map.mp hz
      exact fun e => by cases e
    · obtain ⟨x, m, rfl⟩ := List.mem_map.mp hz
      exact key_depth D _
  refine ⟨l, .ref p, key D ns, zs.map (zd D), rfl, by rw [zd_fst]; exact Z.w.1, Z.h, zok, by rw [List.length_map]; exact hz, fun zs' pz h => ?_⟩
  have e : zs.map (zd D) ++ [((.ref p : V), key D ns)] = (zs ++ [(p, ns)]).map (zd D) := by rw [List.map_append]; rfl
  rw [e] at pz
  obtain ⟨bs, pb, rfl⟩ := perm_map_inv pz
  rw [zd_fst]
  exact k bs pb ⟨⟨upd_same, fun w m => (W2 w (pb.mem_iff.mp m)).put Z.w.1⟩, h⟩
theorem QAt.one (hl : H l = some (.lst [.ref p])) (hp : WyAt H D p ns) : QAt H l D [(p, ns)] := ⟨⟨hl, fun z m => by rw [List.mem_singleton.mp m]; exact hp⟩, heap_one _⟩
end
/-! what the defs promise -/
def spOpen : Sp := fun vs H Q _ => ∃ (l : Lg) (lv : Int), vs = [.ref l.a, .int lv] ∧ H l.a = some (.tup l.v) ∧ Q (.bl (opn lv l)) H
def spLonger : Sp := fun vs H Q _ => ∃ (ch r : Addr) (D : CD) (ns : List Str) (lv : Int), vs = [.ref ch, .int (Lw D ns), .ref r, .int lv] ∧ ChartAt H ch D ∧ H r = some (.tup (ns.map V.str)) ∧ ns ≠ [] ∧ ns.length ≤ 20 ∧
  ∀ (zs : List Wy) q H', Same H H' → H q = none → WysAt H' q D zs → zs.map (·.2) = exts D lv ns → Q (.ref q) H'
/-- what the searches ask of a chart -/
structure Ok7 (D : CD) (nm : List Str) (st g : Str) : Prop where
  n : Nm D nm
  pos : ∀ l ∈ D.ls, 1 ≤ D.len l.s l.e
  sn : st ∈ nm
  gn : g ∈ nm
  ne : st ≠ g
def spAlt : Sp := fun vs H Q _ => ∃ (ch : Addr) (D : CD) (nm : List Str) (st g : Str) (lv n : Int), vs = [.ref ch, .str st, .str g, .int lv, .int n] ∧ ChartAt H ch D ∧ Ok7 D nm st g ∧ 0 ≤ n ∧ n ≤ 1000 ∧
  ∀ (fd : List Wy) f H', Same H H' → H f = none → H' f = some (.lst (fd.map wref)) → (∀ z ∈ fd, H' z.1 = some (.tup (z.2.map V.str))) → (∀ al : List (List Str), Srt D al → al.Perm (con D lv g [st]) → fd.map (·.2) = al.take n.toNat) → Q (.ref f) H'
/-- the law's own walk -/
def spWalk7 : Sp := fun vs H Q _ => ∃ (ch : Addr) (D : CD) (nm : List Str) (st g : Str) (lv : Int), vs = [.ref ch, .str st, .str g, .int lv] ∧ ChartAt H ch D ∧ Ok7 D nm st g ∧
  ∀ (fd : List Wy) f H', Same H H' → H f = none → H' f = some (.lst (fd.map wref)) → (∀ z ∈ fd, H' z.1 = some (.tup (z.2.map V.str))) → (fd.map (·.2)).Perm (con D lv g [st]) → Q (.ref f) H'
/-- distances: a dict by names -/
def dsK (D : CD) (S : List (Str × List Str)) : List (Key × V) := S.map fun z => (.inr z.1, .int (Lw D z.2))
def spShortest (C : Addr) : Sp := fun vs H Q E => ∃ (ch : Addr) (D : CD) (nm : List Str) (st g : Str) (lv : Int), vs = [.ref ch, .str st, .str g, .int lv] ∧ ChartAt H ch D ∧ Ok7 D nm st g ∧
  (∀ (S : List (Str × List Str)) (b : List Str) q r d H', Same H H' → H q = none → H d = none → Dj D lv st S [] → (g, b) ∈ S → (S.map (·.1)).Nodup → H' q = some (.tup [.ref r, .ref d]) → H' r = some (.tup (b.map V.str)) → H' d = some (.dK (dsK D S)) → Q (.ref q) H') ∧
  (∀ S, Dj D lv st S [] → (∀ z ∈ S, z.1 ≠ g) → ∀ H1 d, Same H H1 → H1 d = none → E (.ref C) (some d) (upd H1 d (.xd (ciK "none" 0))))
end Sk

set_option Elab.async false
set_option linter.all false
set_option maxRecDepth 100000
set_option maxHeartbeats 4000000
namespace Sk
open PySem PySem.Spec PyProof.Rows L2 PySem.W
/-! the distances' dict -/
theorem mem_key {S : List (Str × List Str)} {x : Str} : x ∈ S.map (·.1) ↔ ∃ z ∈ S, z.1 = x := List.mem_map
theorem valV_ds (D : CD) (x : Str) : ∀ S : List (Str × List Str), (valV (dsK D S) (.inr x)).isSome = decide (x ∈ S.map (·.1))
  | [] => rfl
  | z :: S => by
    show (valV ((.inr z.1, .int (Lw D z.2)) :: dsK D S) (.inr x)).isSome = _
    by_cases e : z.1 = x
    · rw [valV_pos (congrArg Sum.inr e)]
      simp [e]
    · rw [valV_neg (fun w => e (Sum.inr.inj w)), valV_ds D x S]
      have e' : ¬ x = z.1 := fun w => e w.symm
      simp [e']
theorem ds_any (D : CD) (S : List (Str × List Str)) (x : Str) : ((dsK D S).any fun kv => decide (kv.1 = .inr x)) = decide (x ∈ S.map (·.1)) := by
  rw [valV_any, valV_ds]
theorem putK_ds {D : CD} {S : List (Str × List Str)} {x : Str} {m : List Str} (h : x ∉ S.map (·.1)) : putK (dsK D S) (.inr x) (.int (Lw D m)) = dsK D (S ++ [(x, m)]) := by
  unfold putK
  rw [if_neg (by rw [ds_any, decide_eq_false h]; exact Bool.false_ne_true)]
  unfold dsK
  rw [List.map_append]
  rfl
theorem ds_len (D : CD) (S : List (Str × List Str)) : (dsK D S).length = S.length := List.length_map ..
theorem WyAt.putK {H : Hp} {D : CD} {p d : Addr} {ns : List Str} {kvs : List (Key × V)} {o : HO} (w : WyAt H D p ns) (hd : H d = some (.dK kvs)) : WyAt (upd H d o) D p ns := by
  obtain ⟨r, h1, h2⟩ := w
  refine ⟨r, ?_, ?_⟩
  · rw [upd_ne (ne_of h1 hd (by intro e; cases e))]; exact h1
  · rw [upd_ne (ne_of h2 hd (by intro e; cases e))]; exact h2
theorem QAt.putK {H : Hp} {D : CD} {l d : Addr} {zs : List Wy} {kvs : List (Key × V)} {o : HO} (Z : QAt H l D zs) (hd : H d = some (.dK kvs)) : QAt (upd H d o) l D zs :=
  ⟨⟨by rw [upd_ne (ne_of Z.w.1 hd (by intro e; cases e))]; exact Z.w.1, fun z m => (Z.w.2 z m).putK hd⟩, Z.h⟩
/-- a list of routes -/
def RtsAt (H : Hp) (l : Addr) (zs : List Wy) : Prop := H l = some (.lst (zs.map wref)) ∧ ∀ z ∈ zs, H z.1 = some (.tup (z.2.map V.str))
section
variable {H H' : Hp} {l : Addr} {zs : List Wy}
theorem RtsAt.same (w : RtsAt H l zs) (s : Same H H') : RtsAt H' l zs := ⟨s _ _ w.1, fun z m => s _ _ (w.2 z m)⟩
theorem RtsAt.put {a : Addr} {xs : List V} {o : HO} (w : RtsAt H l zs) (ha : H a = some (.lst xs)) (n : l ≠ a) : RtsAt (upd H a o) l zs := ⟨by rw [upd_ne n]; exact w.1, fun z m => by rw [upd_ne (ne_of (w.2 z m) ha (by intro e; cases e))]; exact w.2 z m⟩
theorem RtsAt.tup {p : Addr} {xs : List Str} (w : RtsAt H l zs) (hp : H p = some (.tup (xs.map V.str))) (ys : List Wy) (hy : ∀ z ∈ ys, z = (p, xs) ∨ z ∈ zs) : RtsAt (upd H l (.lst (ys.map wref))) l ys := ⟨upd_same, fun z m => by
  have : H z.1 = some (.tup (z.2.map V.str)) := by
    rcases hy z m with e | e
    · rw [e]; exact hp
    · exact w.2 z e
  rw [upd_ne (ne_of this w.1 (by intro e; cases e))]
  exact this⟩
end
theorem con_len {D : CD} {lv : Int} {nm : List Str} {st g : Str} (O : Ok7 D nm st g) : (con D lv g [st]).length ≤ 1957 := by
  unfold con
  rw [if_neg (show lst [st] ≠ g from O.ne)]
  have := desc_len (lv := lv) (g := g) O.n 7 [st] (Gd.one O.sn)
  exact this
theorem con_st {D : CD} {lv : Int} {nm : List Str} {st g : Str} (O : Ok7 D nm st g) : con D lv g [st] = desc D lv g 7 [st] := by
  unfold con
  rw [if_neg (show lst [st] ≠ g from O.ne)]
  rfl
/-! legs whose start is not settled -/
def un (D : CD) (S : List (Str × List Str)) : Nat := (D.ls.filter fun l => decide (l.s ∉ S.map (·.1))).length
theorem filter3 {α : Type} {p q r : α → Bool} : ∀ {l : List α}, (∀ x ∈ l, p x = true → r x = true) → (∀ x ∈ l, q x = true → r x = true) → (∀ x ∈ l, p x = true → q x = false) → (l.filter p).length + (l.filter q).length ≤ (l.filter r).length
  | [], _, _, _ => Nat.le_refl _
  | x :: l, h1, h2, h3 => by
    have ih := filter3 (l := l) (fun y hy => h1 y (List.mem_cons_of_mem _ hy)) (fun y hy => h2 y (List.mem_cons_of_mem _ hy)) (fun y hy => h3 y (List.mem_cons_of_mem _ hy))
    have k1 := h1 x List.mem_cons_self
    have k2 := h2 x List.mem_cons_self
    have k3 := h3 x List.mem_cons_self
    simp only [List.filter_cons]
    cases ep : p x <;> cases eq : q x <;> cases er : r x <;> simp_all <;> omega
theorem un_settle {D : CD} {lv : Int} {S : List (Str × List Str)} {m : List Str} (h : lst m ∉ S.map (·.1)) : un D (S ++ [(lst m, m)]) + (exts D lv m).length ≤ un D S := by
  unfold un exts
  rw [List.length_map]
  refine filter3 (fun l hl k => ?_) (fun l hl k => ?_) (fun l hl k => ?_)
  · simp only [decide_eq_true_eq] at k ⊢
    intro w
    exact k (by rw [List.map_append]; exact List.mem_append_left _ w)
  · unfold goes at k
    simp only [Bool.and_eq_true, decide_eq_true_eq] at k ⊢
    rw [k.1]
    exact h
  · simp only [decide_eq_true_eq] at k
    have : ¬ l.s = lst m := fun w => k (by rw [List.map_append, w]; exact List.mem_append_right _ (List.mem_singleton.mpr rfl))
    unfold goes
    rw [decide_eq_false this]
    rfl
theorem un_le (D : CD) (S : List (Str × List Str)) : un D S ≤ D.ls.length := List.length_filter_le _ _
end Sk

set_option Elab.async false
set_option linter.all false
set_option maxRecDepth 100000
set_option maxHeartbeats 4000000
namespace Sk
open PySem PySem.Spec PyProof.Rows L2 PySem.W
/-! routes as data -/
def pdR (ns : List Str) : PyData := .tuple (ns.map PyData.str)
theorem RtsAt.dp {K : PySem.W.Frag} {H : Hp} {l : Addr} {zs : List Wy} (w : RtsAt H l zs) : Dp K H (.ref l) (.list ((zs.map (·.2)).map pdR)) := by
  refine .lst (.inl (.inl w.1)) ?_
  have h := w.2
  clear w
  induction zs with
  | nil => exact .nil
  | cons z zs ih => exact .cons (.tup (.inl (.inl (h z List.mem_cons_self))) (dpAll_str z.2)) (ih fun x m => h x (List.mem_cons_of_mem _ m))
theorem can_pdR {xs : List (List Str)} (h : ∀ ns ∈ xs, ∀ n ∈ ns, sOk n) : (PyData.list (xs.map pdR)).canLay0 = true := by
  rw [PyData.canLay0]
  induction xs with
  | nil => rfl
  | cons x xs ih =>
    rw [List.map_cons, PyData.canLayAll0, ih fun ns m => h ns (List.mem_cons_of_mem _ m), Bool.and_true]
    exact can_str (h x List.mem_cons_self)
theorem sh_pdR {xs : List (List Str)} (h : ∀ ns ∈ xs, ∀ n ∈ ns, sOk n) : SeqAt.shaped (.list (xs.map pdR)) = true := sh_of (can_pdR h) (by
  have : PyData.depthAll (xs.map pdR) ≤ 1 := by
    clear h
    induction xs with
    | nil => simp [PyData.depthAll]
    | cons x xs ih =>
      rw [List.map_cons, PyData.depthAll]
      have : (pdR x).depth ≤ 1 := by unfold pdR; simp [PyData.depth, depth_strs]
      omega
  rw [PyData.depth]
  omega)
theorem cut_min {α : Type} (f : α → V) (ns : List α) {z : Int} (hz : 0 ≤ z) : cutV (ns.map f) none (some z) = (ns.take z.toNat).map f := by
  obtain ⟨k, rfl⟩ : ∃ k : Nat, z = (k : Int) := ⟨z.toNat, by omega⟩
  unfold cutV
  rw [List.length_map, HT.sIx_nat, show HT.sIx ns.length 0 none = 0 from rfl, List.drop_zero, Nat.sub_zero, List.map_take]
  show List.take _ _ = List.take k _
  rcases Nat.lt_or_ge k ns.length with h | h
  · rw [Nat.min_eq_left (Nat.le_of_lt h)]
  · rw [Nat.min_eq_right h, List.take_of_length_le (by rw [List.length_map]; exact Nat.le_refl _), List.take_of_length_le (by rw [List.length_map]; exact h)]
theorem two_other {ys gs : List Str} {b : Str} (nd : ys.Nodup) (h2 : 2 ≤ ys.length) (e : gs = ys.filter (fun n => decide (n ≠ b))) : gs ≠ [] := fun z => by
  rw [e] at z
  have al : ∀ n ∈ ys, n = b := fun n m => by
    have := List.filter_eq_nil_iff.mp z n m
    simpa using this
  match ys, nd, h2, al with
  | x :: y :: t, nd, _, al =>
    have e1 := al x List.mem_cons_self
    have e2 := al y (List.mem_cons_of_mem _ List.mem_cons_self)
    exact (List.nodup_cons.mp nd).1 (by rw [e1, ← e2]; exact List.mem_cons_self)
theorem valV_key {k : Key} {v : V} : ∀ {kvs : List (Key × V)}, valV kvs k = some v → k ∈ kvs.map (·.1) := fun {kvs} h => by
  have := valV_any (kvs := kvs) (k := k)
  rw [h] at this
  obtain ⟨kv, m, e⟩ := List.any_eq_true.mp this
  exact List.mem_map.mpr ⟨kv, m, of_decide_eq_true e⟩
theorem end_in {H : Hp} {ch : Addr} {D : CD} {ks : List Str} (C : ChartAt H ch D) (hks : D.fs.map (·.1) = ks.map Sum.inr) : ∀ l ∈ D.ls, l.e ∈ ks := fun l hl => by
  obtain ⟨_, a, x, y, h⟩ := C.wf l hl
  have := valV_key (C.pf _ _ _ _ h).1
  rw [hks] at this
  obtain ⟨n, hn, e⟩ := List.mem_map.mp this
  rw [← Sum.inr.inj e]
  exact hn
/-! all ways to the goal are walked -/
section
variable {D : CD} {lv : Int} {st g : Str}
theorem desc_way : ∀ (n : Nat) (w v : List Str), Way D lv st w → v ∈ desc D lv g n w → Way D lv st v ∧ lst v = g
  | 0, _, _, _, h => nomatch h
  | n + 1, w, v, W, h => by
    obtain ⟨u, hu, hv⟩ := List.mem_flatMap.mp h
    have Wu := Way.ext W hu
    split at hv
    · rename_i e
      rw [List.mem_singleton.mp hv]
      exact ⟨Wu, e⟩
    · exact desc_way n u v Wu hv
theorem way_sub {w : List Str} (W : Way D lv st w) : g ∉ w → w.length ≤ 8 → ∀ v ∈ desc D lv g (8 - w.length) w, v ∈ desc D lv g 7 [st] := by
  induction W with
  | one => exact fun _ _ v h => h
  | @ext w u W hu ih =>
    intro hg h8 v hv
    obtain ⟨l, hl, rfl, hs, hn, ho⟩ := mem_exts hu
    rw [List.length_append, List.length_singleton] at h8 hv
    have hgw : g ∉ w := fun z => hg (List.mem_append_left _ z)
    refine ih hgw (by omega) v ?_
    rw [show 8 - w.length = (8 - (w.length + 1)) + 1 by omega]
    refine List.mem_flatMap.mpr ⟨_, hu, ?_⟩
    rw [if_neg (show lst (w ++ [l.e]) ≠ g by rw [lst_app]; exact fun z => hg (List.mem_append_right _ (by rw [z]; exact List.mem_singleton.mpr rfl)))]
    exact hv
theorem way_in (ne : st ≠ g) {b : List Str} (W : Way D lv st b) (e : lst b = g) (h8 : b.length ≤ 8) : b ∈ desc D lv g 7 [st] := by
  have nd := W.nd
  cases W with
  | one => exact absurd e ne
  | @ext w _ W hu =>
    obtain ⟨l, hl, rfl, hs, hn, ho⟩ := mem_exts hu
    rw [lst_app] at e
    rw [List.length_append, List.length_singleton] at h8
    have hgw : g ∉ w := e ▸ hn
    refine way_sub W hgw (by omega) _ ?_
    rw [show 8 - w.length = (8 - (w.length + 1)) + 1 by omega]
    refine List.mem_flatMap.mpr ⟨_, hu, ?_⟩
    rw [if_pos (by rw [lst_app]; exact e)]
    exact List.mem_singleton.mpr rfl
variable {nm : List Str}
theorem Way.gd (N : Nm D nm) (h : st ∈ nm) {w : List Str} (W : Way D lv st w) : Gd nm w := by
  induction W with
  | one => exact Gd.one h
  | ext _ hu ih => exact ih.ext N hu
/-- the first of all sorted ways is the shortest one -/
theorem first_best (O : Ok7 D nm st g) {S : List (Str × List Str)} (J : Dj D lv st S []) {b : List Str} (hb : (g, b) ∈ S) {al : List (List Str)} (hs : Srt D al) (hp : al.Perm (con D lv g [st])) : ∃ t, al = b :: t := by
  obtain ⟨W, e, least⟩ := J.b _ hb
  have W : Way D lv st b := W
  have hl := (W.gd O.n O.sn).len O.n
  have hin : b ∈ al := hp.mem_iff.mpr (by rw [con_st O]; exact way_in O.ne W e (by omega))
  cases al with
  | nil => cases hin
  | cons x t =>
    obtain ⟨Wx, ex⟩ := desc_way 7 [st] x .one (by rw [← con_st O]; exact hp.mem_iff.mp List.mem_cons_self)
    have k1 : klt D x b = false := least x Wx ex
    have k2 : klt D b x = false := by
      rcases List.mem_cons.mp hin with h | h
      · rw [h]; exact klt_irr D x
      · exact (List.pairwise_cons.mp hs).1 b h
    rw [klt_tot k1 k2]
    exact ⟨t, rfl⟩
theorem none_best (O : Ok7 D nm st g) {S : List (Str × List Str)} (J : Dj D lv st S []) (hn : ∀ z ∈ S, z.1 ≠ g) {al : List (List Str)} (hp : al.Perm (con D lv g [st])) : al = [] := by
  cases al with
  | nil => rfl
  | cons x t =>
    obtain ⟨Wx, ex⟩ := desc_way 7 [st] x .one (by rw [← con_st O]; exact hp.mem_iff.mp List.mem_cons_self)
    obtain ⟨z, hz, e⟩ := J.done O.pos Wx
    exact absurd (e.trans ex) (hn z hz)
theorem con_ok (O : Ok7 D nm st g) {al : List (List Str)} (hp : al.Perm (con D lv g [st])) : ∀ ns ∈ al, Way D lv st ns ∧ lst ns = g ∧ 2 ≤ ns.length ∧ ns.length ≤ 7 ∧ ∀ n ∈ ns, n ∈ nm := fun ns m => by
  obtain ⟨W, e⟩ := desc_way 7 [st] ns .one (by rw [← con_st O]; exact hp.mem_iff.mp m)
  have G := W.gd O.n O.sn
  have := G.len O.n
  refine ⟨W, e, ?_, by omega, G.2.2⟩
  cases W with
  | one => exact absurd e O.ne
  | @ext w _ W hu =>
    have := ext_len hu
    have := ((W.gd O.n O.sn).len O.n).1
    omega
end
end Sk

set_option Elab.async false
set_option linter.all false
set_option maxRecDepth 100000
set_option maxHeartbeats 4000000
namespace Sk
open PySem PySem.Spec PyProof.Rows L2 PySem.W
/-! requests -/
structure Rq where
  a : Addr
  ka : Addr
  nm : Str
  st : Str
  g : Str
  kw : Int
  ks : Int
  kf : Int
  kx : Int
  ky : Int
  lv : Int
  wt : Int
  tk : Int
  lt : Int
def Rq.v (q : Rq) : List V := [.str q.nm, .ref q.ka, .str q.st, .str q.g, .int q.lv, .int q.wt, .int q.tk, .int q.lt]
def Rq.kv (q : Rq) : List V := [.int q.kw, .int q.ks, .int q.kf, .int q.kx, .int q.ky]
structure QstAt (H : Hp) (q : Rq) : Prop where
  r : H q.a = some (.tup q.v)
  k : H q.ka = some (.tup q.kv)
structure QstOk (q : Rq) : Prop where
  nm : q.nm.length ≤ 1000 ∧ sOk q.nm
  st : sOk q.st
  g : sOk q.g
def QstsAt (H : Hp) (l : Addr) (qs : List Rq) : Prop := H l = some (.lst (qs.map fun q => V.ref q.a)) ∧ ∀ q ∈ qs, QstAt H q
section
variable {H H' : Hp} {l : Addr} {q : Rq} {qs : List Rq} {T : List Addr}
theorem QstAt.same (R : QstAt H q) (s : Same H H') : QstAt H' q := ⟨s _ _ R.r, s _ _ R.k⟩
theorem QstAt.st (R : QstAt H q) (s : SameT T H H') (t : Tabs T H) : QstAt H' q := ⟨s.t t R.r, s.t t R.k⟩
theorem QstAt.keep {K : PySem.W.Frag} {d c : Addr} (R : QstAt H q) (S : St1 K H d c) (k : Keep d H H') : QstAt H' q := ⟨k.t S R.r, k.t S R.k⟩
theorem QstsAt.same (R : QstsAt H l qs) (s : Same H H') : QstsAt H' l qs := ⟨s _ _ R.1, fun q hq => (R.2 q hq).same s⟩
theorem QstsAt.st (R : QstsAt H l qs) (s : SameT T H H') (t : Tabs T H) : QstsAt H' l qs := ⟨s.l t R.1, fun q hq => (R.2 q hq).st s t⟩
theorem QstsAt.keep {K : PySem.W.Frag} {d c : Addr} (R : QstsAt H l qs) (S : St1 K H d c) (k : Keep d H H') : QstsAt H' l qs := ⟨k.l S R.1, fun q hq => (R.2 q hq).keep S k⟩
end
/-! what is wrong with one -/
def hasF (D : CD) (s : Str) : Bool := (valV D.fs (.inr s)).isSome
def faultR (D : CD) (before : List Str) (q : Rq) : Str :=
  if (!nameB q.nm || decide (q.nm ∈ before)) = true then "name"
  else if isK q.kw q.ks q.kf q.kx q.ky = false then "kind"
  else if (!hasF D q.st || (!hasF D q.g || decide (q.st = q.g))) = true then "fix"
  else if ¬ ((0 ≤ q.lv ∧ q.lv ≤ 600) ∧ 0 ≤ q.wt ∧ q.wt ≤ 600) then "level"
  else if ¬ (0 ≤ q.tk ∧ q.tk ≤ 90000) then "tick"
  else if ¬ (0 ≤ q.lt ∧ q.lt ≤ 10000) then "late" else ""
def rq0 : Rq := ⟨(0 : Nat), (0 : Nat), "", "", "", 0, 0, 0, 0, 0, 0, 0, 0, 0⟩
def codR (D : CD) (qs : List Rq) (i : Nat) : Str := faultR D ((qs.take i).map (·.nm)) (qs.getD i rq0)
def NoFlawR (D : CD) (qs : List Rq) : Prop := ∀ i, i < qs.length → codR D qs i = ""
def IsFlawR (D : CD) (qs : List Rq) (c : Str) (i : Nat) : Prop := i < qs.length ∧ codR D qs i = c ∧ c ≠ "" ∧ ∀ j, j < i → codR D qs j = ""
theorem IsFlawR.uniq {D : CD} {qs : List Rq} {c c' : Str} {i i' : Nat} (h : IsFlawR D qs c i) (h' : IsFlawR D qs c' i') : c = c' ∧ i = i' := by
  have e : i = i' := by
    rcases Nat.lt_trichotomy i i' with z | z | z
    · exact absurd ((h.2.1).symm.trans (h'.2.2.2 i z)) h.2.2.1
    · exact z
    · exact absurd ((h'.2.1).symm.trans (h.2.2.2 i' z)) h'.2.2.1
  subst e
  exact ⟨h.2.1.symm.trans h'.2.1, rfl⟩
theorem IsFlawR.no {D : CD} {qs : List Rq} {c : Str} {i : Nat} (h : IsFlawR D qs c i) (n : NoFlawR D qs) : False := h.2.2.1 (h.2.1.symm.trans (n i h.1))
theorem faultR_len (D : CD) (bs : List Str) (q : Rq) : (faultR D bs q).length ≤ 1000 := by
  unfold faultR
  repeat' split
  all_goals decide +kernel
theorem rq_at {qs : List Rq} {i : Nat} (h : i < qs.length) : qs[i]? = some (qs.getD i rq0) := by
  rw [List.getD_eq_getElem?_getD, List.getElem?_eq_getElem h]
  rfl
theorem sameT_lst {T : List Addr} {H H4 : Hp} {p : Addr} {xs : List V} {o : HO} (s : SameT T H H4) (hn : H p = none) (hl : H4 p = some (.lst xs)) : SameT T H (upd H4 p o) := ⟨fun b ob hb n => by
  rw [upd_ne (ne_of_none hb hn)]
  exact s.keep b ob hb n, fun t P hP => by
  obtain ⟨ps, e, r⟩ := s.tabs t P hP
  exact ⟨ps, by rw [upd_ne (ne_of e hl (by intro z; cases z))]; exact e, r⟩⟩
abbrev rLe0 : R2 := rI0 fun i j => V.bl (decide (i ≤ j))
theorem chain_t {a b x : Int} {i : Nat} {σ : L2.St} {H : Hp} {Q : Bool → Hp → Prop} (hs : σ[i]? = some (some (.int x))) (h : Q (!decide (a ≤ x ∧ x ≤ b)) H) : tNot (tTest (tChain rLe0 rLe0 (tC (.int a)) (tVar i) (tC (.int b)))) σ H Q := by
  refine ⟨_, hs, _, _, rfl, rfl, _, rfl, ?_⟩
  by_cases c1 : a ≤ x
  · refine ifY c1 ⟨_, _, rfl, rfl, _, rfl, ?_⟩
    by_cases c2 : x ≤ b
    · rw [decide_eq_true (show a ≤ x ∧ x ≤ b from ⟨c1, c2⟩)] at h
      rw [decide_eq_true c2]
      exact h
    · rw [decide_eq_false (show ¬ (a ≤ x ∧ x ≤ b) from fun z => c2 z.2)] at h
      rw [decide_eq_false c2]
      exact h
  · refine ifN c1 ⟨_, rfl, ?_⟩
    rw [decide_eq_false (show ¬ (a ≤ x ∧ x ≤ b) from fun z => c1 z.1)] at h
    exact h
theorem strs_flat22 : ∀ ns : List Str, (ns.map V.str).all flatV = true
  | [] => rfl
  | x :: ns => by rw [List.map_cons, List.all_cons, strs_flat22 ns]; rfl
theorem inV_strs22 (x : Str) : ∀ ns : List Str, inV (.str x) (ns.map V.str) = decide (x ∈ ns)
  | [] => rfl
  | y :: ns => by
    have ih := inV_strs22 x ns
    unfold inV at ih ⊢
    rw [List.map_cons, List.any_cons, ih]
    by_cases e : y = x
    · subst e
      simp [eqV]
    · have e' : ¬ x = y := fun z => e z.symm
      simp [eqV, e, e']
theorem ChartAt.gs {H : Hp} {ch : Addr} {D : CD} (C : ChartAt H ch D) (s : Str) : DGet H D.fx (.str s) (valV D.fs (.inr s)) := DGet.k (k := .inr s) C.fx
section
variable {D : CD} {bs : List Str} {q : Rq}
theorem fa_name (h : (!nameB q.nm || decide (q.nm ∈ bs)) = true) : faultR D bs q = "name" := if_pos h
theorem fa_kind (h : (!nameB q.nm || decide (q.nm ∈ bs)) = false) (h2 : isK q.kw q.ks q.kf q.kx q.ky = false) : faultR D bs q = "kind" := by
  unfold faultR
  rw [h, if_neg Bool.false_ne_true, if_pos h2]
theorem fa_fix (h : (!nameB q.nm || decide (q.nm ∈ bs)) = false) (h2 : isK q.kw q.ks q.kf q.kx q.ky = true) (h3 : (!hasF D q.st || (!hasF D q.g || decide (q.st = q.g))) = true) : faultR D bs q = "fix" := by
  unfold faultR
  rw [h, if_neg Bool.false_ne_true, h2, if_neg (fun z => Bool.noConfusion z), if_pos h3]
theorem fa_level (h : (!nameB q.nm || decide (q.nm ∈ bs)) = false) (h2 : isK q.kw q.ks q.kf q.kx q.ky = true) (h3 : (!hasF D q.st || (!hasF D q.g || decide (q.st = q.g))) = false) (h4 : ¬ ((0 ≤ q.lv ∧ q.lv ≤ 600) ∧ 0 ≤ q.wt ∧ q.wt ≤ 600)) : faultR D bs q = "level" := by
  unfold faultR
  rw [h, if_neg Bool.false_ne_true, h2, if_neg (fun z => Bool.noConfusion z), h3, if_neg Bool.false_ne_true, if_pos h4]
theorem fa_tick (h : (!nameB q.nm || decide (q.nm ∈ bs)) = false) (h2 : isK q.kw q.ks q.kf q.kx q.ky = true) (h3 : (!hasF D q.st || (!hasF D q.g || decide (q.st = q.g))) = false) (h4 : (0 ≤ q.lv ∧ q.lv ≤ 600) ∧ 0 ≤ q.wt ∧ q.wt ≤ 600) (h5 : ¬ (0 ≤ q.tk ∧ q.tk ≤ 90000)) : faultR D bs q = "tick" := by
  unfold faultR
  rw [h, if_neg Bool.false_ne_true, h2, if_neg (fun z => Bool.noConfusion z), h3, if_neg Bool.false_ne_true, if_neg (fun z => z h4), if_pos h5]
theorem fa_late (h : (!nameB q.nm || decide (q.nm ∈ bs)) = false) (h2 : isK q.kw q.ks q.kf q.kx q.ky = true) (h3 : (!hasF D q.st || (!hasF D q.g || decide (q.st = q.g))) = false) (h4 : (0 ≤ q.lv ∧ q.lv ≤ 600) ∧ 0 ≤ q.wt ∧ q.wt ≤ 600) (h5 : 0 ≤ q.tk ∧ q.tk ≤ 90000) : faultR D bs q = if 0 ≤ q.lt ∧ q.lt ≤ 10000 then "" else "late" := by
  unfold faultR
  rw [h, if_neg Bool.false_ne_true, h2, if_neg (fun z => Bool.noConfusion z), h3, if_neg Bool.false_ne_true, if_neg (fun z => z h4), if_neg (fun z => z h5)]
  by_cases h6 : 0 ≤ q.lt ∧ q.lt ≤ 10000
  · rw [if_pos h6, if_neg (fun z => z h6)]
  · rw [if_neg h6, if_pos h6]
end
/-! promises -/
def spFaultR (TT : List Addr) : Sp := fun vs H Q _ => ∃ (ch : Addr) (D : CD) (q : Rq) (b : Addr) (bs : List Str), vs = [.ref ch, .ref q.a, .ref b] ∧ ChartAt H ch D ∧ QstAt H q ∧ QstOk q ∧ H b = some (.lst (bs.map V.str)) ∧ Tabs TT H ∧ ∀ H', SameT TT H H' → Q (.str (faultR D bs q)) H'
def spOnceR : Sp := fun vs H Q _ => ∃ x y : Int, vs = [.int x, .int y] ∧ ∀ p H', Same H H' → H p = none → H' p = some (.lst ((if x = y then [x] else [x, y]).map V.int)) → Q (.ref p) H'
def spCheckQ (CQ : Addr) (TT : List Addr) : Sp := fun vs H Q E => ∃ (ch l : Addr) (D : CD) (qs : List Rq), vs = [.ref ch, .ref l] ∧ ChartAt H ch D ∧ QstsAt H l qs ∧ (∀ q ∈ qs, QstOk q) ∧ qs.length ≤ 100 ∧ Tabs TT H ∧
  (NoFlawR D qs → ∀ H', SameT TT H H' → Q .non H') ∧ ∀ c i, IsFlawR D qs c i → ∀ H1 d, SameT TT H H1 → H1 d = none → E (.ref CQ) (some d) (upd H1 d (.xd (ciK c (i : Nat))))
end Sk

set_option Elab.async false
set_option linter.all false
set_option maxRecDepth 100000
set_option maxHeartbeats 4000000
namespace Sk
open PySem PySem.Spec PyProof.Rows L2 PySem.W
/-! menus -/
def intOf : Value → Option Int
  | .int x _ => some x
  | _ => none
def intsK (K : PySem.W.Frag) (a : Addr) : Option (List Int) := (tupB K a).bind fun its => its.mapM intOf
theorem ints_all : ∀ {its : List Value} {ns : List Int}, its.mapM intOf = some ns → Vals (ns.map V.int) its
  | [], ns, h => by
    have : ns = [] := (Option.some.inj h).symm
    subst this
    exact .nil
  | v :: its, ns, h => by
    rw [List.mapM_cons] at h
    cases e1 : intOf v with
    | none => rw [e1] at h; cases h
    | some x =>
      cases e2 : its.mapM intOf with
      | none => rw [e1, e2] at h; cases h
      | some xs =>
        rw [e1, e2] at h
        have : ns = x :: xs := (Option.some.inj h).symm
        subst this
        unfold intOf at e1
        split at e1
        · rename_i y t
          have := Option.some.inj e1
          subst this
          exact .cons ⟨t, rfl⟩ (ints_all e2)
        · cases e1
theorem ints_sq {K : PySem.W.Frag} {a : Addr} {ns : List Int} (h : intsK K a = some ns) (H : Hp) : SqT K H a (ns.map V.int) := by
  unfold intsK at h
  cases e : tupB K a with
  | none => rw [e] at h; cases h
  | some its =>
    rw [e] at h
    exact tupB_sq e (ints_all h) H
/-- a route with and without its first loop -/
def rtsR (hv : List (Key × V)) (ns : List Str) : List (List Str) := ns :: match loopR hv ns 1 with
  | .inr ls => [ls]
  | .inl _ => []
theorem rtsR_len (hv : List (Key × V)) (ns : List Str) : (rtsR hv ns).length ≤ 2 := by
  unfold rtsR
  cases loopR hv ns 1 with
  | inl _ => exact Nat.le_succ 1
  | inr _ => exact Nat.le_refl 2
structure Op where
  t : Addr
  u : Addr
  r : Addr
  ns : List Str
  sp : Int
  am : Int
  en : Int
abbrev OpD := List Str × Int × Int × Int
def Op.d (o : Op) : OpD := (o.ns, o.sp, o.am, o.en)
structure OpAt (H : Hp) (o : Op) : Prop where
  t : H o.t = some (.tup [.ref o.u, .int o.en])
  u : H o.u = some (.tup [.ref o.r, .int o.sp, .int o.am])
  r : H o.r = some (.tup (o.ns.map V.str))
def OptsAt (H : Hp) (p : Addr) (os : List Op) : Prop := H p = some (.lst (os.map fun o => V.ref o.t)) ∧ ∀ o ∈ os, OpAt H o
section
variable {H H' : Hp} {p : Addr} {o : Op} {os : List Op} {T : List Addr}
theorem OpAt.same (A : OpAt H o) (s : Same H H') : OpAt H' o := ⟨s _ _ A.t, s _ _ A.u, s _ _ A.r⟩
theorem OpAt.put {xs ws : List V} (A : OpAt H o) (h : H p = some (.lst ws)) : OpAt (upd H p (.lst xs)) o :=
  ⟨by rw [upd_ne (ne_of A.t h (by intro z; cases z))]; exact A.t, by rw [upd_ne (ne_of A.u h (by intro z; cases z))]; exact A.u, by rw [upd_ne (ne_of A.r h (by intro z; cases z))]; exact A.r⟩
theorem OptsAt.same (A : OptsAt H p os) (s : Same H H') : OptsAt H' p os := ⟨s _ _ A.1, fun o ho => (A.2 o ho).same s⟩
theorem OptsAt.put {xs ws : List V} {q : Addr} (A : OptsAt H p os) (h : H q = some (.lst ws)) (n : p ≠ q) : OptsAt (upd H q (.lst xs)) p os := ⟨by rw [upd_ne n]; exact A.1, fun o ho => (A.2 o ho).put h⟩
theorem OptsAt.add (A : OptsAt H p os) (B : OpAt H o) : OptsAt (upd H p (.lst (os.map (fun o => V.ref o.t) ++ [.ref o.t]))) p (os ++ [o]) := by
  refine ⟨by rw [upd_same, List.map_append]; rfl, fun x hx => ?_⟩
  rcases List.mem_append.mp hx with h | h
  · exact (A.2 x h).put A.1
  · rw [List.mem_singleton.mp h]
    exact B.put A.1
end
def two (x y : Int) : List Int := if x = y then [x] else [x, y]
theorem two_len (x y : Int) : (two x y).length ≤ 2 := by
  unfold two
  split
  · exact Nat.le_succ 1
  · exact Nat.le_refl 2
def F3 (e : Int) (r : List Str) (ss : List Int) (a : Int) : List OpD := ss.map fun s => (r, s, a, e)
def F2 (e : Int) (as ss : List Int) (r : List Str) : List OpD := as.flatMap (F3 e r ss)
def F1 (rs : List (List Str)) (as ss : List Int) (e : Int) : List OpD := rs.flatMap (F2 e as ss)
def optsL (hv : List (Key × V)) (fd : List (List Str)) (q : Rq) : List OpD := [q.tk + 0, q.tk + 8].flatMap (F1 (fd.flatMap (rtsR hv)) (two q.wt q.lv) (two q.kf q.ks))
theorem srt_exists (D : CD) (l : List (List Str)) : ∃ al : List (List Str), al.Perm l ∧ Srt D al := by
  refine ⟨l.mergeSort (fun x y => !klt D y x), List.mergeSort_perm _ _, ?_⟩
  have := List.pairwise_mergeSort (le := fun x y => !klt D y x) (fun x y z h k => by
    have h : klt D y x = false := by simpa using h
    have k : klt D z y = false := by simpa using k
    show (!klt D z x) = true
    rw [klt_neg k h]; rfl) (fun x y => by
    show (!klt D y x || !klt D x y) = true
    cases e : klt D y x with
    | false => rfl
    | true =>
      cases e2 : klt D x y with
      | false => rfl
      | true =>
        have := klt_tr e e2
        rw [klt_irr] at this
        cases this) l
  exact this.imp fun {x y} h => by simpa using h
/-- what is known of the first two -/
theorem first2 {D : CD} {nm : List Str} {st g : Str} {lv : Int} {fd : List (List Str)} (O : Ok7 D nm st g) (h : ∀ al : List (List Str), Srt D al → al.Perm (con D lv g [st]) → fd = al.take 2) : fd.length ≤ 2 ∧ ∀ ns ∈ fd, 2 ≤ ns.length ∧ ns.length ≤ 7 ∧ ∀ n ∈ ns, n ∈ nm := by
  obtain ⟨al, p, s⟩ := srt_exists D (con D lv g [st])
  have e := h al s p
  refine ⟨by rw [e, List.length_take]; omega, fun ns hns => ?_⟩
  rw [e] at hns
  obtain ⟨_, _, a, b, c⟩ := con_ok O p ns (List.mem_of_mem_take hns)
  exact ⟨a, b, c⟩
/-! promises -/
def spLoopsR : Sp := fun vs H Q _ => ∃ (ch r hd : Addr) (D : CD) (hv : List (Key × V)) (ns : List Str), vs = [.ref ch, .ref r] ∧ HoldAt H ch D hd hv ∧ H r = some (.tup (ns.map V.str)) ∧ 2 ≤ ns.length ∧ ns.length ≤ 16 ∧ ∀ zs p H', Same H H' → H p = none → RtsAt H' p zs → zs.map (·.2) = rtsR hv ns → Q (.ref p) H'
def spMenuR : Sp := fun vs H Q _ => ∃ (ch hd : Addr) (D : CD) (hv : List (Key × V)) (nm : List Str) (q : Rq), vs = [.ref ch, .ref q.a] ∧ ChartAt H ch D ∧ HoldAt H ch D hd hv ∧ Ok7 D nm q.st q.g ∧ QstAt H q ∧
  ∀ fd os p H', Same H H' → H p = none → OptsAt H' p os → (∀ al : List (List Str), Srt D al → al.Perm (con D q.lv q.g [q.st]) → fd = al.take 2) → os.map Op.d = optsL hv fd q → Q (.ref p) H'
end Sk

set_option Elab.async false
set_option linter.all false
set_option maxRecDepth 100000
set_option maxHeartbeats 4000000
namespace Sk
open PySem PySem.Spec PyProof.Rows L2 PySem.W
/-! the law's own side -/
section
variable {a x y b : Int} {ta tb tc td : TE} {σ : L2.St} {H : Hp}
theorem chain_g {Q : Bool → Hp → Prop} (h1 : ∀ R : VK, R (.int a) H → ta σ H R) (h2 : ∀ R : VK, R (.int x) H → tb σ H R) (h3 : ∀ R : VK, R (.int b) H → tc σ H R) (h : Q (decide (a ≤ x ∧ x ≤ b)) H) : tTest (tChain rLe0 rLe0 ta tb tc) σ H Q := by
  refine h1 _ (h2 _ ⟨_, _, rfl, rfl, _, rfl, ?_⟩)
  by_cases c1 : a ≤ x
  · refine ifY c1 (h3 _ ⟨_, _, rfl, rfl, _, rfl, ?_⟩)
    by_cases c2 : x ≤ b
    · rw [decide_eq_true (show a ≤ x ∧ x ≤ b from ⟨c1, c2⟩)] at h
      rw [decide_eq_true c2]
      exact h
    · rw [decide_eq_false (show ¬ (a ≤ x ∧ x ≤ b) from fun z => c2 z.2)] at h
      rw [decide_eq_false c2]
      exact h
  · refine ifN c1 ⟨_, rfl, ?_⟩
    rw [decide_eq_false (show ¬ (a ≤ x ∧ x ≤ b) from fun z => c1 z.1)] at h
    exact h
theorem chain_g3 {Q : Bool → Hp → Prop} (h1 : ∀ R : VK, R (.int a) H → ta σ H R) (h2 : ∀ R : VK, R (.int x) H → tb σ H R) (h3 : ∀ R : VK, R (.int y) H → tc σ H R) (h4 : ∀ R : VK, R (.int b) H → td σ H R) (h : Q (decide (a ≤ x ∧ x ≤ y ∧ y ≤ b)) H) : tTest (tChain3 rLe0 rLe0 rLe0 ta tb tc td) σ H Q := by
  refine h1 _ (h2 _ ⟨_, _, rfl, rfl, _, rfl, ?_⟩)
  by_cases c1 : a ≤ x
  · refine ifY c1 (h3 _ ⟨_, _, rfl, rfl, _, rfl, ?_⟩)
    by_cases c2 : x ≤ y
    · refine ifY c2 (h4 _ ⟨_, _, rfl, rfl, _, rfl, ?_⟩)
      by_cases c3 : y ≤ b
      · rw [decide_eq_true (show a ≤ x ∧ x ≤ y ∧ y ≤ b from ⟨c1, c2, c3⟩)] at h
        rw [decide_eq_true c3]
        exact h
      · rw [decide_eq_false (show ¬ (a ≤ x ∧ x ≤ y ∧ y ≤ b) from fun z => c3 z.2.2)] at h
        rw [decide_eq_false c3]
        exact h
    · refine ifN c2 ⟨_, rfl, ?_⟩
      rw [decide_eq_false (show ¬ (a ≤ x ∧ x ≤ y ∧ y ≤ b) from fun z => c2 z.2.1)] at h
      exact h
  · refine ifN c1 ⟨_, rfl, ?_⟩
    rw [decide_eq_false (show ¬ (a ≤ x ∧ x ≤ y ∧ y ≤ b) from fun z => c1 z.1)] at h
    exact h
end
theorem isK_dec (w s f a b : Int) : isK w s f a b = (decide (0 ≤ w ∧ w ≤ 3) && (decide (1 ≤ s ∧ s ≤ f ∧ f ≤ 10000) && decide (1 ≤ a ∧ a ≤ b ∧ b ≤ 100))) := by
  unfold isK
  simp only [Bool.decide_and]
theorem first_filter {p : Nat → Bool} {n k : Nat} {t : List Nat} (h : (List.range n).filter p = k :: t) : k < n ∧ p k = true ∧ ∀ j, j < k → p j = false := by
  have hk : k ∈ (List.range n).filter p := by rw [h]; exact List.mem_cons_self
  obtain ⟨h1, h2⟩ := List.mem_filter.mp hk
  have hn := List.mem_range.mp h1
  refine ⟨hn, h2, fun j hj => ?_⟩
  cases e : p j with
  | false => rfl
  | true =>
    have hm : j ∈ (List.range n).filter p := List.mem_filter.mpr ⟨List.mem_range.mpr (by omega), e⟩
    have pw : ((List.range n).filter p).Pairwise (· < ·) := List.pairwise_lt_range.filter _
    rw [h] at hm pw
    rcases List.mem_cons.mp hm with z | z
    · omega
    · have := (List.pairwise_cons.mp pw).1 j z
      omega
theorem RtsAt.add {H : Hp} {r : Addr} {rs : List Wy} {z : Wy} (A : RtsAt H r rs) (h : H z.1 = some (.tup (z.2.map V.str))) : RtsAt (upd H r (.lst (rs.map wref ++ [wref z]))) r (rs ++ [z]) := by
  refine ⟨by rw [upd_same, List.map_append]; rfl, fun x hx => ?_⟩
  rcases List.mem_append.mp hx with m | m
  · rw [upd_ne (ne_of (A.2 x m) A.1 (by intro z; cases z))]
    exact A.2 x m
  · rw [List.mem_singleton.mp m, upd_ne (ne_of h A.1 (by intro z; cases z))]
    exact h
theorem RtsAt.putl {H : Hp} {r p : Addr} {rs : List Wy} {xs ws : List V} (A : RtsAt H r rs) (h : H p = some (.lst ws)) (n : r ≠ p) : RtsAt (upd H p (.lst xs)) r rs := by
  refine ⟨by rw [upd_ne n]; exact A.1, fun x hx => ?_⟩
  rw [upd_ne (ne_of (A.2 x hx) h (by intro z; cases z))]
  exact A.2 x hx
theorem two_filter (x y : Int) : [V.int x] ++ (([y] : List Int).filter (fun z => decide (z ≠ x))).map V.int = (two x y).map V.int := by
  unfold two
  by_cases e : x = y
  · subst e
    simp
  · have e' : ¬ y = x := fun z => e z.symm
    simp [e, e']
/-! promises -/
def spCodeQ : Sp := fun vs H Q _ => ∃ (ch : Addr) (D : CD) (q : Rq) (b : Addr) (bs : List Str), vs = [.ref ch, .ref q.a, .ref b] ∧ ChartAt H ch D ∧ QstAt H q ∧ QstOk q ∧ H b = some (.lst (bs.map V.str)) ∧ ∀ H', Same H H' → Q (.str (faultR D bs q)) H'
/-- what the law's own check gave -/
def FlawQ (H : Hp) (v : V) (D : CD) (qs : List Rq) : Prop := (v = .non ∧ NoFlawR D qs) ∨ ∃ p c i, v = .ref p ∧ IsFlawR D qs c i ∧ H p = some (.tup [.str c, .int (i : Nat)])
def spFlawQ : Sp := fun vs H Q _ => ∃ (ch l : Addr) (D : CD) (qs : List Rq), vs = [.ref ch, .ref l] ∧ ChartAt H ch D ∧ QstsAt H l qs ∧ (∀ q ∈ qs, QstOk q) ∧ qs.length ≤ 100 ∧ ∀ v H', Same H H' → FlawQ H' v D qs → Q v H'
def spCheckedQ (TT : List Addr) : Sp := fun vs H Q _ => ∃ (ch l : Addr) (D : CD) (qs : List Rq), vs = [.ref ch, .ref l] ∧ ChartAt H ch D ∧ QstsAt H l qs ∧ (∀ q ∈ qs, QstOk q) ∧ qs.length ≤ 100 ∧ Tabs TT H ∧ ∀ v H', SameT TT H H' → FlawQ H' v D qs → Q v H'
def spRequestR (K : PySem.W.Frag) : Sp := fun vs H Q _ => ∃ (d c ch : Addr) (D : CD) (nm : Str), vs = [.ref d, .ref ch, .str nm] ∧ St1 K H d c ∧ ChartAt H ch D ∧ CE D ∧ ch ≠ d ∧ D.fx ≠ d ∧ nm.length ≤ 1000 ∧ sOk nm ∧
  ∀ q H', QstAt H' q → QstOk q → St1 K H' d c → Keep d H H' → Q (.ref q.a) H'
def spRoutesQ : Sp := fun vs H Q _ => ∃ (ch : Addr) (D : CD) (nn : List Str) (st g : Str) (lv : Int), vs = [.ref ch, .str st, .str g, .int lv] ∧ ChartAt H ch D ∧ Ok7 D nn st g ∧
  ∀ zs p H', Same H H' → H p = none → RtsAt H' p zs → Srt D (zs.map (·.2)) → (zs.map (·.2)).Perm (con D lv g [st]) → Q (.ref p) H'
def spMenuL : Sp := fun vs H Q _ => ∃ (ch hd : Addr) (D : CD) (hv : List (Key × V)) (nn : List Str) (q : Rq), vs = [.ref ch, .ref q.a] ∧ ChartAt H ch D ∧ HoldAt H ch D hd hv ∧ Ok7 D nn q.st q.g ∧ QstAt H q ∧
  ∀ fd os p H', Same H H' → H p = none → OptsAt H' p os → (∃ al : List (List Str), Srt D al ∧ al.Perm (con D q.lv q.g [q.st]) ∧ fd = al.take 2) → os.map Op.d = optsL hv fd q → Q (.ref p) H'
end Sk

set_option Elab.async false
set_option linter.all false
set_option maxRecDepth 100000
set_option maxHeartbeats 4000000
namespace Sk
open PySem PySem.Spec PyProof.Rows L2 PySem.W
/-! requests that are spoilt -/
/-- all but two things stand -/
def Kp2 (d l : Addr) (H H' : Hp) : Prop := ∀ b o, H b = some o → b ≠ d → b ≠ l → H' b = some o
structure SplAt (K : PySem.W.Frag) (H0 H : Hp) (d c l p : Addr) (qs : List Rq) (q : Rq) : Prop where
  S : St1 K H d c
  R : QstsAt H l qs
  ok : ∀ x ∈ qs, QstOk x
  pl : H p = some (.lst q.v)
  pk : H q.ka = some (.tup q.kv)
  qok : QstOk q
  fr : Keep d H0 H
  pn : H0 p = none
section
variable {K : PySem.W.Frag} {H0 H H' : Hp} {d c l p : Addr} {qs : List Rq} {q q' : Rq}
theorem SplAt.keep (A : SplAt K H0 H d c l p qs q) (k : Keep d H H') (S : St1 K H' d c) : SplAt K H0 H' d c l p qs q :=
  ⟨S, A.R.keep A.S k, A.ok, k.l A.S A.pl, k.t A.S A.pk, A.qok, A.fr.trans k, A.pn⟩
theorem SplAt.same (A : SplAt K H0 H d c l p qs q) (s : Same H H') : SplAt K H0 H' d c l p qs q := A.keep (Keep.of s) (A.S.same s)
theorem SplAt.npd (A : SplAt K H0 H d c l p qs q) : p ≠ d := by
  obtain ⟨kv, e⟩ := A.S.dk
  exact ne_of A.pl e (by intro z; cases z)
/-- a field is changed -/
theorem SplAt.put (A : SplAt K H0 H d c l p qs q) (nl : l ≠ p) (nc : c ≠ p) (hk : H q'.ka = some (.tup q'.kv)) (ok : QstOk q') : SplAt K H0 (upd H p (.lst q'.v)) d c l p qs q' := by
  refine ⟨A.S.put A.npd (Ne.symm nc), ⟨by rw [upd_ne nl]; exact A.R.1, fun x hx => ?_⟩, A.ok, upd_same, ?_, ok, fun b o e n => ?_, A.pn⟩
  · obtain ⟨h1, h2⟩ := A.R.2 x hx
    exact ⟨by rw [upd_ne (ne_of h1 A.pl (by intro z; cases z))]; exact h1, by rw [upd_ne (ne_of h2 A.pl (by intro z; cases z))]; exact h2⟩
  · rw [upd_ne (ne_of hk A.pl (by intro z; cases z))]
    exact hk
  · rw [upd_ne (ne_of_none e A.pn)]
    exact A.fr b o e n
/-- a list of its own is changed -/
theorem SplAt.other {n : Addr} {ws xs : List V} (A : SplAt K H0 H d c l p qs q) (h : H n = some (.lst ws)) (n1 : l ≠ n) (n2 : p ≠ n) (n3 : n ≠ c) (h0 : H0 n = none) : SplAt K H0 (upd H n (.lst xs)) d c l p qs q := by
  have nd : n ≠ d := by
    obtain ⟨kv, e⟩ := A.S.dk
    exact ne_of h e (by intro z; cases z)
  refine ⟨A.S.put nd n3, ⟨by rw [upd_ne n1]; exact A.R.1, fun x hx => ?_⟩, A.ok, by rw [upd_ne n2]; exact A.pl, ?_, A.qok, fun b o e m => ?_, A.pn⟩
  · obtain ⟨h1, h2⟩ := A.R.2 x hx
    exact ⟨by rw [upd_ne (ne_of h1 h (by intro z; cases z))]; exact h1, by rw [upd_ne (ne_of h2 h (by intro z; cases z))]; exact h2⟩
  · rw [upd_ne (ne_of A.pk h (by intro z; cases z))]
    exact A.pk
  · rw [upd_ne (ne_of_none e h0)]
    exact A.fr b o e m
end
def Rq.setk (q : Rq) (t : Addr) (j : Nat) (z : Int) : Rq := match j with
  | 0 => { q with ka := t, kw := z }
  | 1 => { q with ka := t, ks := z }
  | 2 => { q with ka := t, kf := z }
  | 3 => { q with ka := t, kx := z }
  | _ => { q with ka := t, ky := z }
theorem setk_kv (q : Rq) (t : Addr) {j : Nat} (z : Int) (h : j < 5) : (q.setk t j z).kv = q.kv.set j (.int z) := by
  match j, h with
  | 0, _ => rfl
  | 1, _ => rfl
  | 2, _ => rfl
  | 3, _ => rfl
  | 4, _ => rfl
theorem setk_v (q : Rq) (t : Addr) {j : Nat} (z : Int) : (q.setk t j z).v = q.v.set 1 (.ref t) := by
  unfold Rq.setk
  split <;> rfl
theorem setk_ka (q : Rq) (t : Addr) {j : Nat} (z : Int) : (q.setk t j z).ka = t := by
  unfold Rq.setk
  split <;> rfl
theorem setk_ok {q : Rq} (t : Addr) {j : Nat} (z : Int) (h : QstOk q) : QstOk (q.setk t j z) := by
  unfold Rq.setk
  split <;> exact ⟨h.nm, h.st, h.g⟩
theorem ixN22 {n j : Nat} (h : j < n) : ixN n (j : Int) = some j := by
  unfold ixN
  rw [if_pos (by omega), if_pos (by omega)]
  rfl
def spSpoilQ (K : PySem.W.Frag) : Sp := fun vs H Q _ => ∃ (d c ch l : Addr) (qs : List Rq), vs = [.ref d, .ref ch, .ref l] ∧ St1 K H d c ∧ QstsAt H l qs ∧ (∀ q ∈ qs, QstOk q) ∧ qs ≠ [] ∧ qs.length ≤ 100 ∧ l ≠ d ∧ l ≠ c ∧
  ∀ qs' H', QstsAt H' l qs' → (∀ q ∈ qs', QstOk q) → qs'.length = qs.length → St1 K H' d c → Kp2 d l H H' → Q .non H'
end Sk

set_option Elab.async false
set_option linter.all false
set_option maxRecDepth 100000
set_option maxHeartbeats 4000000
namespace Sk
open PySem PySem.Spec PyProof.Rows L2 PySem.W
/-! what the law carries -/
structure L22 (K : PySem.W.Frag) (TT : List Addr) (H : Hp) (d c ch hd : Addr) (D : CD) (hv : List (Key × V)) : Prop where
  S : St1 K H d c
  T : Tabs TT H
  C : ChartAt H ch D
  A : HoldAt H ch D hd hv
  n1 : ch ≠ d
  n2 : D.fx ≠ d
  n3 : hd ≠ d
section
variable {K : PySem.W.Frag} {TT : List Addr} {H H' : Hp} {d c ch hd l : Addr} {D : CD} {hv : List (Key × V)}
theorem L22.same (L : L22 K TT H d c ch hd D hv) (s : Same H H') : L22 K TT H' d c ch hd D hv := ⟨L.S.same s, Same.tabs s L.T, L.C.same s, L.A.same s, L.n1, L.n2, L.n3⟩
theorem L22.st (L : L22 K TT H d c ch hd D hv) (s : SameT TT H H') : L22 K TT H' d c ch hd D hv := ⟨s.st1 L.T L.S, s.tabs L.T, L.C.st s L.T, L.A.st s L.T, L.n1, L.n2, L.n3⟩
theorem L22.keep (L : L22 K TT H d c ch hd D hv) (k : Keep d H H') (S : St1 K H' d c) : L22 K TT H' d c ch hd D hv := ⟨S, let ⟨_, e⟩ := L.S.dk; Keep.tabs k e L.T, L.C.keep L.S k L.n1 L.n2, L.A.keep k L.n1 L.n3, L.n1, L.n2, L.n3⟩
theorem L22.kp2 (L : L22 K TT H d c ch hd D hv) {ws : List V} (hl : H l = some (.lst ws)) (nl : D.lg ≠ l) (k : Kp2 d l H H') (S : St1 K H' d c) : L22 K TT H' d c ch hd D hv := by
  obtain ⟨kv, hdk⟩ := L.S.dk
  have dk : ∀ {a : Addr} {kvs : List (Key × V)}, H a = some (.dK kvs) → a ≠ d → H' a = some (.dK kvs) := fun h n => k _ _ h n (ne_of h hl (by intro z; cases z))
  have tu : ∀ {a : Addr} {xs : List V}, H a = some (.tup xs) → H' a = some (.tup xs) := fun h => k _ _ h (ne_of h hdk (by intro z; cases z)) (ne_of h hl (by intro z; cases z))
  refine ⟨S, fun P hP => ?_, ?_, ?_, L.n1, L.n2, L.n3⟩
  · obtain ⟨ps, e, r⟩ := L.T P hP
    exact ⟨ps, k _ _ e (ne_of e hdk (by intro z; cases z)) (ne_of e hl (by intro z; cases z)), r⟩
  · obtain ⟨⟨kvs, h1, h2, h3⟩, h4, h5, h6, h7, h8, h8', h9⟩ := L.C
    exact ⟨⟨kvs, dk h1 L.n1, h2, h3⟩, dk h4 L.n2, k _ _ h5 (ne_of h5 hdk (by intro z; cases z)) nl, fun x hx => tu (h6 x hx), fun n a x y hp => let ⟨p1, p2, p3⟩ := h7 n a x y hp; ⟨p1, tu p2, p3⟩, h8, h8', h9⟩
  · obtain ⟨kvs, a, b⟩ := L.A.ch
    exact ⟨⟨kvs, dk a L.n1, b⟩, dk L.A.hd L.n3, L.A.ok⟩
end
/-! data -/
def rqD (q : Rq) : PyData := .tuple [.str q.nm, pdT [q.kw, q.ks, q.kf, q.kx, q.ky], .str q.st, .str q.g, .int q.lv, .int q.wt, .int q.tk, .int q.lt]
theorem rqs_dp {K : PySem.W.Frag} {H : Hp} : ∀ {qs : List Rq}, (∀ q ∈ qs, QstAt H q) → DpAll K H (qs.map fun q => V.ref q.a) (qs.map rqD)
  | [], _ => .nil
  | q :: qs, h => .cons (.tup (.inl (.inl (h q List.mem_cons_self).r)) (.cons (.str _) (.cons (.tup (.inl (.inl (h q List.mem_cons_self).k)) (.cons (.int _) (.cons (.int _) (.cons (.int _) (.cons (.int _) (.cons (.int _) .nil)))))) (.cons (.str _) (.cons (.str _) (.cons (.int _) (.cons (.int _) (.cons (.int _) (.cons (.int _) .nil))))))))) (rqs_dp fun x hx => h x (List.mem_cons_of_mem _ hx))
theorem QstsAt.dp {K : PySem.W.Frag} {H : Hp} {l p : Addr} {qs : List Rq} (R : QstsAt H l qs) (h : H p = some (.lst (qs.map fun q => V.ref q.a))) : Dp K H (.ref p) (.list (qs.map rqD)) := .lst (.inl (.inl h)) (rqs_dp R.2)
theorem can_rq {q : Rq} (h : QstOk q) : (rqD q).canLay0 = true := by
  have a : PyData.canLay0 (.str q.nm) = true := h.nm.2
  have b : PyData.canLay0 (.str q.st) = true := h.st
  have e : PyData.canLay0 (.str q.g) = true := h.g
  have i : ∀ x : Int, PyData.canLay0 (.int x) = true := fun x => by simp [PyData.canLay0]
  show (PyData.canLay0 (.str q.nm) && (PyData.canLay0 (pdT _) && (PyData.canLay0 (.str q.st) && (PyData.canLay0 (.str q.g) && (PyData.canLay0 (.int q.lv) && (PyData.canLay0 (.int q.wt) && (PyData.canLay0 (.int q.tk) && (PyData.canLay0 (.int q.lt) && true)))))))) = true
  rw [a, b, e, can_pd, i, i, i, i]
  rfl
theorem can_rqs : ∀ {qs : List Rq}, (∀ q ∈ qs, QstOk q) → (PyData.list (qs.map rqD)).canLay0 = true := fun {qs} h => by
  rw [PyData.canLay0]
  induction qs with
  | nil => rfl
  | cons q qs ih =>
    rw [List.map_cons, PyData.canLayAll0, can_rq (h q List.mem_cons_self), ih fun x hx => h x (List.mem_cons_of_mem _ hx)]
    rfl
theorem sh_rqs {qs : List Rq} (h : ∀ q ∈ qs, QstOk q) : SeqAt.shaped (.list (qs.map rqD)) = true := sh_of (can_rqs h) (by
  have : PyData.depthAll (qs.map rqD) ≤ 5 := by
    clear h
    induction qs with
    | nil => simp [PyData.depthAll]
    | cons q qs ih =>
      rw [List.map_cons, PyData.depthAll]
      have : (rqD q).depth ≤ 5 := by simp [rqD, pdT, PyData.depth, PyData.depthAll]
      omega
  rw [PyData.depth]
  omega)
def opD (o : OpD) : PyData := .tuple [.tuple [pdR o.1, .int o.2.1, .int o.2.2.1], .int o.2.2.2]
theorem opts_dp {K : PySem.W.Frag} {H : Hp} : ∀ {os : List Op}, (∀ o ∈ os, OpAt H o) → DpAll K H (os.map fun o => V.ref o.t) ((os.map Op.d).map opD)
  | [], _ => .nil
  | o :: os, h => .cons (.tup (.inl (.inl (h o List.mem_cons_self).t)) (.cons (.tup (.inl (.inl (h o List.mem_cons_self).u)) (.cons (.tup (.inl (.inl (h o List.mem_cons_self).r)) (dpAll_str o.ns)) (.cons (.int _) (.cons (.int _) .nil)))) (.cons (.int _) .nil))) (opts_dp fun x hx => h x (List.mem_cons_of_mem _ hx))
theorem OptsAt.dp {K : PySem.W.Frag} {H : Hp} {p : Addr} {os : List Op} (R : OptsAt H p os) : Dp K H (.ref p) (.list ((os.map Op.d).map opD)) := .lst (.inl (.inl R.1)) (opts_dp R.2)
theorem can_opts : ∀ {os : List OpD}, (∀ o ∈ os, ∀ n ∈ o.1, sOk n) → (PyData.list (os.map opD)).canLay0 = true := fun {os} h => by
  rw [PyData.canLay0]
  induction os with
  | nil => rfl
  | cons o os ih =>
    have i : ∀ x : Int, PyData.canLay0 (.int x) = true := fun x => by simp [PyData.canLay0]
    have e : (opD o).canLay0 = true := by
      show ((PyData.canLay0 (pdR o.1) && (PyData.canLay0 (.int o.2.1) && (PyData.canLay0 (.int o.2.2.1) && true))) && (PyData.canLay0 (.int o.2.2.2) && true)) = true
      rw [show PyData.canLay0 (pdR o.1) = true from can_str (h o List.mem_cons_self), i, i, i]
      rfl
    rw [List.map_cons, PyData.canLayAll0, e, ih fun x hx => h x (List.mem_cons_of_mem _ hx)]
    rfl
theorem sh_opts {os : List OpD} (h : ∀ o ∈ os, ∀ n ∈ o.1, sOk n) : SeqAt.shaped (.list (os.map opD)) = true := sh_of (can_opts h) (by
  have : PyData.depthAll (os.map opD) ≤ 5 := by
    clear h
    induction os with
    | nil => simp [PyData.depthAll]
    | cons o os ih =>
      rw [List.map_cons, PyData.depthAll]
      have : (opD o).depth ≤ 5 := by
        have : PyData.depthAll (o.1.map PyData.str) ≤ 1 := dpa fun x hx => by
          obtain ⟨n, _, rfl⟩ := List.mem_map.mp hx
          simp [PyData.depth]
        simp only [opD, pdR, PyData.depth, PyData.depthAll]
        omega
      omega
  rw [PyData.depth]
  omega)
theorem rts_ok {D : CD} {hv : List (Key × V)} (V' : HoldV D hv) {ns : List Str} (h : ∀ n ∈ ns, sOk n) : ∀ r ∈ rtsR hv ns, ∀ n ∈ r, sOk n := fun r hr => by
  unfold rtsR at hr
  rcases List.mem_cons.mp hr with rfl | hr
  · exact h
  · cases e : loopR hv ns 1 with
    | inl c => rw [e] at hr; cases hr
    | inr ls =>
      rw [e] at hr
      rw [List.mem_singleton.mp hr]
      exact loopR_sok V' h e
theorem opts_ok {D : CD} {hv : List (Key × V)} (V' : HoldV D hv) {fd : List (List Str)} (h : ∀ ns ∈ fd, ∀ n ∈ ns, sOk n) (q : Rq) : ∀ o ∈ optsL hv fd q, ∀ n ∈ o.1, sOk n := fun o ho => by
  unfold optsL at ho
  obtain ⟨e, _, ho⟩ := List.mem_flatMap.mp ho
  unfold F1 at ho
  obtain ⟨r, hr, ho⟩ := List.mem_flatMap.mp ho
  obtain ⟨ns, hns, hr⟩ := List.mem_flatMap.mp hr
  unfold F2 at ho
  obtain ⟨a, _, ho⟩ := List.mem_flatMap.mp ho
  unfold F3 at ho
  obtain ⟨s, _, rfl⟩ := List.mem_map.mp ho
  exact rts_ok V' (h ns hns) r hr
theorem FlawQ.st {T : List Addr} {H H' : Hp} {v : V} {D : CD} {qs : List Rq} (f : FlawQ H v D qs) (s : SameT T H H') (t : Tabs T H) : FlawQ H' v D qs := by
  rcases f with f | ⟨p, c, i, e, h, hp⟩
  · exact .inl f
  · exact .inr ⟨p, c, i, e, h, s.t t hp⟩
theorem FlawQ.same {H H' : Hp} {v : V} {D : CD} {qs : List Rq} (f : FlawQ H v D qs) (s : Same H H') : FlawQ H' v D qs := by
  rcases f with f | ⟨p, c, i, e, h, hp⟩
  · exact .inl f
  · exact .inr ⟨p, c, i, e, h, s _ _ hp⟩
theorem code_ok (D : CD) (bs : List Str) (q : Rq) : PyData.canLay0 (.str (faultR D bs q)) = true := by
  unfold faultR
  repeat' split
  all_goals decide +kernel
/-- two answers of one question are alike -/
theorem FlawQ.two {K : PySem.W.Frag} {H : Hp} {v w : V} {D : CD} {qs : List Rq} (f : FlawQ H v D qs) (g : FlawQ H w D qs) : ∃ e, Dp K H v e ∧ Dp K H w e ∧ SeqAt.shaped e = true ∧ e.canLay0 = true := by
  rcases f with ⟨rfl, nf⟩ | ⟨p, c, i, rfl, h, hp⟩
  · rcases g with ⟨rfl, _⟩ | ⟨p, c, i, rfl, h, hp⟩
    · exact ⟨.none, .non, .non, rfl, rfl⟩
    · exact absurd (h.no nf) id
  · rcases g with ⟨rfl, nf⟩ | ⟨p', c', i', rfl, h', hp'⟩
    · exact absurd (h.no nf) id
    · obtain ⟨rfl, rfl⟩ := h.uniq h'
      have hc : PyData.canLay0 (.str c) = true := by
        rw [← h.2.1]
        exact code_ok _ _ _
      have ec : PyData.canLay0 (.tuple [.str c, .int (i : Nat)]) = true := by
        show (PyData.canLay0 (.str c) && (PyData.canLay0 (.int (i : Nat)) && true)) = true
        rw [hc]
        rfl
      exact ⟨.tuple [.str c, .int (i : Nat)], .tup (.inl (.inl hp)) (.cons (.str _) (.cons (.int _) .nil)), .tup (.inl (.inl hp')) (.cons (.str _) (.cons (.int _) .nil)), sh_of ec (by simp [PyData.depth, PyData.depthAll]), ec⟩
end Sk

set_option Elab.async false
set_option linter.all false
set_option maxRecDepth 100000
set_option maxHeartbeats 4000000
namespace Sk
open PySem PySem.Spec PyProof.Rows L2 PySem.W
theorem flat_le {α β : Type} {f : α → List β} {c : Nat} : ∀ {l : List α}, (∀ x ∈ l, (f x).length ≤ c) → (l.flatMap f).length ≤ l.length * c
  | [], _ => by simp
  | x :: l, h => by
    rw [List.flatMap_cons, List.length_append, List.length_cons, Nat.succ_mul]
    have := flat_le (l := l) fun y hy => h y (List.mem_cons_of_mem _ hy)
    have := h x List.mem_cons_self
    omega
theorem opts_len {hv : List (Key × V)} {fd : List (List Str)} (q : Rq) (h : fd.length ≤ 2) : (optsL hv fd q).length ≤ 32 := by
  have l1 := two_len q.wt q.lv
  have l2 := two_len q.kf q.ks
  have l3 : (fd.flatMap (rtsR hv)).length ≤ 4 := Nat.le_trans (flat_le fun x _ => rtsR_len hv x) (by omega)
  unfold optsL
  refine Nat.le_trans (flat_le (c := 16) fun e _ => ?_) (by show 2 * 16 ≤ 32; decide)
  unfold F1
  refine Nat.le_trans (flat_le (c := 4) fun r _ => ?_) (by omega)
  unfold F2
  refine Nat.le_trans (flat_le (c := 2) fun a _ => ?_) (by omega)
  unfold F3
  rw [List.length_map]
  exact l2
theorem fault_ok {D : CD} {bs : List Str} {q : Rq} (e : faultR D bs q = "") : hasF D q.st = true ∧ hasF D q.g = true ∧ q.st ≠ q.g := by
  unfold faultR at e
  split at e
  · exact absurd e (by decide +kernel)
  · split at e
    · exact absurd e (by decide +kernel)
    · split at e
      · exact absurd e (by decide +kernel)
      · rename_i h
        have h := Bool.eq_false_iff.mpr h
        rw [Bool.or_eq_false_iff, Bool.or_eq_false_iff] at h
        refine ⟨by simpa using h.1, by simpa using h.2.1, by simpa using h.2.2⟩
theorem has_key {D : CD} {ks : List Str} {s : Str} (hks : D.fs.map (·.1) = ks.map Sum.inr) (h : hasF D s = true) : s ∈ ks := by
  obtain ⟨v, hv⟩ := Option.isSome_iff_exists.mp h
  have := valV_key hv
  rw [hks] at this
  obtain ⟨n, hn, e⟩ := List.mem_map.mp this
  rw [← Sum.inr.inj e]
  exact hn
def nm4 : List Str := ["A", "F12", "ZZZZZ", "Q0"]
theorem name_ok : ∀ nm ∈ nm4, ∀ i : Nat, i < 4 → nm.length ≤ 100 ∧ (cutS nm none (some 4)).length ≤ 100 ∧ ((toString (i : Int) : String) : Str).length ≤ 100 ∧ (i : Int).natAbs.log2 < 1920 ∧ sOk (cutS nm none (some 4) ++ ((toString (i : Int) : String) : Str)) := by
  intro nm hn i hi
  simp only [nm4, List.mem_cons, List.not_mem_nil, or_false] at hn
  match i, hi with
  | 0, _ => rcases hn with rfl | rfl | rfl | rfl <;> exact ⟨by decide +kernel, by decide +kernel, by decide +kernel, by decide +kernel, by show sOk _; decide +kernel⟩
  | 1, _ => rcases hn with rfl | rfl | rfl | rfl <;> exact ⟨by decide +kernel, by decide +kernel, by decide +kernel, by decide +kernel, by show sOk _; decide +kernel⟩
  | 2, _ => rcases hn with rfl | rfl | rfl | rfl <;> exact ⟨by decide +kernel, by decide +kernel, by decide +kernel, by decide +kernel, by show sOk _; decide +kernel⟩
  | 3, _ => rcases hn with rfl | rfl | rfl | rfl <;> exact ⟨by decide +kernel, by decide +kernel, by decide +kernel, by decide +kernel, by show sOk _; decide +kernel⟩
end Sk

set_option Elab.async false
set_option linter.all false
set_option maxRecDepth 100000
set_option maxHeartbeats 4000000
namespace Sk
open PySem PySem.Spec PyProof.Rows L2
def top (i : Nat) : Stmt := PySem.Challenge.pw_skyapart_k22_requests_and_menus.main.body.getD i (.Pass ⟨0, 0, 0, 0⟩)
abbrev s_law_start : Stmt := top 36
abbrev s_law_draw : Stmt := top 37
abbrev s_law_pick : Stmt := top 38
abbrev s_law_is_number : Stmt := top 39
section
variable {P : Program} {w : World} {K : PySem.W.Frag} {mg : Str → Option Value} {base : Heap}
theorem sc_law_start : FnScope ["script", "cell"] ["script"] (defScope s_law_start) := ⟨rfl, rfl, rfl, by decide +kernel, rfl, by decide +kernel, by decide +kernel⟩
theorem ok_law_start {f : Addr} {fd : FuncData} (F : Fun K "_law_start" "_law_start" s_law_start f fd) (T : Txt0 mg) : FnOk P w K mg base CX0 1 f fd ["script"] (spStart K) := by
  refine F.ok sc_law_start (fun vs H Q E h => ?_) (fun cdv A outer s H vs Q E hr h => ?_)
  · obtain ⟨a, ns, rfl, _⟩ := h
    rfl
  · obtain ⟨a, ns, rfl, hS, hl, k⟩ := h
    refine ⟨_, (pss_one (ps_ret (pe_disp (pps_cons pe_str (pe_lc (own := [("cell", 1)]) (g := gName 1) (by rfl) sc_law_start.nd (pi_list (pv 0)) (blkOk_by (own := [("cell", 1)]) (N := ["script", "cell"]) (sc := defScope s_law_start) (by decide +kernel)) (fun _ _ _ _ _ => (pg_name (i := 1) sc_law_start.nd rfl (Or.inl rfl))) (fun _ _ _ _ _ => pts_nil) (fun _ _ _ _ _ => (pe_callB call_abs (by rfl) T.abs boot_abs (pa_cons (pe_callTy call_int1 (by rfl) T.int boot_int (pa_cons (pv 1) pa_nil)) pa_nil)))) (pps_cons pe_str pe_int (pps_cons pe_str pe_int (pps_cons pe_str (pe_op op_add pe_int (pe_callB call_len_seq (by rfl) T.len boot_len (pa_cons (pv 0) pa_nil))) pps_nil)))) (by rfl) (by rfl) (fun z => by cases z) (by decide)))), ?_⟩
    -- the dict
    intro d hd
    have s0 : Same H (upd H d (.dK [])) := same_new hd
    refine ⟨_, rfl, a, rfl, ⟨_, s0.seq hS⟩, fun D hD => ?_⟩
    have nDd : d ≠ D := fun z => by rw [← z, upd_same] at hD; cases hD
    refine lc_list (K := K) (a := a) (xs := ns.map V.int) (fun i H' => ∃ cs : List Int, H' D = some (.lst (cs.map V.int)) ∧ cs.length = i ∧ (∀ x ∈ cs, 0 ≤ x) ∧ Same H H' ∧ H' d = some (.dK []))
      ⟨[], upd_same, rfl, (fun _ h => nomatch h), fun b o e => (same_new hD) b o (s0 b o e), by rw [upd_ne nDd, upd_same]⟩ (fun i H' _ ⟨_, _, _, _, s2, _⟩ => s2.seq hS) ?_ ?_
    · rintro i x H' hx ⟨cs, hc, hi, hn, s2, h2⟩
      obtain ⟨z, rfl⟩ : ∃ z, x = V.int z := by
        rw [List.getElem?_map] at hx
        cases e : ns[i]? with
        | none => rw [e] at hx; cases hx
        | some z => rw [e] at hx; exact ⟨z, (Option.some.inj hx).symm⟩
      have hil : i < (ns.map V.int).length := (List.getElem?_eq_some_iff.mp hx).1
      rw [List.length_map] at hil
      refine ⟨rfl, ?_⟩
      refine ⟨_, rfl, .inl ⟨_, rfl, _, rfl, _, hc, ?_, cs ++ [if z < 0 then -z else z], ?_, ?_, ?_, ?_, ?_⟩⟩
      · rw [List.length_map]; exact small1000 (by omega)
      · rw [upd_same, List.map_append]; rfl
      · rw [List.length_append, hi]; rfl
      · intro y hy
        rcases List.mem_append.mp hy with hy | hy
        · exact hn y hy
        · rw [List.mem_singleton.mp hy]; split <;> omega
      · intro b o e
        rw [upd_ne (ne_of_none e (s0.free hD))]
        exact s2 b o e
      · rw [upd_ne nDd]; exact h2
    · rintro H' ⟨cs, hc, hi, hn, s2, h2⟩
      refine ⟨_, rfl, a, _, rfl, .inl (s2.seq hS), _, _, rfl, rfl, h2, stK D 0 0 (7 + ((ns.map V.int).length : Int)), rfl, (by show 4 ≤ 15; decide), ?_⟩
      rw [merge_st]
      have hDd : D ≠ d := fun z => nDd z.symm
      refine k d D _ hd (s0.free hD) ⟨cs, 0, 0, _, upd_same, (by rw [upd_ne hDd]; exact hc), hn, by omega, by omega, ?_, ?_⟩ fun b o e => ?_
      · omega
      · rw [List.length_map]; omega
      · rw [upd_ne (ne_of_none e hd)]
        exact s2 b o e
theorem sc_law_draw : FnScope ["state", "bound", "cell", "number"] ["state", "bound"] (defScope s_law_draw) := ⟨rfl, rfl, rfl, by decide +kernel, rfl, by decide +kernel, by decide +kernel⟩
theorem ok_law_draw {f : Addr} {fd : FuncData} (F : Fun K "_law_draw" "_law_draw" s_law_draw f fd) (T : Txt0 mg) : FnOk P w K mg base CX0 1 f fd ["state", "bound"] (spDraw K) := by
  refine F.ok sc_law_draw (fun vs H Q E h => ?_) (fun cdv A outer s H vs Q E hr h => ?_)
  · obtain ⟨d, c, b, rfl, _⟩ := h
    rfl
  · obtain ⟨d, c, b, rfl, S1, b0, b1, k⟩ := h
    have hu := hu_of hr
    have hm : ∀ x : Int, 0 ≤ x % b ∧ x % b < b := fun x => ⟨Int.emod_nonneg x (by omega), Int.emod_lt_of_pos x b0⟩
    have hmx : ∀ x : Int, 0 ≤ x % 2147483647 ∧ x % 2147483647 < 2147483648 := fun x => by omega
    refine ⟨_, (pss_cons (ps_if (PW.pt (pw_and (pt_cmpR op_eq (pe_dget hu (pv 0) pe_str (fun _ _ => rfl)) pe_int (nomark _)) (pw_and1 (pt_cmpR op_lt (pe_dget hu (pv 0) pe_str (fun _ _ => rfl)) (pe_callB call_len_seq (by rfl) T.len boot_len (pa_cons (pe_dget hu (pv 0) pe_str (fun _ _ => rfl)) pa_nil)) (nomark _))))) (pss_cons (ps_set (i := 2) sc_law_draw.nd rfl (Or.inl rfl) (pe_ix ix_list (pe_dget hu (pv 0) pe_str (fun _ _ => rfl)) (pe_dget hu (pv 0) pe_str (fun _ _ => rfl)) (fun _ _ => rfl)))
    (pss_cons (ps_dput hu (pv 0) pe_str (pe_op op_add (pe_dget hu (pv 0) pe_str (fun _ _ => rfl)) pe_int) rfl)
    (pss_cons (ps_dput hu (pv 0) pe_str (pe_op op_mod (pe_callTy call_int1 (by rfl) T.int boot_int (pa_cons (pe_op op_add (pe_op op_add (pe_op op_mul (pe_dget hu (pv 0) pe_str (fun _ _ => rfl)) pe_int) (pv 2)) pe_int) pa_nil)) pe_int) rfl)
    (pss_cons (ps_if (pt_cmpR op_lt (pv 2) (pe_op op_pow pe_int pe_int) (nomark _)) (pss_one (ps_ret (pe_op op_mod (pe_callTy call_int1 (by rfl) T.int boot_int (pa_cons (pv 2) pa_nil)) (pv 1))))
      pss_nil)
    (pss_one (ps_dput hu (pv 0) pe_str (pv 2) rfl))))))
      pss_nil)
    (pss_cons (ps_if (pt_cmpR op_gt (pe_dget hu (pv 0) pe_str (fun _ _ => rfl)) pe_int (nomark _)) (pss_cons (ps_set (i := 3) sc_law_draw.nd rfl (Or.inl rfl) (pe_op op_mod (pe_callTy call_int1 (by rfl) T.int boot_int (pa_cons (pe_dget hu (pv 0) pe_str (fun _ _ => rfl)) pa_nil)) (pv 1)))
    (pss_cons (ps_dput hu (pv 0) pe_str (pe_op op_fdivW (pe_dget hu (pv 0) pe_str (fun _ _ => rfl)) (pv 1)) rfl)
    (pss_one (ps_ret (pv 3)))))
      pss_nil)
    (pss_cons (ps_dput hu (pv 0) pe_str (pe_op op_mod (pe_callTy call_int1 (by rfl) T.int boot_int (pa_cons (pe_op op_add (pe_op op_mul (pe_dget hu (pv 0) pe_str (fun _ _ => rfl)) pe_int) pe_int) pa_nil)) pe_int) rfl)
    (pss_one (ps_ret (pe_op op_mod (pe_callTy call_int1 (by rfl) T.int boot_int (pa_cons (pe_op op_mod (pe_callTy call_int1 (by rfl) T.int boot_int (pa_cons (pe_op op_add (pe_op op_mul (pe_dget hu (pv 0) pe_str (fun _ _ => rfl)) pe_int) pe_int) pa_nil)) pe_int) pa_nil)) (pv 1))))))), ?_⟩
    refine cut (fun σ' H' => ∃ v2 v3, σ' = [some (.ref d), some (.int b), v2, v3] ∧ St1 K H' d c ∧ Keep d H H') ?_ (fun rest => ?_)
    · -- the rest: from a number that is left, or from the mix
      rintro σ' H' ⟨v2, v3, rfl, ⟨ns, i, l, m, S⟩, kp⟩
      refine ⟨_, rfl, _, _, rfl, dg_left S.dc, _, _, rfl, rfl, _, rfl, ite2 (fun e => ?_) (fun e => ?_)⟩
      · refine ⟨_, rfl, _, _, rfl, dg_left S.dc, .inl ⟨_, rfl, _, rfl, _, _, rfl, rfl, b0, ?_⟩⟩
        refine ⟨_, rfl, _, _, rfl, dg_left S.dc, _, rfl, _, _, rfl, rfl, log_of b0 b1, _, rfl, _, _, rfl, dp_left S.dc, ?_⟩
        refine ⟨_, rfl, ?_⟩
        exact k _ _ (hm l).1 (hm l).2 ⟨_, _, _, _, S.put S.i0 (Int.ediv_nonneg S.l0 (by omega)) S.m0 S.m1⟩ (kp.trans (Keep.upd _ _ _))
      · refine ⟨_, rfl, _, _, rfl, dg_mix S.dc, _, _, rfl, rfl, .inr ⟨by decide, by decide⟩, _, _, rfl, rfl, .inl ⟨_, rfl, _, _, rfl, rfl, (by show (0:Int) < 2147483647; decide), _, rfl, _, _, rfl, dp_mix S.dc, ?_⟩⟩
        have S2 := S.put (i' := i) (l' := l) S.i0 S.l0 (hmx (m * 48271 + 11)).1 (hmx (m * 48271 + 11)).2
        refine ⟨_, rfl, _, _, rfl, dg_mix S2.dc, _, _, rfl, rfl, .inr ⟨by decide, by decide⟩, _, _, rfl, rfl, .inl ⟨_, rfl, _, _, rfl, rfl, (by show (0:Int) < 2147483629; decide), .inl ⟨_, rfl, _, rfl, _, _, rfl, rfl, b0, ?_⟩⟩⟩
        exact k _ _ (hm _).1 (hm _).2 ⟨_, _, _, _, S2⟩ (kp.trans (Keep.upd _ _ _))
    · -- the first if
      obtain ⟨ns, i, l, m, S⟩ := id S1
      refine ⟨_, rfl, _, _, rfl, dg_left S.dc, rfl, _, rfl, ite2 (fun e => ?_) (fun e => ?_)⟩
      · refine ⟨_, rfl, _, _, rfl, dg_at S.dc, _, rfl, _, _, rfl, dg_cells S.dc, _, _, rfl, .inl (.inl (.inl S.cs)), _, _, rfl, rfl, _, rfl, ite2 (fun e => ?_) (fun e => ?_)⟩
        · have hi : i < (ns.length : Int) := by
            have := of_decide_eq_true e
            rw [List.length_map] at this
            exact this
          obtain ⟨j, rfl⟩ : ∃ j : Nat, i = (j : Int) := ⟨i.toNat, by have := S.i0; omega⟩
          have hj : j < ns.length := by omega
          refine ⟨_, rfl, _, _, rfl, dg_cells S.dc, _, rfl, _, _, rfl, dg_at S.dc, _, _, _, _, rfl, rfl, .inl (.inl S.cs), atI_nat (j := j) (v := .int ns[j]) (by simp [hj]), ?_⟩
          have S2 := S.put (i' := (j : Int) + 1) (l' := l) (m' := m) (by omega) S.l0 S.m0 S.m1
          refine ⟨_, rfl, _, _, rfl, dg_at S.dc, _, _, rfl, rfl, _, rfl, _, _, rfl, dp_at S.dc, ?_⟩
          refine ⟨_, rfl, _, _, rfl, dg_mix S2.dc, _, _, rfl, rfl, .inr ⟨by decide, by decide⟩, _, rfl, _, _, rfl, rfl, _, _, rfl, rfl, .inl ⟨_, rfl, _, _, rfl, rfl, (by show (0:Int) < 2147483647; decide), _, rfl, _, _, rfl, dp_mix S2.dc, ?_⟩⟩
          have S3 := S2.put (i' := (j : Int) + 1) (l' := l) S2.i0 S.l0 (hmx (m * 48271 + ns[j] + 11)).1 (hmx (m * 48271 + ns[j] + 11)).2
          refine ⟨_, rfl, _, _, rfl, rfl, ⟨by decide, by decide, by decide⟩, _, _, rfl, rfl, _, rfl, ite2 (fun e => ?_) (fun e => ?_)⟩
          · refine ⟨_, rfl, .inl ⟨_, rfl, _, rfl, _, _, rfl, rfl, b0, ?_⟩⟩
            exact k _ _ (hm _).1 (hm _).2 ⟨_, _, _, _, S3⟩ ((Keep.upd _ _ _).trans (Keep.upd _ _ _))
          · refine ⟨_, rfl, _, rfl, _, _, rfl, dp_left S3.dc, ?_⟩
            have S4 := S3.put (i' := (j : Int) + 1) (l' := ns[j]) S2.i0 (S.nn _ (List.getElem_mem hj)) S3.m0 S3.m1
            exact rest _ _ ⟨_, _, rfl, ⟨_, _, _, _, S4⟩, ((Keep.upd _ _ _).trans (Keep.upd _ _ _)).trans (Keep.upd _ _ _)⟩
        · exact rest _ _ ⟨_, _, rfl, S1, Keep.refl _ _⟩
      · refine iteF ?_
        exact rest _ _ ⟨_, _, rfl, S1, Keep.refl _ _⟩
theorem sc_law_pick : FnScope ["state", "things"] ["state", "things"] (defScope s_law_pick) := ⟨rfl, rfl, rfl, by decide +kernel, rfl, by decide +kernel, by decide +kernel⟩
theorem ok_law_pick {f : Addr} {fd : FuncData} (F : Fun K "_law_pick" "_law_pick" s_law_pick f fd) (T : Txt0 mg) (D_law_draw : Def P w K mg base 1 "_law_draw" ["state", "bound"] (spDraw K)) : FnOk P w K mg base CX0 2 f fd ["state", "things"] (spPick K) := by
  refine F.ok sc_law_pick (fun vs H Q E h => ?_) (fun cdv A outer s H vs Q E hr h => ?_)
  · obtain ⟨d, c, l, xs, rfl, _⟩ := h
    rfl
  · obtain ⟨d, c, l, xs, rfl, S, hl, hn, hz, k⟩ := h
    refine ⟨_, (pss_one (ps_ret (pe_ix ix_list (pv 1) (pe_def D_law_draw (hr.mono (by decide)) (by rfl) (pa_cons (pv 0) (pa_cons (pe_callB call_len_seq (by rfl) T.len boot_len (pa_cons (pv 1) pa_nil)) pa_nil))) (fun _ _ => rfl)))), ?_⟩
    have hp : 0 < xs.length := List.length_pos_iff.mpr hn
    refine ⟨_, rfl, _, rfl, _, rfl, _, _, rfl, .inl hl, d, c, _, rfl, S, by omega, by omega, fun n H' n0 n1 S' kp => ?_⟩
    obtain ⟨kvs, hd⟩ := S.dk
    obtain ⟨j, rfl⟩ : ∃ j : Nat, n = (j : Int) := ⟨n.toNat, by omega⟩
    have hj : j < xs.length := by omega
    refine ⟨_, _, _, _, rfl, rfl, kp.seq hd hl, atI_nat (j := j) (v := xs[j]) (by simp [hj]), ?_⟩
    exact k _ _ (List.getElem_mem hj) S' kp
theorem sc_law_is_number : FnScope ["thing"] ["thing"] (defScope s_law_is_number) := ⟨rfl, rfl, rfl, by decide +kernel, rfl, by decide +kernel, by decide +kernel⟩
theorem ok_law_is_number {f : Addr} {fd : FuncData} (F : Fun K "_law_is_number" "_law_is_number" s_law_is_number f fd) (T : Txt0 mg) : FnOk P w K mg base CX0 1 f fd ["thing"] spIsNum := by
  refine F.ok sc_law_is_number (fun vs H Q E h => ?_) (fun cdv A outer s H vs Q E hr h => ?_)
  · obtain ⟨n, rfl, _⟩ := h
    rfl
  · obtain ⟨n, rfl, k⟩ := h
    refine ⟨_, (pss_one (ps_ret (pe_and (pe_callB call_isi (by rfl) T.isinstance boot_isinstance (pa_cons (pv 0) (pa_cons (pe_bltn (v := .ty "int") (by rfl) T.int boot_int rfl) pa_nil))) (pe_one (pe_not (pe_callB call_isi (by rfl) T.isinstance boot_isinstance (pa_cons (pv 0) (pa_cons (pe_bltn (v := .ty "bool") (by rfl) T.bool boot_bool rfl) pa_nil)))))))), ?_⟩
    refine ⟨_, rfl, _, _, _, _, true, rfl, ClsV.ty _, .base (.int n), kit_ty (by decide +kernel), true, rfl, ?_⟩
    refine iteT ?_
    refine ⟨_, rfl, _, _, _, _, false, rfl, ClsV.ty _, .base (.int n), kit_ty (by decide +kernel), false, rfl, ?_⟩
    exact k
end
end Sk

set_option Elab.async false
set_option linter.all false
set_option maxRecDepth 100000
set_option maxHeartbeats 4000000
namespace Sk
open PySem PySem.Spec PyProof.Rows L2
abbrev s_root_down : Stmt := top 7
abbrev s_root_up : Stmt := top 8
abbrev s_leg_length : Stmt := top 13
abbrev s_law_is : Stmt := top 40
abbrev s_law_root_up : Stmt := top 41
abbrev s_law_names : Stmt := top 42
abbrev s_law_legs : Stmt := top 43
abbrev s_law_chart : Stmt := top 44
abbrev s_law_leg : Stmt := top 45
abbrev s_law_lengths : Stmt := top 46
local macro_rules | `(tactic| walk_at "ms") => `(tactic| first | exact .inl ⟨by decide, by decide⟩ | exact .inl ⟨by omega, by omega⟩ | exact .inr ⟨by omega, by omega⟩ | exact wm (by omega) (by omega) | exact log_of (by omega) (by omega) | (show (0:Int) < _; omega) | exact ⟨by decide, by decide, by decide⟩)
def spChartB (K : PySem.W.Frag) : Sp := fun vs H Q _ => ∃ (d c : Addr) (m z : Int), vs = [.ref d, .int m, .int z] ∧ St1 K H d c ∧ 2 ≤ m ∧ m ≤ 7 ∧ 1 ≤ z ∧ z ≤ 9000 ∧
  ∀ (D : CD) ch H', CE D → H D.lg = none → (∀ l ∈ D.ls, 1 ≤ D.len l.s l.e) → ChartAt H' ch D → H ch = none → H D.fx = none → St1 K H' d c → Keep d H H' → Q (.ref ch) H'
theorem keys_put {kvs : List (Key × V)} {ns : List Str} {i : Nat} {v : V} (h : kvs.map (·.1) = (ns.take i).map Sum.inr) (nd : ns.Nodup) (hi : i < ns.length) : (putK kvs (.inr ns[i]) v).map (·.1) = (ns.take i ++ [ns[i]]).map Sum.inr := by
  unfold putK
  rw [if_neg, List.map_append, h, List.map_append]
  · rfl
  · intro w
    obtain ⟨kv, hkv, e⟩ := List.any_eq_true.mp w
    have e := of_decide_eq_true e
    have m : (Sum.inr ns[i] : Key) ∈ kvs.map (·.1) := List.mem_map.mpr ⟨kv, hkv, e⟩
    rw [h] at m
    obtain ⟨n, hn, en⟩ := List.mem_map.mp m
    obtain rfl := Sum.inr.inj en
    obtain ⟨j, hj, ej⟩ := List.getElem_of_mem hn
    rw [List.length_take] at hj
    rw [List.getElem_take] at ej
    exact nodup_ne nd (show j < ns.length by omega) hi (by omega) ej
def spChartW (K : PySem.W.Frag) : Sp := fun vs H Q _ => ∃ (d c : Addr) (m z : Int), vs = [.ref d, .int m, .int z] ∧ St1 K H d c ∧ 2 ≤ m ∧ m ≤ 7 ∧ 1 ≤ z ∧ z ≤ 9000 ∧
  ∀ (D : CD) ch hd hv H', CE D → UQ D.ls → H D.lg = none → (∀ l ∈ D.ls, 1 ≤ D.len l.s l.e) → ChartAt H' ch D → HoldAt H' ch D hd hv → H ch = none → H D.fx = none → H hd = none → St1 K H' d c → Keep d H H' → Q (.ref ch) H'
def HVl (ls : List Lg) (hv : List (Key × V)) : Prop := ∀ (s : Str) v, valV hv (.inr s) = some v → ∃ t, v = .str t ∧ (∃ l ∈ ls, l.s = s ∧ l.e = t) ∧ ∃ l ∈ ls, l.s = t ∧ l.e = s
theorem HVl.put {ls : List Lg} {hv : List (Key × V)} (h : HVl ls hv) {q : Lg} (hq : q ∈ ls) (ho : ∃ o ∈ ls, o.s = q.e ∧ o.e = q.s) : HVl ls (putK hv (.inr q.s) (.str q.e)) := fun s v e => by
  rw [valV_put] at e
  by_cases z : (Sum.inr s : Key) = .inr q.s
  · rw [if_pos z] at e
    have z := Sum.inr.inj z
    subst z
    exact ⟨q.e, (Option.some.inj e).symm, ⟨q, hq, rfl, rfl⟩, ho⟩
  · rw [if_neg z] at e
    exact h s v e
theorem ch_hold {f l z r h u w : V} : valV (chK f l z r h u w) (.inr "holds") = some h := by
  unfold chK
  simp only [mergeK, List.foldl, valV_put]
  rw [if_neg (kr (by decide +kernel)), if_neg (kr (by decide +kernel)), if_pos trivial]
def spSmall (K : PySem.W.Frag) : Sp := fun vs H Q _ => ∃ (d c : Addr), vs = [.ref d] ∧ St1 K H d c ∧
  ∀ (D : CD) ch H', D.ls ≠ [] → (∀ l ∈ D.ls, 1 ≤ D.len l.s l.e) → ChartAt H' ch D → H ch = none → H D.fx = none → St1 K H' d c → Keep d H H' → Q (.ref ch) H'
section
variable {P : Program} {w : World} {K : PySem.W.Frag} {mg : Str → Option Value} {base : Heap}
theorem sc_root_down : FnScope ["n"] ["n"] (defScope s_root_down) := ⟨rfl, rfl, rfl, by decide +kernel, rfl, by decide +kernel, by decide +kernel⟩
theorem ok_root_down {f : Addr} {fd : FuncData} (F : Fun K "root_down" "root_down" s_root_down f fd) (T : TxtA mg) (Tq : mg "isqrt" = some (.builtin "math.isqrt")) : FnOk P w K mg base CX0 1 f fd ["n"] (spDownR) := by
  refine F.ok sc_root_down (fun vs H Q E h => ?_) (fun cdv A outer s H vs Q E hr h => ?_)
  · obtain ⟨n, rfl, _⟩ := h
    rfl
  · obtain ⟨n, rfl, hn, k⟩ := h
    refine ⟨_, (pss_cons (ps_if (pt_cmpR op_le (pv 0) pe_int (nomark _)) (pss_one (ps_ret pe_int))
      pss_nil)
    (pss_one (ps_ret (pe_callBfun cr_isqrt (by rfl) Tq (pa_cons (pv 0) pa_nil))))), ?_⟩
    refine ⟨_, rfl, _, _, rfl, rfl, _, rfl, ite2 (fun e => ?_) (fun e => ?_)⟩
    · have e := of_decide_eq_true e
      exact k 0 (by omega) (fun _ => rfl) (fun h => by omega)
    · have e : ¬ n ≤ 0 := fun z => e (decide_eq_true z)
      exact ⟨_, rfl, n, rfl, by omega, hn, fun r h0 h1 h2 => k r h0 (fun z => absurd z e) (fun _ => ⟨h1, h2⟩)⟩
theorem sc_root_up : FnScope ["n", "low"] ["n"] (defScope s_root_up) := ⟨rfl, rfl, rfl, by decide +kernel, rfl, by decide +kernel, by decide +kernel⟩
theorem ok_root_up {f : Addr} {fd : FuncData} (F : Fun K "root_up" "root_up" s_root_up f fd) (T : TxtA mg)
    (D_root_down : Def P w K mg base 1 "root_down" ["n"] (spDownR)) : FnOk P w K mg base CX0 2 f fd ["n"] (spUpR) := by
  refine F.ok sc_root_up (fun vs H Q E h => ?_) (fun cdv A outer s H vs Q E hr h => ?_)
  · obtain ⟨n, rfl, _⟩ := h
    rfl
  · obtain ⟨n, rfl, hn0, hn, k⟩ := h
    refine ⟨_, (pss_cons (ps_set (i := 1) sc_root_up.nd rfl (Or.inl rfl) (pe_def D_root_down (hr.mono (by decide)) (by rfl) (pa_cons (pv 0) pa_nil)))
    (pss_cons (ps_if (pt_cmpR op_lt (pe_op op_mulW (pv 1) (pv 1)) (pv 0) (nomark _)) (pss_one (ps_ret (pe_op op_add (pv 1) pe_int)))
      pss_nil)
    (pss_one (ps_ret (pv 1))))), ?_⟩
    refine ⟨_, rfl, n, rfl, by omega, fun r h0 h1 h2 => ?_⟩
    obtain ⟨h3, h4⟩ := h2 hn0
    have hr' : r.natAbs < 2 ^ 249 := by
      rcases ltge r 1 with h3 | h3
      · have : r = 0 := by omega
        subst this; decide
      · have := Int.mul_le_mul_of_nonneg_left h3 h0
        omega
    refine ⟨_, rfl, _, rfl, _, _, rfl, rfl, wm (by omega) (by omega), _, rfl, _, _, rfl, rfl, _, rfl, ite2 (fun e => ?_) (fun e => ?_)⟩
    · have e := of_decide_eq_true e
      have hq : IsRt n (r + 1) := ⟨by omega, by omega, .inr (by rw [show r + 1 - 1 = r by omega]; exact e)⟩
      refine ⟨_, rfl, _, _, rfl, rfl, ?_⟩
      show Q (.int (r + 1)) H
      rw [hq.eq (rt_is hn0)]
      exact k
    · have e : ¬ r * r < n := fun z => e (decide_eq_true z)
      have hq : IsRt n r := by
        refine ⟨h0, by omega, ?_⟩
        rcases ltge 0 r with w | w
        · right
          have : (r - 1) * (r - 1) = r * r - 2 * r + 1 := by
            rw [Int.sub_mul, Int.mul_sub, Int.mul_sub]; omega
          omega
        · left; omega
      refine ⟨_, rfl, ?_⟩
      show Q (.int r) H
      rw [hq.eq (rt_is hn0)]
      exact k
theorem sc_leg_length : FnScope ["chart", "start", "end", "ax", "ay", "bx", "by"] ["chart", "start", "end"] (defScope s_leg_length) := ⟨rfl, rfl, rfl, by decide +kernel, rfl, by decide +kernel, by decide +kernel⟩
theorem ok_leg_length {f : Addr} {fd : FuncData} (F : Fun K "leg_length" "leg_length" s_leg_length f fd) (T : TxtA mg)
    (D_root_up : Def P w K mg base 2 "root_up" ["n"] (spUpR)) : FnOk P w K mg base CX0 3 f fd ["chart", "start", "end"] (spLegLen) := by
  refine F.ok sc_leg_length (fun vs H Q E h => ?_) (fun cdv A outer s H vs Q E hr h => ?_)
  · obtain ⟨_, _, _, _, _, _, _, _, _, _, rfl, _⟩ := h
    rfl
  · obtain ⟨ch, D, s', e', a, b, ax, ay, bx, by', rfl, C, h1, h2, k⟩ := h
    have hu := hu_of hr
    refine ⟨_, (pss_cons (ps_asg (pe_dget hu (pe_dget hu (pv 0) pe_str (fun _ _ => rfl)) (pv 1) (fun _ _ => rfl)) (pg_tup (by rfl) (pgs_cons (pg_name (i := 3) sc_leg_length.nd rfl (Or.inl rfl)) (pgs_cons (pg_name (i := 4) sc_leg_length.nd rfl (Or.inl rfl)) pgs_nil))))
    (pss_cons (ps_asg (pe_dget hu (pe_dget hu (pv 0) pe_str (fun _ _ => rfl)) (pv 2) (fun _ _ => rfl)) (pg_tup (by rfl) (pgs_cons (pg_name (i := 5) sc_leg_length.nd rfl (Or.inl rfl)) (pgs_cons (pg_name (i := 6) sc_leg_length.nd rfl (Or.inl rfl)) pgs_nil))))
    (pss_one (ps_ret (pe_def D_root_up (hr.mono (by decide)) (by rfl) (pa_cons (pe_op op_add (pe_op op_mul (pe_op op_sub (pv 5) (pv 3)) (pe_op op_sub (pv 5) (pv 3))) (pe_op op_mul (pe_op op_sub (pv 6) (pv 4)) (pe_op op_sub (pv 6) (pv 4)))) pa_nil)))))), ?_⟩
    have hz0 : 0 ≤ (bx - ax) * (bx - ax) + (by' - ay) * (by' - ay) := Int.add_nonneg (sq0 _) (sq0 _)
    obtain ⟨p1, p2, p3, p4, p5, p6⟩ := C.pf _ _ _ _ h1
    obtain ⟨q1, q2, q3, q4, q5, q6⟩ := C.pf _ _ _ _ h2
    have hz1 : ((bx - ax) * (bx - ax) + (by' - ay) * (by' - ay)).natAbs < 2 ^ 240 := by
      have e1 := sq_le (show -200000 ≤ bx - ax by omega) (show bx - ax ≤ 200000 by omega)
      have e2 := sq_le (show -200000 ≤ by' - ay by omega) (show by' - ay ≤ 200000 by omega)
      omega
    refine ⟨_, rfl, _, _, rfl, C.gf, _, rfl, _, _, rfl, C.gp h1, _, _, rfl, .inl (.inl p2), rfl, _, _, rfl, _, _, rfl, rfl, ?_⟩
    refine ⟨_, rfl, _, _, rfl, C.gf, _, rfl, _, _, rfl, C.gp h2, _, _, rfl, .inl (.inl q2), rfl, _, _, rfl, _, _, rfl, rfl, ?_⟩
    refine ⟨_, rfl, _, rfl, _, _, rfl, rfl, _, rfl, _, rfl, _, _, rfl, rfl, _, _, rfl, rfl, (by walk_at "ms"), _, rfl, _, rfl, _, _, rfl, rfl, _, rfl, _, rfl, _, _, rfl, rfl, _, _, rfl, rfl, (by walk_at "ms"), _, _, rfl, rfl, _, rfl, hz0, hz1, ?_⟩
    rw [← D.len_eq h1 h2]
    exact k
theorem sc_law_is : FnScope ["actual", "due"] ["actual", "due"] (defScope s_law_is) := ⟨rfl, rfl, rfl, by decide +kernel, rfl, by decide +kernel, by decide +kernel⟩
theorem ok_law_is {f : Addr} {fd : FuncData} (F : Fun K "_law_is" "_law_is" s_law_is f fd) (T : TxtA mg) : FnOk P w K mg base CX0 1 f fd ["actual", "due"] (spIs) := by
  refine F.ok sc_law_is (fun vs H Q E h => ?_) (fun cdv A outer s H vs Q E hr h => ?_)
  · obtain ⟨_, _, rfl, _⟩ := h
    rfl
  · obtain ⟨a, b, rfl, k⟩ := h
    refine ⟨_, (pss_one (ps_ret (pe_and (pe_callB call_isi (by rfl) T.isinstance boot_isinstance (pa_cons (pv 0) (pa_cons (pe_bltn (v := .ty "bool") (by rfl) T.bool boot_bool rfl) pa_nil))) (pe_one (pe_cmpR op_eq (pv 0) (pv 1) (nomark _)))))), ?_⟩
    refine ⟨_, rfl, _, _, _, _, true, rfl, ClsV.ty _, .base (.bl a), kit_ty (by decide +kernel), true, rfl, ?_⟩
    refine iteT ?_
    refine ⟨_, rfl, _, rfl, rfl, ?_⟩
    have e : decide (V.bl a = V.bl b) = decide (a = b) := by
      by_cases h : a = b
      · rw [h]; simp
      · rw [decide_eq_false h, decide_eq_false fun z => h (V.bl.inj z)]
    show Q (.bl (decide (V.bl a = V.bl b))) H
    rw [e]
    exact k
theorem sc_law_root_up : FnScope ["n", "low", "high", "k", "middle"] ["n"] (defScope s_law_root_up) := ⟨rfl, rfl, rfl, by decide +kernel, rfl, by decide +kernel, by decide +kernel⟩
theorem ok_law_root_up {f : Addr} {fd : FuncData} (F : Fun K "_law_root_up" "_law_root_up" s_law_root_up f fd) (T : TxtA mg) : FnOk P w K mg base CX0 1 f fd ["n"] (spRootR) := by
  refine F.ok sc_law_root_up (fun vs H Q E h => ?_) (fun cdv A outer s H vs Q E hr h => ?_)
  · obtain ⟨n, rfl, _⟩ := h
    rfl
  · obtain ⟨n, rfl, hn0, hn1, k⟩ := h
    refine ⟨_, (pss_cons (ps_set (i := 1) sc_law_root_up.nd rfl (Or.inl rfl) pe_int)
    (pss_cons (ps_set (i := 2) sc_law_root_up.nd rfl (Or.inl rfl) (pe_op op_pow pe_int pe_int))
    (pss_cons (ps_for PassesOwn.never rfl (pi_range1 (by rfl) T.range (pa_cons pe_int pa_nil)) (pg_name (i := 3) sc_law_root_up.nd rfl (Or.inl rfl))
      (pss_cons (ps_set (i := 4) sc_law_root_up.nd rfl (Or.inl rfl) (pe_op op_fdivW (pe_op op_add (pv 1) (pv 2)) pe_int))
    (pss_one (ps_if (pt_cmpR op_ge (pe_op op_mul (pv 4) (pv 4)) (pv 0) (nomark _)) (pss_one (ps_set (i := 2) sc_law_root_up.nd rfl (Or.inl rfl) (pv 4)))
      (pss_one (ps_set (i := 1) sc_law_root_up.nd rfl (Or.inl rfl) (pe_op op_add (pv 4) pe_int)))))))
    (pss_one (ps_ret (pv 2)))))), ?_⟩
    refine ⟨_, _, rfl, rfl, ⟨by decide, by decide, by decide⟩, ?_⟩
    refine ⟨_, rfl, by decide, by decide, for_range (n := 24) (fun i σ H2 => ∃ lw hg v3 v4, σ = [some (.int n), some (.int lw), some (.int hg), v3, v4] ∧ 0 ≤ lw ∧ lw ≤ hg ∧ hg ≤ 10000000 ∧ hg - lw < pw i ∧ n ≤ hg * hg ∧ (lw = 0 ∨ (lw - 1) * (lw - 1) < n) ∧ H2 = H) ⟨0, 10000000, none, none, rfl, by omega, by omega, by omega, by decide, by omega, .inl rfl, rfl⟩ ?_ ?_⟩
    · rintro i σ H2 hi ⟨lw, hg, v3, v4, rfl, l0, l1, h0, hw, hu', hl', rfl⟩
      have hp := pw_step hi
      refine ⟨_, rfl, _, rfl, _, _, rfl, rfl, _, _, rfl, rfl, log_of (by decide) (by decide), ?_⟩
      refine ⟨_, rfl, _, rfl, _, _, rfl, rfl, .inl ⟨by omega, by omega⟩, _, rfl, _, _, rfl, rfl, _, rfl, ite2 (fun e => ?_) (fun e => ?_)⟩
      · have e := of_decide_eq_true e
        refine ⟨_, rfl, lw, (lw + hg) / 2, _, _, rfl, by omega, by omega, by omega, by omega, e, hl', rfl⟩
      · have e : ¬ n ≤ (lw + hg) / 2 * ((lw + hg) / 2) := fun z => e (decide_eq_true z)
        have hlt : (lw + hg) / 2 < hg := by
          rcases ltge ((lw + hg) / 2) hg with w | w
          · exact w
          · have := mono_sq (show 0 ≤ hg by omega) w
            omega
        refine ⟨_, rfl, _, _, rfl, rfl, (lw + hg) / 2 + 1, hg, _, _, rfl, by omega, by omega, by omega, by omega, hu', .inr ?_, rfl⟩
        rw [show (lw + hg) / 2 + 1 - 1 = (lw + hg) / 2 by omega]
        omega
    · rintro σ H2 ⟨lw, hg, v3, v4, rfl, l0, l1, h0, hw, hu', hl', rfl⟩
      have hp : pw 24 = 1 := by decide
      have hq : IsRt n hg := ⟨by omega, hu', by rw [show hg = lw by omega]; exact hl'⟩
      refine ⟨_, rfl, ?_⟩
      show Q (.int hg) H2
      rw [hq.eq (rt_is hn0)]
      exact k
theorem sc_law_names : FnScope ["state", "many", "shift", "names", "k", "letter"] ["state", "many"] (defScope s_law_names) := ⟨rfl, rfl, rfl, by decide +kernel, rfl, by decide +kernel, by decide +kernel⟩
theorem ok_law_names {f : Addr} {fd : FuncData} (F : Fun K "_law_names" "_law_names" s_law_names f fd) (T : TxtA mg)
    (D_law_draw : Def P w K mg base 1 "_law_draw" ["state", "bound"] (spDraw K))
    (D_law_pick : Def P w K mg base 2 "_law_pick" ["state", "things"] (spPick K)) : FnOk P w K mg base CX0 3 f fd ["state", "many"] (spNames K) := by
  refine F.ok sc_law_names (fun vs H Q E h => ?_) (fun cdv A outer s H vs Q E hr h => ?_)
  · obtain ⟨_, _, _, rfl, _⟩ := h
    rfl
  · obtain ⟨d, c, m, rfl, S, m0, m1, k⟩ := h
    refine ⟨_, (pss_cons (ps_set (i := 2) sc_law_names.nd rfl (Or.inl rfl) (pe_def D_law_draw (hr.mono (by decide)) (by rfl) (pa_cons (pv 0) (pa_cons pe_int pa_nil))))
    (pss_cons (ps_set (i := 3) sc_law_names.nd rfl (Or.inl rfl) (pe_lst pa_nil))
    (pss_cons (ps_for PassesOwn.never rfl (pi_range1 (by rfl) T.range (pa_cons (pv 1) pa_nil)) (pg_name (i := 4) sc_law_names.nd rfl (Or.inl rfl))
      (pss_cons (ps_set (i := 5) sc_law_names.nd rfl (Or.inl rfl) (pe_ix ix_str pe_str (pe_op op_mod (pe_callTy call_int1 (by rfl) T.int boot_int (pa_cons (pe_op op_add (pv 4) (pv 2)) pa_nil)) pe_int) (fun _ _ => rfl)))
    (pss_one (ps_expr (pe_bm PySem.F.plainAttrs_list PySem.F.slot_list_append PySem.F.type_list_append mt_append (pv 3) (pa_cons (pe_op op_add_str (pv 5) (pe_def D_law_pick (hr.mono (by decide)) (by rfl) (pa_cons (pv 0) (pa_cons (pe_lst (pa_cons pe_str (pa_cons pe_str (pa_cons pe_str (pa_cons pe_str (pa_cons pe_str (pa_cons pe_str pa_nil))))))) pa_nil)))) pa_nil))))))
    (pss_one (ps_ret (pv 3)))))), ?_⟩
    refine ⟨_, rfl, d, c, _, rfl, S, (by omega), (by omega), fun x1 H1 x1a x1b S1 kp1 => ?_⟩
    refine ⟨szOk rfl, fun p2 hp2 => ?_⟩
    have npd : p2 ≠ d := S1.nd hp2
    have npc : p2 ≠ c := S1.nc hp2
    refine ⟨_, rfl, _, rfl, by omega, by omega, for_range (n := m.toNat) (fun i σ H2 => ∃ (ns : List Str) (v4 v5 : Option V), σ = [some (.ref d), some (.int m), some (.int x1), some (.ref p2), v4, v5] ∧ St1 K H2 d c ∧ H2 p2 = some (.lst (ns.map V.str)) ∧ ns.length = i ∧ (∀ n ∈ ns, sOk n) ∧ Let1 ns x1 ∧ ∀ b o, H b = some o → b ≠ d → H2 b = some o)
      ⟨[], none, none, rfl, (S1.new hp2), upd_same, rfl, (fun _ h => nomatch h), (fun j h => absurd h (Nat.not_lt_zero j)), fun b o e nb => same_new hp2 _ _ (kp1 b o e nb)⟩ ?_ ?_⟩
    · rintro i σ H2 hi ⟨ns, v4, v5, rfl, S0, hL, hlen, hok, hlet, hk⟩
      have nHp : H p2 = none := by
        cases e : H p2 with
        | none => rfl
        | some o => rw [kp1 _ _ e npd] at hp2; cases hp2
      obtain ⟨c1, hc1, hc2⟩ : ∃ c1, atI ("QXAMBZKCTDRE" : Str).cps.toList ((0 + (i : Int) + x1) % 12) = some c1 ∧ c1 < 1114112 := by
        obtain ⟨j, hj⟩ : ∃ j : Nat, (0 + (i : Int) + x1) % 12 = (j : Int) := ⟨((0 + (i : Int) + x1) % 12).toNat, by omega⟩
        rw [hj]
        have hj2 : j < 12 := by omega
        have hall : ∀ c ∈ ("QXAMBZKCTDRE" : Str).cps.toList, c < 1114112 := by decide +kernel
        exact ⟨_, atI_nat (List.getElem?_eq_getElem (by show j < 12; exact hj2)), hall _ (List.getElem_mem _)⟩
      refine ⟨_, rfl, _, rfl, _, _, rfl, rfl, .inl ⟨_, rfl, _, _, rfl, rfl, (by show (0:Int) < 12; decide), _, _, _, rfl, rfl, (by show 12 ≤ sizeLine; decide), hc1, ?_⟩⟩
      refine ⟨_, rfl, (.inl ⟨rfl, _, .inl (.inl hL)⟩), _, rfl, _, rfl, szOk rfl, fun p3 hp3 => ?_⟩
      refine ⟨d, c, _, _, rfl, (S0.new hp3), .inl (.inl upd_same), (fun z => nomatch z), (by show 6 ≤ 1000; decide), fun v4 H4 hv4 S4 kp4 => ?_⟩
      have hL := kp4.l (S0.new hp3) (same_new hp3 _ _ hL)
      obtain ⟨z4, rfl, hz4, hzk4⟩ : ∃ z : Str, v4 = .str z ∧ z.length ≤ 4 ∧ sOk z := by
        simp only [List.mem_cons, List.not_mem_nil, or_false] at hv4
        rcases hv4 with rfl | rfl | rfl | rfl | rfl | rfl <;> exact ⟨_, rfl, by decide +kernel, by decide +kernel⟩
      refine ⟨_, _, rfl, rfl, Nat.le_trans (Nat.add_le_add (show (1 : Nat) ≤ 1 from Nat.le_refl 1) hz4) (by decide), ?_⟩
      refine ⟨_, _, _, rfl, rfl, hL, (by rw [List.length_map]; exact small1000 (by omega)), ?_⟩
      refine ⟨ns ++ [⟨#[c1]⟩ ++ z4], _, _, rfl, St1.put S4 npd npc, by rw [upd_same, List.map_append]; rfl, by rw [List.length_append, hlen]; rfl, fun n hn => ?_, fun j hj => ?_, fun b o e nb => ?_⟩
      · rcases List.mem_append.mp hn with h | h
        · exact hok n h
        · rw [List.mem_singleton.mp h]
          exact sOk_app (by show PySem.PyData.strOk ⟨#[c1]⟩ = true; simp [PySem.PyData.strOk, hc2]) hzk4
      · rw [List.length_append, List.length_singleton] at hj
        by_cases ej : j < ns.length
        · obtain ⟨c, y1, y2⟩ := hlet j ej
          exact ⟨c, by rw [List.getElem_append_left ej]; exact y1, y2⟩
        · have ej2 : j = i := by omega
          subst ej2
          refine ⟨c1, ?_, by rw [← Int.zero_add (j : Int)]; exact hc1⟩
          rw [List.getElem_append_right (by omega)]
          simp only [hlen, Nat.sub_self, List.getElem_cons_zero]
          show ((#[c1] ++ z4.cps : Array Nat).toList).head? = some c1
          rw [Array.toList_append]
          rfl
      rw [upd_ne (fun z => by rw [z, nHp] at e; cases e)]
      exact kp4 _ _ (same_new hp3 _ _ (hk b o e nb)) nb
    · rintro σ H2 ⟨ns, v4, v5, rfl, S0, hL, hlen, hok, hlet, hk⟩
      have nHp : H p2 = none := by
        cases e : H p2 with
        | none => rfl
        | some o => rw [kp1 _ _ e npd] at hp2; cases hp2
      refine ⟨_, rfl, k ns p2 H2 (by omega) hok (let_nodup hlet (by omega)) nHp hL S0 fun b o e nb => hk b o e nb⟩
theorem sc_law_legs : FnScope ["state", "names", "legs", "many", "k", "j", "other", "levels", "leg"] ["state", "names"] (defScope s_law_legs) := ⟨rfl, rfl, rfl, by decide +kernel, rfl, by decide +kernel, by decide +kernel⟩
theorem ok_law_legs {f : Addr} {fd : FuncData} (F : Fun K "_law_legs" "_law_legs" s_law_legs f fd) (T : TxtA mg)
    (D_law_draw : Def P w K mg base 1 "_law_draw" ["state", "bound"] (spDraw K))
    (D_law_pick : Def P w K mg base 2 "_law_pick" ["state", "things"] (spPick K)) : FnOk P w K mg base CX0 3 f fd ["state", "names"] (spLegs7 K) := by
  refine F.ok sc_law_legs (fun vs H Q E h => ?_) (fun cdv A outer s H vs Q E hr h => ?_)
  · obtain ⟨_, _, _, _, rfl, _⟩ := h
    rfl
  · obtain ⟨d, c, l, ns, rfl, S, hN, n2, n12, k⟩ := h
    refine ⟨_, (pss_cons (ps_set (i := 2) sc_law_legs.nd rfl (Or.inl rfl) (pe_lst pa_nil))
    (pss_cons (ps_set (i := 3) sc_law_legs.nd rfl (Or.inl rfl) (pe_callB (r := rLenK K) call_len_seq (by rfl) T.len boot_len (pa_cons (pv 1) pa_nil)))
    (pss_cons (ps_for PassesOwn.never rfl (pi_range1 (by rfl) T.range (pa_cons (pv 3) pa_nil)) (pg_name (i := 4) sc_law_legs.nd rfl (Or.inr rfl))
      (pss_one (ps_for PassesOwn.never rfl (pi_range1 (by rfl) T.range (pa_cons (pe_def D_law_pick (hr.mono (by decide)) (by rfl) (pa_cons (pv 0) (pa_cons (pe_lst (pa_cons pe_int (pa_cons pe_int (pa_cons pe_int (pa_cons pe_int (pa_cons pe_int pa_nil)))))) pa_nil))) pa_nil)) (pg_name (i := 5) sc_law_legs.nd rfl (Or.inl rfl))
      (pss_cons (ps_set (i := 6) sc_law_legs.nd rfl (Or.inr rfl) (pe_ix (r := rIxL K) ix_list (pv 1) (pe_op op_mod (pe_callTy call_int1 (by rfl) T.int boot_int (pa_cons (pe_op op_add (pe_op op_add (pv 4) pe_int) (pe_def D_law_draw (hr.mono (by decide)) (by rfl) (pa_cons (pv 0) (pa_cons (pe_op op_sub (pv 3) pe_int) pa_nil)))) pa_nil)) (pv 3)) (fun _ _ => rfl)))
    (pss_one (ps_if (pt_not (pt_val (pe_callB (cr_any rfl) (by rfl) T.any boot_any (pa_cons (pe_lc (own := [("leg", 8)]) (g := gName 8) (by rfl) sc_law_legs.nd (pi_list (pv 2)) (blkOk_by (own := [("leg", 8)]) (N := ["state", "names", "legs", "many", "k", "j", "other", "levels", "leg"]) (sc := defScope s_law_legs) (by decide +kernel)) (fun _ _ _ _ _ => (pg_name (i := 8) sc_law_legs.nd rfl (Or.inl rfl))) (fun _ _ _ _ _ => pts_nil) (fun _ _ _ _ _ => (pe_and (pe_cmpR op_eq (pe_ix (r := rIxT K) ix_tup (pv 8) pe_int (fun _ _ => rfl)) (pe_ix (r := rIxL K) ix_list (pv 1) (pv 4) (fun _ _ => rfl)) (nomark _)) (pe_one (pe_cmpR op_eq (pe_ix (r := rIxT K) ix_tup (pv 8) pe_int (fun _ _ => rfl)) (pv 6) (nomark _)))))) pa_nil)))) (pss_cons (ps_set (i := 7) sc_law_legs.nd rfl (Or.inl rfl) (pe_def D_law_pick (hr.mono (by decide)) (by rfl) (pa_cons (pv 0) (pa_cons (pe_lst (pa_cons (pe_tup (pa_cons pe_int (pa_cons pe_int pa_nil))) (pa_cons (pe_tup (pa_cons pe_int (pa_cons pe_int pa_nil))) (pa_cons (pe_tup (pa_cons pe_int (pa_cons pe_int pa_nil))) (pa_cons (pe_tup (pa_cons pe_int (pa_cons pe_int pa_nil))) (pa_cons (pe_tup (pa_cons pe_int (pa_cons pe_int pa_nil))) pa_nil)))))) pa_nil))))
    (pss_one (ps_expr (pe_bm PySem.F.plainAttrs_list PySem.F.slot_list_append PySem.F.type_list_append mt_append (pv 2) (pa_cons (pe_tup (pa_cons (pe_ix (r := rIxL K) ix_list (pv 1) (pv 4) (fun _ _ => rfl)) (pa_cons (pv 6) (pa_cons (pe_def D_law_pick (hr.mono (by decide)) (by rfl) (pa_cons (pv 0) (pa_cons (pe_lst (pa_cons pe_str (pa_cons pe_str (pa_cons pe_str pa_nil)))) pa_nil))) (pa_cons (pe_ix (r := rIxT K) ix_tup (pv 7) pe_int (fun _ _ => rfl)) (pa_cons (pe_ix (r := rIxT K) ix_tup (pv 7) pe_int (fun _ _ => rfl)) pa_nil)))))) pa_nil)))))
      pss_nil))))))
    (pss_one (ps_ret (pv 2)))))), ?_⟩
    refine ⟨szOk rfl, fun p1 hp1 => ?_⟩
    refine ⟨_, rfl, _, _, rfl, (.inl (.inl (.inl (same_new hp1 _ _ hN)))), ?_⟩
    have npd : p1 ≠ d := S.nd hp1
    have npc : p1 ≠ c := S.nc hp1
    have npl : l ≠ p1 := ne_of_none hN hp1
    have nHp : H p1 = none := hp1
    refine ⟨_, rfl, _, rfl, by rw [List.length_map]; omega, by rw [List.length_map]; omega, for_range (n := ((ns.map V.str).length : Int).toNat) (fun i σ H2 => ∃ (ls : List Lg) (v_k v_j v_other v_levels v_leg : Option V), σ = [some (.ref d), some (.ref l), some (.ref p1), some (.int (ns.length : Int)), v_k, v_j, v_other, v_levels, v_leg] ∧ St1 K H2 d c ∧ H2 l = some (.lst (ns.map V.str)) ∧ LegsAt H2 p1 ns ls ∧ UQ ls ∧ ls.length ≤ 3 * i ∧ Keep d H H2)
      ⟨[], none, none, none, none, none, by rw [List.length_map]; rfl, (S.new hp1), (same_new hp1 _ _ hN), ⟨upd_same, (fun _ h => nomatch h), (fun _ h => nomatch h), (fun _ h => nomatch h), fun _ _ h => nomatch h⟩, .nil, Nat.le_refl _, Keep.of (same_new hp1)⟩ ?_ ?_⟩
    · rintro i σ H2 hi ⟨ls, v_k, v_j, v_other, v_levels, v_leg, rfl, S0, hN, hL, hU, hlen, hk⟩
      have hik : i < ns.length := by rw [List.length_map] at hi; omega
      refine ⟨_, rfl, szOk rfl, fun p2 hp2 => ?_⟩
      refine ⟨d, c, _, _, rfl, (S0.new hp2), .inl (.inl upd_same), (fun z => nomatch z), (by show 5 ≤ 1000; decide), fun v3 H3 hv3 S3 kp3 => ?_⟩
      have hN := kp3.l (S0.new hp2) (same_new hp2 _ _ hN)
      have hL := (hL.same (same_new hp2)).keep (S0.new hp2) kp3
      obtain ⟨x3, rfl, x3a, x3b⟩ : ∃ z : Int, v3 = .int z ∧ 0 ≤ z ∧ z ≤ 3 := by
        simp only [List.mem_cons, List.not_mem_nil, or_false] at hv3
        rcases hv3 with rfl | rfl | rfl | rfl | rfl <;> exact ⟨_, rfl, by decide, by decide⟩
      refine ⟨_, rfl, by omega, by omega, for_range (n := x3.toNat) (fun j σ H2 => ∃ (ls : List Lg) (v_j v_other v_levels v_leg : Option V), σ = [some (.ref d), some (.ref l), some (.ref p1), some (.int (ns.length : Int)), some (.int (0 + (i : Int))), v_j, v_other, v_levels, v_leg] ∧ St1 K H2 d c ∧ H2 l = some (.lst (ns.map V.str)) ∧ LegsAt H2 p1 ns ls ∧ UQ ls ∧ ls.length ≤ 3 * i + j ∧ Keep d H H2)
        ⟨ls, _, _, _, _, rfl, S3, hN, hL, hU, by omega, hk.trans ((Keep.of (same_new hp2)).trans kp3)⟩ ?_ ?_⟩
      · rintro j σ H2 hj ⟨ls, v_j, v_other, v_levels, v_leg, rfl, S0, hN, hL, hU, hlen, hk⟩
        refine ⟨_, rfl, _, rfl, _, _, rfl, rfl, _, rfl, _, rfl, _, _, rfl, rfl, d, c, _, rfl, S0, (by omega), (by omega), fun x4 H4 x4a x4b S4 kp4 => ?_⟩
        have hN := kp4.l S0 hN
        have hL := hL.keep S0 kp4
        obtain ⟨oj, hoj, hoe, hat⟩ := at_mod2 (f := V.str) (ns := ns) (z := 0 + (i : Int) + 1 + x4) (m := (ns.length : Int)) rfl (by omega)
        have hone : ns.Nodup → ns[i] ≠ ns[oj] := fun nd => nodup_ne nd hik hoj (mod_ne (by omega) x4a x4b hoe)
        have hoth : ns[oj] ∈ ns := List.getElem_mem hoj
        generalize ns[oj] = oth at hat hone hoth
        refine ⟨_, _, rfl, rfl, .inl ⟨_, rfl, _, rfl, _, _, rfl, rfl, (by show 0 < (ns.length : Int); omega), _, _, _, _, rfl, rfl, .inl (.inl hN), hat, ?_⟩⟩
        refine ⟨_, rfl, p1, rfl, ⟨_, .inl (.inl hL.li)⟩, fun D hD => ?_⟩
        refine lc_list (K := K) (a := p1) (xs := ls.map fun l => V.ref l.a) (fun u H' => ∃ bs : List Bool, H' = upd H4 D (.lst (bs.map V.bl)) ∧ bs.length = u ∧ bs = (ls.take u).map (fun q => decide (q.s = ns[i]) && decide (q.e = oth))) ⟨[], rfl, rfl, rfl⟩ (fun u H' _ ⟨_, e, _⟩ => .inl (.inl (by rw [e, upd_ne (ne_of_none hL.li hD)]; exact hL.li))) ?_ ?_
        · rintro u y H' hu1 ⟨bs, rfl, hbs, hbe⟩
          obtain ⟨q, rfl, hq, hul, htk⟩ := getMap hu1
          have ht := same_new (o := .lst (bs.map V.bl)) hD _ _ (hL.tu q hq)
          have hN2 := same_new (o := .lst (bs.map V.bl)) hD _ _ hN
          refine ⟨rfl, ?_⟩
          refine ⟨_, rfl, _, _, _, .str q.s, rfl, rfl, .inl (.inl ht), rfl, _, rfl, _, rfl, _, _, _, _, rfl, rfl, .inl (.inl hN2), atI0 (mapAt hik), rfl, _, rfl, ite2 (fun e1 => ?_) (fun e1 => ?_)⟩
          · refine ⟨_, rfl, _, _, _, .str q.e, rfl, rfl, .inl (.inl ht), rfl, _, rfl, rfl, _, upd_same, (by rw [List.length_map]; exact small1000 (by omega)), bs ++ [decide (V.str q.e = V.str oth)], ?_, by rw [List.length_append, hbs]; rfl, by rw [htk, List.map_append, ← hbe, List.map_singleton, decide_eq_true (V.str.inj (of_decide_eq_true e1)), Bool.true_and]; simp⟩
            rw [upd_upd, List.map_append]
            rfl
          · refine ⟨_, upd_same, (by rw [List.length_map]; exact small1000 (by omega)), bs ++ [false], ?_, by rw [List.length_append, hbs]; rfl, by rw [htk, List.map_append, ← hbe, List.map_singleton, decide_eq_false (fun z => e1 (decide_eq_true (congrArg V.str z))), Bool.false_and]⟩
            rw [upd_upd, List.map_append]
            rfl
        rintro H' ⟨bs, rfl, hbs, hbe⟩
        refine ⟨D, bs, rfl, .inl (.inl upd_same), _, rfl, ?_⟩
        have hk1 : Keep d H (upd H4 D (.lst (bs.map V.bl))) := (hk.trans kp4).trans (Keep.of (same_new hD))
        have S1 := S4.new (o := .lst (bs.map V.bl)) hD
        have hN1 := same_new (o := .lst (bs.map V.bl)) hD _ _ hN
        have hL1 := hL.same (same_new (o := .lst (bs.map V.bl)) hD)
        generalize upd H4 D (.lst (bs.map V.bl)) = Hb at hk1 S1 hN1 hL1 ⊢
        cases hb : bs.any id with
        | true => exact ⟨ls, _, _, _, _, rfl, S1, hN1, hL1, hU, by omega, hk1⟩
        | false =>
          refine ⟨_, rfl, szOk rfl, fun p5 hp5 => ?_⟩
          refine ⟨szOk rfl, fun p6 hp6 => ?_⟩
          refine ⟨szOk rfl, fun p7 hp7 => ?_⟩
          refine ⟨szOk rfl, fun p8 hp8 => ?_⟩
          refine ⟨szOk rfl, fun p9 hp9 => ?_⟩
          refine ⟨szOk rfl, fun p10 hp10 => ?_⟩
          refine ⟨d, c, _, _, rfl, ((((((S1.new hp5).new hp6).new hp7).new hp8).new hp9).new hp10), .inl (.inl upd_same), (fun z => nomatch z), (by show 5 ≤ 1000; decide), fun v11 H11 hv11 S11 kp11 => ?_⟩
          obtain ⟨lv, lo', hi', rfl, hlv⟩ : ∃ a lo' hi', v11 = .ref a ∧ H11 a = some (.tup [.int lo', .int hi']) := by
            simp only [List.mem_cons, List.not_mem_nil, or_false] at hv11
            rcases hv11 with rfl | rfl | rfl | rfl | rfl
            · exact ⟨_, _, _, rfl, kp11.t ((((((S1.new hp5).new hp6).new hp7).new hp8).new hp9).new hp10) (same_new hp10 _ _ (same_new hp9 _ _ (same_new hp8 _ _ (same_new hp7 _ _ (same_new hp6 _ _ upd_same)))))⟩
            · exact ⟨_, _, _, rfl, kp11.t ((((((S1.new hp5).new hp6).new hp7).new hp8).new hp9).new hp10) (same_new hp10 _ _ (same_new hp9 _ _ (same_new hp8 _ _ (same_new hp7 _ _ upd_same))))⟩
            · exact ⟨_, _, _, rfl, kp11.t ((((((S1.new hp5).new hp6).new hp7).new hp8).new hp9).new hp10) (same_new hp10 _ _ (same_new hp9 _ _ (same_new hp8 _ _ upd_same)))⟩
            · exact ⟨_, _, _, rfl, kp11.t ((((((S1.new hp5).new hp6).new hp7).new hp8).new hp9).new hp10) (same_new hp10 _ _ (same_new hp9 _ _ upd_same))⟩
            · exact ⟨_, _, _, rfl, kp11.t ((((((S1.new hp5).new hp6).new hp7).new hp8).new hp9).new hp10) (same_new hp10 _ _ upd_same)⟩
          have hN1 := kp11.l ((((((S1.new hp5).new hp6).new hp7).new hp8).new hp9).new hp10) (same_new hp10 _ _ (same_new hp9 _ _ (same_new hp8 _ _ (same_new hp7 _ _ (same_new hp6 _ _ (same_new hp5 _ _ hN1))))))
          have hL1 := ((((((hL1.same (same_new hp5)).same (same_new hp6)).same (same_new hp7)).same (same_new hp8)).same (same_new hp9)).same (same_new hp10)).keep ((((((S1.new hp5).new hp6).new hp7).new hp8).new hp9).new hp10) kp11
          have hk2 : Keep d H H11 := ((((((hk1.trans (Keep.of (same_new hp5))).trans (Keep.of (same_new hp6))).trans (Keep.of (same_new hp7))).trans (Keep.of (same_new hp8))).trans (Keep.of (same_new hp9))).trans (Keep.of (same_new hp10))).trans kp11
          refine ⟨_, rfl, (.inl ⟨rfl, _, .inl (.inl hL1.li)⟩), _, rfl, _, rfl, _, _, _, _, rfl, rfl, (.inl (.inl hN1)), (atI0 (mapAt hik)), _, rfl, _, rfl, szOk rfl, fun p12 hp12 => ?_⟩
          refine ⟨d, c, _, _, rfl, (S11.new hp12), .inl (.inl upd_same), (fun z => nomatch z), (by show 3 ≤ 1000; decide), fun v13 H13 hv13 S13 kp13 => ?_⟩
          have hN1 := kp13.l (S11.new hp12) (same_new hp12 _ _ hN1)
          have hL1 := (hL1.same (same_new hp12)).keep (S11.new hp12) kp13
          have hlv := kp13.t (S11.new hp12) (same_new hp12 _ _ hlv)
          obtain ⟨sec, rfl, hsec⟩ : ∃ z : Str, v13 = .str z ∧ sOk z := by
            simp only [List.mem_cons, List.not_mem_nil, or_false] at hv13
            rcases hv13 with rfl | rfl | rfl <;> exact ⟨_, rfl, by decide +kernel⟩
          refine ⟨_, rfl, _, _, _, _, rfl, rfl, (.inl (.inl hlv)), rfl, _, rfl, _, _, _, _, rfl, rfl, (.inl (.inl hlv)), rfl, szOk rfl, fun p14 hp14 => ?_⟩
          refine ⟨_, _, _, rfl, rfl, (hL1.same (same_new hp14)).li, (by rw [List.length_map]; exact small1000 (by omega)), ?_⟩
          have hk3 : Keep d H (upd H13 p14 (.tup (Lg.v (Lg.mk p14 ns[i] oth sec lo' hi')))) := ((hk2.trans (Keep.of (same_new hp12))).trans kp13).trans (Keep.of (same_new hp14))
          refine ⟨ls ++ [(Lg.mk p14 ns[i] oth sec lo' hi')], _, _, _, _, rfl, St1.put (S13.new hp14) npd npc, by rw [upd_ne npl]; exact (same_new hp14 _ _ hN1), LegsAt.snoc (q := (Lg.mk p14 ns[i] oth sec lo' hi')) (hL1.same (same_new hp14)) upd_same (List.getElem_mem hik) hoth hsec hone, UQ.snoc hU (bs_none hbe hb), by rw [List.length_append, List.length_singleton]; omega, fun b o e nb => ?_⟩
          rw [upd_ne (fun z => by rw [z, nHp] at e; cases e)]
          exact hk3 b o e nb
      · rintro σ H2 ⟨ls, v_j, v_other, v_levels, v_leg, rfl, S0, hN, hL, hU, hlen, hk⟩
        exact ⟨ls, _, _, _, _, _, rfl, S0, hN, hL, hU, by omega, hk⟩
    · rintro σ H2 ⟨ls, v_k, v_j, v_other, v_levels, v_leg, rfl, S0, hN, hL, hU, hlen, hk⟩
      refine ⟨_, rfl, k ls p1 H2 hL hU ?_ nHp S0 hk⟩
      have : ((ns.map V.str).length : Int).toNat = ns.length := by rw [List.length_map]; omega
      omega
theorem sc_law_chart : FnScope ["state", "many", "size", "names", "fixes", "k", "legs", "holds", "leg", "back", "runways", "chart", "name", "other"] ["state", "many", "size"] (defScope s_law_chart) := ⟨rfl, rfl, rfl, by decide +kernel, rfl, by decide +kernel, by decide +kernel⟩
theorem ok_law_chart {f : Addr} {fd : FuncData} (F : Fun K "_law_chart" "_law_chart" s_law_chart f fd) (T : TxtA mg)
    (D_law_draw : Def P w K mg base 1 "_law_draw" ["state", "bound"] (spDraw K))
    (D_law_names : Def P w K mg base 3 "_law_names" ["state", "many"] (spNames K))
    (D_law_legs : Def P w K mg base 3 "_law_legs" ["state", "names"] (spLegs7 K)) : FnOk P w K mg base CX0 4 f fd ["state", "many", "size"] (spChartW K) := by
  refine F.ok sc_law_chart (fun vs H Q E h => ?_) (fun cdv A outer s H vs Q E hr h => ?_)
  · obtain ⟨_, _, _, _, rfl, _⟩ := h
    rfl
  · obtain ⟨d, c, m, z, rfl, S, m0, m1, z0, z1, k⟩ := h
    have hu := hu_of hr
    refine ⟨_, (pss_cons (ps_set (i := 3) sc_law_chart.nd rfl (Or.inl rfl) (pe_def D_law_names (hr.mono (by decide)) (by rfl) (pa_cons (pv 0) (pa_cons (pv 1) pa_nil))))
    (pss_cons (ps_set (i := 4) sc_law_chart.nd rfl (Or.inl rfl) pe_dnewK)
    (pss_cons (ps_for PassesOwn.never rfl (pi_range1 (by rfl) T.range (pa_cons (pv 1) pa_nil)) (pg_name (i := 5) sc_law_chart.nd rfl (Or.inl rfl))
      (pss_one (ps_dput hu (pv 4) (pe_ix (r := rIxL K) ix_list (pv 3) (pv 5) (fun _ _ => rfl)) (pe_tup (pa_cons (pe_op op_sub (pe_def D_law_draw (hr.mono (by decide)) (by rfl) (pa_cons (pv 0) (pa_cons (pe_op op_add (pe_op op_mul pe_int (pv 2)) pe_int) pa_nil))) (pv 2)) (pa_cons (pe_op op_add (pe_op op_mul (pv 1) (pe_op op_sub (pe_def D_law_draw (hr.mono (by decide)) (by rfl) (pa_cons (pv 0) (pa_cons (pe_op op_add (pe_op op_mul pe_int (pv 2)) pe_int) pa_nil))) (pv 2))) (pv 5)) pa_nil))) rfl)))
    (pss_cons (ps_set (i := 6) sc_law_chart.nd rfl (Or.inl rfl) (pe_def D_law_legs (hr.mono (by decide)) (by rfl) (pa_cons (pv 0) (pa_cons (pv 3) pa_nil))))
    (pss_cons (ps_set (i := 7) sc_law_chart.nd rfl (Or.inl rfl) pe_dnewK)
    (pss_cons (ps_for PassesOwn.never rfl (pi_list (pv 6)) (pg_name (i := 8) sc_law_chart.nd rfl (Or.inr rfl))
      (pss_cons (ps_setLc (i := 9) (own := [("other", 13)]) (g := gName 13) (by rfl) sc_law_chart.nd rfl rfl (sw_true rfl rfl rfl (by decide +kernel)) (pi_list (pv 6)) (blkOk_by (own := [("other", 13)]) (N := ["state", "many", "size", "names", "fixes", "k", "legs", "holds", "leg", "back", "runways", "chart", "name", "other"]) (sc := defScope s_law_chart) (by decide +kernel)) (fun _ _ _ _ _ => (pg_name (i := 13) sc_law_chart.nd rfl (Or.inl rfl))) (fun _ _ _ _ _ => pts_one (PW.pt (pw_and (pt_cmpR op_eq (pe_ix (r := rIxT K) ix_tup (pv 13) pe_int (fun _ _ => rfl)) (pe_ix (r := rIxT K) ix_tup (pv 8) pe_int (fun _ _ => rfl)) (nomark _)) (pw_and1 (pt_cmpR op_eq (pe_ix (r := rIxT K) ix_tup (pv 13) pe_int (fun _ _ => rfl)) (pe_ix (r := rIxT K) ix_tup (pv 8) pe_int (fun _ _ => rfl)) (nomark _)))))) (fun _ _ _ _ _ => (pv 13)))
    (pss_one (ps_if (PW.pt (pw_and (pt_cmpR op_gt (pe_callB (r := rLenK K) call_len_seq (by rfl) T.len boot_len (pa_cons (pv 9) pa_nil)) pe_int (nomark _)) (pw_and1 (pt_cmpR op_eq (pe_def D_law_draw (hr.mono (by decide)) (by rfl) (pa_cons (pv 0) (pa_cons pe_int pa_nil))) pe_int (nomark _))))) (pss_one (ps_dput hu (pv 7) (pe_ix (r := rIxT K) ix_tup (pv 8) pe_int (fun _ _ => rfl)) (pe_ix (r := rIxT K) ix_tup (pv 8) pe_int (fun _ _ => rfl)) rfl))
      pss_nil))))
    (pss_cons (ps_setLc (i := 10) (own := [("name", 12)]) (g := gName 12) (by rfl) sc_law_chart.nd rfl rfl (sw_true rfl rfl rfl (by decide +kernel)) (pi_list (pv 3)) (blkOk_by (own := [("name", 12)]) (N := ["state", "many", "size", "names", "fixes", "k", "legs", "holds", "leg", "back", "runways", "chart", "name", "other"]) (sc := defScope s_law_chart) (by decide +kernel)) (fun _ _ _ _ _ => (pg_name (i := 12) sc_law_chart.nd rfl (Or.inl rfl))) (fun _ _ _ _ _ => pts_one (pt_cmpR op_eq (pe_def D_law_draw (hr.mono (by decide)) (by rfl) (pa_cons (pv 0) (pa_cons pe_int pa_nil))) pe_int (nomark _))) (fun _ _ _ _ _ => (pv 12)))
    (pss_cons (ps_set (i := 11) sc_law_chart.nd rfl (Or.inl rfl) (pe_disp (pps_cons pe_str (pv 4) (pps_cons pe_str (pv 6) (pps_cons pe_str (pe_lst pa_nil) (pps_cons pe_str (pe_slice sl_list (pv 10) po_none (po_some pe_int)) (pps_cons pe_str (pv 7) pps_nil))))) (by rfl) (by rfl) (fun z => by cases z) (by decide)))
    (pss_cons (ps_dput hu (pv 11) pe_str (pe_lst pa_nil) rfl)
    (pss_cons (ps_dput hu (pv 11) pe_str pe_dnewK rfl)
    (pss_one (ps_ret (pv 11))))))))))))), ?_⟩
    refine ⟨_, rfl, _, rfl, d, c, m, rfl, S, by omega, by omega, fun ns ln Hn hns hnok hnd hln hN Sn kpn => ?_⟩
    have hnl : ns.length ≤ 7 ∧ 2 ≤ ns.length := by omega
    intro fd hfd
    have nfd : fd ≠ d := Sn.nd hfd
    have nfc : fd ≠ c := Sn.nc hfd
    have nfl : ln ≠ fd := ne_of_none hN hfd
    have nHf : H fd = none := kpn.none nfd hfd
    refine ⟨_, rfl, _, rfl, by omega, by omega, for_range (n := m.toNat) (fun i σ H2 => ∃ (kvs : List (Key × V)) (pt : Str → Option (Addr × Int × Int)) (v_k v_legs v_holds v_leg v_back v_runways v_chart v_name v_other : Option V), σ = [some (.ref d), some (.int m), some (.int z), some (.ref ln), some (.ref fd), v_k, v_legs, v_holds, v_leg, v_back, v_runways, v_chart, v_name, v_other] ∧ St1 K H2 d c ∧ H2 ln = some (.lst (ns.map V.str)) ∧ FixAt H2 fd kvs pt (ns.take i) ∧ kvs.length ≤ i ∧ Keep2 d fd Hn H2 ∧ Sep pt ns m i ∧ kvs.map (·.1) = (ns.take i).map Sum.inr)
      ⟨[], fun _ => none, none, none, none, none, none, none, none, none, none, rfl, (Sn.new hfd), (same_new hfd _ _ hN), ⟨upd_same, (fun _ _ _ _ h => nomatch h), fun _ h => nomatch h⟩, Nat.le_refl _, (Keep2.refl d fd Hn).new hfd, fun j _ h => absurd h (Nat.not_lt_zero j), rfl⟩ ?_ ?_⟩
    · rintro i σ H2 hi ⟨kvs, pt, v_k, v_legs, v_holds, v_leg, v_back, v_runways, v_chart, v_name, v_other, rfl, S0, hN, hF, hlen, hk, hsep, hks⟩
      have hik : i < ns.length := by omega
      have e1 : ns.take (i + 1) = ns.take i ++ [ns[i]] := by rw [List.take_add_one, List.getElem?_eq_getElem hik]; rfl
      refine ⟨_, rfl, _, rfl, _, _, rfl, rfl, (by walk_at "ms"), _, _, rfl, rfl, d, c, _, rfl, S0, (by omega), (by omega), fun x2 H2 x2a x2b S2 kp2 => ?_⟩
      have hF := hF.keep S0 kp2 nfd
      have hN := kp2.l S0 hN
      refine ⟨_, rfl, _, _, rfl, rfl, _, rfl, _, rfl, _, rfl, _, _, rfl, rfl, (by walk_at "ms"), _, _, rfl, rfl, d, c, _, rfl, S2, (by omega), (by omega), fun x3 H3 x3a x3b S3 kp3 => ?_⟩
      have hF := hF.keep S2 kp3 nfd
      have hN := kp3.l S2 hN
      refine ⟨_, rfl, _, _, rfl, rfl, _, _, rfl, rfl, .inl ⟨by omega, by omega⟩, _, rfl, _, _, rfl, rfl, szOk rfl, fun p4 hp4 => ?_⟩
      have hb : -100000 ≤ (x2 - z) ∧ (x2 - z) ≤ 100000 ∧ -100000 ≤ (m * (x3 - z) + (0 + (i : Int))) ∧ (m * (x3 - z) + (0 + (i : Int))) ≤ 100000 := by
        have h1 : m * (x3 - z) ≤ 7 * 9000 := by
          rcases ltge (x3 - z) 0 with w | w
          · have := Int.mul_nonneg (show 0 ≤ m by omega) (show 0 ≤ -(x3 - z) by omega)
            rw [Int.mul_neg] at this
            omega
          · exact Int.mul_le_mul (by omega) (by omega) w (by decide)
        have h2 : m * -(x3 - z) ≤ 7 * 9000 := by
          rcases ltge (-(x3 - z)) 0 with w | w
          · have := Int.mul_nonneg (show 0 ≤ m by omega) (show 0 ≤ (x3 - z) by omega)
            rw [Int.mul_neg]
            omega
          · exact Int.mul_le_mul (by omega) (by omega) w (by decide)
        rw [Int.mul_neg] at h2
        omega
      refine ⟨_, rfl, _, rfl, _, rfl, _, _, _, _, rfl, rfl, .inl (.inl (same_new hp4 _ _ hN)), atI0 (mapAt hik), _, _, rfl, DPut.k (k := .inr ns[i]) (hF.same (same_new hp4)).dc (small1000 (by omega)), ?_⟩
      refine ⟨_, _, _, _, _, _, _, _, _, _, _, rfl, St1.put (S3.new hp4) nfd nfc, by rw [upd_ne nfl]; exact (same_new hp4 _ _ hN), by rw [e1]; exact FixAt.put (hF.same (same_new hp4)) upd_same hb, Nat.le_trans putK_len (by omega), (((hk.k kp2).k kp3).new hp4).put, Sep.put hnd hsep hik (y_mod (by omega) (by omega)), by rw [e1]; exact keys_put hks hnd hik⟩
    rintro σ H2 ⟨kvs, pt, v_k, v_legs, v_holds, v_leg, v_back, v_runways, v_chart, v_name, v_other, rfl, S0, hN, hF, hlen, hk, hsep, hks⟩
    have hm0 : ns.take m.toNat = ns := List.take_of_length_le (by omega)
    rw [hm0] at hF hks
    refine ⟨_, rfl, _, rfl, d, c, ln, ns, rfl, S0, hN, by omega, by omega, fun ls lg Hl hL hU hls nlg Sl kpl => ?_⟩
    have hF := hF.keep S0 kpl nfd
    have hN := kpl.l S0 hN
    have nlgd : lg ≠ d := let ⟨_, w⟩ := Sl.dk; ne_of hL.li w (by intro w; cases w)
    have nHl : H2 lg = none := nlg
    intro hd hhd
    have nhd : hd ≠ d := Sl.nd hhd
    have nhc : hd ≠ c := Sl.nc hhd
    have nhf : fd ≠ hd := ne_of_none hF.dc hhd
    have Sl0 := Sl
    refine ⟨_, rfl, lg, rfl, ⟨_, .inl (.inl (same_new hhd _ _ hL.li))⟩, for_list (K := K) (a := lg) (xs := ls.map fun l => V.ref l.a) (fun i σ H3 => ∃ (hv : List (Key × V)) (v_k v_leg v_back v_runways v_chart v_name v_other : Option V), σ = [some (.ref d), some (.int m), some (.int z), some (.ref ln), some (.ref fd), v_k, some (.ref lg), some (.ref hd), v_leg, v_back, v_runways, v_chart, v_name, v_other] ∧ St1 K H3 d c ∧ H3 hd = some (.dK hv) ∧ hv.length ≤ i ∧ Keep2 d hd Hl H3 ∧ HVl ls hv)
      ⟨[], _, _, _, _, _, _, _, rfl, Sl.new hhd, upd_same, Nat.le_refl _, (Keep2.refl d hd Hl).new hhd, (by intro s v z; cases z)⟩ (fun i σ H3 _ ⟨hv, _, _, _, _, _, _, _, _, _, _, _, hk3, _⟩ => .inl (.inl (hk3 _ _ hL.li nlgd (ne_of_none hL.li hhd)))) ?_ ?_⟩
    · rintro i y σ H3 hi ⟨hv, v_k, v_leg, v_back, v_runways, v_chart, v_name, v_other, rfl, S3, hH, hvl, hk3, hhv⟩
      obtain ⟨q, rfl, hq, hil, _⟩ := getMap hi
      have hL3 : H3 lg = some (.lst (ls.map fun l => V.ref l.a)) := hk3 _ _ hL.li nlgd (ne_of_none hL.li hhd)
      have hT3 : ∀ q ∈ ls, H3 q.a = some (.tup q.v) := fun q hq => hk3 _ _ (hL.tu q hq) (let ⟨_, w⟩ := Sl.dk; ne_of (hL.tu q hq) w (by intro w; cases w)) (ne_of_none (hL.tu q hq) hhd)
      refine ⟨_, rfl, lg, rfl, ⟨_, .inl (.inl hL3)⟩, fun D hD => ?_⟩
      refine lc_list (K := K) (a := lg) (xs := ls.map fun l => V.ref l.a) (fun u H' => ∃ xs : List V, H' = upd H3 D (.lst xs) ∧ xs.length ≤ u ∧ (xs ≠ [] → ∃ o ∈ ls, o.s = q.e ∧ o.e = q.s)) ⟨[], rfl, Nat.le_refl _, fun z => absurd rfl z⟩ (fun u H' _ ⟨_, e, _⟩ => .inl (.inl (by rw [e, upd_ne (ne_of_none hL3 hD)]; exact hL3))) ?_ ?_
      · rintro u y H' hu1 ⟨xs, rfl, hxs, hxb⟩
        obtain ⟨o, rfl, ho, hul, _⟩ := getMap hu1
        have ht := same_new (o := .lst xs) hD _ _ (hT3 o ho)
        have htq := same_new (o := .lst xs) hD _ _ (hT3 q hq)
        refine ⟨rfl, ?_⟩
        refine ⟨_, rfl, _, _, _, .str o.s, rfl, rfl, .inl (.inl ht), rfl, _, rfl, _, _, _, .str q.e, rfl, rfl, .inl (.inl htq), rfl, rfl, _, rfl, ite2 (fun e1 => ?_) (fun e1 => ?_)⟩
        · refine ⟨_, rfl, _, _, _, .str o.e, rfl, rfl, .inl (.inl ht), rfl, _, rfl, _, _, _, .str q.s, rfl, rfl, .inl (.inl htq), rfl, rfl, _, rfl, ite2 (fun e2 => ?_) (fun e2 => ?_)⟩
          · refine ⟨_, rfl, _, upd_same, small1000 (by omega), xs ++ [.ref o.a], by rw [upd_upd], by rw [List.length_append, List.length_singleton]; omega, fun _ => ⟨o, ho, V.str.inj (of_decide_eq_true e1), V.str.inj (of_decide_eq_true e2)⟩⟩
          · exact ⟨xs, rfl, by omega, hxb⟩
        · refine iteF ?_
          exact ⟨xs, rfl, by omega, hxb⟩
      rintro H' ⟨xs, rfl, hxs, hxb⟩
      have S4 := S3.new (o := .lst xs) hD
      have hk4 := hk3.new (o := .lst xs) hD
      have hH4 := same_new (o := .lst xs) hD _ _ hH
      refine ⟨_, rfl, _, _, rfl, .inl (.inl (.inl upd_same)), _, _, rfl, rfl, _, rfl, ite2 (fun e1 => ?_) (fun e1 => ?_)⟩
      · refine ⟨_, rfl, d, c, _, rfl, S4, by decide, by decide, fun x5 H5 _ _ S5 kp5 => ⟨rfl, _, rfl, ite2 (fun e2 => ?_) (fun e2 => ?_)⟩⟩
        · have hT5 := kp5.t S4 (same_new (o := .lst xs) hD _ _ (hT3 q hq))
          have hH5 := kp5 _ _ hH4 nhd
          refine ⟨_, rfl, _, _, _, .str q.e, rfl, rfl, .inl (.inl hT5), rfl, _, rfl, _, rfl, _, _, _, .str q.s, rfl, rfl, .inl (.inl hT5), rfl, _, _, rfl, DPut.k (k := .inr q.s) hH5 (small1000 (by omega)), ?_⟩
          exact ⟨_, _, _, _, _, _, _, _, rfl, S5.put nhd nhc, upd_same, Nat.le_trans putK_len (by omega), (hk4.k kp5).put, hhv.put hq (hxb fun z => absurd (of_decide_eq_true e1) (by rw [z]; decide))⟩
        · exact ⟨_, _, _, _, _, _, _, _, rfl, S5, kp5 _ _ hH4 nhd, by omega, hk4.k kp5, hhv⟩
      · exact ⟨_, _, _, _, _, _, _, _, rfl, S4, hH4, by omega, hk4, hhv⟩
    rintro σ H3 ⟨hv, v_k, v_leg, v_back, v_runways, v_chart, v_name, v_other, rfl, S3, hH, hvl, hk3, hhv⟩
    have hN3 : H3 ln = some (.lst (ns.map V.str)) := hk3 _ _ hN (let ⟨_, w⟩ := Sl.dk; ne_of hN w (by intro w; cases w)) (ne_of_none hN hhd)
    refine ⟨_, rfl, ln, rfl, ⟨_, .inl (.inl hN3)⟩, fun D hD => ?_⟩
    have nDd : D ≠ d := S3.nd hD
    have nDc : D ≠ c := S3.nc hD
    have nDl : ln ≠ D := ne_of_none hN3 hD
    have nDh : hd ≠ D := ne_of_none hH hD
    refine lc_list (K := K) (a := ln) (xs := ns.map V.str) (fun u H' => ∃ xs : List V, H' D = some (.lst xs) ∧ xs.length ≤ u ∧ St1 K H' d c ∧ Keep2 d D H3 H') ⟨[], upd_same, Nat.le_refl _, S3.new hD, (Keep2.refl d D H3).new hD⟩
      (fun u H' _ ⟨_, _, _, _, e⟩ => .inl (.inl (e _ _ hN3 (let ⟨_, w⟩ := S3.dk; ne_of hN3 w (by intro w; cases w)) nDl))) ?_ ?_
    · rintro u y H' hu1 ⟨xs, hxs, hxl, S4, hk4⟩
      obtain ⟨o, rfl, ho, hul, _⟩ := getMap hu1
      refine ⟨rfl, ?_⟩
      refine ⟨_, rfl, d, c, _, rfl, S4, by decide, by decide, fun x5 H5 _ _ S5 kp5 => ⟨rfl, _, rfl, ite2 (fun e2 => ?_) (fun e2 => ?_)⟩⟩
      · refine ⟨_, rfl, _, kp5.l S4 hxs, small1000 (by omega), _, upd_same, by rw [List.length_append, List.length_singleton]; omega, S5.put nDd nDc, (hk4.k kp5).put⟩
      · exact ⟨xs, kp5.l S4 hxs, by omega, S5, hk4.k kp5⟩
    rintro H' ⟨xs, hxs, hxl, S4, hk4⟩
    -- the chart
    intro ch hch
    refine ⟨_, rfl, _, rfl, szOk rfl, fun zo hzo => ?_⟩
    refine ⟨_, rfl, _, rfl, D, xs, rfl, .inl (.inl (same_new hzo _ _ (same_new hch _ _ hxs))), fun ru hru => ?_⟩
    refine ⟨_, rfl, same_new hru _ _ (same_new hzo _ _ upd_same), [(.inr "fixes", .ref fd), (.inr "legs", .ref lg), (.inr "zones", .ref zo), (.inr "runways", .ref ru), (.inr "holds", .ref hd)], rfl, (by show 5 ≤ 15; decide), ?_⟩
    have nchd : ch ≠ d := S4.nd hch
    have nchc : ch ≠ c := S4.nc hch
    have hlen5 := ch_len (f := V.ref fd) (l := .ref lg) (z := .ref zo) (r := .ref ru) (h := .ref hd)
    have nHd : H3 hd ≠ none := by rw [hH]; intro w; cases w
    refine ⟨szOk rfl, fun ho hho => ⟨_, rfl, _, _, rfl, DPut.k (k := .inr "hours") (same_new hho _ _ upd_same) (small1000 (Nat.le_trans hlen5 (by decide))), ?_⟩⟩
    intro ca hca
    refine ⟨_, rfl, _, _, rfl, DPut.k (k := .inr "capacities") (same_new hca _ _ upd_same) (small1000 (Nat.le_trans putK_len (by omega))), ?_⟩
    refine ⟨_, rfl, ?_⟩
    have E : ∀ b o, H' b = some o → b ≠ ch → (upd (upd (upd (upd (upd (upd (upd (upd H' ch (.dK [])) zo (.lst [])) ru (.lst (cutV xs none (some 4)))) ch (.dK (mergeK [] [(.inr "fixes", V.ref fd), (.inr "legs", .ref lg), (.inr "zones", .ref zo), (.inr "runways", .ref ru), (.inr "holds", .ref hd)]))) ho (.lst [])) ch (.dK (putK (mergeK [] [(.inr "fixes", V.ref fd), (.inr "legs", .ref lg), (.inr "zones", .ref zo), (.inr "runways", .ref ru), (.inr "holds", .ref hd)]) (.inr "hours") (.ref ho)))) ca (.dK [])) ch (.dK (chK (.ref fd) (.ref lg) (.ref zo) (.ref ru) (.ref hd) (.ref ho) (.ref ca)))) b = some o := fun b o e n => by
      rw [upd_ne n]
      refine same_new hca _ _ ?_
      rw [upd_ne n]
      refine same_new hho _ _ ?_
      rw [upd_ne n]
      exact same_new hru _ _ (same_new hzo _ _ (same_new hch _ _ e))
    have tneD : ∀ (a : Addr) xs0, H3 a = some (.tup xs0) → a ≠ d := fun a xs0 e => let ⟨_, w⟩ := S3.dk; ne_of e w (by intro w; cases w)
    have A : ∀ b o, Hl b = some o → b ≠ d → H' b = some o := fun b o e n => hk4 _ _ (hk3 _ _ e n (ne_of_none e hhd)) n (fun w => by have := hk3 _ _ e n (ne_of_none e hhd); rw [w, hD] at this; cases this)
    have nlc : ∀ b o, Hl b = some o → b ≠ d → b ≠ ch := fun b o e n => ne_of_none (A b o e n) hch
    have tl : ∀ (a : Addr) xs0, Hl a = some (.tup xs0) → a ≠ d := fun a xs0 e => let ⟨_, w⟩ := Sl.dk; ne_of e w (by intro w; cases w)
    have back : ∀ b, b ≠ d → H' b = none → H b = none := fun b n e => by
      cases w : H b with
      | none => rfl
      | some o =>
        exfalso
        have w1 := kpn _ _ w n
        have w2 := hk _ _ w1 n (ne_of_none w1 hfd)
        have w3 := A _ _ (kpl _ _ w2 n) n
        rw [e] at w3
        cases w3
    have hlgH : H lg = none := by
      cases w : H lg with
      | none => rfl
      | some o =>
        exfalso
        have w1 := kpn _ _ w nlgd
        have w2 := hk _ _ w1 nlgd (ne_of_none w1 hfd)
        rw [nHl] at w2
        cases w2
    have hhdH : H hd = none := by
      cases w : H hd with
      | none => rfl
      | some o =>
        exfalso
        have w1 := kpn _ _ w nhd
        have w2 := hk _ _ w1 nhd (ne_of_none w1 hfd)
        have w3 := kpl _ _ w2 nhd
        rw [hhd] at w3
        cases w3
    have hhd' : H' hd = some (.dK hv) := hk4 _ _ hH nhd nDh
    have hok : HoldV ⟨fd, lg, kvs, pt, ls⟩ hv := fun s v e => by
      obtain ⟨t, rfl, ⟨l1, m1, e1, e2⟩, l2, m2, e3, e4⟩ := hhv s v e
      subst e1 e2
      have g1 := CD.leg_some (D := ⟨fd, lg, kvs, pt, ls⟩) m1
      have g2 := CD.leg_some (D := ⟨fd, lg, kvs, pt, ls⟩) m2
      rw [e3, e4] at g2
      exact ⟨_, rfl, hnok _ (hL.nm l1 m1).2, g1, g2⟩
    refine k ⟨fd, lg, kvs, pt, ls⟩ ch hd hv _ ⟨ns, hks, hnd, by omega, by omega, fun n hn => ⟨hnok n hn, hF.nm n hn⟩, fun s hs e he n => Sep.len (D := ⟨fd, lg, kvs, pt, ls⟩) (m := m) (by rw [show ns.length = m.toNat by omega]; exact hsep) hnd hs he n⟩ hU hlgH (fun l hl => Sep.len (D := ⟨fd, lg, kvs, pt, ls⟩) (m := m) (by rw [show ns.length = m.toNat by omega]; exact hsep) hnd (hL.nm l hl).1 (hL.nm l hl).2 (hL.ne hnd l hl)) ⟨⟨_, upd_same, ch_fix, ch_leg⟩, E _ _ (A _ _ hF.dc nfd) (nlc _ _ hF.dc nfd), E _ _ (A _ _ hL.li nlgd) (nlc _ _ hL.li nlgd), (fun l hl => E _ _ (A _ _ (hL.tu l hl) (tl _ _ (hL.tu l hl))) (nlc _ _ (hL.tu l hl) (tl _ _ (hL.tu l hl)))),
      (fun n a x y h => let ⟨h1, h2, h3⟩ := hF.pf n a x y h; ⟨h1, E _ _ (A _ _ h2 (tl _ _ h2)) (nlc _ _ h2 (tl _ _ h2)), h3⟩), (fun l hl => ⟨hF.nm _ (hL.nm l hl).1, hF.nm _ (hL.nm l hl).2⟩), (fun l hl => ⟨hnok _ (hL.nm l hl).1, hnok _ (hL.nm l hl).2, hL.ck l hl⟩), hls⟩ ⟨⟨_, upd_same, ch_hold⟩, E _ _ hhd' (ne_of_none hhd' hch), hok⟩ (back ch nchd hch) nHf hhdH ?_ ?_
    · obtain ⟨_, w1⟩ := S4.dk
      obtain ⟨_, w2⟩ := S4.cl
      exact S4.of ((E _ _ w1 nchd.symm).trans w1.symm) ((E _ _ w2 nchc.symm).trans w2.symm)
    · intro b o e n
      have w1 := kpn _ _ e n
      have w2 := hk _ _ w1 n (ne_of_none w1 hfd)
      have w3 := A _ _ (kpl _ _ w2 n) n
      exact E _ _ w3 (ne_of_none w3 hch)
theorem sc_law_leg : FnScope ["chart", "start", "end", "found", "leg"] ["chart", "start", "end"] (defScope s_law_leg) := ⟨rfl, rfl, rfl, by decide +kernel, rfl, by decide +kernel, by decide +kernel⟩
theorem ok_law_leg {f : Addr} {fd : FuncData} (F : Fun K "_law_leg" "_law_leg" s_law_leg f fd) (T : TxtA mg) : FnOk P w K mg base CX0 1 f fd ["chart", "start", "end"] (spLegS) := by
  refine F.ok sc_law_leg (fun vs H Q E h => ?_) (fun cdv A outer s H vs Q E hr h => ?_)
  · obtain ⟨_, _, _, _, rfl, _⟩ := h
    rfl
  · obtain ⟨ch, D, s', e', rfl, C, k⟩ := h
    have hu := hu_of hr
    refine ⟨_, (pss_cons (ps_setLc (i := 3) (own := [("leg", 4)]) (g := gName 4) (by rfl) sc_law_leg.nd rfl rfl (sw_true rfl rfl rfl (by decide +kernel)) (pi_list (pe_dget hu (pv 0) pe_str (fun _ _ => rfl))) (blkOk_by (own := [("leg", 4)]) (N := ["chart", "start", "end", "found", "leg"]) (sc := defScope s_law_leg) (by decide +kernel)) (fun _ _ _ _ _ => (pg_name (i := 4) sc_law_leg.nd rfl (Or.inl rfl))) (fun _ _ _ _ _ => pts_one (PW.pt (pw_and (pt_cmpR op_eq (pe_ix (r := rIxT K) ix_tup (pv 4) pe_int (fun _ _ => rfl)) (pv 1) (nomark _)) (pw_and1 (pt_cmpR op_eq (pe_ix (r := rIxT K) ix_tup (pv 4) pe_int (fun _ _ => rfl)) (pv 2) (nomark _)))))) (fun _ _ _ _ _ => (pv 4)))
    (pss_one (ps_ret (pe_ifExp (pt_cmpR op_gt (pe_callB (r := rLenK K) call_len_seq (by rfl) T.len boot_len (pa_cons (pv 3) pa_nil)) pe_int (nomark _)) (pe_ix (r := rIxL K) ix_list (pv 3) pe_int (fun _ _ => rfl)) pe_non)))), ?_⟩
    refine ⟨_, rfl, _, _, rfl, C.gl, _, rfl, ⟨_, .inl (.inl C.lg)⟩, fun B hB => ?_⟩
    refine lc_list (K := K) (a := D.lg) (xs := D.ls.map fun l => V.ref l.a) (fun u H' => H' = upd H B (.lst (((D.ls.take u).filter fun l => decide (l.s = s') && decide (l.e = e')).map fun l => V.ref l.a))) rfl (fun u H' _ e => .inl (.inl (by rw [e, upd_ne (ne_of_none C.lg hB)]; exact C.lg))) ?_ ?_
    · rintro u y H' hu1 rfl
      obtain ⟨q, rfl, hq, hul, ht⟩ := getMap hu1
      have htq := same_new (o := .lst (((D.ls.take u).filter fun l => decide (l.s = s') && decide (l.e = e')).map fun l => V.ref l.a)) hB _ _ (C.lt q hq)
      have hle : (((D.ls.take u).filter fun l => decide (l.s = s') && decide (l.e = e')).map fun l => V.ref l.a).length ≤ 100 := by
        rw [List.length_map]
        have h1 := List.length_filter_le (fun l : Lg => decide (l.s = s') && decide (l.e = e')) (D.ls.take u)
        have h2 := List.length_take_le' u D.ls
        have h3 := C.n
        omega
      refine ⟨rfl, ?_⟩
      refine ⟨_, rfl, _, _, _, .str q.s, rfl, rfl, .inl (.inl htq), rfl, _, rfl, rfl, _, rfl, ite2 (fun e1 => ?_) (fun e1 => ?_)⟩
      · have e1 := V.str.inj (of_decide_eq_true e1)
        refine ⟨_, rfl, _, _, _, .str q.e, rfl, rfl, .inl (.inl htq), rfl, _, rfl, rfl, _, rfl, ite2 (fun e2 => ?_) (fun e2 => ?_)⟩
        · have e2 := V.str.inj (of_decide_eq_true e2)
          refine ⟨_, rfl, _, upd_same, small1000 (by omega), ?_⟩
          rw [upd_upd, ht, List.filter_append, List.map_append]
          simp [e1, e2]
        · have e2 : ¬ q.e = e' := fun z => e2 (decide_eq_true (congrArg V.str z))
          show _ = _
          rw [ht, List.filter_append]
          simp [e2]
      · refine iteF ?_
        have e1 : ¬ q.s = s' := fun z => e1 (decide_eq_true (congrArg V.str z))
        show _ = _
        rw [ht, List.filter_append]
        simp [e1]
    rintro H' rfl
    rw [List.length_map, List.take_length]
    have hfd := head_find (fun l : Lg => decide (l.s = s') && decide (l.e = e')) D.ls
    have hsm := same_new (o := .lst ((D.ls.filter fun l => decide (l.s = s') && decide (l.e = e')).map fun l => V.ref l.a)) hB
    refine ⟨_, rfl, _, _, rfl, .inl (.inl (.inl upd_same)), _, _, rfl, rfl, _, rfl, ite2 (fun e1 => ?_) (fun e1 => ?_)⟩
    · have e1 := of_decide_eq_true e1
      cases hf : D.ls.filter fun l => decide (l.s = s') && decide (l.e = e') with
      | nil => rw [hf] at e1; simp at e1
      | cons l r =>
        rw [hf] at hfd hsm
        have e2 : D.leg s' e' = some l := hfd.symm
        refine ⟨_, rfl, _, _, _, .ref l.a, rfl, rfl, .inl (.inl upd_same), atI_nat (j := 0) rfl, ?_⟩
        have := k _ hsm
        rw [e2] at this
        exact this
    · have e1 : ¬ _ := fun z => e1 (decide_eq_true z)
      cases hf : D.ls.filter fun l => decide (l.s = s') && decide (l.e = e') with
      | cons l r => rw [hf] at e1; simp at e1
      | nil =>
        rw [hf] at hfd hsm
        have e2 : D.leg s' e' = none := hfd.symm
        have := k _ hsm
        rw [e2] at this
        exact this
theorem sc_law_lengths : FnScope ["chart", "lengths", "leg", "a", "b"] ["chart"] (defScope s_law_lengths) := ⟨rfl, rfl, rfl, by decide +kernel, rfl, by decide +kernel, by decide +kernel⟩
theorem ok_law_lengths {f : Addr} {fd : FuncData} (F : Fun K "_law_lengths" "_law_lengths" s_law_lengths f fd) (T : TxtA mg)
    (D_law_root_up : Def P w K mg base 1 "_law_root_up" ["n"] (spRootR)) : FnOk P w K mg base CX0 2 f fd ["chart"] (spLens) := by
  refine F.ok sc_law_lengths (fun vs H Q E h => ?_) (fun cdv A outer s H vs Q E hr h => ?_)
  · obtain ⟨_, _, rfl, _⟩ := h
    rfl
  · obtain ⟨ch, D, rfl, C, k⟩ := h
    have hu := hu_of hr
    refine ⟨_, (pss_cons (ps_set (i := 1) sc_law_lengths.nd rfl (Or.inl rfl) pe_dnewT)
    (pss_cons (ps_for PassesOwn.never rfl (pi_list (pe_dget hu (pv 0) pe_str (fun _ _ => rfl))) (pg_name (i := 2) sc_law_lengths.nd rfl (Or.inl rfl))
      (pss_cons (ps_set (i := 3) sc_law_lengths.nd rfl (Or.inl rfl) (pe_dget hu (pe_dget hu (pv 0) pe_str (fun _ _ => rfl)) (pe_ix (r := rIxT K) ix_tup (pv 2) pe_int (fun _ _ => rfl)) (fun _ _ => rfl)))
    (pss_cons (ps_set (i := 4) sc_law_lengths.nd rfl (Or.inl rfl) (pe_dget hu (pe_dget hu (pv 0) pe_str (fun _ _ => rfl)) (pe_ix (r := rIxT K) ix_tup (pv 2) pe_int (fun _ _ => rfl)) (fun _ _ => rfl)))
    (pss_one (ps_dput hu (pv 1) (pe_tup (pa_cons (pe_ix (r := rIxT K) ix_tup (pv 2) pe_int (fun _ _ => rfl)) (pa_cons (pe_ix (r := rIxT K) ix_tup (pv 2) pe_int (fun _ _ => rfl)) pa_nil))) (pe_def D_law_root_up (hr.mono (by decide)) (by rfl) (pa_cons (pe_op op_add (pe_op op_mul (pe_op op_sub (pe_ix (r := rIxT K) ix_tup (pv 3) pe_int (fun _ _ => rfl)) (pe_ix (r := rIxT K) ix_tup (pv 4) pe_int (fun _ _ => rfl))) (pe_op op_sub (pe_ix (r := rIxT K) ix_tup (pv 3) pe_int (fun _ _ => rfl)) (pe_ix (r := rIxT K) ix_tup (pv 4) pe_int (fun _ _ => rfl)))) (pe_op op_mul (pe_op op_sub (pe_ix (r := rIxT K) ix_tup (pv 3) pe_int (fun _ _ => rfl)) (pe_ix (r := rIxT K) ix_tup (pv 4) pe_int (fun _ _ => rfl))) (pe_op op_sub (pe_ix (r := rIxT K) ix_tup (pv 3) pe_int (fun _ _ => rfl)) (pe_ix (r := rIxT K) ix_tup (pv 4) pe_int (fun _ _ => rfl))))) pa_nil)) rfl)))))
    (pss_one (ps_ret (pv 1))))), ?_⟩
    intro ld hld
    refine ⟨_, rfl, _, _, rfl, (C.same (same_new hld)).gl, _, rfl, ⟨_, .inl (.inl (same_new hld _ _ C.lg))⟩, for_list (K := K) (a := D.lg) (xs := D.ls.map fun l => V.ref l.a) (fun i σ H2 => ∃ (kvs : List (List Key × V)) (v_leg v_a v_b : Option V), σ = [some (.ref ch), some (.ref ld), v_leg, v_a, v_b] ∧ H2 ld = some (.dT kvs) ∧ kvs.length ≤ i ∧ Same H H2 ∧ ∀ l ∈ D.ls.take i, valV kvs [(.inr l.s : Key), .inr l.e] = some (.int (D.len l.s l.e)))
      ⟨[], none, none, none, rfl, upd_same, Nat.le_refl _, same_new hld, fun _ h => nomatch h⟩ (fun i σ H2 _ ⟨_, _, _, _, _, _, _, e, _⟩ => .inl (.inl (e _ _ C.lg))) ?_ ?_⟩
    · rintro i y σ H2 hi ⟨kvs, v_leg, v_a, v_b, rfl, hd, hl, sm, hv⟩
      obtain ⟨q, rfl, hq, hil, ht⟩ := getMap hi
      have C2 := C.same sm
      have htq := C2.lt q hq
      obtain ⟨⟨a1, x1, y1, h1⟩, a2, x2, y2, h2⟩ := C.wf q hq
      obtain ⟨p1, p2, p3, p4, p5, p6⟩ := C2.pf _ _ _ _ h1
      obtain ⟨q1, q2, q3, q4, q5, q6⟩ := C2.pf _ _ _ _ h2
      have b1 := sq_le (show -200000 ≤ x1 - x2 by omega) (show x1 - x2 ≤ 200000 by omega)
      have b2 := sq_le (show -200000 ≤ y1 - y2 by omega) (show y1 - y2 ≤ 200000 by omega)
      refine ⟨_, rfl, _, _, rfl, C2.gf, _, rfl, _, _, _, .str q.s, rfl, rfl, .inl (.inl htq), rfl, _, _, rfl, C2.gp h1, ?_⟩
      refine ⟨_, rfl, _, _, rfl, C2.gf, _, rfl, _, _, _, .str q.e, rfl, rfl, .inl (.inl htq), rfl, _, _, rfl, C2.gp h2, ?_⟩
      refine ⟨_, rfl, _, _, _, _, rfl, rfl, (.inl (.inl p2)), rfl, _, rfl, _, _, _, _, rfl, rfl, (.inl (.inl q2)), rfl, _, _, rfl, rfl, _, rfl, _, _, _, _, rfl, rfl, (.inl (.inl p2)), rfl, _, rfl, _, _, _, _, rfl, rfl, (.inl (.inl q2)), rfl, _, _, rfl, rfl, _, _, rfl, rfl, (by walk_at "ms"), _, rfl, _, _, _, _, rfl, rfl, (.inl (.inl p2)), rfl, _, rfl, _, _, _, _, rfl, rfl, (.inl (.inl q2)), rfl, _, _, rfl, rfl, _, rfl, _, _, _, _, rfl, rfl, (.inl (.inl p2)), rfl, _, rfl, _, _, _, _, rfl, rfl, (.inl (.inl q2)), rfl, _, _, rfl, rfl, _, _, rfl, rfl, (by walk_at "ms"), _, _, rfl, rfl, _, rfl, Int.add_nonneg (sq0 _) (sq0 _), (by omega), ?_⟩
      rw [sq_swap x1, sq_swap y1, ← D.len_eq h1 h2]
      refine ⟨_, rfl, _, rfl, _, _, _, .str q.s, rfl, rfl, .inl (.inl htq), rfl, _, rfl, _, _, _, .str q.e, rfl, rfl, .inl (.inl htq), rfl, szOk rfl, fun p5 hp5 => ?_⟩
      have nld : ld ≠ p5 := ne_of_none hd hp5
      refine ⟨_, _, rfl, DPut.t (k := [(.inr q.s : Key), .inr q.e]) (same_new hp5 _ _ hd) upd_same (small1000 (by have := C.n; omega)), ?_⟩
      refine ⟨_, _, _, _, rfl, upd_same, ?_, fun b o e => ?_, fun l hl' => ?_⟩
      · unfold putK
        split
        · rw [List.length_map]; (try omega)
        · rw [List.length_append, List.length_singleton]; (try omega)
      · rw [upd_ne (ne_of_none e hld)]
        exact same_new hp5 _ _ (sm _ _ e)
      · rw [valV_put]
        by_cases e : [(Sum.inr l.s : Key), Sum.inr l.e] = [Sum.inr q.s, Sum.inr q.e]
        · rw [if_pos e]
          have e1 : l.s = q.s := Sum.inr.inj (List.cons.inj e).1
          have e2 : l.e = q.e := Sum.inr.inj (List.cons.inj (List.cons.inj e).2).1
          rw [e1, e2]
        · rw [if_neg e]
          rw [ht] at hl'
          rcases List.mem_append.mp hl' with h | h
          · exact hv l h
          · rw [List.mem_singleton.mp h] at e
            exact absurd rfl e
    · rintro σ H2 ⟨kvs, v_leg, v_a, v_b, rfl, hd, hl, sm, hv⟩
      rw [List.length_map, List.take_length] at hv
      refine ⟨_, rfl, k ld H2 hld ⟨kvs, hd, fun a b l h => ?_⟩ sm⟩
      obtain ⟨h1, h2, h3⟩ := CD.leg_mem h
      have := hv l h1
      rw [h2, h3] at this
      exact this
end
end Sk

set_option Elab.async false
set_option linter.all false
set_option maxRecDepth 100000
set_option maxHeartbeats 4000000
namespace Sk
open PySem PySem.Spec PyProof.Rows L2
section
variable {P : Program} {w : World} {K : PySem.W.Frag} {mg : Str → Option Value} {base : Heap}
abbrev s_once : Stmt := top 34
theorem sc_once : FnScope ["one", "other"] ["one", "other"] (defScope s_once) := ⟨rfl, rfl, rfl, by decide +kernel, rfl, by decide +kernel, by decide +kernel⟩
theorem ok_once {f : Addr} {fd : FuncData} (F : Fun K "_once" "_once" s_once f fd) (T : TxtA mg) : FnOk P w K mg base CX0 1 f fd ["one", "other"] (spOnceR) := by
  refine F.ok sc_once (fun vs H Q E h => ?_) (fun cdv A outer s H vs Q E hr h => ?_)
  · obtain ⟨_, _, rfl, _⟩ := h
    rfl
  · obtain ⟨x, y, rfl, k⟩ := h
    refine ⟨_, (pss_cons (ps_if (pt_cmpR op_eq (pv 0) (pv 1) (nomark _)) (pss_one (ps_ret (pe_lst (pa_cons (pv 0) pa_nil))))
      pss_nil)
    (pss_one (ps_ret (pe_lst (pa_cons (pv 0) (pa_cons (pv 1) pa_nil)))))), ?_⟩
    rw [show L2.start ["one", "other"] [V.int x, V.int y] = [some (V.int x), some (V.int y)] from rfl]
    refine ⟨_, rfl, _, rfl, rfl, _, rfl, ?_⟩
    by_cases e : x = y
    · exact eqY e ⟨_, rfl, szOk rfl, fun p hp => k p _ (same_new hp) hp (by rw [if_pos e]; exact upd_same)⟩
    · refine eqN e ?_
      refine nxL ?_
      exact ⟨_, rfl, _, rfl, szOk rfl, fun p hp => k p _ (same_new hp) hp (by rw [if_neg e]; exact upd_same)⟩

abbrev s_fault : Stmt := top 32
theorem sc_fault : FnScope ["chart", "request", "names", "flight", "kind", "start", "goal", "level", "wanted", "tick", "late"] ["chart", "request", "names"] (defScope s_fault) := ⟨rfl, rfl, rfl, by decide +kernel, rfl, by decide +kernel, by decide +kernel⟩
theorem ok_fault {f : Addr} {fd : FuncData} {TT : List Addr} (F : Fun K "_fault" "_fault" s_fault f fd) (T : TxtA mg) {tMOST_LATE : Tok} (G_MOST_LATE : mg "MOST_LATE" = some (.int 10000 tMOST_LATE)) {tLATEST_ENTRY : Tok} (G_LATEST_ENTRY : mg "LATEST_ENTRY" = some (.int 90000 tLATEST_ENTRY)) {tTOP_LEVEL : Tok} (G_TOP_LEVEL : mg "TOP_LEVEL" = some (.int 600 tTOP_LEVEL))
    (D_is_name : Def P w K mg base 3 "is_name" ["text"] (spNameB TT))
    (D_is_kind : Def P w K mg base 1 "is_kind" ["kind"] (spIsKind)) : FnOk P w K mg base CX0 4 f fd ["chart", "request", "names"] (spFaultR TT) := by
  refine F.ok sc_fault (fun vs H Q E h => ?_) (fun cdv A outer s H vs Q E hr h => ?_)
  · obtain ⟨_, _, _, _, _, rfl, _⟩ := h
    rfl
  · obtain ⟨ch, D, q, b, bs, rfl, C, R, ok, hb, hT, k⟩ := h
    have hu := hu_of hr
    refine ⟨_, (pss_cons (ps_asg (pv 1) (pg_tup (by rfl) (pgs_cons (pg_name (i := 3) sc_fault.nd rfl (Or.inl rfl)) (pgs_cons (pg_name (i := 4) sc_fault.nd rfl (Or.inl rfl)) (pgs_cons (pg_name (i := 5) sc_fault.nd rfl (Or.inl rfl)) (pgs_cons (pg_name (i := 6) sc_fault.nd rfl (Or.inl rfl)) (pgs_cons (pg_name (i := 7) sc_fault.nd rfl (Or.inl rfl)) (pgs_cons (pg_name (i := 8) sc_fault.nd rfl (Or.inl rfl)) (pgs_cons (pg_name (i := 9) sc_fault.nd rfl (Or.inl rfl)) (pgs_cons (pg_name (i := 10) sc_fault.nd rfl (Or.inl rfl)) pgs_nil))))))))))
    (pss_cons (ps_if (PW.pt (pw_or (pt_not (pt_val (pe_def D_is_name (hr.mono (by decide)) (by rfl) (pa_cons (pv 3) pa_nil)))) (pw_or1 (pt_cmpR op_in_seq (pv 3) (pv 2) rfl)))) (pss_one (ps_ret pe_str))
      pss_nil)
    (pss_cons (ps_if (pt_not (pt_val (pe_def D_is_kind (hr.mono (by decide)) (by rfl) (pa_cons (pv 4) pa_nil)))) (pss_one (ps_ret pe_str))
      pss_nil)
    (pss_cons (ps_if (PW.pt (pw_or (pt_cmp (pc_dnotin hu (pv 5) (pe_dget hu (pv 0) pe_str (fun _ _ => rfl)))) (pw_or (pt_cmp (pc_dnotin hu (pv 6) (pe_dget hu (pv 0) pe_str (fun _ _ => rfl)))) (pw_or1 (pt_cmpR op_eq (pv 5) (pv 6) (nomark _)))))) (pss_one (ps_ret pe_str))
      pss_nil)
    (pss_cons (ps_if (PW.pt (pw_or (pt_not (pt_chain op_le op_le pe_int (pv 7) (pe_glob (v := .int 600) rfl G_TOP_LEVEL ⟨_, rfl⟩))) (pw_or1 (pt_not (pt_chain op_le op_le pe_int (pv 8) (pe_glob (v := .int 600) rfl G_TOP_LEVEL ⟨_, rfl⟩)))))) (pss_one (ps_ret pe_str))
      pss_nil)
    (pss_cons (ps_if (pt_not (pt_chain op_le op_le pe_int (pv 9) (pe_glob (v := .int 90000) rfl G_LATEST_ENTRY ⟨_, rfl⟩))) (pss_one (ps_ret pe_str))
      pss_nil)
    (pss_cons (ps_if (pt_not (pt_chain op_le op_le pe_int (pv 10) (pe_glob (v := .int 10000) rfl G_MOST_LATE ⟨_, rfl⟩))) (pss_one (ps_ret pe_str))
      pss_nil)
    (pss_one (ps_ret pe_str))))))))), ?_⟩
    rw [show L2.start ["chart", "request", "names", "flight", "kind", "start", "goal", "level", "wanted", "tick", "late"] [V.ref ch, V.ref q.a, V.ref b] = [some (V.ref ch), some (V.ref q.a), some (V.ref b), none, none, none, none, none, none, none, none] from rfl]
    have fN : ∀ c : Str, faultR D bs q = c → ∀ H', SameT TT H H' → Q (.str c) H' := fun c e H' s => e ▸ k H' s
    refine ⟨_, rfl, _, _, rfl, .inl (.inl R.r), rfl, _, _, rfl, _, _, rfl, _, _, rfl, _, _, rfl, _, _, rfl, _, _, rfl, _, _, rfl, _, _, rfl, rfl, ?_⟩
    dsimp only [gName, List.set]
    refine ⟨_, rfl, q.nm, rfl, ok.nm.1, hT, fun H1 s1 => ?_⟩
    have T1 := s1.tabs hT
    have C1 := C.st s1 hT
    have R1 := R.st s1 hT
    have hb1 := s1.l hT hb
    refine ⟨_, rfl, ?_⟩
    cases c1 : nameB q.nm with
    | false => exact (if_pos rfl).mpr ((if_pos rfl).mpr (fN _ (fa_name (by rw [c1]; rfl)) H1 s1))
    | true =>
    refine (if_neg (fun z => Bool.noConfusion z)).mpr ?_
    refine ⟨_, rfl, _, rfl, b, _, rfl, .inl (.inl (.inl hb1)), rfl, strs_flat22 _, ?_⟩
    rw [inV_strs22]
    refine ⟨_, rfl, ?_⟩
    by_cases c2 : q.nm ∈ bs
    · exact ifY c2 (fN _ (fa_name (by rw [decide_eq_true c2, Bool.or_true])) H1 s1)
    refine ifN c2 ?_
    refine nxL ?_
    dsimp only
    have n1 : (!nameB q.nm || decide (q.nm ∈ bs)) = false := by rw [c1, decide_eq_false c2]; rfl
    refine ⟨_, rfl, q.ka, q.kw, q.ks, q.kf, q.kx, q.ky, rfl, R1.k, _, rfl, ?_⟩
    cases c3 : isK q.kw q.ks q.kf q.kx q.ky with
    | false => exact (if_pos rfl).mpr (fN _ (fa_kind n1 c3) H1 s1)
    | true =>
    refine (if_neg (fun z => Bool.noConfusion z)).mpr ?_
    refine nxL ?_
    dsimp only
    refine ⟨_, rfl, _, rfl, _, _, rfl, C1.gf, _, _, rfl, C1.gs q.st, _, rfl, ?_⟩
    cases c4 : hasF D q.st with
    | false => exact (if_pos (show (!(valV D.fs (.inr q.st)).isSome) = true from by rw [show (valV D.fs (.inr q.st)).isSome = false from c4]; rfl)).mpr ((if_pos rfl).mpr (fN _ (fa_fix n1 c3 (by rw [c4]; rfl)) H1 s1))
    | true =>
    refine (if_neg (show ¬ (!(valV D.fs (.inr q.st)).isSome) = true from by rw [show (valV D.fs (.inr q.st)).isSome = true from c4]; exact Bool.false_ne_true)).mpr ?_
    refine ⟨_, rfl, _, rfl, _, _, rfl, C1.gf, _, _, rfl, C1.gs q.g, _, rfl, ?_⟩
    cases c5 : hasF D q.g with
    | false => exact (if_pos (show (!(valV D.fs (.inr q.g)).isSome) = true from by rw [show (valV D.fs (.inr q.g)).isSome = false from c5]; rfl)).mpr ((if_pos rfl).mpr (fN _ (fa_fix n1 c3 (by rw [c4, c5]; rfl)) H1 s1))
    | true =>
    refine (if_neg (show ¬ (!(valV D.fs (.inr q.g)).isSome) = true from by rw [show (valV D.fs (.inr q.g)).isSome = true from c5]; exact Bool.false_ne_true)).mpr ?_
    refine ⟨_, rfl, _, rfl, rfl, _, rfl, ?_⟩
    by_cases c6 : q.st = q.g
    · exact ifY (congrArg V.str c6) (fN _ (fa_fix n1 c3 (by rw [c4, c5, decide_eq_true c6]; rfl)) H1 s1)
    refine ifN (fun z => c6 (V.str.inj z)) ?_
    refine nxL ?_
    dsimp only
    have n2 : (!hasF D q.st || (!hasF D q.g || decide (q.st = q.g))) = false := by rw [c4, c5, decide_eq_false c6]; rfl
    try dsimp only [tSeq, tIfS, tOr]
    refine chain_t (x := q.lv) rfl ?_
    by_cases c7 : 0 ≤ q.lv ∧ q.lv ≤ 600
    rotate_left
    · rw [decide_eq_false c7]
      exact (if_pos rfl).mpr ((if_pos rfl).mpr (fN _ (fa_level n1 c3 n2 fun z => c7 z.1) H1 s1))
    rw [decide_eq_true c7]
    refine (if_neg (fun z => Bool.noConfusion z)).mpr ?_
    try dsimp only [tSeq, tIfS, tOr]
    refine chain_t (x := q.wt) rfl ?_
    by_cases c8 : 0 ≤ q.wt ∧ q.wt ≤ 600
    rotate_left
    · rw [decide_eq_false c8]
      exact (if_pos rfl).mpr (fN _ (fa_level n1 c3 n2 fun z => c8 z.2) H1 s1)
    rw [decide_eq_true c8]
    refine (if_neg (fun z => Bool.noConfusion z)).mpr ?_
    refine nxL ?_
    dsimp only
    try dsimp only [tSeq, tIfS, tOr]
    refine chain_t (x := q.tk) rfl ?_
    by_cases c9 : 0 ≤ q.tk ∧ q.tk ≤ 90000
    rotate_left
    · rw [decide_eq_false c9]
      exact (if_pos rfl).mpr (fN _ (fa_tick n1 c3 n2 ⟨c7, c8⟩ c9) H1 s1)
    rw [decide_eq_true c9]
    refine (if_neg (fun z => Bool.noConfusion z)).mpr ?_
    refine nxL ?_
    dsimp only
    try dsimp only [tSeq, tIfS, tOr]
    refine chain_t (x := q.lt) rfl ?_
    have eL := fa_late n1 c3 n2 ⟨c7, c8⟩ c9
    by_cases c10 : 0 ≤ q.lt ∧ q.lt ≤ 10000
    rotate_left
    · rw [decide_eq_false c10]
      exact (if_pos rfl).mpr (fN _ (by rw [eL, if_neg c10]) H1 s1)
    rw [decide_eq_true c10]
    refine (if_neg (fun z => Bool.noConfusion z)).mpr ?_
    refine nxL ?_
    dsimp only
    exact fN _ (by rw [eL, if_pos c10]) H1 s1

abbrev s_check_requests : Stmt := top 30
theorem sc_check_requests : FnScope ["chart", "requests", "names", "index", "request", "code"] ["chart", "requests"] (defScope s_check_requests) := ⟨rfl, rfl, rfl, by decide +kernel, rfl, by decide +kernel, by decide +kernel⟩
theorem ok_check_requests {f CE_RequestError : Addr} {fd : FuncData} {TT : List Addr} (F : Fun K "check_requests" "check_requests" s_check_requests f fd) (T : TxtA mg)
    (D_RequestError : ErrD P w K mg base 1 "RequestError" CE_RequestError ["self", "code", "index"] (spCErrR CE_RequestError))
    (D_fault : Def P w K mg base 4 "_fault" ["chart", "request", "names"] (spFaultR TT)) : FnOk P w K mg base (L2.CX P w) 5 f fd ["chart", "requests"] (spCheckQ CE_RequestError TT) := by
  refine F.okX sc_check_requests (fun vs H Q E h => ?_) (fun cdv A outer s H vs Q E hr h => ?_)
  · obtain ⟨_, _, _, _, rfl, _⟩ := h
    rfl
  · obtain ⟨ch, l, D, qs, rfl, C, R, ok, ql, hT, kn, ke⟩ := h
    have hu := hu_of hr
    refine ⟨_, (pss_cons (ps_set (i := 2) sc_check_requests.nd rfl (Or.inl rfl) (pe_lst pa_nil))
    (pss_one (ps_for (passes_of rfl) rfl (pi_enum (by rfl) T.enumerate (pa_cons (pv 1) pa_nil)) (pg_tup (by rfl) (pgs_cons (pg_name (i := 3) sc_check_requests.nd rfl (Or.inl rfl)) (pgs_cons (pg_name (i := 4) sc_check_requests.nd rfl (Or.inl rfl)) pgs_nil)))
      (pss_cons (ps_set (i := 5) sc_check_requests.nd rfl (Or.inl rfl) (pe_def D_fault (hr.mono (by decide)) (by rfl) (pa_cons (pv 0) (pa_cons (pv 4) (pa_cons (pv 2) pa_nil)))))
    (pss_cons (ps_if (pt_cmpR op_ne (pv 5) pe_str (nomark _)) (pss_one (ps_raiseR rfl D_RequestError (hr.mono (by decide)) (takes_of rfl rfl rfl rfl) (by rfl) (pv 5) (pv 3) (fun _ _ _ _ im ⟨v, h, z⟩ => ⟨v, h, im _ _ z⟩) (fun _ _ _ _ im ⟨v, h, z⟩ => ⟨v, h, im _ _ z⟩)))
      pss_nil)
    (pss_one (ps_expr (pe_bm PySem.F.plainAttrs_list PySem.F.slot_list_append PySem.F.type_list_append mt_append (pv 2) (pa_cons (pe_ix (r := rIxT K) ix_tup (pv 4) pe_int (fun _ _ => rfl)) pa_nil))))))))), ?_⟩
    rw [show L2.start ["chart", "requests", "names", "index", "request", "code"] [V.ref ch, V.ref l] = [some (V.ref ch), some (V.ref l), none, none, none, none] from rfl]
    refine ⟨szOk rfl, fun p hp => ?_⟩
    have z1 := same_new (o := .lst []) hp
    have C1 := C.same z1
    have R1 := R.same z1
    have T1 := Same.tabs z1 hT
    have hp1 : (upd H p (.lst [])) p = some (.lst []) := upd_same
    have npl : l ≠ p := ne_of_none R.1 hp
    have s1 := SameT.of (T := TT) z1
    generalize upd H p (.lst []) = H1 at C1 R1 T1 hp1 s1 ⊢
    refine nm ?_
    dsimp only [List.set]
    refine ⟨_, rfl, l, _, rfl, .inl (.inl R1.1), for_enum (K := K) (a := l) (xs := qs.map fun q => V.ref q.a) (fun i σ H2 => ∃ (v3 v4 v5 : Option V), σ = [some (.ref ch), some (.ref l), some (.ref p), v3, v4, v5] ∧ SameT TT H H2 ∧ H2 p = some (.lst (((qs.take i).map (·.nm)).map V.str)) ∧ ∀ j, j < i → codR D qs j = "") ⟨_, _, _, rfl, s1, hp1, fun j h => absurd h (Nat.not_lt_zero j)⟩ (fun i σ H2 _ ⟨_, _, _, _, s, _⟩ => .inl (.inl (s.l hT R.1))) ?_ ?_⟩
    · rintro i x σ H2 Tt hx hT2 ⟨v3, v4, v5, rfl, s2, hp2, hc⟩
      obtain ⟨q, rfl, hq, hil, htk⟩ := getMap hx
      have eq : qs.getD i rq0 = q := by
        have e := rq_at hil
        rw [List.getElem?_map, e] at hx
        have hq2 : qs[i]? = some q := by
          have := congrArg (fun l : List Rq => l[i]?) htk
          simp only [List.getElem?_take] at this
          rw [if_pos (Nat.lt_succ_self i), List.getElem?_append_right (by rw [List.length_take]; omega), List.length_take, Nat.min_eq_left (Nat.le_of_lt hil), Nat.sub_self] at this
          exact this
        rw [hq2] at e
        exact (Option.some.inj e).symm
      have cd : codR D qs i = faultR D ((qs.take i).map (·.nm)) q := by unfold codR; rw [eq]
      have s3 := same_new (o := .tup [.int (i : Nat), .ref q.a]) hT2
      have hp3 := s3 _ _ hp2
      refine ⟨_, _, rfl, .inl (.inl upd_same), rfl, _, _, rfl, _, _, rfl, rfl, ?_⟩
      have s03 := s2.trans (SameT.of (T := TT) s3)
      generalize upd H2 Tt (.tup [.int (i : Nat), .ref q.a]) = H3 at hp3 s03 ⊢
      clear s3
      dsimp only [List.set]
      refine ⟨_, rfl, _, rfl, _, rfl, ch, D, q, p, (qs.take i).map (·.nm), rfl, C.st s03 hT, (R.2 q hq).st s03 hT, ok q hq, hp3, s03.tabs hT, fun H4 s4 => ?_⟩
      have s04 := s03.trans s4
      have hp4 := s4.l (s03.tabs hT) hp3
      refine nm ?_
      dsimp only [List.set]
      refine ⟨_, rfl, rfl, _, rfl, ?_⟩
      by_cases e : faultR D ((qs.take i).map (·.nm)) q = ""
      · rw [decide_eq_true (congrArg V.str e)]
        refine (if_neg (fun z => Bool.noConfusion z)).mpr ?_
        refine nxL ?_
        dsimp only
        refine ⟨_, rfl, (.inl ⟨rfl, _, .inl (.inl hp4)⟩), _, rfl, _, _, _, _, rfl, rfl, .inl (.inl (((R.2 q hq).st s04 hT).r)), rfl, ?_⟩
        refine ⟨_, _, _, rfl, rfl, hp4, (by rw [List.length_map, List.length_map, List.length_take, sizeLine_eq]; omega), ?_⟩
        refine ⟨_, _, _, rfl, sameT_lst s04 hp hp4, ?_, fun j hj => ?_⟩
        · rw [upd_same, htk, List.map_append, List.map_append]
          rfl
        · rcases Nat.lt_or_ge j i with z | z
          · exact hc j z
          · obtain rfl : j = i := by omega
            rw [cd]
            exact e
      · rw [decide_eq_false (fun z => e (V.str.inj z))]
        refine (if_pos rfl).mpr ?_
        exact ⟨_, rfl, _, rfl, _, _, rfl, faultR_len D _ q, (by omega), fun d hd => ke _ i ⟨by rw [← List.length_map (f := fun q : Rq => V.ref q.a)]; exact (by rw [List.length_map]; exact hil), cd, e, hc⟩ H4 d s04 hd⟩
    · rintro σ H2 ⟨v3, v4, v5, rfl, s2, hp2, hc⟩
      exact kn (fun i hi => hc i (by rw [List.length_map]; exact hi)) H2 s2

end
end Sk

set_option Elab.async false
set_option linter.all false
set_option maxRecDepth 100000
set_option maxHeartbeats 4000000
namespace Sk
open PySem PySem.Spec PyProof.Rows L2 NdefX
section
variable {P : Program} {w : World} {K : PySem.W.Frag} {mg : Str → Option Value} {base : Heap}
abbrev s_RouteError___init__ : Stmt := inClass (top 4) 0
theorem ok_RouteError___init__ {f cc cda C : Addr} {oc kV doc pm ct : Value} {od an : Option Addr} {osl : Array (Option Value)}
    (lk : K.lookup f = some ⟨oc, od, .func (PySem.W.ksFn "__init__" "RouteError.__init__" (defArgs s_RouteError___init__) (defBody s_RouteError___init__) (defScope s_RouteError___init__) .none kV doc pm an (.ref cda) ct cc), osl⟩)
    (hcd : PySem.W.codeIn K (.ref cda) "RouteError.__init__" = true) (U : SupOk P K C cc cda) (T : OexC K C) (msup : mg "super" = none) (n1 : PySem.W.findIn K (.ref C) "code" = some none) (n2 : PySem.W.findIn K (.ref C) "index" = some none) :
    FnOk P w K mg base CX0 1 f (PySem.W.ksFn "__init__" "RouteError.__init__" (defArgs s_RouteError___init__) (defBody s_RouteError___init__) (defScope s_RouteError___init__) .none kV doc pm an (.ref cda) ct cc) ["self", "code", "index"] (spCErrR C) := by
  refine fn_err (N := ["self", "code", "index", "__class__"]) rfl lk hcd (nscope_by (by decide +kernel)) rfl rfl U T msup rfl (fun vs H Q E h => ?_) (fun env => rfl) (fun env => rfl) fun A outer s H vs Q E hr h => ?_
  · obtain ⟨_, _, _, rfl, _⟩ := h
    rfl
  · obtain ⟨a, s, t, rfl, ha, hs, ht, k⟩ := h
    have nd : (["self", "code", "index", "__class__"] : List Str).Nodup := by decide +kernel
    have h1000 : (1000 : Nat) ≤ sizeLine := by decide
    refine ⟨a, [.str s, .int t], _, _, rfl, ha, pe_joined (.cons pe_str (.cons (pe_fmt (pv 1)) (.cons pe_str (.cons (pe_fmt (pv 2)) .nil)))), pss_cons (ps_ost (pv 0) (pv 1)) (pss_one (ps_ost (pv 0) (pv 2))), ?_⟩
    rw [show startF ["self", "code", "index", "__class__"] [V.ref a, .str s, .int t] [some (.ref C)] = [some (.ref a), some (.str s), some (.int t), some (.ref C)] from rfl]
    have e0 : (Str.empty ++ ("route: " : Str)).length ≤ 100 := by decide +kernel
    have e2 : (" at " : Str).length ≤ 100 := by decide +kernel
    have e3 := PyProof.Rows.int_text_len_1921 (natAbs_log ht)
    have z : sizeLine = 16777216 := sizeLine_eq
    refine ⟨_, rfl, by omega, _, rfl, .inl ⟨s, rfl, by omega, _, rfl, by rw [Str.length_append]; omega, _, rfl, by rw [Str.length_append, Str.length_append]; omega, _, rfl, .inr ⟨t, rfl, natAbs_log ht, _, rfl, by rw [Str.length_append, Str.length_append, Str.length_append]; omega, (by show 1 ≤ 1000; decide), ha, ?_⟩⟩⟩
    refine ⟨_, rfl, _, rfl, a, C, rfl, T, n1, .inl ⟨ha, fun dx hdx n => ?_⟩⟩
    refine ⟨_, rfl, _, rfl, a, C, rfl, T, n2, .inr ⟨dx, [("code", .str s)], upd_same, ?_, (by show 1 ≤ 900; decide), ?_⟩⟩
    · rw [upd_ne n, upd_same]
    · exact k dx hdx n
end
end Sk

set_option Elab.async false
set_option linter.all false
set_option maxRecDepth 100000
set_option maxHeartbeats 4000000
namespace Sk
open PySem PySem.Spec PyProof.Rows L2 PySem.W
theorem lst_get {ns : List Str} (h : ns ≠ []) : (ns.map V.str).getLast? = some (.str (lst ns)) := by
  rw [List.getLast?_map, List.getLast?_eq_getElem?]
  unfold lst rn
  have h0 : ns.length ≠ 0 := fun z => h (List.length_eq_zero_iff.mp z)
  rw [List.getD_eq_getElem?_getD, List.getElem?_eq_getElem (by omega)]
  rfl
theorem lst_in {ns : List Str} (h : ns ≠ []) : lst ns ∈ ns := by
  have := List.mem_of_getLast? (lst_get h)
  obtain ⟨x, hx, e⟩ := List.mem_map.mp this
  rw [← V.str.inj e]
  exact hx
theorem strs_flat : ∀ ns : List Str, (ns.map V.str).all flatV = true
  | [] => rfl
  | x :: ns => by rw [List.map_cons, List.all_cons, strs_flat ns]; rfl
theorem inV_strs (x : Str) : ∀ ns : List Str, inV (.str x) (ns.map V.str) = decide (x ∈ ns)
  | [] => rfl
  | y :: ns => by
    have ih := inV_strs x ns
    unfold inV at ih ⊢
    rw [List.map_cons, List.any_cons, ih]
    by_cases e : y = x
    · subst e
      simp [eqV]
    · have e' : ¬ x = y := fun z => e z.symm
      simp [eqV, e, e']
section
variable {P : Program} {w : World} {K : PySem.W.Frag} {mg : Str → Option Value} {base : Heap}
abbrev s_open : Stmt := top 24
theorem sc_open : FnScope ["leg", "level"] ["leg", "level"] (defScope s_open) := ⟨rfl, rfl, rfl, by decide +kernel, rfl, by decide +kernel, by decide +kernel⟩
theorem ok_open {f : Addr} {fd : FuncData} (F : Fun K "_open" "_open" s_open f fd) (T : TxtA mg) : FnOk P w K mg base CX0 1 f fd ["leg", "level"] (spOpen) := by
  refine F.ok sc_open (fun vs H Q E h => ?_) (fun cdv A outer s H vs Q E hr h => ?_)
  · obtain ⟨_, _, rfl, _⟩ := h
    rfl
  · obtain ⟨l, lv, rfl, ht, k⟩ := h
    refine ⟨_, (pss_one (ps_ret (pe_chain op_le op_le (pe_ix (r := rIxT K) ix_tup (pv 0) pe_int (fun _ _ => rfl)) (pv 1) (pe_ix (r := rIxT K) ix_tup (pv 0) pe_int (fun _ _ => rfl))))), ?_⟩
    rw [show L2.start ["leg", "level"] [V.ref l.a, V.int lv] = [some (V.ref l.a), some (V.int lv)] from rfl]
    refine ⟨_, rfl, _, _, _, .int l.lo, rfl, rfl, .inl (.inl ht), rfl, _, rfl, _, _, rfl, rfl, _, rfl, ?_⟩
    by_cases h1 : l.lo ≤ lv
    · refine ifY h1 ?_
      refine ⟨_, rfl, _, _, _, .int l.hi, rfl, rfl, .inl (.inl ht), rfl, _, _, rfl, rfl, ?_⟩
      have e : opn lv l = decide (lv ≤ l.hi) := by
        unfold opn
        by_cases h2 : lv ≤ l.hi <;> simp [h1, h2]
      rw [e] at k
      exact k
    · refine ifN h1 ?_
      have e : opn lv l = false := decide_eq_false fun z => h1 z.1
      rw [e] at k
      exact k
abbrev s_longer : Stmt := top 23
theorem sc_longer : FnScope ["chart", "length", "route", "level", "found", "leg", "start", "end", "_"] ["chart", "length", "route", "level"] (defScope s_longer) := ⟨rfl, rfl, rfl, by decide +kernel, rfl, by decide +kernel, by decide +kernel⟩
theorem ok_longer {f : Addr} {fd : FuncData} (F : Fun K "_longer" "_longer" s_longer f fd) (T : TxtA mg)
    (D_open : Def P w K mg base 1 "_open" ["leg", "level"] (spOpen))
    (D_leg_length : Def P w K mg base 3 "leg_length" ["chart", "start", "end"] (spLegLen)) : FnOk P w K mg base CX0 4 f fd ["chart", "length", "route", "level"] (spLonger) := by
  refine F.ok sc_longer (fun vs H Q E h => ?_) (fun cdv A outer s H vs Q E hr h => ?_)
  · obtain ⟨_, _, _, _, _, rfl, _⟩ := h
    rfl
  · obtain ⟨ch, r, D, ns, lv, rfl, C0, hr0, ne, n20, k⟩ := h
    have hu := hu_of hr
    refine ⟨_, (pss_cons (ps_set (i := 4) sc_longer.nd rfl (Or.inl rfl) (pe_lst pa_nil))
    (pss_cons (ps_for PassesOwn.never rfl (pi_list (pe_dget hu (pv 0) pe_str (fun _ _ => rfl))) (pg_name (i := 5) sc_longer.nd rfl (Or.inl rfl))
      (pss_cons (ps_asg (pv 5) (pg_tup (by rfl) (pgs_cons (pg_name (i := 6) sc_longer.nd rfl (Or.inl rfl)) (pgs_cons (pg_name (i := 7) sc_longer.nd rfl (Or.inl rfl)) (pgs_cons (pg_name (i := 8) sc_longer.nd rfl (Or.inl rfl)) (pgs_cons (pg_name (i := 8) sc_longer.nd rfl (Or.inl rfl)) (pgs_cons (pg_name (i := 8) sc_longer.nd rfl (Or.inl rfl)) pgs_nil)))))))
    (pss_one (ps_if (PW.pt (pw_and (pt_cmpR op_eq (pv 6) (pe_ix (r := rIxT K) ix_tup (pv 2) (pe_un un_neg pe_int) (fun _ _ => rfl)) (nomark _)) (pw_and (pt_cmpR op_notIn_seq (pv 7) (pv 2) rfl) (pw_and1 (pt_val (pe_def D_open (hr.mono (by decide)) (by rfl) (pa_cons (pv 5) (pa_cons (pv 3) pa_nil)))))))) (pss_one (ps_expr (pe_bm PySem.F.plainAttrs_list PySem.F.slot_list_append PySem.F.type_list_append mt_append (pv 4) (pa_cons (pe_tup (pa_cons (pe_op op_add (pv 1) (pe_def D_leg_length (hr.mono (by decide)) (by rfl) (pa_cons (pv 0) (pa_cons (pv 6) (pa_cons (pv 7) pa_nil))))) (pa_cons (pe_op op_add (pe_callB (r := rLenK K) call_len_seq (by rfl) T.len boot_len (pa_cons (pv 2) pa_nil)) pe_int) (pa_cons (pe_tup (StX.pa_star (pv 2) (pa_cons (pv 7) pa_nil))) pa_nil)))) pa_nil))))
      pss_nil))))
    (pss_one (ps_ret (pv 4))))), ?_⟩
    rw [show L2.start ["chart", "length", "route", "level", "found", "leg", "start", "end", "_"] [V.ref ch, V.int (Lw D ns), V.ref r, V.int lv] = [some (V.ref ch), some (V.int (Lw D ns)), some (V.ref r), some (V.int lv), none, none, none, none, none] from rfl]
    refine ⟨szOk rfl, fun p1 hp1 => ?_⟩
    have s1 := same_new (o := .lst []) hp1
    have C1 := C0.same s1
    refine ⟨_, rfl, _, _, rfl, C1.gl, _, rfl, ⟨_, .inl (.inl C1.lg)⟩, for_list (K := K) (a := D.lg) (xs := D.ls.map fun l => V.ref l.a) (fun i σ H2 => ∃ (v5 v6 v7 v8 : Option V) (zs : List Wy), σ = [some (.ref ch), some (.int (Lw D ns)), some (.ref r), some (.int lv), some (.ref p1), v5, v6, v7, v8] ∧ Same H H2 ∧ WysAt H2 p1 D zs ∧ zs.map (·.2) = ((D.ls.take i).filter (goes lv ns)).map fun l => ns ++ [l.e])
      ⟨_, _, _, _, [], rfl, s1, ⟨upd_same, fun _ h => nomatch h⟩, rfl⟩ (fun i σ H2 _ ⟨_, _, _, _, _, _, sm, _⟩ => .inl (.inl (C0.same sm).lg)) ?_ ?_⟩
    rotate_left
    · rintro σ H2 ⟨v5, v6, v7, v8, zs, rfl, sm, W, e⟩
      rw [List.take_of_length_le (by rw [List.length_map]; exact Nat.le_refl _)] at e
      exact ⟨_, rfl, k zs p1 H2 sm hp1 W e⟩
    rintro i y σ H2 hi ⟨v5, v6, v7, v8, zs, rfl, sm, W, e⟩
    obtain ⟨l, rfl, hl, hil, htk⟩ := getMap hi
    have C2 := C0.same sm
    have ht := C2.lt l hl
    have hr2 := sm _ _ hr0
    refine nm ?_
    dsimp only [List.set]
    refine ⟨_, rfl, _, _, rfl, .inl (.inl ht), rfl, _, _, rfl, _, _, rfl, _, _, rfl, _, _, rfl, _, _, rfl, rfl, ?_⟩
    refine nm ?_
    dsimp only [List.set]
    have step : ∀ (b : Bool), goes lv ns l = b → ((D.ls.take (i + 1)).filter (goes lv ns)).map (fun l => ns ++ [l.e]) = ((D.ls.take i).filter (goes lv ns)).map (fun l => ns ++ [l.e]) ++ (if b = true then [ns ++ [l.e]] else []) := fun b hb => by
      rw [htk, List.filter_append, List.map_append]
      cases b with
      | true => rw [if_pos rfl, List.filter_cons_of_pos hb]; rfl
      | false => rw [if_neg Bool.false_ne_true, List.filter_cons_of_neg (by rw [hb]; exact Bool.false_ne_true)]; rfl
    have no : goes lv ns l = false → ∃ (v5 v6 v7 v8 : Option V) (zs : List Wy), [some (V.ref ch), some (.int (Lw D ns)), some (.ref r), some (.int lv), some (.ref p1), some (V.ref l.a), some (.str l.s), some (.str l.e), some (.int l.hi)] = [some (.ref ch), some (.int (Lw D ns)), some (.ref r), some (.int lv), some (.ref p1), v5, v6, v7, v8] ∧ Same H H2 ∧ WysAt H2 p1 D zs ∧ zs.map (·.2) = ((D.ls.take (i + 1)).filter (goes lv ns)).map fun l => ns ++ [l.e] := fun hb => ⟨_, _, _, _, zs, rfl, sm, W, by rw [step _ hb, e]; simp⟩
    refine ⟨_, rfl, _, rfl, _, rfl, _, _, _, .str (lst ns), rfl, rfl, .inl (.inl hr2), atI_back (lst_get ne), rfl, _, rfl, ite2 (fun e1 => ?_) (fun e1 => ?_)⟩
    rotate_left
    · exact no (by
        unfold goes
        rw [decide_eq_false (fun z => e1 (decide_eq_true (congrArg V.str z)))]
        rfl)
    have e1 := V.str.inj (of_decide_eq_true e1)
    refine ⟨_, rfl, _, rfl, r, _, rfl, .inr (.inl (.inl hr2)), rfl, strs_flat ns, ?_⟩
    rw [inV_strs]
    by_cases e2 : l.e ∈ ns
    · rw [decide_eq_true e2]
      refine ⟨_, rfl, ?_⟩
      exact no (by
        unfold goes
        rw [decide_eq_true e1, decide_eq_false (fun z => z e2)]
        rfl)
    rw [decide_eq_false e2]
    refine ⟨_, rfl, ?_⟩
    refine iteT ?_
    refine ⟨_, rfl, _, rfl, l, lv, rfl, ht, ?_⟩
    have eg : goes lv ns l = opn lv l := by
      unfold goes
      rw [decide_eq_true e1, decide_eq_true e2]
      rfl
    cases ho : opn lv l with
    | false => exact ⟨_, rfl, no (by rw [eg, ho])⟩
    | true =>
    refine ⟨_, rfl, iteT ?_⟩
    obtain ⟨⟨a, ax, ay, q1⟩, b, bx, by', q2⟩ := C2.wf l hl
    refine ⟨_, rfl, (.inl ⟨rfl, _, .inl (.inl W.1)⟩), _, rfl, _, rfl, _, rfl, _, rfl, ch, D, _, _, a, b, ax, ay, bx, by', rfl, C2, q1, q2, ?_⟩
    have zl : zs.length ≤ 1000 := by
      have h1 := congrArg List.length e
      rw [List.length_map, List.length_map] at h1
      have h2 := List.length_filter_le (goes lv ns) (D.ls.take i)
      rw [List.length_take] at h2
      have := C0.n
      omega
    have sz : (ns.map V.str ++ [V.str l.e]).length < sizeLine := small1000 (by rw [List.length_append, List.length_map, List.length_singleton]; omega)
    refine ⟨_, _, rfl, rfl, _, rfl, _, _, rfl, (.inr (.inl (.inl hr2))), _, _, rfl, rfl, _, rfl, r, _, rfl, .inl (.inl (.inl hr2)), _, rfl, Nat.le_of_lt sz, fun p2 hp2 => ?_⟩
    refine ⟨szOk rfl, fun p3 hp3 => ?_⟩
    have z2 := same_new (o := .tup (ns.map V.str ++ [V.str l.e])) hp2
    have z3 := same_new (o := .tup [.int (Lw D ns + D.len l.s l.e), .int (((ns.map V.str).length : Int) + 1), .ref p2]) hp3
    have hp2' := z3 _ _ (upd_same (H := H2) (a := p2) (o := .tup (ns.map V.str ++ [V.str l.e])))
    have W3 := (W.same z2).same z3
    have sm3 := (sm.trans z2).trans z3
    have hp3' := upd_same (H := upd H2 p2 (.tup (ns.map V.str ++ [V.str l.e]))) (a := p3) (o := .tup [.int (Lw D ns + D.len l.s l.e), .int (((ns.map V.str).length : Int) + 1), .ref p2])
    refine ⟨_, _, _, rfl, rfl, W3.1, (by rw [List.length_map]; exact small1000 zl), ?_⟩
    generalize upd (upd H2 p2 _) p3 _ = H3 at hp2' hp3' W3 sm3 ⊢
    have WY : WyAt H3 D p3 (ns ++ [l.e]) := ⟨p2, by
      rw [hp3', Lw_app D ne, e1, List.length_append, List.length_map]
      rfl, by rw [hp2', List.map_append]; rfl⟩
    have np : H p1 = none := hp1
    refine ⟨_, _, _, _, zs ++ [(p3, ns ++ [l.e])], rfl, fun b o hb => ?_, ⟨?_, fun z hz => ?_⟩, ?_⟩
    · rw [upd_ne (ne_of_none hb np)]
      exact sm3 _ _ hb
    · rw [upd_same, List.map_append]
      rfl
    · rcases List.mem_append.mp hz with m | m
      · exact (W3.2 z m).put W3.1
      · rw [List.mem_singleton.mp m]
        exact WY.put W3.1
    · rw [step true (by rw [eg, ho]), if_pos rfl, List.map_append, e]
      rfl
abbrev s_alternatives : Stmt := top 20
theorem sc_alternatives : FnScope ["chart", "start", "goal", "level", "count", "found", "queue", "length", "many", "route", "longer"] ["chart", "start", "goal", "level", "count"] (defScope s_alternatives) := ⟨rfl, rfl, rfl, by decide +kernel, rfl, by decide +kernel, by decide +kernel⟩
theorem ok_alternatives {f : Addr} {fd : FuncData} (F : Fun K "alternatives" "alternatives" s_alternatives f fd) (T : TxtA mg) {tma : Tok} (G_MOST_NAMES_OF_ALTERNATIVES : mg "MOST_NAMES_OF_ALTERNATIVES" = some (.int 8 tma)) (Tp : mg "heappop" = some (.builtin "_heapq.heappop")) (Th : mg "heappush" = some (.builtin "_heapq.heappush"))
    (D_longer : Def P w K mg base 4 "_longer" ["chart", "length", "route", "level"] (spLonger)) : FnOk P w K mg base CX0 5 f fd ["chart", "start", "goal", "level", "count"] (spAlt) := by
  refine F.ok sc_alternatives (fun vs H Q E h => ?_) (fun cdv A outer s H vs Q E hr h => ?_)
  · obtain ⟨_, _, _, _, _, _, _, rfl, _⟩ := h
    rfl
  · obtain ⟨ch, D, nn, st, g, lv, n, rfl, C0, O, n0, n1, k⟩ := h
    have hu := hu_of hr
    have hu60 := Nat.lt_of_le_of_lt (Nat.add_le_add_left (by decide : 60 ≤ 64) _) hr.units
    refine ⟨_, (pss_cons (ps_set (i := 5) sc_alternatives.nd rfl (Or.inl rfl) (pe_lst pa_nil))
    (pss_cons (ps_set (i := 6) sc_alternatives.nd rfl (Or.inl rfl) (pe_lst (pa_cons (pe_tup (pa_cons pe_int (pa_cons pe_int (pa_cons (pe_tup (pa_cons (pv 1) pa_nil)) pa_nil)))) pa_nil)))
    (pss_cons (ps_while PassesOwn.never (PW.pt (pw_and (pt_truth (pv 6) (by intro _; rfl)) (pw_and1 (pt_cmpR op_lt (pe_callB (r := rLenK K) call_len_seq (by rfl) T.len boot_len (pa_cons (pv 5) pa_nil)) (pv 4) (nomark _)))))
      (pss_cons (ps_asg (pe_callBfun (cr_pop hu60) (by rfl) Tp (pa_cons (pv 6) pa_nil)) (pg_tup (by rfl) (pgs_cons (pg_name (i := 7) sc_alternatives.nd rfl (Or.inl rfl)) (pgs_cons (pg_name (i := 8) sc_alternatives.nd rfl (Or.inl rfl)) (pgs_cons (pg_name (i := 9) sc_alternatives.nd rfl (Or.inl rfl)) pgs_nil)))))
    (pss_one (ps_if (PW.pt (pw_and (pt_cmpR op_gt (pv 8) pe_int (nomark _)) (pw_and1 (pt_cmpR op_eq (pe_ix (r := rIxT K) ix_tup (pv 9) (pe_un un_neg pe_int) (fun _ _ => rfl)) (pv 2) (nomark _))))) (pss_one (ps_expr (pe_bm PySem.F.plainAttrs_list PySem.F.slot_list_append PySem.F.type_list_append mt_append (pv 5) (pa_cons (pv 9) pa_nil))))
      (pss_one (ps_if (pt_cmpR op_lt (pv 8) (pe_glob (v := .int 8) rfl G_MOST_NAMES_OF_ALTERNATIVES ⟨_, rfl⟩) (nomark _)) (pss_one (ps_for PassesOwn.never rfl (pi_list (pe_def D_longer (hr.mono (by decide)) (by rfl) (pa_cons (pv 0) (pa_cons (pv 7) (pa_cons (pv 9) (pa_cons (pv 3) pa_nil)))))) (pg_name (i := 10) sc_alternatives.nd rfl (Or.inl rfl))
      (pss_one (ps_expr (pe_callBfun (cr_push hu60) (by rfl) Th (pa_cons (pv 6) (pa_cons (pv 10) pa_nil)))))))
      pss_nil))))))
    (pss_one (ps_ret (pv 5)))))), ?_⟩
    rw [show L2.start ["chart", "start", "goal", "level", "count", "found", "queue", "length", "many", "route", "longer"] [V.ref ch, V.str st, V.str g, V.int lv, V.int n] = [some (V.ref ch), some (V.str st), some (V.str g), some (V.int lv), some (V.int n), none, none, none, none, none, none] from rfl]
    refine ⟨szOk rfl, fun p1 hp1 => ?_⟩
    refine ⟨_, rfl, szOk rfl, fun p2 hp2 => ?_⟩
    refine ⟨szOk rfl, fun p3 hp3 => ?_⟩
    refine ⟨szOk rfl, fun p4 hp4 => ?_⟩
    refine nm ?_
    dsimp only [List.set]
    have n41 : p1 ≠ p4 := (ne_of_none (same_new hp3 _ _ (same_new hp2 _ _ (upd_same (H := H) (a := p1) (o := .lst [])))) hp4)
    have b1 := same_new (o := .lst []) hp1
    have b2 := same_new (o := .tup [.str st]) hp2
    have b3 := same_new (o := .tup [.int 0, .int 1, .ref p2]) hp3
    have b4 := same_new (o := .lst [.ref p3]) hp4
    have h4 := upd_same (H := upd (upd (upd H p1 (.lst [])) p2 (.tup [.str st])) p3 (.tup [.int 0, .int 1, .ref p2])) (a := p4) (o := .lst [.ref p3])
    have h3 := b4 _ _ (upd_same (H := upd (upd H p1 (.lst [])) p2 (.tup [.str st])) (a := p3) (o := .tup [.int 0, .int 1, .ref p2]))
    have h2 := b4 _ _ (b3 _ _ (upd_same (H := upd H p1 (.lst [])) (a := p2) (o := .tup [.str st])))
    have h1 := b4 _ _ (b3 _ _ (b2 _ _ (upd_same (H := H) (a := p1) (o := .lst []))))
    have np4 : H p4 = none := by
      cases e : H p4 with
      | none => rfl
      | some o => rw [b3 _ _ (b2 _ _ (b1 _ _ e))] at hp4; cases hp4
    have sm4 := ((b1.trans b2).trans b3).trans b4
    have np1 : H p1 = none := hp1
    generalize upd (upd (upd (upd H p1 _) p2 _) p3 _) p4 _ = H4 at h1 h2 h3 h4 sm4 ⊢
    have lw0 : Lw D [st] = 0 := rfl
    have W0 : WyAt H4 D p3 [st] := ⟨p2, h3, h2⟩
    have mu0 : mu [[st]] = 1957 := rfl
    refine ⟨fun m σ H2 => ∃ (v7 v8 v9 v10 : Option V) (fd zs : List Wy), m = mu (zs.map (·.2)) ∧ m ≤ 1957 ∧ σ = [some (.ref ch), some (.str st), some (.str g), some (.int lv), some (.int n), some (.ref p1), some (.ref p4), v7, v8, v9, v10] ∧ Same H H2 ∧ H2 p1 = some (.lst (fd.map wref)) ∧ (∀ z ∈ fd, H2 z.1 = some (.tup (z.2.map V.str))) ∧ QAt H2 p4 D zs ∧ Alt D lv st g (fd.map (·.2)) (zs.map (·.2)) ∧ (∀ z ∈ zs, Gd nn z.2 ∧ (z.2.length ≤ 1 → lst z.2 ≠ g)) ∧ fd.length ≤ n.toNat, ⟨_, _, _, _, _, [], [(p3, [st])], rfl, Nat.le_of_eq mu0, rfl, sm4, h1, (fun _ h => nomatch h), QAt.one h4 W0, Alt.start, fun z hz => by rw [List.mem_singleton.mp hz]; exact ⟨Gd.one O.sn, fun _ => O.ne⟩, Nat.zero_le _⟩, ?_⟩
    rintro m σ H2 ⟨v7, v8, v9, v10, fd, zs, hm, hmu, rfl, sm, hf, ht, Z, AL, hg, hn⟩
    have fin : (zs = [] ∨ n.toNat ≤ fd.length) → Q (.ref p1) H2 := fun e => k fd p1 H2 sm np1 hf ht fun al hs hp => (AL.done O.pos (by rw [List.length_map]; exact hn) (by
      rcases e with e | e
      · exact .inl (by rw [e]; rfl)
      · exact .inr (by rw [List.length_map]; exact e)) hs hp).symm
    refine ⟨_, rfl, _, .inl ⟨_, .inl (.inl Z.w.1), rfl⟩, ?_⟩
    by_cases ez : zs = []
    · subst ez
      exact iteF ⟨_, rfl, fin (.inl rfl)⟩
    have ez' : (!(zs.map wref).isEmpty) = true := by
      cases zs with
      | nil => exact absurd rfl ez
      | cons z zs => rfl
    rw [ez']
    refine iteT ?_
    refine ⟨_, rfl, _, _, rfl, (.inl (.inl (.inl hf))), _, rfl, _, _, rfl, rfl, _, rfl, ?_⟩
    by_cases en : ((fd.map wref).length : Int) < n
    rotate_left
    · rw [decide_eq_false en]
      exact iteF ⟨_, rfl, fin (.inr (by rw [List.length_map] at en; omega))⟩
    rw [decide_eq_true en]
    refine iteT ?_
    refine ⟨_, fun σ' H' h => h, ?_⟩
    refine ⟨_, rfl, ?_⟩
    dsimp only [tNil]
    refine QAt.pop Z ez fun z zs' pz hz Z' mn => ?_
    have np4' : H p4 = none := np4
    have sm3 : Same H (upd H2 p4 (.lst (zs'.map wref))) := fun b o hb => by
      rw [upd_ne (ne_of_none hb np4)]
      exact sm _ _ hb
    have hf3 : (upd H2 p4 (.lst (zs'.map wref))) p1 = some (.lst (fd.map wref)) := by rw [upd_ne n41]; exact hf
    have ht3 : ∀ z ∈ fd, (upd H2 p4 (.lst (zs'.map wref))) z.1 = some (.tup (z.2.map V.str)) := fun x hx => by
      rw [upd_ne (ne_of (ht x hx) Z.w.1 (by intro e; cases e))]
      exact ht x hx
    obtain ⟨r, w1, w2⟩ := hz.put (ys := zs'.map wref) Z.w.1
    generalize upd H2 p4 (.lst (zs'.map wref)) = H3 at sm3 hf3 ht3 w1 w2 Z' ⊢
    obtain ⟨G, g1⟩ := hg z (pz.mem_iff.mp List.mem_cons_self)
    have hg' : ∀ w ∈ zs', Gd nn w.2 ∧ (w.2.length ≤ 1 → lst w.2 ≠ g) := fun w m => hg w (pz.mem_iff.mp (List.mem_cons_of_mem _ m))
    have gl := G.len O.n
    have pz2 : (z.2 :: zs'.map (·.2)).Perm (zs.map (·.2)) := pz.map (fun x : Wy => x.2)
    have hmu2 : wt (7 - z.2.length) + mu (zs'.map (·.2)) = m := by rw [hm, ← mu_perm pz2, mu_cons]
    have wp := wt_pos (7 - z.2.length)
    have mn2 : ∀ w ∈ zs'.map (·.2), klt D w z.2 = false := fun w m => by
      obtain ⟨x, hx, rfl⟩ := List.mem_map.mp m
      exact mn x hx
    refine ⟨_, _, rfl, .inl (.inl w1), rfl, _, _, rfl, _, _, rfl, _, _, rfl, rfl, ?_⟩
    dsimp only [List.set]
    refine ⟨_, rfl, _, _, rfl, rfl, _, rfl, ?_⟩
    by_cases hit : lst z.2 = g
    · have g2 : (1 : Int) < (z.2.length : Int) := by
        rcases Nat.lt_or_ge 1 z.2.length with h | h
        · omega
        · exact absurd hit (g1 h)
      rw [decide_eq_true g2]
      refine iteT ?_
      refine ⟨_, rfl, _, rfl, _, _, _, .str (lst z.2), rfl, rfl, .inl (.inl w2), atI_back (lst_get G.1), _, rfl, rfl, _, rfl, ?_⟩
      rw [decide_eq_true (congrArg V.str hit)]
      refine iteT ?_
      refine ⟨_, rfl, (.inl ⟨rfl, _, .inl (.inl hf3)⟩), _, rfl, _, _, _, rfl, rfl, hf3, (by rw [List.length_map]; exact small1000 (by rw [List.length_map] at en; omega)), ?_⟩
      refine ⟨mu (zs'.map (·.2)), by omega, _, _, _, _, fd ++ [(r, z.2)], zs', rfl, by omega, rfl, fun b o hb => ?_, ?_, fun x hx => ?_, Z'.put hf3 n41.symm, ?_, hg', ?_⟩
      · rw [upd_ne (ne_of_none hb np1)]
        exact sm3 _ _ hb
      · rw [upd_same, List.map_append]
        rfl
      · rcases List.mem_append.mp hx with m | m
        · rw [upd_ne (ne_of (ht3 x m) hf3 (by intro e; cases e))]
          exact ht3 x m
        · rw [List.mem_singleton.mp m, upd_ne (ne_of w2 hf3 (by intro e; cases e))]
          exact w2
      · rw [List.map_append]
        exact AL.hit pz2 mn2 hit
      · rw [List.length_append, List.length_singleton]
        rw [List.length_map] at en
        omega
    by_cases g2 : (1 : Int) < (z.2.length : Int)
    · rw [decide_eq_true g2]
      refine iteT ?_
      refine ⟨_, rfl, _, rfl, _, _, _, .str (lst z.2), rfl, rfl, .inl (.inl w2), atI_back (lst_get G.1), _, rfl, rfl, _, rfl, ?_⟩
      rw [decide_eq_false (fun z => hit (V.str.inj z))]
      refine iteF ?_
      refine ⟨_, rfl, _, _, rfl, rfl, _, rfl, ?_⟩
      rw [decide_eq_true (show (z.2.length : Int) < 8 by omega)]
      refine iteT ?_
      refine ⟨_, rfl, _, rfl, _, rfl, _, rfl, ch, r, D, z.2, lv, rfl, C0.same sm3, w2, G.1, by omega, fun ws q H4 s4 hq W4 eW => ?_⟩
      have nq4 : p4 ≠ q := ne_of_none Z'.w.1 hq
      have nq1 : p1 ≠ q := ne_of_none hf3 hq
      have lz : (zs'.map (·.2)).length ≤ 1957 := Nat.le_trans (len_mu _) (by omega)
      have lw : ws.length ≤ 7 := by
        have h1 := congrArg List.length eW
        have h2 := exts_len (lv := lv) O.n G
        rw [List.length_map] at h1
        omega
      refine ⟨_, rfl, ⟨_, .inl (.inl W4.1)⟩, for_list (K := K) (a := q) (xs := ws.map wref) (fun i σ H5 => ∃ (v10 : Option V) (zs2 : List Wy), σ = [some (.ref ch), some (.str st), some (.str g), some (.int lv), some (.int n), some (.ref p1), some (.ref p4), some (.int (Lw D z.2)), some (.int (z.2.length : Int)), some (.ref r), v10] ∧ Same H H5 ∧ H5 p1 = some (.lst (fd.map wref)) ∧ (∀ z ∈ fd, H5 z.1 = some (.tup (z.2.map V.str))) ∧ QAt H5 p4 D zs2 ∧ WysAt H5 q D ws ∧ zs2.Perm (zs' ++ ws.take i))
        ⟨_, zs', rfl, sm3.trans s4, s4 _ _ hf3, fun x hx => s4 _ _ (ht3 x hx), Z'.same s4, W4, by rw [List.take_zero, List.append_nil]⟩ (fun i σ H5 _ ⟨_, _, _, _, _, _, _, W, _⟩ => .inl (.inl W.1)) ?_ ?_⟩
      · rintro i y σ H5 hi ⟨w10, zs2, rfl, sm5, hf5, ht5, Z5, W5, p5⟩
        obtain ⟨x, rfl, hx, hxl, htk⟩ := getMap hi
        have np4 : H p4 = none := np4'
        refine nm ?_
        dsimp only [List.set]
        refine ⟨_, rfl, _, rfl, ?_⟩
        dsimp only [tNil]
        refine QAt.push (ns := x.2) Z5 (W5.2 x hx) (by have := p5.length_eq; rw [List.length_append, List.length_take] at this; rw [List.length_map] at lz; omega) fun zs3 p6 Z6 => ?_
        refine ⟨_, zs3, rfl, fun b o hb => ?_, by rw [upd_ne n41]; exact hf5, fun z hz => ?_, Z6, W5.put Z5.w.1 nq4.symm, ?_⟩
        · rw [upd_ne (ne_of_none hb np4)]
          exact sm5 _ _ hb
        · rw [upd_ne (ne_of (ht5 z hz) Z5.w.1 (by intro e; cases e))]
          exact ht5 z hz
        · rw [htk, ← List.append_assoc]
          exact p6.trans (List.Perm.append_right _ p5)
      · rintro σ H5 ⟨w10, zs2, rfl, sm5, hf5, ht5, Z5, W5, p5⟩
        rw [List.take_of_length_le (by rw [List.length_map]; exact Nat.le_refl _)] at p5
        have p7 := p5.map (fun x : Wy => x.2)
        rw [List.map_append, eW] at p7
        have m7 := mu_perm p7
        rw [mu_app] at m7
        have m8 := mu_exts (lv := lv) O.n G
        refine ⟨mu (zs2.map (·.2)), by omega, _, _, _, _, fd, zs2, rfl, by omega, rfl, sm5, hf5, ht5, Z5, AL.go O.pos pz2 hit (by omega) p7, fun x hx => ?_, hn⟩
        rcases List.mem_append.mp (p5.mem_iff.mp hx) with m | m
        · exact hg' x m
        · have mx : x.2 ∈ exts D lv z.2 := by rw [← eW]; exact List.mem_map.mpr ⟨x, m, rfl⟩
          exact ⟨G.ext O.n mx, fun h => by have := ext_len mx; omega⟩
    · rw [decide_eq_false g2]
      refine iteF ?_
      refine ⟨_, rfl, _, _, rfl, rfl, _, rfl, ?_⟩
      rw [decide_eq_true (show (z.2.length : Int) < 8 by omega)]
      refine iteT ?_
      refine ⟨_, rfl, _, rfl, _, rfl, _, rfl, ch, r, D, z.2, lv, rfl, C0.same sm3, w2, G.1, by omega, fun ws q H4 s4 hq W4 eW => ?_⟩
      have nq4 : p4 ≠ q := ne_of_none Z'.w.1 hq
      have nq1 : p1 ≠ q := ne_of_none hf3 hq
      have lz : (zs'.map (·.2)).length ≤ 1957 := Nat.le_trans (len_mu _) (by omega)
      have lw : ws.length ≤ 7 := by
        have h1 := congrArg List.length eW
        have h2 := exts_len (lv := lv) O.n G
        rw [List.length_map] at h1
        omega
      refine ⟨_, rfl, ⟨_, .inl (.inl W4.1)⟩, for_list (K := K) (a := q) (xs := ws.map wref) (fun i σ H5 => ∃ (v10 : Option V) (zs2 : List Wy), σ = [some (.ref ch), some (.str st), some (.str g), some (.int lv), some (.int n), some (.ref p1), some (.ref p4), some (.int (Lw D z.2)), some (.int (z.2.length : Int)), some (.ref r), v10] ∧ Same H H5 ∧ H5 p1 = some (.lst (fd.map wref)) ∧ (∀ z ∈ fd, H5 z.1 = some (.tup (z.2.map V.str))) ∧ QAt H5 p4 D zs2 ∧ WysAt H5 q D ws ∧ zs2.Perm (zs' ++ ws.take i))
        ⟨_, zs', rfl, sm3.trans s4, s4 _ _ hf3, fun x hx => s4 _ _ (ht3 x hx), Z'.same s4, W4, by rw [List.take_zero, List.append_nil]⟩ (fun i σ H5 _ ⟨_, _, _, _, _, _, _, W, _⟩ => .inl (.inl W.1)) ?_ ?_⟩
      · rintro i y σ H5 hi ⟨w10, zs2, rfl, sm5, hf5, ht5, Z5, W5, p5⟩
        obtain ⟨x, rfl, hx, hxl, htk⟩ := getMap hi
        have np4 : H p4 = none := np4'
        refine nm ?_
        dsimp only [List.set]
        refine ⟨_, rfl, _, rfl, ?_⟩
        dsimp only [tNil]
        refine QAt.push (ns := x.2) Z5 (W5.2 x hx) (by have := p5.length_eq; rw [List.length_append, List.length_take] at this; rw [List.length_map] at lz; omega) fun zs3 p6 Z6 => ?_
        refine ⟨_, zs3, rfl, fun b o hb => ?_, by rw [upd_ne n41]; exact hf5, fun z hz => ?_, Z6, W5.put Z5.w.1 nq4.symm, ?_⟩
        · rw [upd_ne (ne_of_none hb np4)]
          exact sm5 _ _ hb
        · rw [upd_ne (ne_of (ht5 z hz) Z5.w.1 (by intro e; cases e))]
          exact ht5 z hz
        · rw [htk, ← List.append_assoc]
          exact p6.trans (List.Perm.append_right _ p5)
      · rintro σ H5 ⟨w10, zs2, rfl, sm5, hf5, ht5, Z5, W5, p5⟩
        rw [List.take_of_length_le (by rw [List.length_map]; exact Nat.le_refl _)] at p5
        have p7 := p5.map (fun x : Wy => x.2)
        rw [List.map_append, eW] at p7
        have m7 := mu_perm p7
        rw [mu_app] at m7
        have m8 := mu_exts (lv := lv) O.n G
        refine ⟨mu (zs2.map (·.2)), by omega, _, _, _, _, fd, zs2, rfl, by omega, rfl, sm5, hf5, ht5, Z5, AL.go O.pos pz2 hit (by omega) p7, fun x hx => ?_, hn⟩
        rcases List.mem_append.mp (p5.mem_iff.mp hx) with m | m
        · exact hg' x m
        · have mx : x.2 ∈ exts D lv z.2 := by rw [← eW]; exact List.mem_map.mpr ⟨x, m, rfl⟩
          exact ⟨G.ext O.n mx, fun h => by have := ext_len mx; omega⟩
end
end Sk

set_option Elab.async false
set_option linter.all false
set_option maxRecDepth 100000
set_option maxHeartbeats 4000000
namespace Sk
open PySem PySem.Spec PyProof.Rows L2
section
variable {P : Program} {w : World} {K : PySem.W.Frag} {mg : Str → Option Value} {base : Heap}
abbrev s_looped : Stmt := top 22
theorem sc_looped : FnScope ["route", "index", "loop"] ["route", "index", "loop"] (defScope s_looped) := ⟨rfl, rfl, rfl, by decide +kernel, rfl, by decide +kernel, by decide +kernel⟩
theorem ok_looped {f CE : Addr} {fd : FuncData} (F : Fun K "_looped" "_looped" s_looped f fd) (T : TxtA mg) {tmn : Tok} (G_MOST_NAMES : mg "MOST_NAMES" = some (.int 16 tmn))
    (D_RouteError : ErrD P w K mg base 1 "RouteError" CE ["self", "code", "index"] (spCErrR CE)) : FnOk P w K mg base (L2.CX P w) 3 f fd ["route", "index", "loop"] (spLooped CE) := by
  refine F.okX sc_looped (fun vs H Q E h => ?_) (fun cdv A outer s H vs Q E hr h => ?_)
  · obtain ⟨_, _, _, _, _, _, rfl, _⟩ := h
    rfl
  · obtain ⟨r, lp, ns, ls, k, z, rfl, hz, hr0, hlp, hk, hn, hl, hne, kn, ke⟩ := h
    refine ⟨_, (pss_cons (ps_if (pt_cmpR op_gt (pe_op op_add (pe_callB (r := rLenK K) call_len_seq (by rfl) T.len boot_len (pa_cons (pv 0) pa_nil)) (pe_callB (r := rLenK K) call_len_seq (by rfl) T.len boot_len (pa_cons (pv 2) pa_nil))) (pe_glob (v := .int 16) rfl G_MOST_NAMES ⟨_, rfl⟩) (nomark _)) (pss_one (ps_raiseR rfl D_RouteError (hr.mono (by decide)) (takes_of rfl rfl rfl rfl) (by rfl) pe_str pe_int (fun _ _ _ _ im z => im _ _ z) (fun _ _ _ _ im z => im _ _ z)))
      pss_nil)
    (pss_one (ps_ret (pe_op op_catT (pe_op op_catT (pe_slice (r := rSlT K) sl_tup (pv 0) po_none (po_some (pe_op op_add (pv 1) pe_int))) (pv 2)) (pe_slice (r := rSlT K) sl_tup (pv 0) (po_some (pe_op op_add (pv 1) pe_int)) po_none))))), ?_⟩
    rw [show L2.start ["route", "index", "loop"] [V.ref r, V.int z, V.ref lp] = [some (V.ref r), some (V.int z), some (V.ref lp)] from rfl]
    subst hz
    have s1000 : ("size" : Str).length ≤ 1000 := by decide +kernel
    refine ⟨_, rfl, _, _, rfl, (.inr (.inl (.inl hr0))), _, rfl, _, _, rfl, (.inr (.inl (.inl hlp))), _, _, rfl, rfl, _, _, rfl, rfl, _, rfl, ite2 (fun e => ?_) (fun e => ?_)⟩
    · have e := of_decide_eq_true e
      rw [List.length_map, List.length_map] at e
      exact ⟨"size", 0, rfl, s1000, by decide, fun d hd => ke (by omega) d hd⟩
    have e : ¬ (((ns.map V.str).length : Int) + ((ls.map V.str).length : Int) > 16) := fun w => e (decide_eq_true w)
    rw [List.length_map, List.length_map] at e
    have eu : (k : Int) + 1 = ((k + 1 : Nat) : Int) := by omega
    refine ⟨_, rfl, _, rfl, _, _, rfl, rfl, _, rfl, r, _, rfl, .inl (.inl hr0), nw_take eu (by rw [List.length_map]; omega), fun p1 hp1 => ?_⟩
    rw [cut_take V.str eu (by omega)]
    have s1 := same_new (o := .tup ((ns.take (k + 1)).map V.str)) hp1
    have hp1' : (upd H p1 (.tup ((ns.take (k + 1)).map V.str))) p1 = _ := upd_same
    generalize upd H p1 (.tup ((ns.take (k + 1)).map V.str)) = H1 at s1 hp1' ⊢
    have tl : (ns.take (k + 1)).length = k + 1 := by rw [List.length_take]; omega
    refine ⟨_, rfl, p1, lp, _, _, rfl, rfl, .inl (.inl hp1'), .inl (.inl (s1 _ _ hlp)), (fun w => ?_), (by rw [List.length_map, List.length_map, tl, sizeLine_eq]; omega), (fun w => absurd (List.map_eq_nil_iff.mp w) hne), fun _ p2 hp2 => ?_⟩
    · have := congrArg List.length w
      rw [List.length_map, tl] at this
      cases this
    rw [← List.map_append]
    have s2 := s1.trans (same_new (o := .tup ((ns.take (k + 1) ++ ls).map V.str)) hp2)
    have hp2' : (upd H1 p2 (.tup ((ns.take (k + 1) ++ ls).map V.str))) p2 = _ := upd_same
    generalize upd H1 p2 (.tup ((ns.take (k + 1) ++ ls).map V.str)) = H2 at s2 hp2' ⊢
    refine ⟨_, rfl, _, rfl, _, _, rfl, rfl, _, rfl, r, _, rfl, .inl (.inl (s2 _ _ hr0)), nw_drop eu (by omega) (by rw [List.length_map]; omega), fun p3 hp3 => ?_⟩
    rw [cut_drop V.str eu (by omega)]
    have s3 := same_new (o := .tup ((ns.drop (k + 1)).map V.str)) hp3
    have hp3' : (upd H2 p3 (.tup ((ns.drop (k + 1)).map V.str))) p3 = _ := upd_same
    have hp2'' := s3 _ _ hp2'
    generalize upd H2 p3 (.tup ((ns.drop (k + 1)).map V.str)) = H3 at s3 hp3' hp2'' ⊢
    have dl : (ns.drop (k + 1)).length = ns.length - (k + 1) := List.length_drop
    refine ⟨p2, p3, _, _, rfl, rfl, .inl (.inl hp2''), .inl (.inl hp3'), (fun w => ?_), (by rw [List.length_map, List.length_map, List.length_append, tl, dl, sizeLine_eq]; omega), (fun w => ?_), fun _ p4 hp4 => ?_⟩
    · have := congrArg List.length w
      rw [List.length_map, List.length_append, tl] at this
      simp at this
    · have := congrArg List.length w
      rw [List.length_map, dl] at this
      simp only [List.length_nil] at this
      omega
    rw [← List.map_append]
    exact kn (by omega) p4 _ ((s2.trans s3).trans (same_new hp4)) upd_same

abbrev s_with_loops : Stmt := top 21
theorem sc_with_loops : FnScope ["chart", "route", "loops", "index", "fix"] ["chart", "route", "loops"] (defScope s_with_loops) := ⟨rfl, rfl, rfl, by decide +kernel, rfl, by decide +kernel, by decide +kernel⟩
theorem ok_with_loops {f CE : Addr} {fd : FuncData} (F : Fun K "with_loops" "with_loops" s_with_loops f fd) (T : TxtA mg)
    (D_RouteError : ErrD P w K mg base 1 "RouteError" CE ["self", "code", "index"] (spCErrR CE))
    (D_looped : DefX P w K mg base 3 "_looped" ["route", "index", "loop"] (spLooped CE)) : FnOk P w K mg base (L2.CX P w) 4 f fd ["chart", "route", "loops"] (spWithLoops CE) := by
  refine F.okX sc_with_loops (fun vs H Q E h => ?_) (fun cdv A outer s H vs Q E hr h => ?_)
  · obtain ⟨_, _, _, _, _, _, _, _, rfl, _⟩ := h
    rfl
  · obtain ⟨ch, r, hd, D, hv, ns, m, z, rfl, hz, hm, A, hr0, n2, n16, kn, ke⟩ := h
    have hu := hu_of hr
    refine ⟨_, (pss_cons (ps_if (pt_cmpR op_lt (pv 2) pe_int (nomark _)) (pss_one (ps_ret (pv 1)))
      pss_nil)
    (pss_cons (ps_for (passes_of rfl) rfl (pi_enumT (by rfl) T.enumerate (pa_cons (pe_slice (r := rSlT K) sl_tup (pv 1) po_none (po_some (pe_un un_neg pe_int))) pa_nil)) (pg_tup (by rfl) (pgs_cons (pg_name (i := 3) sc_with_loops.nd rfl (Or.inl rfl)) (pgs_cons (pg_name (i := 4) sc_with_loops.nd rfl (Or.inl rfl)) pgs_nil)))
      (pss_one (ps_if (pt_cmp (pc_din hu (pv 4) (pe_dget hu (pv 0) pe_str (fun _ _ => rfl)))) (pss_one (ps_ret (pe_defX D_looped (hr.mono (by decide)) (by rfl) (takes_of rfl rfl rfl rfl) (pa_cons (pv 1) (pa_cons (pv 3) (pa_cons (pe_op op_repA (pe_tup (pa_cons (pe_dget hu (pe_dget hu (pv 0) pe_str (fun _ _ => rfl)) (pv 4) (fun _ _ => rfl)) (pa_cons (pv 4) pa_nil))) (pv 2)) pa_nil))))))
      pss_nil)))
    (pss_one (ps_raiseR rfl D_RouteError (hr.mono (by decide)) (takes_of rfl rfl rfl rfl) (by rfl) pe_str pe_int (fun _ _ _ _ im z => im _ _ z) (fun _ _ _ _ im z => im _ _ z))))), ?_⟩
    rw [show L2.start ["chart", "route", "loops", "index", "fix"] [V.ref ch, V.ref r, V.int z] = [some (V.ref ch), some (V.ref r), some (V.int z), none, none] from rfl]
    subst hz
    have h1000 : ("hold" : Str).length ≤ 1000 := by decide +kernel
    refine ⟨_, rfl, _, _, rfl, rfl, _, rfl, ite2 (fun e => ?_) (fun e => ?_)⟩
    · have e := of_decide_eq_true e
      obtain rfl : m = 0 := by omega
      exact ⟨_, rfl, kn ns r H loopR_zero (Same.refl H) hr0⟩
    have e : ¬ ((m : Int) < 1) := fun w => e (decide_eq_true w)
    have m0 : m ≠ 0 := by omega
    refine ⟨_, rfl, _, rfl, _, rfl, r, _, rfl, .inl (.inl hr0), nw_init (by rw [List.length_map]; omega), fun p hp => ?_⟩
    rw [cut_init V.str (by omega)]
    have s1 := same_new (o := .tup ((ns.take (ns.length - 1)).map V.str)) hp
    have hp' : (upd H p (.tup ((ns.take (ns.length - 1)).map V.str))) p = _ := upd_same
    generalize upd H p (.tup ((ns.take (ns.length - 1)).map V.str)) = H1 at s1 hp' ⊢
    have tl : (ns.take (ns.length - 1)).length = ns.length - 1 := by rw [List.length_take]; omega
    refine ⟨p, _, rfl, .inl (.inl hp'), for_enumT (K := K) (a := p) (xs := (ns.take (ns.length - 1)).map V.str) (fun i σ H' => ∃ (v3 v4 : Option V), σ = [some (.ref ch), some (.ref r), some (.int (m : Int)), v3, v4] ∧ Same H1 H' ∧ ∀ j, j < i → valV hv (.inr (rn ns j)) = none)
      ⟨none, none, rfl, Same.refl H1, fun j h => absurd h (Nat.not_lt_zero j)⟩ (fun i σ H' _ ⟨_, _, _, e, _⟩ => .inl (.inl (e _ _ hp'))) ?_ ?_⟩
    · rintro i x σ H' Tt hi hT2 ⟨v3, v4, rfl, sm, hn⟩
      have hil := (List.getElem?_eq_some_iff.mp hi).1
      rw [List.length_map, tl] at hil
      obtain rfl : x = .str (rn ns i) := by
        rw [List.getElem?_map, List.getElem?_take_of_lt hil, List.getElem?_eq_getElem (by omega)] at hi
        rw [← Option.some.inj hi]
        show V.str _ = V.str _
        unfold rn
        simp [show i < ns.length by omega]
      have sa2 := (s1.trans sm).trans (same_new (o := .tup [.int (i : Nat), .str (rn ns i)]) hT2)
      have sb2 := sm.trans (same_new (o := .tup [.int (i : Nat), .str (rn ns i)]) hT2)
      refine ⟨_, _, rfl, .inl (.inl upd_same), rfl, ?_⟩
      refine ⟨_, _, rfl, _, _, rfl, rfl, ?_⟩
      generalize upd H' Tt (.tup [.int (i : Nat), .str (rn ns i)]) = H3 at sa2 sb2 ⊢
      dsimp only [List.set]
      have A3 := A.same sa2
      refine ⟨_, rfl, _, rfl, _, _, rfl, A3.gh, _, _, rfl, A3.g _, _, rfl, ?_⟩
      cases ev : valV hv (.inr (rn ns i)) with
      | none =>
        refine iteF ⟨_, _, rfl, sb2, fun j hj => ?_⟩
        rcases Nat.lt_or_ge j i with w | w
        · exact hn j w
        · obtain rfl : j = i := by omega
          exact ev
      | some v =>
        obtain ⟨t, rfl, ht, l1, l2⟩ := A.ok _ _ ev
        have gt : DGet H3 hd (.str (rn ns i)) (some (.str t)) := ev ▸ A3.g (rn ns i)
        refine iteT ?_
        refine ⟨_, rfl, _, rfl, _, rfl, _, _, rfl, A3.gh, _, rfl, _, _, rfl, gt, _, rfl, szOk rfl, fun q hq => ?_⟩
        have s4 := same_new (o := .tup [.str t, .str (rn ns i)]) hq
        have hq' : (upd H3 q (.tup [.str t, .str (rn ns i)])) q = some (.tup ([t, rn ns i].map V.str)) := upd_same
        generalize upd H3 q (.tup [.str t, .str (rn ns i)]) = H4 at s4 hq' ⊢
        have S4 := sa2.trans s4
        have flat : ∀ m : Nat, (List.replicate m ([t, rn ns i].map V.str)).flatten = ((List.replicate m [t, rn ns i]).flatten).map V.str := fun m => by
          rw [List.map_flatten, List.map_replicate]
        have flen : ∀ m : Nat, ((List.replicate m [t, rn ns i]).flatten).length = 2 * m := fun m => by
          induction m with
          | zero => rfl
          | succ m ih =>
            rw [List.replicate_succ, List.flatten_cons, List.length_append, ih]
            show 2 + 2 * m = 2 * (m + 1)
            omega
        have fin : ∀ (H5 : Hp) (lp : Addr), Same H H5 → H5 lp = some (.tup (((List.replicate m [t, rn ns i]).flatten).map V.str)) → ∃ (r' lp' : Addr) (ns' ls' : List Str) (k' : Nat) (z' : Int), [V.ref r, .int (i : Nat), .ref lp] = [.ref r', .int z', .ref lp'] ∧ z' = (k' : Int) ∧ H5 r' = some (.tup (ns'.map V.str)) ∧ H5 lp' = some (.tup (ls'.map V.str)) ∧ k' + 1 < ns'.length ∧ ns'.length ≤ 1000 ∧ ls'.length ≤ 1000 ∧ ls' ≠ [] ∧
            (ns'.length + ls'.length ≤ 16 → ∀ q H', Same H5 H' → H' q = some (.tup ((ns'.take (k' + 1) ++ ls' ++ ns'.drop (k' + 1)).map V.str)) → Q (.ref q) H') ∧ (16 < ns'.length + ls'.length → ∀ d, H5 d = none → E (.ref CE) (some d) (upd H5 d (.xd (ciK "size" 0)))) := fun H5 lp s5 hlp => by
          have el := loopR_at m0 (show i + 1 < ns.length by omega) ev hn
          refine ⟨r, lp, ns, _, i, _, rfl, rfl, s5 _ _ hr0, hlp, by omega, by omega, by rw [flen]; omega, (fun w => ?_), fun hs q H' s hq => ?_, fun hs d hd => ?_⟩
          · have := congrArg List.length w
            rw [flen] at this
            simp only [List.length_nil] at this
            omega
          · rw [flen] at hs
            rw [if_neg (by omega)] at el
            exact kn _ q H' el (s5.trans s) hq
          · rw [flen] at hs
            rw [if_pos (by omega)] at el
            exact ke _ d _ el (s5.trans (same_new hd)) (s5.free hd) upd_same
        refine ⟨_, rfl, q, (m : Int), _, rfl, rfl, .inl (.inl hq'), (fun w => nomatch w), by omega, by omega, (by show 2 ≤ 1000; decide), (fun w => ?_), fun w lp hlp => ?_⟩
        · obtain rfl : m = 1 := by omega
          exact fin H4 q S4 (by rw [hq']; rfl)
        · rw [Int.toNat_natCast, flat]
          exact fin _ lp (S4.trans (same_new hlp)) upd_same
    rintro σ H' ⟨v3, v4, rfl, sm, hn⟩
    rw [List.length_map, tl] at hn
    refine ⟨"hold", 0, rfl, h1000, by decide, fun d hd => ?_⟩
    have s2 := s1.trans sm
    exact ke _ d _ (loopR_hold m0 fun j hj => hn j (by omega)) (s2.trans (same_new hd)) (s2.free hd) upd_same

end
end Sk

set_option Elab.async false
set_option linter.all false
set_option maxRecDepth 100000
set_option maxHeartbeats 4000000
namespace Sk
open PySem PySem.Spec PyProof.Rows L2
section
variable {P : Program} {w : World} {K : PySem.W.Frag} {mg : Str → Option Value} {base : Heap}
abbrev s_with_and_without_loop : Stmt := top 33
theorem sc_with_and_without_loop : FnScope ["chart", "route"] ["chart", "route"] (defScope s_with_and_without_loop) := ⟨rfl, rfl, rfl, by decide +kernel, rfl, by decide +kernel, by decide +kernel⟩
theorem ok_with_and_without_loop {f CE : Addr} {fd : FuncData} (F : Fun K "_with_and_without_loop" "_with_and_without_loop" s_with_and_without_loop f fd) (T : TxtA mg)
    (D_RouteError : ErrD P w K mg base 1 "RouteError" CE ["self", "code", "index"] (spCErrR CE))
    (D_with_loops : DefX P w K mg base 4 "with_loops" ["chart", "route", "loops"] (spWithLoops CE)) : FnOk P w K mg base CX0 6 f fd ["chart", "route"] (spLoopsR) := by
  refine F.ok sc_with_and_without_loop (fun vs H Q E h => ?_) (fun cdv A outer s H vs Q E hr h => ?_)
  · obtain ⟨_, _, _, _, _, _, rfl, _⟩ := h
    rfl
  · obtain ⟨ch, r, hd, D, hv, ns, rfl, A, hr0, n2, n16, k⟩ := h
    refine ⟨_, (pss_one (ps_try_only rfl rfl ⟨by rfl, by decide, .inl D_RouteError.gC⟩ takes0 (fun W pn xe tk ps => (pss_one (ps_ret (pe_lst (pa_cons (pv 1) (pa_cons (pe_defX D_with_loops (hr.mono (by decide)) (by rfl) tk (pa_cons (pv 0) (pa_cons (pv 1) (pa_cons pe_int pa_nil)))) pa_nil)))))) (fun a oe cls d pn _ _ => (pss_one (ps_ret (pe_lst (pa_cons (pv 1) pa_nil))))))), ?_⟩
    rw [show L2.start ["chart", "route"] [V.ref ch, V.ref r] = [some (V.ref ch), some (V.ref r)] from rfl]
    refine ⟨_, rfl, _, rfl, _, rfl, ch, r, hd, D, hv, ns, 1, 1, rfl, rfl, by decide, A, hr0, n2, n16, fun ls q H1 e s1 hq => ?_, fun c d H1 e s1 hd0 hd1 => ⟨true, D_RouteError.te, fun _ a ha => ?_, fun z => Bool.noConfusion z⟩⟩
    · refine ⟨szOk rfl, fun p hp => ?_⟩
      have s2 := same_new (o := .lst [.ref r, .ref q]) hp
      refine k [(r, ns), (q, ls)] p _ (s1.trans s2) (Same.free s1 hp) ⟨upd_same, fun z hz => ?_⟩ (by unfold rtsR; rw [e]; rfl)
      simp only [List.mem_cons, List.not_mem_nil, or_false] at hz
      rcases hz with rfl | rfl
      · exact s2 _ _ (s1 _ _ hr0)
      · exact s2 _ _ hq
    · refine ⟨_, rfl, szOk rfl, fun p hp => ?_⟩
      have s2 := same_new (o := .lst [.ref r]) hp
      refine k [(r, ns)] p _ (s1.trans s2) (Same.free s1 hp) ⟨upd_same, fun z hz => ?_⟩ (by unfold rtsR; rw [e]; rfl)
      rw [List.mem_singleton.mp hz]
      exact s2 _ _ (s1 _ _ hr0)

abbrev s_menu : Stmt := top 31
theorem sc_menu : FnScope ["chart", "request", "_", "kind", "start", "goal", "level", "wanted", "tick", "routes", "route", "options", "later", "aim", "speed"] ["chart", "request"] (defScope s_menu) := ⟨rfl, rfl, rfl, by decide +kernel, rfl, by decide +kernel, by decide +kernel⟩
theorem ok_menu {f : Addr} {EN : Addr} {fd : FuncData} (F : Fun K "menu" "menu" s_menu f fd) (T : TxtA mg) (G_ENTRIES : mg "ENTRIES" = some (.ref EN)) (hEN : intsK K EN = some [0, 8]) {tMOST_ALTERNATIVES : Tok} (G_MOST_ALTERNATIVES : mg "MOST_ALTERNATIVES" = some (.int 2 tMOST_ALTERNATIVES))
    (D_alternatives : Def P w K mg base 5 "alternatives" ["chart", "start", "goal", "level", "count"] (spAlt))
    (D_with_and_without_loop : Def P w K mg base 6 "_with_and_without_loop" ["chart", "route"] (spLoopsR))
    (D_once : Def P w K mg base 1 "_once" ["one", "other"] (spOnceR)) : FnOk P w K mg base CX0 8 f fd ["chart", "request"] (spMenuR) := by
  refine F.ok sc_menu (fun vs H Q E h => ?_) (fun cdv A outer s H vs Q E hr h => ?_)
  · obtain ⟨_, _, _, _, _, _, rfl, _⟩ := h
    rfl
  · obtain ⟨ch, hd, D, hv, nmz, q, rfl, C, A, O, R, k⟩ := h
    have hu := hu_of hr
    refine ⟨_, (pss_cons (ps_asg (pv 1) (pg_tup (by rfl) (pgs_cons (pg_name (i := 2) sc_menu.nd rfl (Or.inl rfl)) (pgs_cons (pg_name (i := 3) sc_menu.nd rfl (Or.inl rfl)) (pgs_cons (pg_name (i := 4) sc_menu.nd rfl (Or.inl rfl)) (pgs_cons (pg_name (i := 5) sc_menu.nd rfl (Or.inl rfl)) (pgs_cons (pg_name (i := 6) sc_menu.nd rfl (Or.inl rfl)) (pgs_cons (pg_name (i := 7) sc_menu.nd rfl (Or.inl rfl)) (pgs_cons (pg_name (i := 8) sc_menu.nd rfl (Or.inl rfl)) (pgs_cons (pg_name (i := 2) sc_menu.nd rfl (Or.inl rfl)) pgs_nil))))))))))
    (pss_cons (ps_set (i := 9) sc_menu.nd rfl (Or.inl rfl) (pe_lst pa_nil))
    (pss_cons (ps_for PassesOwn.never rfl (pi_list (pe_def D_alternatives (hr.mono (by decide)) (by rfl) (pa_cons (pv 0) (pa_cons (pv 4) (pa_cons (pv 5) (pa_cons (pv 6) (pa_cons (pe_glob (v := .int 2) rfl G_MOST_ALTERNATIVES ⟨_, rfl⟩) pa_nil))))))) (pg_name (i := 10) sc_menu.nd rfl (Or.inl rfl))
      (pss_one (ps_expr (pe_bm PySem.F.plainAttrs_list PySem.F.slot_list_extend PySem.F.type_list_extend mt_extend (pv 9) (pa_cons (pe_def D_with_and_without_loop (hr.mono (by decide)) (by rfl) (pa_cons (pv 0) (pa_cons (pv 10) pa_nil))) pa_nil)))))
    (pss_cons (ps_set (i := 11) sc_menu.nd rfl (Or.inl rfl) (pe_lst pa_nil))
    (pss_cons (ps_for PassesOwn.never rfl (pi_tup (pe_glob (v := .ref EN) rfl G_ENTRIES rfl)) (pg_name (i := 12) sc_menu.nd rfl (Or.inl rfl))
      (pss_one (ps_for PassesOwn.never rfl (pi_list (pv 9)) (pg_name (i := 10) sc_menu.nd rfl (Or.inl rfl))
      (pss_one (ps_for PassesOwn.never rfl (pi_list (pe_def D_once (hr.mono (by decide)) (by rfl) (pa_cons (pv 7) (pa_cons (pv 6) pa_nil)))) (pg_name (i := 13) sc_menu.nd rfl (Or.inl rfl))
      (pss_one (ps_for PassesOwn.never rfl (pi_list (pe_def D_once (hr.mono (by decide)) (by rfl) (pa_cons (pe_ix (r := rIxT K) ix_tup (pv 3) pe_int (fun _ _ => rfl)) (pa_cons (pe_ix (r := rIxT K) ix_tup (pv 3) pe_int (fun _ _ => rfl)) pa_nil)))) (pg_name (i := 14) sc_menu.nd rfl (Or.inl rfl))
      (pss_one (ps_expr (pe_bm PySem.F.plainAttrs_list PySem.F.slot_list_append PySem.F.type_list_append mt_append (pv 11) (pa_cons (pe_tup (pa_cons (pe_tup (pa_cons (pv 10) (pa_cons (pv 14) (pa_cons (pv 13) pa_nil)))) (pa_cons (pe_op op_add (pv 8) (pv 12)) pa_nil))) pa_nil)))))))))))
    (pss_one (ps_ret (pv 11)))))))), ?_⟩
    rw [show L2.start ["chart", "request", "_", "kind", "start", "goal", "level", "wanted", "tick", "routes", "route", "options", "later", "aim", "speed"] [V.ref ch, V.ref q.a] = [some (V.ref ch), some (V.ref q.a), none, none, none, none, none, none, none, none, none, none, none, none, none] from rfl]
    refine ⟨_, rfl, _, _, rfl, .inl (.inl R.r), rfl, _, _, rfl, _, _, rfl, _, _, rfl, _, _, rfl, _, _, rfl, _, _, rfl, _, _, rfl, _, _, rfl, rfl, ?_⟩
    dsimp only [gName, List.set]
    refine ⟨szOk rfl, fun pr hpr => ?_⟩
    have z1 := same_new (o := .lst []) hpr
    have R1 : RtsAt (upd H pr (.lst [])) pr [] := ⟨upd_same, fun z h => by cases h⟩
    generalize upd H pr (.lst []) = H1 at z1 R1 ⊢
    refine nm ?_
    dsimp only [List.set]
    refine ⟨_, rfl, _, rfl, _, rfl, _, rfl, ch, D, nmz, q.st, q.g, q.lv, 2, rfl, C.same z1, O, by decide, by decide, fun fz pf H2 s2 npf hpf hfz hfd => ?_⟩
    have npr : pf ≠ pr := fun z => by rw [z, R1.1] at npf; cases npf
    obtain ⟨f2, fin⟩ := first2 (fd := fz.map (·.2)) O fun al s p => hfd al s p
    rw [List.length_map] at f2
    have flen : ∀ z ∈ fz, 2 ≤ z.2.length ∧ z.2.length ≤ 7 := fun z hz => by
      obtain ⟨a, b, _⟩ := fin z.2 (List.mem_map.mpr ⟨z, hz, rfl⟩)
      exact ⟨a, b⟩
    refine ⟨pf, rfl, ⟨_, .inl (.inl hpf)⟩, for_list (K := K) (a := pf) (xs := fz.map wref) (fun i σ H3 => ∃ (v10 : Option V) (zs : List Wy), σ = [some (.ref ch), some (.ref q.a), some (.int q.lt), some (.ref q.ka), some (.str q.st), some (.str q.g), some (.int q.lv), some (.int q.wt), some (.int q.tk), some (.ref pr), v10, none, none, none, none] ∧ Same H H3 ∧ RtsAt H3 pf fz ∧ RtsAt H3 pr zs ∧ zs.map (·.2) = ((fz.take i).map (·.2)).flatMap (rtsR hv)) ⟨_, [], rfl, z1.trans s2, ⟨hpf, hfz⟩, R1.same s2, rfl⟩ (fun i σ H3 _ ⟨_, _, _, _, F3, _⟩ => .inl (.inl F3.1)) ?_ ?_⟩
    · rintro i y σ H3 hy ⟨v10, zs, rfl, s3, FF, RR, ez⟩
      obtain ⟨z, rfl, hz, hil, htk⟩ := getMap hy
      refine nm ?_
      dsimp only [List.set]
      obtain ⟨l2, l7⟩ := flen z hz
      refine ⟨_, rfl, (.inl ⟨rfl, _, .inl (.inl RR.1)⟩), _, rfl, _, rfl, ch, z.1, hd, D, hv, z.2, rfl, (A.same s3), FF.2 z hz, l2, by omega, fun ws p4 H4 s4 np4 W4 ew => ?_⟩
      have RR4 := RR.same s4
      have FF4 := FF.same s4
      have zl : zs.length ≤ 4 := by
        have e := congrArg List.length ez
        rw [List.length_map] at e
        have : ∀ l : List (List Str), (l.flatMap (rtsR hv)).length ≤ l.length * 2 := fun l => by
          induction l with
          | nil => exact Nat.le_refl 0
          | cons a l ih =>
            rw [List.flatMap_cons, List.length_append, List.length_cons]
            have := rtsR_len hv a
            omega
        have := this ((fz.take i).map (·.2))
        rw [List.length_map, List.length_take] at this
        omega
      have wl : ws.length ≤ 2 := by
        have e := congrArg List.length ew
        rw [List.length_map] at e
        have := rtsR_len hv z.2
        omega
      refine ⟨pr, p4, _, _, rfl, rfl, RR4.1, W4.1, by rw [List.length_map, List.length_map, sizeLine_eq]; omega, ?_⟩
      refine ⟨_, zs ++ ws, rfl, fun b ob hb => ?_, ?_, ⟨?_, fun y hy => ?_⟩, ?_⟩
      · rw [upd_ne (ne_of_none hb hpr)]
        exact s4 _ _ (s3 _ _ hb)
      · refine ⟨by rw [upd_ne npr]; exact FF4.1, fun y hy => ?_⟩
        rw [upd_ne (ne_of (FF4.2 y hy) RR4.1 (by intro z; cases z))]
        exact FF4.2 y hy
      · rw [upd_same, List.map_append]
      · have key : H4 y.1 = some (.tup (y.2.map V.str)) := by
          rcases List.mem_append.mp hy with h | h
          · exact RR4.2 y h
          · exact W4.2 y h
        rw [upd_ne (ne_of key RR4.1 (by intro z; cases z))]
        exact key
      · rw [List.map_append, ez, ew, htk, List.map_append, List.flatMap_append]
        simp
    rintro σ H3 ⟨v10, zs, rfl, s3, FF, RR, ez⟩
    have zl4 : zs.length ≤ 4 := by
      have e := congrArg List.length ez
      rw [List.length_map] at e
      have : ∀ l : List (List Str), (l.flatMap (rtsR hv)).length ≤ l.length * 2 := fun l => by
        induction l with
        | nil => exact Nat.le_refl 0
        | cons a l ih =>
          rw [List.flatMap_cons, List.length_append, List.length_cons]
          have := rtsR_len hv a
          omega
      have := this ((fz.take (fz.map wref).length).map (·.2))
      simp only [List.length_map, List.length_take, Nat.min_self] at this e
      omega
    rw [show fz.take (fz.map wref).length = fz from List.take_of_length_le (by rw [List.length_map]; exact Nat.le_refl _)] at ez
    dsimp only
    clear R1 z1 s2 npf hpf hfz FF npr flen
    refine ⟨szOk rfl, fun po hpo => ?_⟩
    have z4 := same_new (o := .lst []) hpo
    have O4 : OptsAt (upd H3 po (.lst [])) po [] := ⟨upd_same, fun o h => by cases h⟩
    have R4 := RR.same z4
    have s4 := s3.trans z4
    have npo : H po = none := Same.free s3 hpo
    have nrp : pr ≠ po := ne_of_none RR.1 hpo
    generalize upd H3 po (.lst []) = H4 at O4 R4 s4 ⊢
    clear z4 hpo
    refine nm ?_
    dsimp only [List.set]
    refine ⟨EN, rfl, ⟨_, ints_sq hEN H4⟩, for_tup (K := K) (a := EN) (xs := ([0, 8] : List Int).map V.int) (fun i σ H5 => ∃ (v10 v12 v13 v14 : Option V) (os : List Op), σ = [some (.ref ch), some (.ref q.a), some (.int q.lt), some (.ref q.ka), some (.str q.st), some (.str q.g), some (.int q.lv), some (.int q.wt), some (.int q.tk), some (.ref pr), v10, some (.ref po), v12, v13, v14] ∧ Same H H5 ∧ RtsAt H5 pr zs ∧ OptsAt H5 po os ∧ os.length ≤ 16 * i ∧ os.map Op.d = (([0, 8] : List Int).take i).flatMap fun e => F1 (zs.map (·.2)) (two q.wt q.lv) (two q.kf q.ks) (q.tk + e)) ⟨_, _, _, _, [], rfl, s4, R4, O4, Nat.le_refl _, rfl⟩ (fun i σ H5 _ _ => ints_sq hEN H5) ?_ ?_⟩
    · rintro i y σ H5 hy ⟨v10, v12, v13, v14, os, rfl, s5, R5, O5, ol5, eo5⟩
      obtain ⟨e, rfl, he, hil, htk1⟩ := getMap hy
      have hil : i < 2 := hil
      refine nm ?_
      dsimp only [List.set]
      refine ⟨_, rfl, pr, rfl, ⟨_, .inl (.inl R5.1)⟩, for_list (K := K) (a := pr) (xs := zs.map wref) (fun u σ H6 => ∃ (v10 v13 v14 : Option V) (os : List Op), σ = [some (.ref ch), some (.ref q.a), some (.int q.lt), some (.ref q.ka), some (.str q.st), some (.str q.g), some (.int q.lv), some (.int q.wt), some (.int q.tk), some (.ref pr), v10, some (.ref po), some (.int e), v13, v14] ∧ Same H H6 ∧ RtsAt H6 pr zs ∧ OptsAt H6 po os ∧ os.length ≤ 16 * i + 4 * u ∧ os.map Op.d = ((([0, 8] : List Int).take i).flatMap fun e => F1 (zs.map (·.2)) (two q.wt q.lv) (two q.kf q.ks) (q.tk + e)) ++ ((zs.take u).map (·.2)).flatMap (F2 (q.tk + e) (two q.wt q.lv) (two q.kf q.ks))) ⟨_, _, _, os, rfl, s5, R5, O5, ol5, by rw [eo5]; show _ = _ ++ []; rw [List.append_nil]⟩ (fun u σ H6 _ ⟨_, _, _, _, _, _, R6, _⟩ => .inl (.inl R6.1)) ?_ ?_⟩
      · rintro u y σ H6 hy6 ⟨v10, v13, v14, os, rfl, s6, R6, O6, ol6, eo6⟩
        obtain ⟨z, rfl, hz, hul, htk2⟩ := getMap hy6
        refine nm ?_
        dsimp only [List.set]
        generalize hg2 : ((([0, 8] : List Int).take i).flatMap fun e => F1 (zs.map (·.2)) (two q.wt q.lv) (two q.kf q.ks) (q.tk + e)) ++ ((zs.take u).map (·.2)).flatMap (F2 (q.tk + e) (two q.wt q.lv) (two q.kf q.ks)) = pre2 at eo6
        refine ⟨_, rfl, _, rfl, q.wt, q.lv, rfl, fun pa H7 s7 npa hpa => ?_⟩
        have npap : pa ≠ po := fun z => by rw [z, O6.1] at npa; cases npa
        refine ⟨pa, rfl, ⟨_, .inl (.inl hpa)⟩, for_list (K := K) (a := pa) (xs := (two q.wt q.lv).map V.int) (fun j σ H8 => ∃ (v13 v14 : Option V) (os : List Op), σ = [some (.ref ch), some (.ref q.a), some (.int q.lt), some (.ref q.ka), some (.str q.st), some (.str q.g), some (.int q.lv), some (.int q.wt), some (.int q.tk), some (.ref pr), some (.ref z.1), some (.ref po), some (.int e), v13, v14] ∧ Same H H8 ∧ RtsAt H8 pr zs ∧ H8 pa = some (.lst ((two q.wt q.lv).map V.int)) ∧ OptsAt H8 po os ∧ os.length ≤ 16 * i + 4 * u + 2 * j ∧ os.map Op.d = pre2 ++ ((two q.wt q.lv).take j).flatMap (F3 (q.tk + e) z.2 (two q.kf q.ks))) ⟨_, _, os, rfl, s6.trans s7, R6.same s7, hpa, O6.same s7, ol6, by rw [eo6]; show _ = _ ++ []; rw [List.append_nil]⟩ (fun j σ H8 _ ⟨_, _, _, _, _, _, hp8, _⟩ => .inl (.inl hp8)) ?_ ?_⟩
        · rintro j y σ H8 hy8 ⟨v13, v14, os, rfl, s8, R8, hp8, O8, ol8, eo8⟩
          obtain ⟨am, rfl, ham, hjl, htk3⟩ := getMap hy8
          have al2 := two_len q.wt q.lv
          refine nm ?_
          dsimp only [List.set]
          generalize hg3 : pre2 ++ ((two q.wt q.lv).take j).flatMap (F3 (q.tk + e) z.2 (two q.kf q.ks)) = pre3 at eo8
          have hk8 := s8 _ _ R.k
          refine ⟨_, rfl, _, _, _, _, rfl, rfl, .inl (.inl hk8), rfl, _, rfl, _, _, _, _, rfl, rfl, .inl (.inl hk8), rfl, q.kf, q.ks, rfl, fun ps H9 s9 nps hps => ?_⟩
          have npsp : ps ≠ po := fun z => by rw [z, O8.1] at nps; cases nps
          refine ⟨ps, rfl, ⟨_, .inl (.inl hps)⟩, for_list (K := K) (a := ps) (xs := (two q.kf q.ks).map V.int) (fun m σ HA => ∃ (v14 : Option V) (os : List Op), σ = [some (.ref ch), some (.ref q.a), some (.int q.lt), some (.ref q.ka), some (.str q.st), some (.str q.g), some (.int q.lv), some (.int q.wt), some (.int q.tk), some (.ref pr), some (.ref z.1), some (.ref po), some (.int e), some (.int am), v14] ∧ Same H HA ∧ RtsAt HA pr zs ∧ HA pa = some (.lst ((two q.wt q.lv).map V.int)) ∧ HA ps = some (.lst ((two q.kf q.ks).map V.int)) ∧ OptsAt HA po os ∧ os.length ≤ 16 * i + 4 * u + 2 * j + m ∧ os.map Op.d = pre3 ++ ((two q.kf q.ks).take m).map fun s => (z.2, s, am, q.tk + e)) ⟨_, os, rfl, s8.trans s9, R8.same s9, s9 _ _ hp8, hps, O8.same s9, ol8, by rw [eo8]; show _ = _ ++ []; rw [List.append_nil]⟩ (fun m σ HA _ ⟨_, _, _, _, _, _, hpA, _⟩ => .inl (.inl hpA)) ?_ ?_⟩
          · rintro m y σ HA hyA ⟨v14, os, rfl, sA, RA, hpaA, hpsA, OA, olA, eoA⟩
            obtain ⟨sp, rfl, hsp, hml, htk4⟩ := getMap hyA
            have sl2 := two_len q.kf q.ks
            refine nm ?_
            dsimp only [List.set]
            refine ⟨_, rfl, (.inl ⟨rfl, _, .inl (.inl OA.1)⟩), _, rfl, _, rfl, _, rfl, szOk rfl, fun tu htu => ?_⟩
            have y1 := same_new (o := .tup [.ref z.1, .int sp, .int am]) htu
            have hzA := y1 _ _ (RA.2 z hz)
            refine ⟨_, rfl, _, rfl, _, _, rfl, rfl, szOk rfl, fun tt htt => ?_⟩
            have y2 := same_new (o := .tup [.ref tu, .int (q.tk + e)]) htt
            have hu2 := y2 _ _ (upd_same (H := HA) (a := tu) (o := .tup [.ref z.1, .int sp, .int am]))
            have hz2 := y2 _ _ hzA
            have ht2 : (upd (upd HA tu (.tup [.ref z.1, .int sp, .int am])) tt (.tup [.ref tu, .int (q.tk + e)])) tt = some (.tup [.ref tu, .int (q.tk + e)]) := upd_same
            have sB := y1.trans y2
            generalize upd (upd HA tu (.tup [.ref z.1, .int sp, .int am])) tt (.tup [.ref tu, .int (q.tk + e)]) = HB at hu2 hz2 ht2 sB ⊢
            clear y1 y2 htu htt hzA
            have OB := OA.same sB
            have RB := RA.same sB
            have B : OpAt HB ⟨tt, tu, z.1, z.2, sp, am, q.tk + e⟩ := ⟨ht2, hu2, hz2⟩
            refine ⟨_, _, _, rfl, rfl, OB.1, (by rw [List.length_map, sizeLine_eq]; omega), ?_⟩
            refine ⟨_, os ++ [⟨tt, tu, z.1, z.2, sp, am, q.tk + e⟩], rfl, fun b ob hb => ?_, ⟨by rw [upd_ne nrp]; exact RB.1, fun y hy => ?_⟩, ?_, ?_, OB.add B, by rw [List.length_append, List.length_singleton]; omega, ?_⟩
            · rw [upd_ne (ne_of_none hb npo)]
              exact sB _ _ (sA _ _ hb)
            · rw [upd_ne (ne_of (RB.2 y hy) OB.1 (by intro z; cases z))]
              exact RB.2 y hy
            · rw [upd_ne npap]
              exact sB _ _ hpaA
            · rw [upd_ne npsp]
              exact sB _ _ hpsA
            · rw [List.map_append, eoA, htk4, List.map_append, List.append_assoc]
              rfl
          · rintro σ HA ⟨v14, os, rfl, sA, RA, hpaA, hpsA, OA, olA, eoA⟩
            have sl2 := two_len q.kf q.ks
            rw [List.length_map] at olA eoA
            refine ⟨_, _, os, rfl, sA, RA, hpaA, OA, by omega, ?_⟩
            rw [eoA, List.take_length, htk3, List.flatMap_append, ← List.append_assoc]
            rw [hg3]
            simp [F3]
        · rintro σ H8 ⟨v13, v14, os, rfl, s8, R8, hp8, O8, ol8, eo8⟩
          have al2 := two_len q.wt q.lv
          rw [List.length_map] at ol8 eo8
          refine ⟨_, _, _, os, rfl, s8, R8, O8, by omega, ?_⟩
          rw [eo8, List.take_length, htk2, List.map_append, List.flatMap_append, ← List.append_assoc]
          rw [hg2]
          simp [F2]
      · rintro σ H6 ⟨v10, v13, v14, os, rfl, s6, R6, O6, ol6, eo6⟩
        rw [List.length_map] at ol6 eo6
        refine ⟨_, _, _, _, os, rfl, s6, R6, O6, by omega, ?_⟩
        rw [eo6, List.take_length, htk1, List.flatMap_append]
        simp [F1]
    · rintro σ H5 ⟨v10, v12, v13, v14, os, rfl, s5, R5, O5, ol5, eo5⟩
      refine ⟨_, rfl, k (fz.map (·.2)) os po H5 s5 npo O5 (fun al s p => hfd al s p) ?_⟩
      rw [eo5, ez]
      rfl

end
end Sk

set_option Elab.async false
set_option linter.all false
set_option maxRecDepth 100000
set_option maxHeartbeats 4000000
namespace Sk
open PySem PySem.Spec PyProof.Rows L2
def spKind22 (K : PySem.W.Frag) : Sp := fun vs H Q _ => ∃ (d c : Addr), vs = [.ref d] ∧ St1 K H d c ∧ ∀ q w s f a b H', H q = none → 1 ≤ s → s ≤ f → f ≤ 1000 → 1 ≤ a → a ≤ b → H' q = some (.tup [.int w, .int s, .int f, .int a, .int b]) → St1 K H' d c → Keep d H H' → Q (.ref q) H'
section
variable {P : Program} {w : World} {K : PySem.W.Frag} {mg : Str → Option Value} {base : Heap}
abbrev s_law_kind : Stmt := top 48
theorem sc_law_kind : FnScope ["state", "slow", "least"] ["state"] (defScope s_law_kind) := ⟨rfl, rfl, rfl, by decide +kernel, rfl, by decide +kernel, by decide +kernel⟩
theorem ok_law_kind {f : Addr} {fd : FuncData} (F : Fun K "_law_kind" "_law_kind" s_law_kind f fd) (T : TxtA mg)
    (D_law_draw : Def P w K mg base 1 "_law_draw" ["state", "bound"] (spDraw K))
    (D_law_pick : Def P w K mg base 2 "_law_pick" ["state", "things"] (spPick K)) : FnOk P w K mg base CX0 3 f fd ["state"] (spKind22 K) := by
  refine F.ok sc_law_kind (fun vs H Q E h => ?_) (fun cdv A outer s H vs Q E hr h => ?_)
  · obtain ⟨_, _, rfl, _⟩ := h
    rfl
  · obtain ⟨d, c, rfl, S, k⟩ := h
    refine ⟨_, (pss_cons (ps_set (i := 1) sc_law_kind.nd rfl (Or.inl rfl) (pe_op op_add pe_int (pe_def D_law_draw (hr.mono (by decide)) (by rfl) (pa_cons (pv 0) (pa_cons (pe_def D_law_pick (hr.mono (by decide)) (by rfl) (pa_cons (pv 0) (pa_cons (pe_lst (pa_cons pe_int (pa_cons pe_int (pa_cons pe_int pa_nil)))) pa_nil))) pa_nil)))))
    (pss_cons (ps_set (i := 2) sc_law_kind.nd rfl (Or.inl rfl) (pe_op op_add pe_int (pe_def D_law_draw (hr.mono (by decide)) (by rfl) (pa_cons (pv 0) (pa_cons pe_int pa_nil)))))
    (pss_one (ps_ret (pe_tup (pa_cons (pe_def D_law_draw (hr.mono (by decide)) (by rfl) (pa_cons (pv 0) (pa_cons pe_int pa_nil))) (pa_cons (pv 1) (pa_cons (pe_op op_add (pv 1) (pe_def D_law_draw (hr.mono (by decide)) (by rfl) (pa_cons (pv 0) (pa_cons pe_int pa_nil)))) (pa_cons (pv 2) (pa_cons (pe_op op_add (pv 2) (pe_def D_law_draw (hr.mono (by decide)) (by rfl) (pa_cons (pv 0) (pa_cons pe_int pa_nil)))) pa_nil)))))))))), ?_⟩
    refine ⟨_, rfl, _, rfl, szOk rfl, fun p1 hp1 => ?_⟩
    refine ⟨d, c, _, _, rfl, (S.new hp1), .inl (.inl upd_same), (fun z => nomatch z), (by show 3 ≤ 1000; decide), fun v2 H2 hv2 S2 kp2 => ?_⟩
    obtain ⟨x2, rfl, x2a, x2b⟩ : ∃ z : Int, v2 = .int z ∧ 8 ≤ z ∧ z ≤ 60 := by
      simp only [List.mem_cons, List.not_mem_nil, or_false] at hv2
      rcases hv2 with rfl | rfl | rfl <;> exact ⟨_, rfl, by decide, by decide⟩
    refine ⟨d, c, _, rfl, S2, (by omega), (by omega), fun x3 H3 x3a x3b S3 kp3 => ?_⟩
    refine ⟨_, _, rfl, rfl, _, rfl, d, c, _, rfl, S3, (by omega), (by omega), fun x4 H4 x4a x4b S4 kp4 => ?_⟩
    refine ⟨_, _, rfl, rfl, _, rfl, d, c, _, rfl, S4, (by omega), (by omega), fun x5 H5 x5a x5b S5 kp5 => ?_⟩
    refine ⟨_, rfl, _, rfl, _, rfl, d, c, _, rfl, S5, (by omega), (by omega), fun x6 H6 x6a x6b S6 kp6 => ?_⟩
    refine ⟨_, _, rfl, rfl, _, rfl, _, rfl, _, rfl, d, c, _, rfl, S6, (by omega), (by omega), fun x7 H7 x7a x7b S7 kp7 => ?_⟩
    refine ⟨_, _, rfl, rfl, szOk rfl, fun p8 hp8 => ?_⟩
    refine k _ _ _ _ _ _ _ ?_ (by omega) (by omega) (by omega) (by omega) (by omega) upd_same (S7.new hp8) ?_
    · exact Keep.none (((((((Keep.of (same_new hp1)).trans kp2).trans kp3).trans kp4).trans kp5).trans kp6).trans kp7) (St1.nd S7 hp8) hp8
    · exact ((((((((Keep.of (same_new hp1)).trans kp2).trans kp3).trans kp4).trans kp5).trans kp6).trans kp7).trans (Keep.of (same_new hp8)))
end
end Sk

set_option Elab.async false
set_option linter.all false
set_option maxRecDepth 100000
set_option maxHeartbeats 4000000
namespace Sk
open PySem PySem.Spec PyProof.Rows L2
section
variable {P : Program} {w : World} {K : PySem.W.Frag} {mg : Str → Option Value} {base : Heap}
abbrev s_law_code : Stmt := top 58
theorem sc_law_code : FnScope ["chart", "request", "before", "flight", "kind", "start", "goal", "level", "wanted", "tick", "late"] ["chart", "request", "before"] (defScope s_law_code) := ⟨rfl, rfl, rfl, by decide +kernel, rfl, by decide +kernel, by decide +kernel⟩
theorem ok_law_code {f : Addr} {fd : FuncData} (F : Fun K "_law_code" "_law_code" s_law_code f fd) (T : TxtA mg)
    (D_law_is_name : Def P w K mg base 1 "_law_is_name" ["word"] (spNameL)) : FnOk P w K mg base CX0 2 f fd ["chart", "request", "before"] (spCodeQ) := by
  refine F.ok sc_law_code (fun vs H Q E h => ?_) (fun cdv A outer s H vs Q E hr h => ?_)
  · obtain ⟨_, _, _, _, _, rfl, _⟩ := h
    rfl
  · obtain ⟨ch, D, q, b, bs, rfl, C, R, ok, hb, k⟩ := h
    have hu := hu_of hr
    refine ⟨_, (pss_cons (ps_asg (pv 1) (pg_tup (by rfl) (pgs_cons (pg_name (i := 3) sc_law_code.nd rfl (Or.inl rfl)) (pgs_cons (pg_name (i := 4) sc_law_code.nd rfl (Or.inl rfl)) (pgs_cons (pg_name (i := 5) sc_law_code.nd rfl (Or.inl rfl)) (pgs_cons (pg_name (i := 6) sc_law_code.nd rfl (Or.inl rfl)) (pgs_cons (pg_name (i := 7) sc_law_code.nd rfl (Or.inl rfl)) (pgs_cons (pg_name (i := 8) sc_law_code.nd rfl (Or.inl rfl)) (pgs_cons (pg_name (i := 9) sc_law_code.nd rfl (Or.inl rfl)) (pgs_cons (pg_name (i := 10) sc_law_code.nd rfl (Or.inl rfl)) pgs_nil))))))))))
    (pss_cons (ps_if (PW.pt (pw_or (pt_not (pt_val (pe_def D_law_is_name (hr.mono (by decide)) (by rfl) (pa_cons (pv 3) pa_nil)))) (pw_or1 (pt_cmpR op_in_seq (pv 3) (pv 2) rfl)))) (pss_one (ps_ret pe_str))
      pss_nil)
    (pss_cons (ps_if (PW.pt (pw_or (pt_not (pt_chain op_le op_le pe_int (pe_ix (r := rIxT K) ix_tup (pv 4) pe_int (fun _ _ => rfl)) pe_int)) (pw_or (pt_not (pt_chain3 op_le op_le op_le pe_int (pe_ix (r := rIxT K) ix_tup (pv 4) pe_int (fun _ _ => rfl)) (pe_ix (r := rIxT K) ix_tup (pv 4) pe_int (fun _ _ => rfl)) pe_int)) (pw_or1 (pt_not (pt_chain3 op_le op_le op_le pe_int (pe_ix (r := rIxT K) ix_tup (pv 4) pe_int (fun _ _ => rfl)) (pe_ix (r := rIxT K) ix_tup (pv 4) pe_int (fun _ _ => rfl)) pe_int)))))) (pss_one (ps_ret pe_str))
      pss_nil)
    (pss_cons (ps_if (PW.pt (pw_or (pt_cmp (pc_dnotin hu (pv 5) (pe_dget hu (pv 0) pe_str (fun _ _ => rfl)))) (pw_or (pt_cmp (pc_dnotin hu (pv 6) (pe_dget hu (pv 0) pe_str (fun _ _ => rfl)))) (pw_or1 (pt_cmpR op_eq (pv 5) (pv 6) (nomark _)))))) (pss_one (ps_ret pe_str))
      pss_nil)
    (pss_cons (ps_if (PW.pt (pw_or (pt_cmpR op_lt (pe_callB (call_min2 rfl) (by rfl) T.min boot_min (pa_cons (pv 7) (pa_cons (pv 8) pa_nil))) pe_int (nomark _)) (pw_or1 (pt_cmpR op_gt (pe_callB (call_max2 rfl) (by rfl) T.max boot_max (pa_cons (pv 7) (pa_cons (pv 8) pa_nil))) pe_int (nomark _))))) (pss_one (ps_ret pe_str))
      pss_nil)
    (pss_cons (ps_if (pt_not (pt_chain op_le op_le pe_int (pv 9) pe_int)) (pss_one (ps_ret pe_str))
      pss_nil)
    (pss_one (ps_ret (pe_ifExp (pt_chain op_le op_le pe_int (pv 10) pe_int) pe_str pe_str))))))))), ?_⟩
    rw [show L2.start ["chart", "request", "before", "flight", "kind", "start", "goal", "level", "wanted", "tick", "late"] [V.ref ch, V.ref q.a, V.ref b] = [some (V.ref ch), some (V.ref q.a), some (V.ref b), none, none, none, none, none, none, none, none] from rfl]
    have fN : ∀ c : Str, faultR D bs q = c → ∀ H', Same H H' → Q (.str c) H' := fun c e H' s => e ▸ k H' s
    refine ⟨_, rfl, _, _, rfl, .inl (.inl R.r), rfl, _, _, rfl, _, _, rfl, _, _, rfl, _, _, rfl, _, _, rfl, _, _, rfl, _, _, rfl, _, _, rfl, rfl, ?_⟩
    dsimp only [gName, List.set]
    refine ⟨_, rfl, q.nm, rfl, ok.nm.1, fun H1 s1 => ?_⟩
    have C1 := C.same s1
    have R1 := R.same s1
    have hb1 := s1 _ _ hb
    refine ⟨_, rfl, ?_⟩
    cases c1 : nameB q.nm with
    | false => exact (if_pos rfl).mpr ((if_pos rfl).mpr (fN _ (fa_name (by rw [c1]; rfl)) H1 s1))
    | true =>
    refine (if_neg (fun z => Bool.noConfusion z)).mpr ?_
    refine ⟨_, rfl, _, rfl, b, _, rfl, .inl (.inl (.inl hb1)), rfl, strs_flat22 _, ?_⟩
    rw [inV_strs22]
    refine ⟨_, rfl, ?_⟩
    by_cases c2 : q.nm ∈ bs
    · exact ifY c2 (fN _ (fa_name (by rw [decide_eq_true c2, Bool.or_true])) H1 s1)
    refine ifN c2 ?_
    refine nxL ?_
    dsimp only
    have n1 : (!nameB q.nm || decide (q.nm ∈ bs)) = false := by rw [c1, decide_eq_false c2]; rfl
    have hk := R1.k
    try dsimp only [tSeq, tIfS, tOr, tNot]
    refine chain_g (a := 0) (x := q.kw) (b := 3) (fun R h => h) (fun R h => ⟨_, rfl, _, _, _, _, rfl, rfl, .inl (.inl hk), rfl, h⟩) (fun R h => h) ?_
    have kk : isK q.kw q.ks q.kf q.kx q.ky = false → Q (.str "kind") H1 := fun e => fN _ (fa_kind n1 e) H1 s1
    rw [isK_dec] at kk
    by_cases k1 : 0 ≤ q.kw ∧ q.kw ≤ 3
    rotate_left
    · rw [decide_eq_false k1] at kk ⊢
      exact (if_pos rfl).mpr ((if_pos rfl).mpr (kk rfl))
    rw [decide_eq_true k1] at kk ⊢
    refine (if_neg (fun z => Bool.noConfusion z)).mpr ?_
    refine chain_g3 (a := 1) (x := q.ks) (y := q.kf) (b := 10000) (fun R h => h) (fun R h => ⟨_, rfl, _, _, _, _, rfl, rfl, .inl (.inl hk), rfl, h⟩) (fun R h => ⟨_, rfl, _, _, _, _, rfl, rfl, .inl (.inl hk), rfl, h⟩) (fun R h => h) ?_
    by_cases k2 : 1 ≤ q.ks ∧ q.ks ≤ q.kf ∧ q.kf ≤ 10000
    rotate_left
    · rw [decide_eq_false k2] at kk ⊢
      exact (if_pos rfl).mpr ((if_pos rfl).mpr (kk rfl))
    rw [decide_eq_true k2] at kk ⊢
    refine (if_neg (fun z => Bool.noConfusion z)).mpr ?_
    refine chain_g3 (a := 1) (x := q.kx) (y := q.ky) (b := 100) (fun R h => h) (fun R h => ⟨_, rfl, _, _, _, _, rfl, rfl, .inl (.inl hk), rfl, h⟩) (fun R h => ⟨_, rfl, _, _, _, _, rfl, rfl, .inl (.inl hk), rfl, h⟩) (fun R h => h) ?_
    by_cases k3 : 1 ≤ q.kx ∧ q.kx ≤ q.ky ∧ q.ky ≤ 100
    rotate_left
    · rw [decide_eq_false k3] at kk ⊢
      exact (if_pos rfl).mpr (kk rfl)
    have c3 : isK q.kw q.ks q.kf q.kx q.ky = true := by rw [isK_dec, decide_eq_true k1, decide_eq_true k2, decide_eq_true k3]; rfl
    clear kk
    rw [decide_eq_true k3]
    refine (if_neg (fun z => Bool.noConfusion z)).mpr ?_
    refine nxL ?_
    dsimp only
    refine ⟨_, rfl, _, rfl, _, _, rfl, C1.gf, _, _, rfl, C1.gs q.st, _, rfl, ?_⟩
    cases c4 : hasF D q.st with
    | false => exact (if_pos (show (!(valV D.fs (.inr q.st)).isSome) = true from by rw [show (valV D.fs (.inr q.st)).isSome = false from c4]; rfl)).mpr ((if_pos rfl).mpr (fN _ (fa_fix n1 c3 (by rw [c4]; rfl)) H1 s1))
    | true =>
    refine (if_neg (show ¬ (!(valV D.fs (.inr q.st)).isSome) = true from by rw [show (valV D.fs (.inr q.st)).isSome = true from c4]; exact Bool.false_ne_true)).mpr ?_
    refine ⟨_, rfl, _, rfl, _, _, rfl, C1.gf, _, _, rfl, C1.gs q.g, _, rfl, ?_⟩
    cases c5 : hasF D q.g with
    | false => exact (if_pos (show (!(valV D.fs (.inr q.g)).isSome) = true from by rw [show (valV D.fs (.inr q.g)).isSome = false from c5]; rfl)).mpr ((if_pos rfl).mpr (fN _ (fa_fix n1 c3 (by rw [c4, c5]; rfl)) H1 s1))
    | true =>
    refine (if_neg (show ¬ (!(valV D.fs (.inr q.g)).isSome) = true from by rw [show (valV D.fs (.inr q.g)).isSome = true from c5]; exact Bool.false_ne_true)).mpr ?_
    refine ⟨_, rfl, _, rfl, rfl, _, rfl, ?_⟩
    by_cases c6 : q.st = q.g
    · exact ifY (congrArg V.str c6) (fN _ (fa_fix n1 c3 (by rw [c4, c5, decide_eq_true c6]; rfl)) H1 s1)
    refine ifN (fun z => c6 (V.str.inj z)) ?_
    refine nxL ?_
    dsimp only
    have n2 : (!hasF D q.st || (!hasF D q.g || decide (q.st = q.g))) = false := by rw [c4, c5, decide_eq_false c6]; rfl
    refine ⟨_, rfl, _, rfl, _, _, rfl, _, _, rfl, rfl, _, rfl, ?_⟩
    by_cases c7 : (if q.wt < q.lv then q.wt else q.lv) < 0
    · refine ifY c7 ((if_pos rfl).mpr (fN _ (fa_level n1 c3 n2 fun z => ?_) H1 s1))
      split at c7 <;> omega
    refine ifN c7 ?_
    refine ⟨_, rfl, _, rfl, _, _, rfl, _, _, rfl, rfl, _, rfl, ?_⟩
    by_cases c8 : 600 < (if q.wt > q.lv then q.wt else q.lv)
    · refine ifY c8 (fN _ (fa_level n1 c3 n2 fun z => ?_) H1 s1)
      split at c8 <;> omega
    refine ifN c8 ?_
    have c78 : (0 ≤ q.lv ∧ q.lv ≤ 600) ∧ 0 ≤ q.wt ∧ q.wt ≤ 600 := by
      split at c7 <;> split at c8 <;> omega
    refine nxL ?_
    dsimp only
    refine chain_g (a := 0) (x := q.tk) (b := 90000) (fun R h => h) (fun R h => ⟨_, rfl, h⟩) (fun R h => h) ?_
    by_cases c9 : 0 ≤ q.tk ∧ q.tk ≤ 90000
    rotate_left
    · rw [decide_eq_false c9]
      exact (if_pos rfl).mpr (fN _ (fa_tick n1 c3 n2 c78 c9) H1 s1)
    rw [decide_eq_true c9]
    refine (if_neg (fun z => Bool.noConfusion z)).mpr ?_
    refine nxL ?_
    dsimp only
    dsimp only [tRet, tIf]
    refine chain_g (a := 0) (x := q.lt) (b := 10000) (fun R h => h) (fun R h => ⟨_, rfl, h⟩) (fun R h => h) ?_
    have eL := fa_late n1 c3 n2 c78 c9
    by_cases c10 : 0 ≤ q.lt ∧ q.lt ≤ 10000
    · exact ifY c10 (fN _ (by rw [eL, if_pos c10]) H1 s1)
    · exact ifN c10 (fN _ (by rw [eL, if_neg c10]) H1 s1)

abbrev s_law_flaw : Stmt := top 59
theorem sc_law_flaw : FnScope ["chart", "requests", "index", "code", "request"] ["chart", "requests"] (defScope s_law_flaw) := ⟨rfl, rfl, rfl, by decide +kernel, rfl, by decide +kernel, by decide +kernel⟩
theorem ok_law_flaw {f : Addr} {fd : FuncData} (F : Fun K "_law_flaw" "_law_flaw" s_law_flaw f fd) (T : TxtA mg)
    (D_law_code : Def P w K mg base 2 "_law_code" ["chart", "request", "before"] (spCodeQ)) : FnOk P w K mg base CX0 3 f fd ["chart", "requests"] (spFlawQ) := by
  refine F.ok sc_law_flaw (fun vs H Q E h => ?_) (fun cdv A outer s H vs Q E hr h => ?_)
  · obtain ⟨_, _, _, _, rfl, _⟩ := h
    rfl
  · obtain ⟨ch, l, D, qs, rfl, C, R, ok, ql, k⟩ := h
    have hu := hu_of hr
    refine ⟨_, (pss_cons (ps_for PassesOwn.never rfl (pi_range1 (by rfl) T.range (pa_cons (pe_callB (r := rLenK K) call_len_seq (by rfl) T.len boot_len (pa_cons (pv 1) pa_nil)) pa_nil)) (pg_name (i := 2) sc_law_flaw.nd rfl (Or.inl rfl))
      (pss_cons (ps_set (i := 3) sc_law_flaw.nd rfl (Or.inl rfl) (pe_def D_law_code (hr.mono (by decide)) (by rfl) (pa_cons (pv 0) (pa_cons (pe_ix (r := rIxL K) ix_list (pv 1) (pv 2) (fun _ _ => rfl)) (pa_cons (pe_lc (own := [("request", 4)]) (g := gName 4) (by rfl) sc_law_flaw.nd (pi_list (pe_slice sl_list (pv 1) po_none (po_some (pv 2)))) (blkOk_by (own := [("request", 4)]) (N := ["chart", "requests", "index", "code", "request"]) (sc := defScope s_law_flaw) (by decide +kernel)) (fun _ _ _ _ _ => (pg_name (i := 4) sc_law_flaw.nd rfl (Or.inl rfl))) (fun _ _ _ _ _ => pts_nil) (fun _ _ _ _ _ => (pe_ix (r := rIxT K) ix_tup (pv 4) pe_int (fun _ _ => rfl)))) pa_nil)))))
    (pss_one (ps_if (pt_cmpR op_ne (pv 3) pe_str (nomark _)) (pss_one (ps_ret (pe_tup (pa_cons (pv 3) (pa_cons (pv 2) pa_nil)))))
      pss_nil))))
    (pss_one (ps_ret pe_non))), ?_⟩
    rw [show L2.start ["chart", "requests", "index", "code", "request"] [V.ref ch, V.ref l] = [some (V.ref ch), some (V.ref l), none, none, none] from rfl]
    refine ⟨_, rfl, _, _, rfl, .inl (.inl (.inl R.1)), _, rfl, by rw [List.length_map]; omega, by rw [List.length_map]; omega, for_range (n := ((qs.map fun q => V.ref q.a).length : Int).toNat) (fun i σ H2 => ∃ v2 v3 v4 : Option V, σ = [some (.ref ch), some (.ref l), v2, v3, v4] ∧ Same H H2 ∧ ∀ j, j < i → codR D qs j = "") ⟨_, _, _, rfl, Same.refl H, fun j h => absurd h (Nat.not_lt_zero j)⟩ ?_ ?_⟩
    · rintro i σ H2 hi ⟨v2, v3, v4, rfl, s2, hb⟩
      rw [List.length_map, Int.toNat_natCast] at hi
      refine nm ?_
      dsimp only [List.set]
      rw [Int.zero_add]
      have R2 := R.same s2
      have eq := rq_at hi
      generalize hq0 : qs.getD i rq0 = q at eq
      have hq := List.mem_of_getElem? eq
      have rz : (qs.map fun q => V.ref q.a)[i]? = some (.ref q.a) := by rw [List.getElem?_map, eq]; rfl
      have cd : codR D qs i = faultR D ((qs.take i).map (·.nm)) q := by unfold codR; rw [hq0]
      refine ⟨_, rfl, _, rfl, _, rfl, _, _, _, .ref q.a, rfl, rfl, .inl (.inl R2.1), atI_nat rz, _, rfl, _, rfl, _, rfl, l, _, rfl, .inl (.inl R2.1), fun p hp => ?_⟩
      rw [cut_min (fun q : Rq => V.ref q.a) qs (Int.natCast_nonneg i), Int.toNat_natCast]
      have z3 := same_new (o := .lst ((qs.take i).map fun q => V.ref q.a)) hp
      have hp3 : (upd H2 p (.lst ((qs.take i).map fun q => V.ref q.a))) p = some (.lst ((qs.take i).map fun q => V.ref q.a)) := upd_same
      have R3 := R2.same z3
      have s3 := s2.trans z3
      generalize upd H2 p (.lst ((qs.take i).map fun q => V.ref q.a)) = H3 at hp3 R3 s3 ⊢
      refine ⟨p, rfl, ⟨_, .inl (.inl hp3)⟩, fun B hB => ?_⟩
      refine lc_list (K := K) (a := p) (xs := (qs.take i).map fun q => V.ref q.a) (fun u H' => H' = upd H3 B (.lst ((((qs.take i).take u).map (·.nm)).map V.str))) rfl (fun u H' _ e => .inl (.inl (by rw [e, upd_ne (ne_of_none hp3 hB)]; exact hp3))) ?_ ?_
      · rintro u y H' hu1 rfl
        obtain ⟨q2, rfl, hq2, hul, htk⟩ := getMap hu1
        have r2 := (R3.2 q2 (List.mem_of_mem_take hq2)).r
        refine ⟨rfl, ?_⟩
        refine yes_if ?_
        refine ⟨_, rfl, _, _, _, _, rfl, rfl, .inl (.inl (by rw [upd_ne (ne_of_none r2 hB)]; exact r2)), rfl, ?_⟩
        refine ⟨_, upd_same, small1000 (by rw [List.length_map, List.length_map, List.length_take, List.length_take]; omega), ?_⟩
        rw [upd_upd, htk, List.map_append, List.map_append]
        rfl
      rintro H' rfl
      rw [List.take_of_length_le (by rw [List.length_map]; exact Nat.le_refl _)]
      have z4 := same_new (o := .lst (((qs.take i).map (·.nm)).map V.str)) hB
      have hB4 : (upd H3 B (.lst (((qs.take i).map (·.nm)).map V.str))) B = some (.lst (((qs.take i).map (·.nm)).map V.str)) := upd_same
      have R4 := R3.same z4
      have s4 := s3.trans z4
      generalize upd H3 B (.lst (((qs.take i).map (·.nm)).map V.str)) = H4 at hB4 R4 s4 ⊢
      refine ⟨ch, D, q, B, _, rfl, C.same s4, R4.2 q hq, ok q hq, hB4, fun H5 s5 => ?_⟩
      have s05 := s4.trans s5
      refine nm ?_
      dsimp only [List.set]
      refine ⟨_, rfl, rfl, _, rfl, ?_⟩
      by_cases e : faultR D ((qs.take i).map (·.nm)) q = ""
      · rw [decide_eq_true (congrArg V.str e)]
        refine (if_neg (fun z => Bool.noConfusion z)).mpr ?_
        refine nxL ?_
        refine ⟨_, _, _, rfl, s05, fun j hj => ?_⟩
        rcases Nat.lt_or_ge j i with z | z
        · exact hb j z
        · obtain rfl : j = i := by omega
          rw [cd]
          exact e
      · rw [decide_eq_false (fun z => e (V.str.inj z))]
        refine (if_pos rfl).mpr ?_
        refine ⟨_, rfl, _, rfl, szOk rfl, fun p5 hp5 => ?_⟩
        exact k _ _ (s05.trans (same_new hp5)) (.inr ⟨p5, _, i, rfl, ⟨hi, cd, e, hb⟩, upd_same⟩)
    · rintro σ H2 ⟨v2, v3, v4, rfl, s2, hb⟩
      rw [List.length_map, Int.toNat_natCast] at hb
      exact k .non H2 s2 (.inl ⟨rfl, hb⟩)

abbrev s_law_checked : Stmt := top 60
theorem sc_law_checked : FnScope ["chart", "requests", "e"] ["chart", "requests"] (defScope s_law_checked) := ⟨rfl, rfl, rfl, by decide +kernel, rfl, by decide +kernel, by decide +kernel⟩
theorem ok_law_checked {f CE_RequestError : Addr} {fd : FuncData} {TT : List Addr} (F : Fun K "_law_checked" "_law_checked" s_law_checked f fd) (T : TxtA mg) (XF : ErrF K CE_RequestError "code" "index")
    (D_RequestError : ErrD P w K mg base 1 "RequestError" CE_RequestError ["self", "code", "index"] (spCErrR CE_RequestError))
    (D_check_requests : DefX P w K mg base 5 "check_requests" ["chart", "requests"] (spCheckQ CE_RequestError TT)) : FnOk P w K mg base CX0 6 f fd ["chart", "requests"] (spCheckedQ TT) := by
  refine F.ok sc_law_checked (fun vs H Q E h => ?_) (fun cdv A outer s H vs Q E hr h => ?_)
  · obtain ⟨_, _, _, _, rfl, _⟩ := h
    rfl
  · obtain ⟨ch, l, D, qs, rfl, C, R, ok, ql, hT, k⟩ := h
    refine ⟨_, (pss_one (ps_try_as (i := 2) rfl rfl sc_law_checked.nd rfl rfl ⟨by rfl, by decide, .inl D_RequestError.gC⟩ takes0 (fun W pn xe tk ps => (pss_one (ps_ret (pe_defX D_check_requests (hr.mono (by decide)) (by rfl) tk (pa_cons (pv 0) (pa_cons (pv 1) pa_nil)))))) (fun a oe cls d pn hz hf => (pss_one (ps_ret (pe_tup (pa_cons (pe_xf XF.xf XF.a hz hf (pv 2)) (pa_cons (pe_xf XF.xf XF.b hz hf (pv 2)) pa_nil)))))))), ?_⟩
    rw [show L2.start ["chart", "requests", "e"] [V.ref ch, V.ref l] = [some (V.ref ch), some (V.ref l), none] from rfl]
    refine ⟨_, rfl, _, rfl, ch, l, D, qs, rfl, C, R, ok, ql, hT, fun no H1 s1 => k .non H1 s1 (.inl ⟨rfl, no⟩), fun cc i hf H1 dd s1 hd0 => ⟨true, D_RequestError.te, fun _ a ha => ?_, fun z => Bool.noConfusion z⟩⟩
    dsimp only [List.set]
    refine ⟨_, rfl, rfl, rfl, dd, _, _, rfl, upd_same, rfl, _, rfl, rfl, rfl, dd, _, _, rfl, upd_same, rfl, szOk rfl, fun p hp => ?_⟩
    exact k _ _ ((s1.trans (SameT.of (same_new hd0))).trans (SameT.of (same_new hp))) (.inr ⟨p, cc, i, rfl, hf, upd_same⟩)

abbrev s_law_request : Stmt := top 56
theorem sc_law_request : FnScope ["state", "chart", "name", "names", "kind", "start", "goal", "level", "wanted", "other"] ["state", "chart", "name"] (defScope s_law_request) := ⟨rfl, rfl, rfl, by decide +kernel, rfl, by decide +kernel, by decide +kernel⟩
theorem ok_law_request {f : Addr} {fd : FuncData} (F : Fun K "_law_request" "_law_request" s_law_request f fd) (T : TxtA mg)
    (D_law_draw : Def P w K mg base 1 "_law_draw" ["state", "bound"] (spDraw K))
    (D_law_pick : Def P w K mg base 2 "_law_pick" ["state", "things"] (spPick K))
    (D_law_kind : Def P w K mg base 3 "_law_kind" ["state"] (spKind22 K)) : FnOk P w K mg base CX0 4 f fd ["state", "chart", "name"] (spRequestR K) := by
  refine F.ok sc_law_request (fun vs H Q E h => ?_) (fun cdv A outer s H vs Q E hr h => ?_)
  · obtain ⟨_, _, _, _, _, rfl, _⟩ := h
    rfl
  · obtain ⟨d, c, ch, D, nmz, rfl, S, C, ce, n1, n2, nl, no, k⟩ := h
    have hu := hu_of hr
    refine ⟨_, (pss_cons (ps_set (i := 3) sc_law_request.nd rfl (Or.inl rfl) (pe_callB (call_sortedD rfl) (by rfl) T.sorted boot_sorted (pa_cons (pe_dget hu (pv 1) pe_str (fun _ _ => rfl)) pa_nil)))
    (pss_cons (ps_set (i := 4) sc_law_request.nd rfl (Or.inl rfl) (pe_def D_law_kind (hr.mono (by decide)) (by rfl) (pa_cons (pv 0) pa_nil)))
    (pss_cons (ps_set (i := 5) sc_law_request.nd rfl (Or.inr rfl) (pe_def D_law_pick (hr.mono (by decide)) (by rfl) (pa_cons (pv 0) (pa_cons (pv 3) pa_nil))))
    (pss_cons (ps_set (i := 6) sc_law_request.nd rfl (Or.inl rfl) (pe_def D_law_pick (hr.mono (by decide)) (by rfl) (pa_cons (pv 0) (pa_cons (pe_lc (own := [("other", 9)]) (g := gName 9) (by rfl) sc_law_request.nd (pi_list (pv 3)) (blkOk_by (own := [("other", 9)]) (N := ["state", "chart", "name", "names", "kind", "start", "goal", "level", "wanted", "other"]) (sc := defScope s_law_request) (by decide +kernel)) (fun _ _ _ _ _ => (pg_name (i := 9) sc_law_request.nd rfl (Or.inl rfl))) (fun _ _ _ _ _ => pts_one (pt_cmpR op_ne (pv 9) (pv 5) (nomark _))) (fun _ _ _ _ _ => (pv 9))) pa_nil))))
    (pss_cons (ps_set (i := 7) sc_law_request.nd rfl (Or.inl rfl) (pe_def D_law_pick (hr.mono (by decide)) (by rfl) (pa_cons (pv 0) (pa_cons (pe_lst (pa_cons pe_int (pa_cons pe_int (pa_cons pe_int (pa_cons pe_int (pa_cons pe_int pa_nil)))))) pa_nil))))
    (pss_cons (ps_set (i := 8) sc_law_request.nd rfl (Or.inl rfl) (pe_def D_law_pick (hr.mono (by decide)) (by rfl) (pa_cons (pv 0) (pa_cons (pe_lst (pa_cons (pv 7) (pa_cons (pv 7) (pa_cons pe_int (pa_cons pe_int (pa_cons pe_int pa_nil)))))) pa_nil))))
    (pss_one (ps_ret (pe_tup (pa_cons (pv 2) (pa_cons (pv 4) (pa_cons (pv 5) (pa_cons (pv 6) (pa_cons (pv 7) (pa_cons (pv 8) (pa_cons (pe_def D_law_draw (hr.mono (by decide)) (by rfl) (pa_cons (pv 0) (pa_cons pe_int pa_nil))) (pa_cons (pe_def D_law_draw (hr.mono (by decide)) (by rfl) (pa_cons (pv 0) (pa_cons pe_int pa_nil))) pa_nil))))))))))))))))), ?_⟩
    rw [show L2.start ["state", "chart", "name", "names", "kind", "start", "goal", "level", "wanted", "other"] [V.ref d, V.ref ch, V.str nmz] = [some (V.ref d), some (V.ref ch), some (V.str nmz), none, none, none, none, none, none, none] from rfl]
    obtain ⟨ks, hks, hnd, ks2, ks7, hpt, hsep⟩ := ce
    have kne : ks ≠ [] := fun z => by rw [z] at ks2; exact absurd ks2 (by decide)
    refine ⟨_, rfl, _, _, rfl, C.gf, D.fx, D.fs, ks, rfl, .inl C.fx, hks, (by omega), fun ys p hpm hso hp => ?_⟩
    have yl := hpm.length_eq
    have yne : ys ≠ [] := fun z => kne (by
      rw [z] at yl
      exact List.eq_nil_of_length_eq_zero yl.symm)
    have ynd : ys.Nodup := hpm.symm.nodup hnd
    have s6 := same_new (o := .lst (ys.map V.str)) hp
    have hp6 : (upd H p (.lst (ys.map V.str))) p = _ := upd_same
    have S6 := S.same s6
    have k6 := Keep.of (d := d) s6
    generalize upd H p (.lst (ys.map V.str)) = H6 at s6 hp6 S6 k6 ⊢
    have lny : (ys.map V.str).length ≤ 1000 := by rw [List.length_map]; omega
    have yne' : ys.map V.str ≠ [] := fun z => yne (List.map_eq_nil_iff.mp z)
    refine nm ?_
    dsimp only [List.set]
    refine ⟨_, rfl, d, c, rfl, S6, fun ka w sl fa lx ly H7 hka _ _ _ _ _ hk7 S7 kp7 => ?_⟩
    have hp7 := kp7.l S6 hp6
    have k7 := k6.trans kp7
    clear kp7 hp6 k6 s6 S6
    refine nm ?_
    dsimp only [List.set]
    refine ⟨_, rfl, _, rfl, d, c, _, _, rfl, S7, .inl (.inl hp7), yne', lny, fun v8 H8 hv8 S8 kp8 => ?_⟩
    obtain ⟨b1, hb1, rfl⟩ := List.mem_map.mp hv8
    have hp8 := kp8.l S7 hp7
    have hk8 := kp8.t S7 hk7
    have k8 := k7.trans kp8
    clear kp8 hp7 hk7 k7
    refine nm ?_
    dsimp only [List.set]
    refine ⟨_, rfl, _, rfl, p, rfl, ⟨_, .inl (.inl hp8)⟩, fun B hB => ?_⟩
    refine lc_list (K := K) (a := p) (xs := ys.map V.str) (fun u H' => ∃ gs : List Str, H' = upd H8 B (.lst (gs.map V.str)) ∧ gs = (ys.take u).filter (fun n => decide (n ≠ b1))) ⟨[], rfl, rfl⟩ (fun u H' _ ⟨_, e, _⟩ => .inl (.inl (by rw [e, upd_ne (ne_of_none hp8 hB)]; exact hp8))) ?_ ?_
    · rintro u y H' hu1 ⟨gs, rfl, hgs⟩
      obtain ⟨n, rfl, hn, hul, htk⟩ := getMap hu1
      refine ⟨rfl, ?_⟩
      refine ⟨_, rfl, _, rfl, rfl, _, rfl, ?_⟩
      by_cases e : n = b1
      · rw [decide_eq_true (congrArg V.str e)]
        refine iteF ?_
        exact ⟨gs, rfl, by rw [htk, List.filter_append, ← hgs, List.filter_cons_of_neg (by simpa using e)]; simp⟩
      · rw [decide_eq_false (fun w => e (V.str.inj w))]
        refine iteT ?_
        refine ⟨_, rfl, _, upd_same, small1000 (by
          rw [hgs, List.length_map]
          have h2 := List.length_filter_le (fun n : Str => decide (n ≠ b1)) (ys.take u)
          rw [List.length_take] at h2
          omega), gs ++ [n], by rw [upd_upd, List.map_append]; rfl, by rw [htk, List.filter_append, ← hgs, List.filter_cons_of_pos (by simpa using e)]; rfl⟩
    rintro H9 ⟨gs, rfl, hgs⟩
    rw [List.take_of_length_le (by rw [List.length_map]; exact Nat.le_refl _)] at hgs
    have gne : gs ≠ [] := two_other ynd (by omega) hgs
    have s9 := same_new (o := .lst (gs.map V.str)) hB
    have hB9 : (upd H8 B (.lst (gs.map V.str))) B = _ := upd_same
    have S9 := S8.same s9
    have hk9 := s9 _ _ hk8
    have k9 := k8.trans (Keep.of (d := d) s9)
    generalize upd H8 B (.lst (gs.map V.str)) = H9 at s9 hB9 S9 hk9 k9 ⊢
    clear s9 hk8 k8 hp8 S8
    have gl : (gs.map V.str).length ≤ 1000 := by
      rw [hgs, List.length_map]
      have h2 := List.length_filter_le (fun n : Str => decide (n ≠ b1)) ys
      omega
    refine ⟨d, c, _, _, rfl, S9, .inl (.inl hB9), (fun z => gne (List.map_eq_nil_iff.mp z)), gl, fun v10 H10 hv10 S10 kp10 => ?_⟩
    obtain ⟨b2, hb2, rfl⟩ := List.mem_map.mp hv10
    have hb2' : b2 ∈ ys := by
      rw [hgs] at hb2
      exact (List.mem_filter.mp hb2).1
    have hk10 := kp10.t S9 hk9
    have k10 := k9.trans kp10
    clear kp10 hk9 k9 S9 hB9
    refine nm ?_
    dsimp only [List.set]
    refine ⟨_, rfl, szOk rfl, fun p11 hp11 => ?_⟩
    refine ⟨d, c, _, _, rfl, S10.new hp11, .inl (.inl upd_same), (fun z => nomatch z), (by show 5 ≤ 1000; decide), fun v12 H12 hv12 S12 kp12 => ?_⟩
    obtain ⟨lv, rfl⟩ : ∃ z : Int, v12 = .int z := by
      simp only [List.mem_cons, List.not_mem_nil, or_false] at hv12
      rcases hv12 with rfl | rfl | rfl | rfl | rfl <;> exact ⟨_, rfl⟩
    have hk12 := kp12.t (S10.new hp11) (same_new hp11 _ _ hk10)
    have k12 := (k10.trans (Keep.of (d := d) (same_new hp11))).trans kp12
    clear kp12 hk10 k10 hp11 S10 hv12
    refine nm ?_
    dsimp only [List.set]
    refine ⟨_, rfl, _, rfl, _, rfl, szOk rfl, fun p13 hp13 => ?_⟩
    refine ⟨d, c, _, _, rfl, S12.new hp13, .inl (.inl upd_same), (fun z => nomatch z), (by show 5 ≤ 1000; decide), fun v14 H14 hv14 S14 kp14 => ?_⟩
    obtain ⟨wt, rfl⟩ : ∃ z : Int, v14 = .int z := by
      simp only [List.mem_cons, List.not_mem_nil, or_false] at hv14
      rcases hv14 with rfl | rfl | rfl | rfl | rfl <;> exact ⟨_, rfl⟩
    have hk14 := kp14.t (S12.new hp13) (same_new hp13 _ _ hk12)
    have k14 := (k12.trans (Keep.of (d := d) (same_new hp13))).trans kp14
    clear kp14 hk12 k12 hp13 S12 hv14
    refine nm ?_
    dsimp only [List.set]
    refine ⟨_, rfl, _, rfl, _, rfl, _, rfl, _, rfl, _, rfl, _, rfl, d, c, 12, rfl, S14, by decide, by decide, fun tk H15 _ _ S15 kp15 => ?_⟩
    refine ⟨_, rfl, d, c, 4, rfl, S15, by decide, by decide, fun lt H16 _ _ S16 kp16 => ?_⟩
    have hk16 := kp16.t S15 (kp15.t S14 hk14)
    have k16 := (k14.trans kp15).trans kp16
    refine ⟨szOk rfl, fun pq hpq => ?_⟩
    have s17 := same_new (o := .tup [.str nmz, .ref ka, .str b1, .str b2, .int lv, .int wt, .int tk, .int lt]) hpq
    exact k ⟨pq, ka, nmz, b1, b2, w, sl, fa, lx, ly, lv, wt, tk, lt⟩ _ ⟨upd_same, s17 _ _ hk16⟩ ⟨⟨nl, no⟩, (hpt b1 (hpm.mem_iff.mp hb1)).1, (hpt b2 (hpm.mem_iff.mp hb2')).1⟩ (S16.same s17) (k16.trans (Keep.of s17))

end
end Sk

set_option Elab.async false
set_option linter.all false
set_option maxRecDepth 100000
set_option maxHeartbeats 4000000
namespace Sk
open PySem PySem.Spec PyProof.Rows L2
theorem sum_bg {D : CD} {ns : List Str} : ∀ n : Nat, ((List.range n).map fun k => D.len (rn ns k) (rn ns (k + 1))).sum = bg D ns n
  | 0 => rfl
  | n + 1 => by
    rw [List.range_succ, List.map_append, List.sum_append, sum_bg n]
    show bg D ns n + (D.len _ _ + 0) = bg D ns n + D.len _ _
    rw [Int.add_zero]
theorem rCatT_mono {K : PySem.W.Frag} {x y : V} {H : Hp} {Q Q' : VK} (h : rCatT K x y H Q) (m : ∀ z H', Q z H' → Q' z H') : rCatT K x y H Q' := by
  obtain ⟨a, b, xs, ys, h1, h2, h3, h4, h5, h6, h7, h8⟩ := h
  exact ⟨a, b, xs, ys, h1, h2, h3, h4, h5, h6, fun e => m _ _ (h7 e), fun e p hp => m _ _ (h8 e p hp)⟩
theorem map_erase {α β : Type} (f : α → β) : ∀ (l : List α) (i : Nat), (l.map f).eraseIdx i = (l.eraseIdx i).map f
  | [], _ => rfl
  | x :: l, 0 => rfl
  | x :: l, i + 1 => by
    show f x :: (l.map f).eraseIdx i = f x :: (l.eraseIdx i).map f
    rw [map_erase f l i]
section
variable {P : Program} {w : World} {K : PySem.W.Frag} {mg : Str → Option Value} {base : Heap}
abbrev s_law_route_length : Stmt := top 47
theorem sc_law_route_length : FnScope ["lengths", "route", "k"] ["lengths", "route"] (defScope s_law_route_length) := ⟨rfl, rfl, rfl, by decide +kernel, rfl, by decide +kernel, by decide +kernel⟩
theorem ok_law_route_length {f : Addr} {fd : FuncData} (F : Fun K "_law_route_length" "_law_route_length" s_law_route_length f fd) (T : TxtA mg) : FnOk P w K mg base CX0 1 f fd ["lengths", "route"] (spRtLenL) := by
  refine F.ok sc_law_route_length (fun vs H Q E h => ?_) (fun cdv A outer s H vs Q E hr h => ?_)
  · obtain ⟨_, _, _, _, rfl, _⟩ := h
    rfl
  · obtain ⟨ld, r, D, ns, rfl, L, bd, hr0, R, k⟩ := h
    have hu := hu_of hr
    refine ⟨_, (pss_one (ps_ret (pe_callB (cr_sum rfl) (by rfl) T.sum boot_sum (pa_cons (pe_lc (own := [("k", 2)]) (g := gName 2) (by rfl) sc_law_route_length.nd (pi_range1 (by rfl) T.range (pa_cons (pe_op op_sub (pe_callB (r := rLenK K) call_len_seq (by rfl) T.len boot_len (pa_cons (pv 1) pa_nil)) pe_int) pa_nil)) (blkOk_by (own := [("k", 2)]) (N := ["lengths", "route", "k"]) (sc := defScope s_law_route_length) (by decide +kernel)) (fun _ _ _ _ _ => (pg_name (i := 2) sc_law_route_length.nd rfl (Or.inl rfl))) (fun _ _ _ _ _ => pts_nil) (fun _ _ _ _ _ => (pe_dget hu (pv 0) (pe_tup (pa_cons (pe_ix (r := rIxT K) ix_tup (pv 1) (pv 2) (fun _ _ => rfl)) (pa_cons (pe_ix (r := rIxT K) ix_tup (pv 1) (pe_op op_add (pv 2) pe_int) (fun _ _ => rfl)) pa_nil))) (fun _ _ => rfl)))) pa_nil)))), ?_⟩
    rw [show L2.start ["lengths", "route", "k"] [V.ref ld, V.ref r] = [some (V.ref ld), some (V.ref r), none] from rfl]
    have n2 := R.n2
    have n20 := R.n20
    refine ⟨_, rfl, _, _, rfl, (.inr (.inl (.inl hr0))), _, _, rfl, rfl, ?_⟩
    refine ⟨_, rfl, by rw [List.length_map]; omega, by rw [List.length_map]; omega, fun B hB => ?_⟩
    refine lc_range (lo := 0) (n := (((ns.map V.str).length : Int) - 1).toNat) (fun i H' => Same H H' ∧ H' B = some (.lst (((List.range i).map fun k => D.len (rn ns k) (rn ns (k + 1))).map V.int))) ⟨same_new hB, upd_same⟩ ?_ ?_
    · rintro i H' hi ⟨sm, hb⟩
      have hi : i + 1 < ns.length := by rw [List.length_map] at hi; omega
      have eu : 0 + (i : Int) + 1 = ((i + 1 : Nat) : Int) := by omega
      have hr1 := sm _ _ hr0
      refine ⟨rfl, ?_⟩
      refine ⟨_, rfl, _, rfl, _, rfl, _, _, _, .str (rn ns i), rfl, rfl, .inl (.inl hr1), atI0 (rn_at (by omega)), _, rfl, _, rfl, _, _, rfl, rfl, _, _, _, .str (rn ns (i + 1)), rfl, rfl, .inl (.inl hr1), (by rw [eu]; exact atI_nat (rn_at hi)), szOk rfl, fun q hq => ?_⟩
      have L2 := (L.same sm).same (same_new (o := .tup [.str (rn ns i), .str (rn ns (i + 1))]) hq)
      refine ⟨_, _, rfl, L2.g (R.ch i hi) upd_same, _, same_new hq _ _ hb, small1000 (by rw [List.length_map, List.length_map, List.length_range]; omega), fun b o e => ?_, ?_⟩
      · rw [upd_ne (ne_of_none e hB)]
        exact same_new hq _ _ (sm _ _ e)
      · rw [upd_same, List.range_succ, List.map_append, List.map_append]
        rfl
    rintro H' ⟨sm, hb⟩
    refine ⟨B, _, rfl, .inl (.inl hb), ?_⟩
    have e : (((ns.map V.str).length : Int) - 1).toNat = ns.length - 1 := by rw [List.length_map]; omega
    rw [e, sum_bg]
    exact k _ sm

end
end Sk

set_option Elab.async false
set_option linter.all false
set_option maxRecDepth 100000
set_option maxHeartbeats 4000000
namespace Sk
open PySem PySem.Spec PyProof.Rows L2 PySem.W
section
variable {P : Program} {w : World} {K : PySem.W.Frag} {mg : Str → Option Value} {base : Heap}
abbrev s_law_routes : Stmt := top 62
theorem sc_law_routes : FnScope ["chart", "start", "goal", "level", "found", "routes", "step", "longer", "route", "leg", "lengths", "each"] ["chart", "start", "goal", "level"] (defScope s_law_routes) := ⟨rfl, rfl, rfl, by decide +kernel, rfl, by decide +kernel, by decide +kernel⟩
theorem ok_law_routes {f : Addr} {fd : FuncData} (F : Fun K "_law_routes" "_law_routes" s_law_routes f fd) (T : TxtA mg)
    (D_law_lengths : Def P w K mg base 2 "_law_lengths" ["chart"] (spLens))
    (D_law_route_length : Def P w K mg base 1 "_law_route_length" ["lengths", "route"] (spRtLenL)) : FnOk P w K mg base CX0 3 f fd ["chart", "start", "goal", "level"] (spRoutesQ) := by
  refine F.ok sc_law_routes (fun vs H Q E h => ?_) (fun cdv A outer s H vs Q E hr h => ?_)
  · obtain ⟨_, _, _, _, _, _, rfl, _⟩ := h
    rfl
  · obtain ⟨ch, D, nn, st, g, lv, rfl, C0, O, k⟩ := h
    have hu := hu_of hr
    have hu60 := Nat.lt_of_le_of_lt (Nat.add_le_add_left (by decide : 60 ≤ 64) _) hr.units
    refine ⟨_, (pss_cons (ps_set (i := 4) sc_law_routes.nd rfl (Or.inl rfl) (pe_lst pa_nil))
    (pss_cons (ps_set (i := 5) sc_law_routes.nd rfl (Or.inl rfl) (pe_lst (pa_cons (pe_tup (pa_cons (pv 1) pa_nil)) pa_nil)))
    (pss_cons (ps_for PassesOwn.never rfl (pi_range1 (by rfl) T.range (pa_cons pe_int pa_nil)) (pg_name (i := 6) sc_law_routes.nd rfl (Or.inl rfl))
      (pss_cons (ps_set (i := 7) sc_law_routes.nd rfl (Or.inl rfl) (pe_lst pa_nil))
    (pss_cons (ps_for PassesOwn.never rfl (pi_list (pv 5)) (pg_name (i := 8) sc_law_routes.nd rfl (Or.inl rfl))
      (pss_one (ps_for PassesOwn.never rfl (pi_list (pe_dget hu (pv 0) pe_str (fun _ _ => rfl))) (pg_name (i := 9) sc_law_routes.nd rfl (Or.inl rfl))
      (pss_one (ps_if (PW.pt (pw_and (pt_cmpR op_eq (pe_ix (r := rIxT K) ix_tup (pv 9) pe_int (fun _ _ => rfl)) (pe_ix (r := rIxT K) ix_tup (pv 8) (pe_op op_sub (pe_callB (r := rLenK K) call_len_seq (by rfl) T.len boot_len (pa_cons (pv 8) pa_nil)) pe_int) (fun _ _ => rfl)) (nomark _)) (pw_and (pt_chain op_le op_le (pe_ix (r := rIxT K) ix_tup (pv 9) pe_int (fun _ _ => rfl)) (pv 3) (pe_ix (r := rIxT K) ix_tup (pv 9) pe_int (fun _ _ => rfl))) (pw_and1 (pt_cmpR op_notIn_seq (pe_ix (r := rIxT K) ix_tup (pv 9) pe_int (fun _ _ => rfl)) (pv 8) rfl))))) (pss_one (ps_expr (pe_bm PySem.F.plainAttrs_list PySem.F.slot_list_append PySem.F.type_list_append mt_append (pv 7) (pa_cons (pe_op op_catT (pv 8) (pe_tup (pa_cons (pe_ix (r := rIxT K) ix_tup (pv 9) pe_int (fun _ _ => rfl)) pa_nil))) pa_nil))))
      pss_nil)))))
    (pss_cons (ps_expr (pe_bm PySem.F.plainAttrs_list PySem.F.slot_list_extend PySem.F.type_list_extend mt_extend (pv 4) (pa_cons (pe_lc (own := [("route", 8)]) (g := gName 8) (by rfl) sc_law_routes.nd (pi_list (pv 7)) (blkOk_by (own := [("route", 8)]) (N := ["chart", "start", "goal", "level", "found", "routes", "step", "longer", "route", "leg", "lengths", "each"]) (sc := defScope s_law_routes) (by decide +kernel)) (fun _ _ _ _ _ => (pg_name (i := 8) sc_law_routes.nd rfl (Or.inl rfl))) (fun _ _ _ _ _ => pts_one (pt_cmpR op_eq (pe_ix (r := rIxT K) ix_tup (pv 8) (pe_op op_sub (pe_callB (r := rLenK K) call_len_seq (by rfl) T.len boot_len (pa_cons (pv 8) pa_nil)) pe_int) (fun _ _ => rfl)) (pv 2) (nomark _))) (fun _ _ _ _ _ => (pv 8))) pa_nil)))
    (pss_one (ps_setLc (i := 5) (own := [("route", 8)]) (g := gName 8) (by rfl) sc_law_routes.nd rfl rfl (sw_true rfl rfl rfl (by decide +kernel)) (pi_list (pv 7)) (blkOk_by (own := [("route", 8)]) (N := ["chart", "start", "goal", "level", "found", "routes", "step", "longer", "route", "leg", "lengths", "each"]) (sc := defScope s_law_routes) (by decide +kernel)) (fun _ _ _ _ _ => (pg_name (i := 8) sc_law_routes.nd rfl (Or.inl rfl))) (fun _ _ _ _ _ => pts_one (pt_cmpR op_ne (pe_ix (r := rIxT K) ix_tup (pv 8) (pe_op op_sub (pe_callB (r := rLenK K) call_len_seq (by rfl) T.len boot_len (pa_cons (pv 8) pa_nil)) pe_int) (fun _ _ => rfl)) (pv 2) (nomark _))) (fun _ _ _ _ _ => (pv 8))))))))
    (pss_cons (ps_set (i := 10) sc_law_routes.nd rfl (Or.inr rfl) (pe_def D_law_lengths (hr.mono (by decide)) (by rfl) (pa_cons (pv 0) pa_nil)))
    (pss_one (ps_ret (pe_lc (own := [("each", 11)]) (g := gName 11) (by rfl) sc_law_routes.nd (pi_list (pe_callB (cr_sortZ hu60) (by rfl) T.sorted boot_sorted (pa_cons (pe_lc (own := [("route", 8)]) (g := gName 8) (by rfl) sc_law_routes.nd (pi_list (pv 4)) (blkOk_by (own := [("route", 8)]) (N := ["chart", "start", "goal", "level", "found", "routes", "step", "longer", "route", "leg", "lengths", "each"]) (sc := defScope s_law_routes) (by decide +kernel)) (fun _ _ _ _ _ => (pg_name (i := 8) sc_law_routes.nd rfl (Or.inl rfl))) (fun _ _ _ _ _ => pts_nil) (fun _ _ _ _ _ => (pe_tup (pa_cons (pe_def D_law_route_length (hr.mono (by decide)) (by rfl) (pa_cons (pv 10) (pa_cons (pv 8) pa_nil))) (pa_cons (pe_callB (r := rLenK K) call_len_seq (by rfl) T.len boot_len (pa_cons (pv 8) pa_nil)) (pa_cons (pv 8) pa_nil)))))) pa_nil))) (blkOk_by (own := [("each", 11)]) (N := ["chart", "start", "goal", "level", "found", "routes", "step", "longer", "route", "leg", "lengths", "each"]) (sc := defScope s_law_routes) (by decide +kernel)) (fun _ _ _ _ _ => (pg_name (i := 11) sc_law_routes.nd rfl (Or.inl rfl))) (fun _ _ _ _ _ => pts_nil) (fun _ _ _ _ _ => (pe_ix (r := rIxT K) ix_tup (pv 11) pe_int (fun _ _ => rfl)))))))))), ?_⟩
    rw [show L2.start ["chart", "start", "goal", "level", "found", "routes", "step", "longer", "route", "leg", "lengths", "each"] [V.ref ch, V.str st, V.str g, V.int lv] = [some (V.ref ch), some (V.str st), some (V.str g), some (V.int lv), none, none, none, none, none, none, none, none] from rfl]
    refine ⟨szOk rfl, fun p1 hp1 => ?_⟩
    refine nm ?_
    dsimp only [List.set]
    refine ⟨_, rfl, szOk rfl, fun p2 hp2 => ?_⟩
    refine ⟨szOk rfl, fun p3 hp3 => ?_⟩
    refine nm ?_
    dsimp only [List.set]
    have b1 := same_new (o := .lst []) hp1
    have b2 := same_new (o := .tup [.str st]) hp2
    have b3 := same_new (o := .lst [.ref p2]) hp3
    have h3 := upd_same (H := upd (upd H p1 (.lst [])) p2 (.tup [.str st])) (a := p3) (o := .lst [.ref p2])
    have h2 := b3 _ _ (upd_same (H := upd H p1 (.lst [])) (a := p2) (o := .tup [.str st]))
    have h1 := b3 _ _ (b2 _ _ (upd_same (H := H) (a := p1) (o := .lst [])))
    have n31 : p3 ≠ p1 := (ne_of_none (b2 _ _ (upd_same (H := H) (a := p1) (o := .lst []))) hp3).symm
    have sm3 := (b1.trans b2).trans b3
    have np1 : H p1 = none := hp1
    generalize upd (upd (upd H p1 _) p2 _) p3 _ = H3 at h1 h2 h3 sm3 ⊢
    have cl := con_len (lv := lv) O
    refine ⟨_, rfl, by decide, by decide, for_range (n := 7) (fun i σ H2 => ∃ (v6 v7 v8 v9 : Option V) (fd zs : List Wy) (rt : Addr), σ = [some (.ref ch), some (.str st), some (.str g), some (.int lv), some (.ref p1), some (.ref rt), v6, v7, v8, v9, none, none] ∧ Same H H2 ∧ RtsAt H2 p1 fd ∧ RtsAt H2 rt zs ∧ rt ≠ p1 ∧ (∀ z ∈ zs, Gd nn z.2) ∧ mu (zs.map (·.2)) ≤ 1957 ∧ (fd.map (·.2) ++ (zs.map (·.2)).flatMap (desc D lv g (7 - i))).Perm (con D lv g [st]))
      ⟨_, _, _, _, [], [(p2, [st])], p3, rfl, sm3, ⟨h1, fun _ h => nomatch h⟩, ⟨h3, fun z hz => by rw [List.mem_singleton.mp hz]; exact h2⟩, n31, (fun z hz => by rw [List.mem_singleton.mp hz]; exact Gd.one O.sn), Nat.le_of_eq rfl, by rw [con_st O]; simp⟩ ?_ ?_⟩
    rotate_left
    · rintro σ H2 ⟨v6, v7, v8, v9, fd, zs, rt, rfl, sm, hf, hz, nr, hg, hm, pm⟩
      have e : (zs.map (·.2)).flatMap (desc D lv g (7 - 7)) = [] := by
        generalize zs.map (·.2) = l
        induction l with
        | nil => rfl
        | cons x l ih => rw [List.flatMap_cons, ih]; rfl
      rw [e, List.append_nil] at pm
      have hpz := pm
      clear hz nr hg hm pm e
      dsimp only
      have C2 := C0.same sm
      refine ⟨_, rfl, ch, D, rfl, C2, fun ld H13 hld L13 sm13 => ?_⟩
      refine nm ?_
      dsimp only [List.set]
      have hfl := sm13 _ _ hf.1
      have hft : ∀ z ∈ fd, H13 z.1 = some (.tup (z.2.map V.str)) := fun z hz => sm13 _ _ (hf.2 z hz)
      have C13 := C2.same sm13
      have s013 := sm.trans sm13
      have zok := con_ok O hpz
      have zl : fd.length ≤ 1957 := by
        have := con_len (lv := lv) O
        have h2 := hpz.length_eq
        rw [List.length_map] at h2
        omega
      have bd := C13.bd
      have rt : ∀ z ∈ fd, Route D z.2 := fun z hz => by
        obtain ⟨W, _, h1, h2, _⟩ := zok z.2 (List.mem_map.mpr ⟨z, hz, rfl⟩)
        exact ⟨h1, by omega, W.chain⟩
      refine ⟨_, rfl, p1, rfl, ⟨_, .inl (.inl hfl)⟩, fun B hB => ?_⟩
      refine lc_list (K := K) (a := p1) (xs := fd.map wref) (fun u H' => ∃ rk : List Wy, Same H13 H' ∧ WysAt H' B D rk ∧ rk.map (·.2) = (fd.take u).map (·.2)) ⟨[], same_new hB, ⟨upd_same, fun _ h => nomatch h⟩, rfl⟩ (fun u H' _ ⟨_, e, _⟩ => .inl (.inl (e _ _ hfl))) ?_ ?_
      · rintro u y H' hu1 ⟨rk, sm, W, hrk⟩
        obtain ⟨z, rfl, hz1, hul, htk⟩ := getMap hu1
        have hr := sm _ _ (hft z hz1)
        refine ⟨rfl, ?_⟩
        refine ⟨_, rfl, _, rfl, ld, z.1, D, z.2, rfl, L13.same sm, bd, hr, rt z hz1, fun H15 s15 => ?_⟩
        refine ⟨_, rfl, _, _, rfl, (.inr (.inl (.inl (s15 _ _ hr)))), _, rfl, szOk rfl, fun q hq => ?_⟩
        have s16 := same_new (o := .tup [.int (bg D z.2 (z.2.length - 1)), .int ((z.2.map V.str).length : Int), wref z]) hq
        have hq16 := upd_same (H := H15) (a := q) (o := .tup [.int (bg D z.2 (z.2.length - 1)), .int ((z.2.map V.str).length : Int), wref z])
        have W16 := (W.same s15).same s16
        have hr16 := s16 _ _ (s15 _ _ hr)
        have sm16 := (sm.trans s15).trans s16
        have rl : rk.length ≤ 1957 := by
          have := congrArg List.length hrk
          rw [List.length_map, List.length_map, List.length_take] at this
          omega
        refine ⟨_, W16.1, (by rw [List.length_map, sizeLine_eq]; omega), ?_⟩
        generalize upd H15 q _ = H16 at hq16 W16 hr16 sm16 ⊢
        have WY : WyAt H16 D q z.2 := ⟨z.1, by rw [hq16, List.length_map]; rfl, hr16⟩
        refine ⟨rk ++ [(q, z.2)], fun b o hb => ?_, ⟨?_, fun x hx => ?_⟩, ?_⟩
        · rw [upd_ne (ne_of_none hb hB)]
          exact sm16 _ _ hb
        · rw [upd_same, List.map_append]
          rfl
        · rcases List.mem_append.mp hx with m | m
          · exact (W16.2 x m).put W16.1
          · rw [List.mem_singleton.mp m]
            exact WY.put W16.1
        · rw [htk, List.map_append, List.map_append, hrk]
          rfl
      rintro H14 ⟨rk, s14, W14, hrk⟩
      rw [List.take_of_length_le (by rw [List.length_map]; exact Nat.le_refl _)] at hrk
      have C14 := C13.same s14
      have L14 := L13.same s14
      clear C13 L13
      have rkl : rk.length ≤ 1957 := by
        have := congrArg List.length hrk
        rw [List.length_map, List.length_map] at this
        omega
      dsimp only [tNil]
      refine ⟨B, rk.map (zd D), rfl, .inl (.inl (by rw [zd_fst]; exact W14.1)), (fun x hx => by
        obtain ⟨z, m, rfl⟩ := List.mem_map.mp hx
        exact (W14.2 z m).dp), (fun x hx y hy => by
        obtain ⟨z, m, rfl⟩ := List.mem_map.mp hx
        obtain ⟨v, m', rfl⟩ := List.mem_map.mp hy
        exact key_alike D _ _), (fun x hx => by
        obtain ⟨z, m, rfl⟩ := List.mem_map.mp hx
        exact ⟨⟨_, _, rfl⟩, key_depth D _⟩), fun fd' q pz' srt hq => ?_⟩
      obtain ⟨rk', prk, rfl⟩ := perm_map_inv pz'
      rw [zd_fst]
      have hSrt : Srt D (rk'.map (·.2)) := List.pairwise_map.mpr ((List.pairwise_map.mp srt).imp fun {x y} h => h)
      have hPm : (rk'.map (·.2)).Perm (con D lv g [st]) := ((prk.map (fun x : Wy => x.2)).trans (by rw [hrk])).trans hpz
      have W15 : ∀ z ∈ rk', WyAt H14 D z.1 z.2 := fun z m => W14.2 z (prk.mem_iff.mp m)
      have rkl' : rk'.length ≤ 1957 := by rw [prk.length_eq]; exact rkl
      have s15 := same_new (o := .lst (rk'.map wref)) hq
      have hq15 := upd_same (H := H14) (a := q) (o := .lst (rk'.map wref))
      have C15 := C14.same s15
      have L15 := L14.same s15
      generalize upd H14 q (.lst (rk'.map wref)) = H15 at s15 hq15 C15 L15 ⊢
      have W16 : ∀ z ∈ rk', WyAt H15 D z.1 z.2 := fun z m => (W15 z m).same s15
      have zok' := con_ok O hPm
      clear C14 L14 W14 W15
      refine ⟨q, rfl, ⟨_, .inl (.inl hq15)⟩, fun B3 hB3 => ?_⟩
      refine lc_list (K := K) (a := q) (xs := rk'.map wref) (fun u H' => ∃ ds : List Wy, H' = upd H15 B3 (.lst (ds.map wref)) ∧ (∀ z ∈ ds, H15 z.1 = some (.tup (z.2.map V.str))) ∧ ds.map (·.2) = (rk'.take u).map (·.2)) ⟨[], rfl, (fun _ h => nomatch h), rfl⟩ (fun u H' _ ⟨_, e, _⟩ => .inl (.inl (by rw [e, upd_ne (ne_of_none hq15 hB3)]; exact hq15))) ?_ ?_
      · rintro u y H' hu1 ⟨ds, rfl, hds, eds⟩
        obtain ⟨z, rfl, hz1, hul, htk⟩ := getMap hu1
        obtain ⟨r, w1, w2⟩ := W16 z hz1
        refine ⟨rfl, ?_⟩
        refine ⟨_, rfl, _, _, _, .ref r, rfl, rfl, .inl (.inl (same_new hB3 _ _ w1)), rfl, _, upd_same, (by
          have := congrArg List.length eds
          rw [List.length_map, List.length_map, List.length_take] at this
          rw [List.length_map, sizeLine_eq]
          omega), ds ++ [(r, z.2)], by rw [upd_upd, List.map_append]; rfl, (fun x hx => ?_), by rw [htk, List.map_append, List.map_append, eds]; rfl⟩
        rcases List.mem_append.mp hx with m | m
        · exact hds x m
        · rw [List.mem_singleton.mp m]
          exact w2
      rintro H16 ⟨ds, rfl, hds, eds⟩
      rw [List.take_of_length_le (by rw [List.length_map]; exact Nat.le_refl _)] at eds
      rw [← eds] at hSrt hPm zok'
      have dsl : ds.length ≤ 1957 := by
        have := congrArg List.length eds
        rw [List.length_map, List.length_map] at this
        omega
      have s16 := same_new (o := .lst (ds.map wref)) hB3
      have R16 : RtsAt (upd H15 B3 (.lst (ds.map wref))) B3 ds := ⟨upd_same, fun z hz => s16 _ _ (hds z hz)⟩
      have C16 := C15.same s16
      have L16 := L15.same s16
      generalize upd H15 B3 (.lst (ds.map wref)) = H16 at s16 R16 C16 L16 ⊢
      exact k ds B3 _ (((s013.trans s14).trans s15).trans s16) (Same.free ((s013.trans s14).trans s15) hB3) R16 hSrt hPm
    rintro i σ H2 hi ⟨v6, v7, v8, v9, fd, zs, rt, rfl, sm, hf, hz, nr, hg, hm, pm⟩
    have hfl : fd.length ≤ 1957 := by
      have := pm.length_eq
      rw [List.length_append, List.length_map] at this
      omega
    refine nm ?_
    dsimp only [List.set]
    refine ⟨szOk rfl, fun p7 hp7 => ?_⟩
    refine nm ?_
    dsimp only [List.set]
    have a1 := same_new (o := .lst []) hp7
    have h7 := upd_same (H := H2) (a := p7) (o := .lst [])
    generalize upd H2 p7 (.lst []) = H4 at a1 h7 ⊢
    have n71 : p7 ≠ p1 := (ne_of_none hf.1 hp7).symm
    have n7r : p7 ≠ rt := (ne_of_none hz.1 hp7).symm
    refine ⟨_, rfl, _, rfl, ⟨_, .inl (.inl (a1 _ _ hz.1))⟩, for_list (K := K) (a := rt) (xs := zs.map wref) (fun j σ H5 => ∃ (v6 v8 v9 : Option V) (lg : List Wy), σ = [some (.ref ch), some (.str st), some (.str g), some (.int lv), some (.ref p1), some (.ref rt), v6, some (.ref p7), v8, v9, none, none] ∧ Same H2 H5 ∧ RtsAt H5 p7 lg ∧ lg.map (·.2) = ((zs.take j).map (·.2)).flatMap (exts D lv))
      ⟨_, _, _, [], rfl, a1, ⟨h7, fun _ h => nomatch h⟩, rfl⟩ (fun i σ H5 _ ⟨_, _, _, _, _, s5, _⟩ => .inl (.inl (s5 _ _ hz.1))) ?_ ?_⟩
    · rintro j y σ H5 hj ⟨w6, w8, w9, lg, rfl, s5, L5, eL⟩
      obtain ⟨z, rfl, hz1, hzl, htk⟩ := getMap hj
      have G := hg z hz1
      have mj : mu ((zs.take j).map (·.2)) ≤ 1957 := by
        have := congrArg mu (congrArg (List.map (fun x : Wy => x.2)) (List.take_append_drop j zs))
        rw [List.map_append, mu_app] at this
        omega
      have fl : (((zs.take j).map (·.2)).flatMap (exts D lv)).length ≤ 1957 := Nat.le_trans (len_flat_le _ fun w hw => by
        obtain ⟨x, hx, rfl⟩ := List.mem_map.mp hw
        have := mu_exts (lv := lv) O.n (hg x (List.mem_of_mem_take hx))
        have := len_mu (exts D lv x.2)
        omega) mj
      refine nm ?_
      dsimp only [List.set]
      have C5 := (C0.same sm).same s5
      refine ⟨_, rfl, _, _, rfl, C5.gl, _, rfl, ⟨_, .inl (.inl C5.lg)⟩, for_list (K := K) (a := D.lg) (xs := D.ls.map fun l => V.ref l.a) (fun u σ H6 => ∃ (v9 : Option V) (lg : List Wy), σ = [some (.ref ch), some (.str st), some (.str g), some (.int lv), some (.ref p1), some (.ref rt), w6, some (.ref p7), some (.ref z.1), v9, none, none] ∧ Same H2 H6 ∧ RtsAt H6 p7 lg ∧ lg.map (·.2) = ((zs.take j).map (·.2)).flatMap (exts D lv) ++ ((D.ls.take u).filter (goes lv z.2)).map fun l => z.2 ++ [l.e])
        ⟨_, lg, rfl, s5, L5, by rw [eL, List.take_zero]; simp⟩ (fun i σ H6 _ ⟨_, _, _, s6, _⟩ => .inl (.inl ((C0.same sm).same s6).lg)) ?_ ?_⟩
      rotate_left
      · rintro σ H6 ⟨v9, lg, rfl, s6, L6, e6⟩
        rw [List.take_of_length_le (l := D.ls) (by rw [List.length_map]; exact Nat.le_refl _)] at e6
        exact ⟨_, _, _, lg, rfl, s6, L6, by
          rw [e6, htk, List.map_append, List.flatMap_append]
          refine congrArg _ ?_
          show _ = exts D lv z.2 ++ []
          rw [List.append_nil]
          rfl⟩
      rintro u y σ H6 hu1 ⟨v9, lg, rfl, s6, L6, e6⟩
      obtain ⟨l, rfl, hl, hul, htl⟩ := getMap hu1
      have C6 := (C0.same sm).same s6
      have ht := C6.lt l hl
      have hr6 := s6 _ _ (hz.2 z hz1)
      refine nm ?_
      dsimp only [List.set]
      have step : ∀ (b : Bool), goes lv z.2 l = b → ((D.ls.take (u + 1)).filter (goes lv z.2)).map (fun l => z.2 ++ [l.e]) = ((D.ls.take u).filter (goes lv z.2)).map (fun l => z.2 ++ [l.e]) ++ (if b = true then [z.2 ++ [l.e]] else []) := fun b hb => by
        rw [htl, List.filter_append, List.map_append]
        cases b with
        | true => rw [if_pos rfl, List.filter_cons_of_pos hb]; rfl
        | false => rw [if_neg Bool.false_ne_true, List.filter_cons_of_neg (by rw [hb]; exact Bool.false_ne_true)]; rfl
      have no : goes lv z.2 l = false → lg.map (·.2) = ((zs.take j).map (·.2)).flatMap (exts D lv) ++ ((D.ls.take (u + 1)).filter (goes lv z.2)).map fun l => z.2 ++ [l.e] := fun hb => by rw [step _ hb, e6]; simp
      refine ⟨_, rfl, _, _, _, .str l.s, rfl, rfl, .inl (.inl ht), rfl, _, rfl, _, rfl, _, _, rfl, (.inr (.inl (.inl hr6))), _, _, rfl, rfl, _, _, _, .str (lst z.2), rfl, rfl, .inl (.inl hr6), atI_lastn rfl (lst_get G.1), rfl, _, rfl, ite2 (fun e1 => ?_) (fun e1 => ?_)⟩
      rotate_left
      · exact ⟨_, lg, rfl, s6, L6, no (by
          unfold goes
          rw [decide_eq_false (fun z => e1 (decide_eq_true (congrArg V.str z)))]
          rfl)⟩
      have e1 := V.str.inj (of_decide_eq_true e1)
      have eg : goes lv z.2 l = (decide (l.e ∉ z.2) && decide (l.lo ≤ lv ∧ lv ≤ l.hi)) := by
        unfold goes opn
        rw [decide_eq_true e1]
        rfl
      refine ⟨_, rfl, _, _, _, .int l.lo, rfl, rfl, .inl (.inl ht), rfl, _, rfl, _, _, rfl, rfl, _, rfl, ite2 (fun e2 => ?_) (fun e2 => ?_)⟩
      rotate_left
      · exact ⟨_, rfl, ⟨_, lg, rfl, s6, L6, no (by rw [eg]; simp only [Bool.and_eq_false_iff, decide_eq_false_iff_not]; exact .inr fun w => e2 (decide_eq_true w.1))⟩⟩
      have e2 := of_decide_eq_true e2
      refine ⟨_, rfl, _, _, _, .int l.hi, rfl, rfl, .inl (.inl ht), rfl, _, _, rfl, rfl, _, rfl, ite2 (fun e3 => ?_) (fun e3 => ?_)⟩
      rotate_left
      · exact ⟨_, lg, rfl, s6, L6, no (by rw [eg]; simp only [Bool.and_eq_false_iff, decide_eq_false_iff_not]; exact .inr fun w => e3 (decide_eq_true w.2))⟩
      have e3 := of_decide_eq_true e3
      refine ⟨_, rfl, _, _, _, .str l.e, rfl, rfl, .inl (.inl ht), rfl, _, rfl, z.1, _, rfl, .inr (.inl (.inl hr6)), rfl, strs_flat z.2, ?_⟩
      rw [inV_strs]
      by_cases e4 : l.e ∈ z.2
      · rw [decide_eq_true e4]
        refine ⟨_, rfl, ?_⟩
        exact ⟨_, lg, rfl, s6, L6, no (by rw [eg, decide_eq_false (fun w => w e4), Bool.false_and])⟩
      rw [decide_eq_false e4]
      refine ⟨_, rfl, iteT ?_⟩
      have gt : goes lv z.2 l = true := by rw [eg, decide_eq_true e4, decide_eq_true ⟨e2, e3⟩]; rfl
      refine ⟨_, rfl, (.inl ⟨rfl, _, .inl (.inl L6.1)⟩), _, rfl, _, rfl, _, _, _, .str l.e, rfl, rfl, .inl (.inl ht), rfl, szOk rfl, fun q hq => ?_⟩
      have z1 := same_new (o := .tup [.str l.e]) hq
      have gl := G.len O.n
      refine ⟨z.1, q, _, _, rfl, rfl, .inl (.inl (z1 _ _ hr6)), .inl (.inl upd_same), (fun w => G.1 (List.map_eq_nil_iff.mp w)), (by rw [List.length_map, sizeLine_eq]; show z.2.length + 1 ≤ _; omega), (fun w => nomatch w), fun _ p2 hp2 => ?_⟩
      have z2 := same_new (o := .tup (z.2.map V.str ++ [.str l.e])) hp2
      have s8 := (s6.trans z1).trans z2
      have L8 := (L6.same z1).same z2
      have hp8 := upd_same (H := upd H6 q (.tup [.str l.e])) (a := p2) (o := .tup (z.2.map V.str ++ [.str l.e]))
      have ll : lg.length ≤ 2057 := by
        have h1 := congrArg List.length e6
        rw [List.length_append, List.length_map, List.length_map] at h1
        have h2 := List.length_filter_le (goes lv z.2) (D.ls.take u)
        rw [List.length_take] at h2
        have := C0.n
        omega
      refine ⟨_, _, _, rfl, rfl, L8.1, (by rw [List.length_map, sizeLine_eq]; omega), ?_⟩
      generalize upd (upd H6 q _) p2 _ = H8 at s8 L8 hp8 ⊢
      have hp9 : H8 p2 = some (.tup ((z.2 ++ [l.e]).map V.str)) := by rw [hp8, List.map_append]; rfl
      have L9 := L8.tup hp9 (lg ++ [(p2, z.2 ++ [l.e])]) fun x hx => by
        rcases List.mem_append.mp hx with m | m
        · exact .inr m
        · exact .inl (List.mem_singleton.mp m)
      rw [List.map_append] at L9
      refine ⟨_, lg ++ [(p2, z.2 ++ [l.e])], rfl, fun b o hb => ?_, by rw [List.map_append] at *; exact L9, ?_⟩
      · rw [upd_ne (ne_of_none hb hp7)]
        exact s8 _ _ hb
      · rw [step true gt, if_pos rfl, List.map_append, e6, List.append_assoc]
        rfl
    rintro σ H5 ⟨w6, w8, w9, lg, rfl, s5, L5, eL⟩
    rw [List.take_of_length_le (by rw [List.length_map]; exact Nat.le_refl _)] at eL
    have hgl : ∀ z ∈ lg, Gd nn z.2 := fun z hz => by
      have : z.2 ∈ (zs.map (·.2)).flatMap (exts D lv) := by rw [← eL]; exact List.mem_map.mpr ⟨z, hz, rfl⟩
      obtain ⟨w, hw, hv⟩ := List.mem_flatMap.mp this
      obtain ⟨x, hx, rfl⟩ := List.mem_map.mp hw
      exact (hg x hx).ext O.n hv
    have mL : mu (lg.map (·.2)) ≤ 1957 := by
      rw [eL]
      exact Nat.le_trans (mu_flat O.n _ fun w hw => by
        obtain ⟨x, hx, rfl⟩ := List.mem_map.mp hw
        exact hg x hx) hm
    have ll : lg.length ≤ 1957 := by
      have := len_mu (lg.map (·.2))
      rw [List.length_map] at this
      omega
    have F5 := hf.same s5
    refine ⟨_, rfl, (.inl ⟨rfl, _, .inl (.inl F5.1)⟩), _, rfl, p7, rfl, ⟨_, .inl (.inl L5.1)⟩, fun B hB => ?_⟩
    refine lc_list (K := K) (a := p7) (xs := lg.map wref) (fun u H' => ∃ fs : List Wy, H' = upd H5 B (.lst (fs.map wref)) ∧ fs = (lg.take u).filter (fun z => decide (lst z.2 = g))) ⟨[], rfl, rfl⟩ (fun u H' _ ⟨_, e, _⟩ => .inl (.inl (by rw [e, upd_ne (ne_of_none L5.1 hB)]; exact L5.1))) ?_ ?_
    · rintro u y H' hu1 ⟨fs, rfl, hfs⟩
      obtain ⟨z, rfl, hz1, hul, htk⟩ := getMap hu1
      have hr := same_new (o := .lst (fs.map wref)) hB _ _ (L5.2 z hz1)
      refine ⟨rfl, ?_⟩
      refine ⟨_, rfl, _, rfl, _, _, rfl, (.inr (.inl (.inl hr))), _, _, rfl, rfl, _, _, _, .str (lst z.2), rfl, rfl, .inl (.inl hr), atI_lastn rfl (lst_get (hgl z hz1).1), _, rfl, rfl, _, rfl, ?_⟩
      by_cases e : lst z.2 = g
      · rw [decide_eq_true (congrArg V.str e)]
        refine iteT ?_
        refine ⟨_, rfl, _, upd_same, (by
          rw [hfs, List.length_map, sizeLine_eq]
          have h2 := List.length_filter_le (fun z : Wy => decide (lst z.2 = g)) (lg.take u)
          rw [List.length_take] at h2
          omega), fs ++ [z], by rw [upd_upd, List.map_append]; rfl, by rw [htk, List.filter_append, ← hfs, List.filter_cons_of_pos (by simpa using e)]; rfl⟩
      · rw [decide_eq_false (fun w => e (V.str.inj w))]
        refine iteF ?_
        exact ⟨fs, rfl, by rw [htk, List.filter_append, ← hfs, List.filter_cons_of_neg (by simpa using e)]; simp⟩
    rintro H6 ⟨fs, rfl, hfs⟩
    rw [List.take_of_length_le (by rw [List.length_map]; exact Nat.le_refl _)] at hfs
    dsimp only [tNil]
    have fsl : fs.length ≤ 1957 := by
      have h2 := List.length_filter_le (fun z : Wy => decide (lst z.2 = g)) lg
      rw [hfs]
      omega
    have x1 := same_new (o := .lst (fs.map wref)) hB
    have nB1 : B ≠ p1 := (ne_of_none F5.1 hB).symm
    have F6 := F5.same x1
    have L6 := L5.same x1
    have Z6 := (hz.same s5).same x1
    have hB6 := upd_same (H := H5) (a := B) (o := .lst (fs.map wref))
    have sm6 := (sm.trans s5).trans x1
    have np7 := hp7
    generalize upd H5 B (.lst (fs.map wref)) = H6 at F6 L6 Z6 hB6 sm6 ⊢
    refine ⟨p1, B, _, _, rfl, rfl, F6.1, hB6, (by rw [List.length_map, List.length_map, sizeLine_eq]; omega), ?_⟩
    have fm : fd.map wref ++ fs.map wref = (fd ++ fs).map wref := by rw [List.map_append]
    rw [fm]
    have L7 := L6.put (o := .lst ((fd ++ fs).map wref)) F6.1 n71
    have F7 : RtsAt (upd H6 p1 (.lst ((fd ++ fs).map wref))) p1 (fd ++ fs) := ⟨upd_same, fun x hx => by
      have : H6 x.1 = some (.tup (x.2.map V.str)) := by
        rcases List.mem_append.mp hx with m | m
        · exact F6.2 x m
        · rw [hfs] at m
          exact L6.2 x (List.mem_filter.mp m).1
      rw [upd_ne (ne_of this F6.1 (by intro e; cases e))]
      exact this⟩
    have sm7 : Same H (upd H6 p1 (.lst ((fd ++ fs).map wref))) := fun b o hb => by
      rw [upd_ne (ne_of_none hb np1)]
      exact sm6 _ _ hb
    generalize upd H6 p1 (.lst ((fd ++ fs).map wref)) = H7 at L7 F7 sm7 ⊢
    refine ⟨_, rfl, p7, rfl, ⟨_, .inl (.inl L7.1)⟩, fun B2 hB2 => ?_⟩
    refine lc_list (K := K) (a := p7) (xs := lg.map wref) (fun u H' => ∃ gs : List Wy, H' = upd H7 B2 (.lst (gs.map wref)) ∧ gs = (lg.take u).filter (fun z => decide (lst z.2 ≠ g))) ⟨[], rfl, rfl⟩ (fun u H' _ ⟨_, e, _⟩ => .inl (.inl (by rw [e, upd_ne (ne_of_none L7.1 hB2)]; exact L7.1))) ?_ ?_
    · rintro u y H' hu1 ⟨gs, rfl, hgs⟩
      obtain ⟨z, rfl, hz1, hul, htk⟩ := getMap hu1
      have hr := same_new (o := .lst (gs.map wref)) hB2 _ _ (L7.2 z hz1)
      refine ⟨rfl, ?_⟩
      refine ⟨_, rfl, _, rfl, _, _, rfl, (.inr (.inl (.inl hr))), _, _, rfl, rfl, _, _, _, .str (lst z.2), rfl, rfl, .inl (.inl hr), atI_lastn rfl (lst_get (hgl z hz1).1), _, rfl, rfl, _, rfl, ?_⟩
      by_cases e : lst z.2 = g
      · rw [decide_eq_true (congrArg V.str e)]
        refine iteF ?_
        exact ⟨gs, rfl, by rw [htk, List.filter_append, ← hgs, List.filter_cons_of_neg (by simpa using e)]; simp⟩
      · rw [decide_eq_false (fun w => e (V.str.inj w))]
        refine iteT ?_
        refine ⟨_, rfl, _, upd_same, (by
          rw [hgs, List.length_map, sizeLine_eq]
          have h2 := List.length_filter_le (fun z : Wy => decide (lst z.2 ≠ g)) (lg.take u)
          rw [List.length_take] at h2
          omega), gs ++ [z], by rw [upd_upd, List.map_append]; rfl, by rw [htk, List.filter_append, ← hgs, List.filter_cons_of_pos (by simpa using e)]; rfl⟩
    rintro H8 ⟨gs, rfl, hgs⟩
    rw [List.take_of_length_le (by rw [List.length_map]; exact Nat.le_refl _)] at hgs
    have x2 := same_new (o := .lst (gs.map wref)) hB2
    have nB21 : B2 ≠ p1 := (ne_of_none F7.1 hB2).symm
    refine nm ?_
    dsimp only [List.set]
    have mapf : ∀ (q : List Str → Bool), (lg.filter (fun z => q z.2)).map (·.2) = (lg.map (·.2)).filter q := fun q => by rw [List.filter_map]; rfl
    have gmem : ∀ x ∈ gs, x ∈ lg := fun x hx => by rw [hgs] at hx; exact (List.mem_filter.mp hx).1
    refine ⟨_, _, _, _, fd ++ fs, gs, B2, rfl, sm7.trans x2, F7.same x2, ⟨upd_same, fun x hx => x2 _ _ (L7.2 x (gmem x hx))⟩, nB21, (fun x hx => hgl x (gmem x hx)), ?_, ?_⟩
    · rw [hgs, mapf (fun v => decide (lst v ≠ g))]
      exact Nat.le_trans (mu_filter _ _) mL
    · have := walk_step (D := D) (lv := lv) (g := g) (zs.map (·.2)) (fd.map (·.2)) (7 - (i + 1))
      rw [show 7 - (i + 1) + 1 = 7 - i by omega] at this
      rw [List.map_append, hfs, hgs, mapf (fun v => decide (lst v = g)), mapf (fun v => decide (lst v ≠ g)), eL]
      exact this.trans pm

end
end Sk

set_option Elab.async false
set_option linter.all false
set_option maxRecDepth 100000
set_option maxHeartbeats 4000000
namespace Sk
open PySem PySem.Spec PyProof.Rows L2 PySem.W
section
variable {P : Program} {w : World} {K : PySem.W.Frag} {mg : Str → Option Value} {base : Heap}
abbrev s_law_menu : Stmt := top 63
theorem sc_law_menu : FnScope ["chart", "request", "routes", "route", "holds", "at", "levels", "speeds", "options", "entry", "level", "speed", "k"] ["chart", "request"] (defScope s_law_menu) := ⟨rfl, rfl, rfl, by decide +kernel, rfl, by decide +kernel, by decide +kernel⟩
theorem ok_law_menu {f : Addr} {fd : FuncData} (F : Fun K "_law_menu" "_law_menu" s_law_menu f fd) (T : TxtA mg)
    (D_law_routes : Def P w K mg base 3 "_law_routes" ["chart", "start", "goal", "level"] (spRoutesQ)) : FnOk P w K mg base CX0 4 f fd ["chart", "request"] (spMenuL) := by
  refine F.ok sc_law_menu (fun vs H Q E h => ?_) (fun cdv A outer s H vs Q E hr h => ?_)
  · obtain ⟨_, _, _, _, _, _, rfl, _⟩ := h
    rfl
  · obtain ⟨ch, hd, D, hv, nn, q, rfl, C, A, O, R, k⟩ := h
    have hu := hu_of hr
    refine ⟨_, (pss_cons (ps_set (i := 2) sc_law_menu.nd rfl (Or.inl rfl) (pe_lst pa_nil))
    (pss_cons (ps_for PassesOwn.never rfl (pi_list (pe_slice sl_list (pe_def D_law_routes (hr.mono (by decide)) (by rfl) (pa_cons (pv 0) (pa_cons (pe_ix (r := rIxT K) ix_tup (pv 1) pe_int (fun _ _ => rfl)) (pa_cons (pe_ix (r := rIxT K) ix_tup (pv 1) pe_int (fun _ _ => rfl)) (pa_cons (pe_ix (r := rIxT K) ix_tup (pv 1) pe_int (fun _ _ => rfl)) pa_nil))))) po_none (po_some pe_int))) (pg_name (i := 3) sc_law_menu.nd rfl (Or.inr rfl))
      (pss_cons (ps_expr (pe_bm PySem.F.plainAttrs_list PySem.F.slot_list_append PySem.F.type_list_append mt_append (pv 2) (pa_cons (pv 3) pa_nil)))
    (pss_cons (ps_setLc (i := 4) (own := [("k", 12)]) (g := gName 12) (by rfl) sc_law_menu.nd rfl rfl (sw_true rfl rfl rfl (by decide +kernel)) (pi_range1 (by rfl) T.range (pa_cons (pe_op op_sub (pe_callB (r := rLenK K) call_len_seq (by rfl) T.len boot_len (pa_cons (pv 3) pa_nil)) pe_int) pa_nil)) (blkOk_by (own := [("k", 12)]) (N := ["chart", "request", "routes", "route", "holds", "at", "levels", "speeds", "options", "entry", "level", "speed", "k"]) (sc := defScope s_law_menu) (by decide +kernel)) (fun _ _ _ _ _ => (pg_name (i := 12) sc_law_menu.nd rfl (Or.inl rfl))) (fun _ _ _ _ _ => pts_one (pt_cmp (pc_din hu (pe_ix (r := rIxT K) ix_tup (pv 3) (pv 12) (fun _ _ => rfl)) (pe_dget hu (pv 0) pe_str (fun _ _ => rfl))))) (fun _ _ _ _ _ => (pv 12)))
    (pss_one (ps_if (pt_cmpR op_gt (pe_callB (r := rLenK K) call_len_seq (by rfl) T.len boot_len (pa_cons (pv 4) pa_nil)) pe_int (nomark _)) (pss_cons (ps_set (i := 5) sc_law_menu.nd rfl (Or.inl rfl) (pe_ix (r := rIxL K) ix_list (pv 4) pe_int (fun _ _ => rfl)))
    (pss_one (ps_expr (pe_bm PySem.F.plainAttrs_list PySem.F.slot_list_append PySem.F.type_list_append mt_append (pv 2) (pa_cons (pe_op op_catT (pe_op op_catT (pe_slice (r := rSlT K) sl_tup (pv 3) po_none (po_some (pe_op op_add (pv 5) pe_int))) (pe_tup (pa_cons (pe_dget hu (pe_dget hu (pv 0) pe_str (fun _ _ => rfl)) (pe_ix (r := rIxT K) ix_tup (pv 3) (pv 5) (fun _ _ => rfl)) (fun _ _ => rfl)) (pa_cons (pe_ix (r := rIxT K) ix_tup (pv 3) (pv 5) (fun _ _ => rfl)) pa_nil)))) (pe_slice (r := rSlT K) sl_tup (pv 3) (po_some (pe_op op_add (pv 5) pe_int)) po_none)) pa_nil)))))
      pss_nil)))))
    (pss_cons (ps_set (i := 6) sc_law_menu.nd rfl (Or.inl rfl) (pe_op op_cat (pe_lst (pa_cons (pe_ix (r := rIxT K) ix_tup (pv 1) pe_int (fun _ _ => rfl)) pa_nil)) (pe_lc (own := [("level", 10)]) (g := gName 10) (by rfl) sc_law_menu.nd (pi_list (pe_lst (pa_cons (pe_ix (r := rIxT K) ix_tup (pv 1) pe_int (fun _ _ => rfl)) pa_nil))) (blkOk_by (own := [("level", 10)]) (N := ["chart", "request", "routes", "route", "holds", "at", "levels", "speeds", "options", "entry", "level", "speed", "k"]) (sc := defScope s_law_menu) (by decide +kernel)) (fun _ _ _ _ _ => (pg_name (i := 10) sc_law_menu.nd rfl (Or.inl rfl))) (fun _ _ _ _ _ => pts_one (pt_cmpR op_ne (pv 10) (pe_ix (r := rIxT K) ix_tup (pv 1) pe_int (fun _ _ => rfl)) (nomark _))) (fun _ _ _ _ _ => (pv 10)))))
    (pss_cons (ps_set (i := 7) sc_law_menu.nd rfl (Or.inl rfl) (pe_op op_cat (pe_lst (pa_cons (pe_ix (r := rIxT K) ix_tup (pe_ix (r := rIxT K) ix_tup (pv 1) pe_int (fun _ _ => rfl)) pe_int (fun _ _ => rfl)) pa_nil)) (pe_lc (own := [("speed", 11)]) (g := gName 11) (by rfl) sc_law_menu.nd (pi_list (pe_lst (pa_cons (pe_ix (r := rIxT K) ix_tup (pe_ix (r := rIxT K) ix_tup (pv 1) pe_int (fun _ _ => rfl)) pe_int (fun _ _ => rfl)) pa_nil))) (blkOk_by (own := [("speed", 11)]) (N := ["chart", "request", "routes", "route", "holds", "at", "levels", "speeds", "options", "entry", "level", "speed", "k"]) (sc := defScope s_law_menu) (by decide +kernel)) (fun _ _ _ _ _ => (pg_name (i := 11) sc_law_menu.nd rfl (Or.inl rfl))) (fun _ _ _ _ _ => pts_one (pt_cmpR op_ne (pv 11) (pe_ix (r := rIxT K) ix_tup (pe_ix (r := rIxT K) ix_tup (pv 1) pe_int (fun _ _ => rfl)) pe_int (fun _ _ => rfl)) (nomark _))) (fun _ _ _ _ _ => (pv 11)))))
    (pss_cons (ps_set (i := 8) sc_law_menu.nd rfl (Or.inl rfl) (pe_lst pa_nil))
    (pss_cons (ps_for PassesOwn.never rfl (pi_list (pe_lst (pa_cons (pe_ix (r := rIxT K) ix_tup (pv 1) pe_int (fun _ _ => rfl)) (pa_cons (pe_op op_add (pe_ix (r := rIxT K) ix_tup (pv 1) pe_int (fun _ _ => rfl)) pe_int) pa_nil)))) (pg_name (i := 9) sc_law_menu.nd rfl (Or.inl rfl))
      (pss_one (ps_for PassesOwn.never rfl (pi_list (pv 2)) (pg_name (i := 3) sc_law_menu.nd rfl (Or.inr rfl))
      (pss_one (ps_for PassesOwn.never rfl (pi_list (pv 6)) (pg_name (i := 10) sc_law_menu.nd rfl (Or.inl rfl))
      (pss_one (ps_for PassesOwn.never rfl (pi_list (pv 7)) (pg_name (i := 11) sc_law_menu.nd rfl (Or.inl rfl))
      (pss_one (ps_expr (pe_bm PySem.F.plainAttrs_list PySem.F.slot_list_append PySem.F.type_list_append mt_append (pv 8) (pa_cons (pe_tup (pa_cons (pe_tup (pa_cons (pv 3) (pa_cons (pv 11) (pa_cons (pv 10) pa_nil)))) (pa_cons (pv 9) pa_nil))) pa_nil)))))))))))
    (pss_one (ps_ret (pv 8))))))))), ?_⟩
    rw [show L2.start ["chart", "request", "routes", "route", "holds", "at", "levels", "speeds", "options", "entry", "level", "speed", "k"] [V.ref ch, V.ref q.a] = [some (V.ref ch), some (V.ref q.a), none, none, none, none, none, none, none, none, none, none, none] from rfl]
    refine ⟨szOk rfl, fun pr hpr => ?_⟩
    have z1 := same_new (o := .lst []) hpr
    have R1 : RtsAt (upd H pr (.lst [])) pr [] := ⟨upd_same, fun z h => by cases h⟩
    have hR1 := z1 _ _ R.r
    generalize upd H pr (.lst []) = H1 at z1 R1 hR1 ⊢
    refine nm ?_
    dsimp only [List.set]
    refine ⟨_, rfl, _, rfl, _, _, _, _, rfl, rfl, .inl (.inl hR1), rfl, _, rfl, _, _, _, _, rfl, rfl, .inl (.inl hR1), rfl, _, rfl, _, _, _, _, rfl, rfl, .inl (.inl hR1), rfl, ch, D, nn, q.st, q.g, q.lv, rfl, C.same z1, O, fun zs pz H2 s2 npz ZA hS hP => ?_⟩
    refine ⟨_, rfl, pz, _, rfl, .inl (.inl ZA.1), fun p3 hp3 => ?_⟩
    rw [cut_min wref zs (by decide), show (2 : Int).toNat = 2 from rfl]
    have z3 := same_new (o := .lst ((zs.take 2).map wref)) hp3
    have F3 : RtsAt (upd H2 p3 (.lst ((zs.take 2).map wref))) p3 (zs.take 2) := ⟨upd_same, fun z hz => z3 _ _ (ZA.2 z (List.mem_of_mem_take hz))⟩
    have R3 := (R1.same s2).same z3
    have s3 := (z1.trans s2).trans z3
    have n3 : p3 ≠ pr := (ne_of_none (R1.same s2).1 hp3).symm
    generalize upd H2 p3 (.lst ((zs.take 2).map wref)) = H3 at F3 R3 s3 ⊢
    have fin := (con_ok O hP)
    have flen : ∀ z ∈ zs.take 2, 2 ≤ z.2.length ∧ z.2.length ≤ 7 := fun z hz => by
      obtain ⟨_, _, a, b, _⟩ := fin z.2 (List.mem_map.mpr ⟨z, List.mem_of_mem_take hz, rfl⟩)
      exact ⟨a, b⟩
    clear ZA z3 z1 s2 npz hp3 R1 hR1
    have t2 : (zs.take 2).length ≤ 2 := by rw [List.length_take]; omega
    generalize hw : zs.take 2 = ws at F3 flen t2 ⊢
    refine ⟨p3, rfl, ⟨_, .inl (.inl F3.1)⟩, for_list (K := K) (a := p3) (xs := ws.map wref) (fun i σ H4 => ∃ (v3 v4 v5 : Option V) (rs : List Wy), σ = [some (.ref ch), some (.ref q.a), some (.ref pr), v3, v4, v5, none, none, none, none, none, none, none] ∧ Same H H4 ∧ RtsAt H4 p3 ws ∧ RtsAt H4 pr rs ∧ rs.length ≤ 2 * i ∧ rs.map (·.2) = ((ws.take i).map (·.2)).flatMap (rtsR hv)) ⟨_, _, _, [], rfl, s3, F3, R3, Nat.le_refl _, rfl⟩ (fun i σ H4 _ ⟨_, _, _, _, _, _, F4, _⟩ => .inl (.inl F4.1)) ?_ ?_⟩
    · rintro i y σ H4 hy ⟨v3, v4, v5, rs, rfl, s4, F4, R4, rl, er⟩
      obtain ⟨z, rfl, hz, hil, htk⟩ := getMap hy
      obtain ⟨l2, l7⟩ := flen z hz
      refine nm ?_
      dsimp only [List.set]
      have hz4 := F4.2 z hz
      refine ⟨_, rfl, (.inl ⟨rfl, _, .inl (.inl R4.1)⟩), _, rfl, ⟨_, _, _, rfl, rfl, R4.1, (by rw [List.length_map, sizeLine_eq]; omega), ?_⟩⟩
      have R5 := R4.add hz4
      have F5 := F4.putl (xs := rs.map wref ++ [wref z]) R4.1 n3
      have s5 : Same H (upd H4 pr (.lst (rs.map wref ++ [wref z]))) := fun b ob hb => by
        rw [upd_ne (ne_of_none hb hpr)]
        exact s4 _ _ hb
      generalize upd H4 pr (.lst (rs.map wref ++ [wref z])) = H5 at R5 F5 s5 ⊢
      have hz5 := F5.2 z hz
      have A5 := A.same s5
      clear R4 F4 hz4 s4
      have e1 : (rs ++ [z]).map (·.2) = ((ws.take i).map (·.2)).flatMap (rtsR hv) ++ [z.2] := by rw [List.map_append, er]; rfl
      have e2 : ((ws.take (i + 1)).map (·.2)).flatMap (rtsR hv) = ((ws.take i).map (·.2)).flatMap (rtsR hv) ++ rtsR hv z.2 := by rw [htk, List.map_append, List.flatMap_append]; simp
      have ni : ((z.2.map V.str).length : Int) - 1 = ((z.2.length - 1 : Nat) : Int) := by rw [List.length_map]; omega
      refine ⟨_, rfl, _, _, rfl, (.inr (.inl (.inl hz5))), _, _, rfl, rfl, ?_⟩
      refine ⟨_, rfl, by rw [List.length_map]; omega, by rw [List.length_map]; omega, fun B hB => ?_⟩
      refine lc_range (lo := 0) (n := (((z.2.map V.str).length : Int) - 1).toNat) (fun u H' => H' = upd H5 B (.lst (((List.range u).filter fun k => (valV hv (.inr (rn z.2 k))).isSome).map fun (k : Nat) => V.int (k : Int)))) rfl ?_ ?_
      · rintro u H' hu rfl
        rw [ni, Int.toNat_natCast] at hu
        have s6 := same_new (o := .lst (((List.range u).filter fun k => (valV hv (.inr (rn z.2 k))).isSome).map fun (k : Nat) => V.int (k : Int))) hB
        have A6 := A5.same s6
        refine ⟨rfl, ?_⟩
        refine ⟨_, rfl, _, rfl, _, _, _, .str (rn z.2 u), rfl, rfl, .inl (.inl (s6 _ _ hz5)), atI0 (rn_at (by omega)), _, rfl, _, _, rfl, A6.gh, _, _, rfl, A6.g _, _, rfl, ?_⟩
        rw [Int.zero_add]
        cases ev : (valV hv (.inr (rn z.2 u))).isSome with
        | false =>
          refine iteF ?_
          rw [List.range_succ, List.filter_append, List.filter_cons_of_neg (by rw [ev]; exact Bool.false_ne_true)]
          simp
        | true =>
          refine iteT ?_
          refine ⟨_, rfl, _, upd_same, small1000 (by
            rw [List.length_map]
            have h2 := List.length_filter_le (fun k => (valV hv (.inr (rn z.2 k))).isSome) (List.range u)
            rw [List.length_range] at h2
            omega), ?_⟩
          rw [upd_upd, List.range_succ, List.filter_append, List.filter_cons_of_pos (by rw [ev]), List.map_append]
          rfl
      rintro H' rfl
      rw [ni, Int.toNat_natCast]
      have s6 := same_new (o := .lst (((List.range (z.2.length - 1)).filter fun k => (valV hv (.inr (rn z.2 k))).isSome).map fun (k : Nat) => V.int (k : Int))) hB
      have hB6 : (upd H5 B (.lst (((List.range (z.2.length - 1)).filter fun k => (valV hv (.inr (rn z.2 k))).isSome).map fun (k : Nat) => V.int (k : Int)))) B = some (.lst (((List.range (z.2.length - 1)).filter fun k => (valV hv (.inr (rn z.2 k))).isSome).map fun (k : Nat) => V.int (k : Int))) := upd_same
      generalize upd H5 B (.lst (((List.range (z.2.length - 1)).filter fun k => (valV hv (.inr (rn z.2 k))).isSome).map fun (k : Nat) => V.int (k : Int))) = H6 at s6 hB6 ⊢
      have R6 := R5.same s6
      have F6 := F5.same s6
      have A6 := A5.same s6
      have hz6 := s6 _ _ hz5
      have s06 := s5.trans s6
      clear R5 F5 A5 hz5 s5 s6 hB
      refine nm ?_
      dsimp only [List.set]
      cases eh : (List.range (z.2.length - 1)).filter fun k => (valV hv (.inr (rn z.2 k))).isSome with
      | nil =>
        rw [eh] at hB6
        refine ⟨_, rfl, _, _, rfl, .inl (.inl (.inl hB6)), _, _, rfl, rfl, _, rfl, ?_⟩
        refine iteF ?_
        refine nxL ?_
        refine ⟨_, _, _, rs ++ [z], rfl, s06, F6, R6, by rw [List.length_append]; show _ + 1 ≤ _; omega, ?_⟩
        have hl : loopR hv z.2 1 = .inl "hold" := loopR_hold (by decide) fun j hj => by
          have h := List.filter_eq_nil_iff.mp eh j (List.mem_range.mpr (by omega))
          cases e : valV hv (.inr (rn z.2 j)) with
          | none => rfl
          | some v => rw [e] at h; exact absurd rfl h
        rw [e2, e1]
        unfold rtsR
        rw [hl]
      | cons k0 kt =>
        obtain ⟨hk0, hp0, hf0⟩ := first_filter eh
        rw [eh] at hB6
        refine ⟨_, rfl, _, _, rfl, .inl (.inl (.inl hB6)), _, _, rfl, rfl, _, rfl, ?_⟩
        refine ifY (by rw [List.length_map, List.length_cons]; omega) ?_
        refine ⟨_, rfl, _, _, _, .int (k0 : Nat), rfl, rfl, .inl (.inl hB6), (show atI _ ((0 : Nat) : Int) = _ from atI_nat rfl), ?_⟩
        refine nm ?_
        dsimp only [List.set]
        obtain ⟨v, ev⟩ := Option.isSome_iff_exists.mp hp0
        obtain ⟨t, rfl, ht, hl1, hl2⟩ := A6.ok _ _ ev
        have hk1 : k0 + 1 < z.2.length := by omega
        have el := loopR_at (m := 1) (by decide) hk1 ev (fun j hj => by
          have h := hf0 j hj
          cases e : valV hv (.inr (rn z.2 j)) with
          | none => rfl
          | some v => rw [e] at h; cases h)
        rw [if_neg (by omega)] at el
        have eu : ((k0 : Nat) : Int) + 1 = ((k0 + 1 : Nat) : Int) := by omega
        have ri : atI (z.2.map V.str) ((k0 : Nat) : Int) = some (.str (rn z.2 k0)) := atI_nat (rn_at (by omega))
        refine ⟨_, rfl, (.inl ⟨rfl, _, .inl (.inl R6.1)⟩), ?_⟩
        refine ⟨_, rfl, _, rfl, _, _, rfl, rfl, _, rfl, z.1, _, rfl, .inl (.inl hz6), nw_take eu (by rw [List.length_map]; omega), fun p1 hp1 => ?_⟩
        rw [cut_take V.str eu (by omega)]
        have x1 := same_new (o := .tup ((z.2.take (k0 + 1)).map V.str)) hp1
        have hp1' : (upd H6 p1 (.tup ((z.2.take (k0 + 1)).map V.str))) p1 = some (.tup ((z.2.take (k0 + 1)).map V.str)) := upd_same
        generalize upd H6 p1 (.tup ((z.2.take (k0 + 1)).map V.str)) = H7 at x1 hp1' ⊢
        have A7 := A6.same x1
        have gt : DGet H7 hd (.str (rn z.2 k0)) (some (.str t)) := ev ▸ A7.g (rn z.2 k0)
        have tl : (z.2.take (k0 + 1)).length = k0 + 1 := by rw [List.length_take]; omega
        refine ⟨_, rfl, _, _, rfl, A7.gh, _, rfl, _, rfl, _, _, _, .str (rn z.2 k0), rfl, rfl, .inl (.inl (x1 _ _ hz6)), ri, _, _, rfl, gt, _, rfl, _, rfl, _, _, _, .str (rn z.2 k0), rfl, rfl, .inl (.inl (x1 _ _ hz6)), ri, szOk rfl, fun p2 hp2 => ?_⟩
        have x2 := same_new (o := .tup [.str t, .str (rn z.2 k0)]) hp2
        have hp2' : (upd H7 p2 (.tup [.str t, .str (rn z.2 k0)])) p2 = some (.tup ([t, rn z.2 k0].map V.str)) := upd_same
        have hp12 := x2 _ _ hp1'
        have y2 := x1.trans x2
        generalize upd H7 p2 (.tup [.str t, .str (rn z.2 k0)]) = H8 at y2 hp2' hp12 ⊢
        refine ⟨p1, p2, _, _, rfl, rfl, .inl (.inl hp12), .inl (.inl hp2'), (fun w => ?_), (by rw [List.length_map, List.length_map, tl, sizeLine_eq]; show _ + 2 ≤ _; omega), (fun w => nomatch w), fun _ p4 hp4 => ?_⟩
        · have := congrArg List.length w
          rw [List.length_map, tl] at this
          cases this
        rw [← List.map_append]
        have x4 := same_new (o := .tup ((z.2.take (k0 + 1) ++ [t, rn z.2 k0]).map V.str)) hp4
        have hp4' : (upd H8 p4 (.tup ((z.2.take (k0 + 1) ++ [t, rn z.2 k0]).map V.str))) p4 = some (.tup ((z.2.take (k0 + 1) ++ [t, rn z.2 k0]).map V.str)) := upd_same
        have y4 := y2.trans x4
        generalize upd H8 p4 (.tup ((z.2.take (k0 + 1) ++ [t, rn z.2 k0]).map V.str)) = H9 at y4 hp4' ⊢
        refine ⟨_, rfl, _, rfl, _, _, rfl, rfl, _, rfl, z.1, _, rfl, .inl (.inl (y4 _ _ hz6)), nw_drop eu (by omega) (by rw [List.length_map]; omega), fun p7 hp7 => ?_⟩
        rw [cut_drop V.str eu (by omega)]
        have x7 := same_new (o := .tup ((z.2.drop (k0 + 1)).map V.str)) hp7
        have hp7' : (upd H9 p7 (.tup ((z.2.drop (k0 + 1)).map V.str))) p7 = some (.tup ((z.2.drop (k0 + 1)).map V.str)) := upd_same
        have hp47 := x7 _ _ hp4'
        have y7 := y4.trans x7
        generalize upd H9 p7 (.tup ((z.2.drop (k0 + 1)).map V.str)) = HA at y7 hp7' hp47 ⊢
        have dl : (z.2.drop (k0 + 1)).length = z.2.length - (k0 + 1) := List.length_drop
        refine ⟨p4, p7, _, _, rfl, rfl, .inl (.inl hp47), .inl (.inl hp7'), (fun w => ?_), (by rw [List.length_map, List.length_map, List.length_append, tl, dl, sizeLine_eq]; show _ + 2 + _ ≤ _; omega), (fun w => ?_), fun _ p8 hp8 => ?_⟩
        · have := congrArg List.length w
          rw [List.length_map, List.length_append, tl] at this
          simp at this
        · have := congrArg List.length w
          rw [List.length_map, dl] at this
          simp only [List.length_nil] at this
          omega
        rw [← List.map_append]
        have x8 := same_new (o := .tup ((z.2.take (k0 + 1) ++ [t, rn z.2 k0] ++ z.2.drop (k0 + 1)).map V.str)) hp8
        have hp8' : (upd HA p8 (.tup ((z.2.take (k0 + 1) ++ [t, rn z.2 k0] ++ z.2.drop (k0 + 1)).map V.str))) p8 = some (.tup ((z.2.take (k0 + 1) ++ [t, rn z.2 k0] ++ z.2.drop (k0 + 1)).map V.str)) := upd_same
        have y8 := y7.trans x8
        generalize upd HA p8 (.tup ((z.2.take (k0 + 1) ++ [t, rn z.2 k0] ++ z.2.drop (k0 + 1)).map V.str)) = HB at y8 hp8' ⊢
        have RB := R6.same y8
        have FB := F6.same y8
        refine ⟨_, _, _, rfl, rfl, RB.1, (by rw [List.length_map, List.length_append, List.length_singleton, sizeLine_eq]; omega), ?_⟩
        refine ⟨_, _, _, (rs ++ [z]) ++ [(p8, z.2.take (k0 + 1) ++ [t, rn z.2 k0] ++ z.2.drop (k0 + 1))], rfl, fun b ob hb => ?_, FB.putl RB.1 n3, RB.add (z := (p8, z.2.take (k0 + 1) ++ [t, rn z.2 k0] ++ z.2.drop (k0 + 1))) hp8', by rw [List.length_append, List.length_append]; show _ + 1 + 1 ≤ _; omega, ?_⟩
        · rw [upd_ne (ne_of_none hb hpr)]
          exact y8 _ _ (s06 _ _ hb)
        · rw [e2, List.map_append, e1]
          unfold rtsR
          rw [el, List.append_assoc]
          rfl
    rintro σ H4 ⟨v3, v4, v5, rs, rfl, s4, F4, R4, rl, er⟩
    rw [List.length_map] at rl er
    rw [List.take_length] at er
    dsimp only
    have rl4 : rs.length ≤ 4 := by omega
    clear F4 F3 R3 s3 flen
    have hQ4 := s4 _ _ R.r
    have hK4 := s4 _ _ R.k
    refine ⟨_, rfl, _, _, _, _, rfl, rfl, .inl (.inl hQ4), rfl, szOk rfl, fun l6 hl6 => ?_⟩
    have a6 := same_new (o := .lst [V.int q.wt]) hl6
    have b6 : (upd H4 l6 (.lst [V.int q.wt])) l6 = some (.lst [V.int q.wt]) := upd_same
    generalize upd H4 l6 (.lst [V.int q.wt]) = G6 at a6 b6 ⊢
    refine ⟨_, rfl, _, _, _, _, rfl, rfl, .inl (.inl (a6 _ _ hQ4)), rfl, szOk rfl, fun k6 hk6 => ?_⟩
    have c6 := same_new (o := .lst [V.int q.lv]) hk6
    have d6 : (upd G6 k6 (.lst [V.int q.lv])) k6 = some (.lst [V.int q.lv]) := upd_same
    generalize upd G6 k6 (.lst [V.int q.lv]) = J6 at c6 d6 ⊢
    have s6a := (a6.trans c6)
    refine ⟨k6, rfl, ⟨_, .inl (.inl d6)⟩, fun B6 hB6 => ?_⟩
    refine lc_list (K := K) (a := k6) (xs := ([q.lv] : List Int).map V.int) (fun u H' => H' = upd J6 B6 (.lst (((([q.lv] : List Int).take u).filter (fun z => decide (z ≠ q.wt))).map V.int))) rfl (fun u H' _ e => .inl (.inl (by rw [e, upd_ne (ne_of_none d6 hB6)]; exact d6))) ?_ ?_
    · rintro u y' H' hu1 rfl
      obtain ⟨z, rfl, hz, hul, htk⟩ := getMap hu1
      refine ⟨rfl, ?_⟩
      refine ⟨_, rfl, _, rfl, _, _, _, _, rfl, rfl, .inl (.inl (same_new hB6 _ _ (s6a _ _ hQ4))), rfl, rfl, _, rfl, ?_⟩
      by_cases e : z = q.wt
      · rw [decide_eq_true (congrArg V.int e)]
        refine iteF ?_
        rw [htk, List.filter_append, List.filter_cons_of_neg (by simpa using e)]
        simp
      · rw [decide_eq_false (fun w => e (V.int.inj w))]
        refine iteT ?_
        refine ⟨_, rfl, _, upd_same, small1000 (by
          rw [List.length_map]
          have h2 := List.length_filter_le (fun z => decide (z ≠ q.wt)) (([q.lv] : List Int).take u)
          rw [List.length_take] at h2
          have : ([q.lv] : List Int).length = 1 := rfl
          omega), ?_⟩
        rw [upd_upd, htk, List.filter_append, List.filter_cons_of_pos (by simpa using e), List.map_append]
        rfl
    rintro H' rfl
    rw [show (([q.lv] : List Int).take (([q.lv] : List Int).map V.int).length) = [q.lv] from rfl]
    have e6 := same_new (o := .lst ((([q.lv] : List Int).filter (fun z => decide (z ≠ q.wt))).map V.int)) hB6
    refine ⟨l6, B6, _, _, rfl, rfl, e6 _ _ (c6 _ _ b6), upd_same, by
      rw [List.length_map, sizeLine_eq]
      have h2 := List.length_filter_le (fun z => decide (z ≠ q.wt)) ([q.lv] : List Int)
      show 1 + _ ≤ _
      have : ([q.lv] : List Int).length = 1 := rfl
      omega, fun p6 hp6 => ?_⟩
    rw [two_filter]
    have f6 := same_new (o := .lst ((two q.wt q.lv).map V.int)) hp6
    have g6 : (upd (upd J6 B6 (.lst ((([q.lv] : List Int).filter (fun z => decide (z ≠ q.wt))).map V.int))) p6 (.lst ((two q.wt q.lv).map V.int))) p6 = some (.lst ((two q.wt q.lv).map V.int)) := upd_same
    have s6 := (s6a.trans e6).trans f6
    generalize upd (upd J6 B6 (.lst ((([q.lv] : List Int).filter (fun z => decide (z ≠ q.wt))).map V.int))) p6 (.lst ((two q.wt q.lv).map V.int)) = H6 at g6 s6 ⊢
    clear a6 b6 c6 d6 e6 f6 s6a hl6 hk6 hB6 hp6
    refine nm ?_
    dsimp only [List.set]
    have hQ6 := s6 _ _ hQ4
    have hK6 := s6 _ _ hK4
    refine ⟨_, rfl, _, _, _, .ref q.ka, rfl, rfl, .inl (.inl hQ6), rfl, _, _, _, _, rfl, rfl, .inl (.inl hK6), rfl, szOk rfl, fun l7 hl7 => ?_⟩
    have a7 := same_new (o := .lst [V.int q.kf]) hl7
    have b7 : (upd H6 l7 (.lst [V.int q.kf])) l7 = some (.lst [V.int q.kf]) := upd_same
    generalize upd H6 l7 (.lst [V.int q.kf]) = G7 at a7 b7 ⊢
    refine ⟨_, rfl, _, _, _, .ref q.ka, rfl, rfl, .inl (.inl (a7 _ _ hQ6)), rfl, _, _, _, _, rfl, rfl, .inl (.inl (a7 _ _ hK6)), rfl, szOk rfl, fun k7 hk7 => ?_⟩
    have c7 := same_new (o := .lst [V.int q.ks]) hk7
    have d7 : (upd G7 k7 (.lst [V.int q.ks])) k7 = some (.lst [V.int q.ks]) := upd_same
    generalize upd G7 k7 (.lst [V.int q.ks]) = J7 at c7 d7 ⊢
    have s7a := (a7.trans c7)
    refine ⟨k7, rfl, ⟨_, .inl (.inl d7)⟩, fun B7 hB7 => ?_⟩
    refine lc_list (K := K) (a := k7) (xs := ([q.ks] : List Int).map V.int) (fun u H' => H' = upd J7 B7 (.lst (((([q.ks] : List Int).take u).filter (fun z => decide (z ≠ q.kf))).map V.int))) rfl (fun u H' _ e => .inl (.inl (by rw [e, upd_ne (ne_of_none d7 hB7)]; exact d7))) ?_ ?_
    · rintro u y' H' hu1 rfl
      obtain ⟨z, rfl, hz, hul, htk⟩ := getMap hu1
      refine ⟨rfl, ?_⟩
      refine ⟨_, rfl, _, rfl, _, _, _, .ref q.ka, rfl, rfl, .inl (.inl (same_new hB7 _ _ (s7a _ _ hQ6))), rfl, _, _, _, _, rfl, rfl, .inl (.inl (same_new hB7 _ _ (s7a _ _ hK6))), rfl, rfl, _, rfl, ?_⟩
      by_cases e : z = q.kf
      · rw [decide_eq_true (congrArg V.int e)]
        refine iteF ?_
        rw [htk, List.filter_append, List.filter_cons_of_neg (by simpa using e)]
        simp
      · rw [decide_eq_false (fun w => e (V.int.inj w))]
        refine iteT ?_
        refine ⟨_, rfl, _, upd_same, small1000 (by
          rw [List.length_map]
          have h2 := List.length_filter_le (fun z => decide (z ≠ q.kf)) (([q.ks] : List Int).take u)
          rw [List.length_take] at h2
          have : ([q.ks] : List Int).length = 1 := rfl
          omega), ?_⟩
        rw [upd_upd, htk, List.filter_append, List.filter_cons_of_pos (by simpa using e), List.map_append]
        rfl
    rintro H' rfl
    rw [show (([q.ks] : List Int).take (([q.ks] : List Int).map V.int).length) = [q.ks] from rfl]
    have e7 := same_new (o := .lst ((([q.ks] : List Int).filter (fun z => decide (z ≠ q.kf))).map V.int)) hB7
    refine ⟨l7, B7, _, _, rfl, rfl, e7 _ _ (c7 _ _ b7), upd_same, by
      rw [List.length_map, sizeLine_eq]
      have h2 := List.length_filter_le (fun z => decide (z ≠ q.kf)) ([q.ks] : List Int)
      show 1 + _ ≤ _
      have : ([q.ks] : List Int).length = 1 := rfl
      omega, fun p7 hp7 => ?_⟩
    rw [two_filter]
    have f7 := same_new (o := .lst ((two q.kf q.ks).map V.int)) hp7
    have g7 : (upd (upd J7 B7 (.lst ((([q.ks] : List Int).filter (fun z => decide (z ≠ q.kf))).map V.int))) p7 (.lst ((two q.kf q.ks).map V.int))) p7 = some (.lst ((two q.kf q.ks).map V.int)) := upd_same
    have s7 := (s7a.trans e7).trans f7
    generalize upd (upd J7 B7 (.lst ((([q.ks] : List Int).filter (fun z => decide (z ≠ q.kf))).map V.int))) p7 (.lst ((two q.kf q.ks).map V.int)) = H7 at g7 s7 ⊢
    clear a7 b7 c7 d7 e7 f7 s7a hl7 hk7 hB7 hp7
    refine nm ?_
    dsimp only [List.set]
    have g67 := s7 _ _ g6
    have R7 := (R4.same s6).same s7
    have s07 := (s4.trans s6).trans s7
    clear hQ4 hK4 hQ6 hK6 R4 s4 s6 s7 g6
    refine ⟨szOk rfl, fun po hpo => ?_⟩
    have z8 := same_new (o := .lst []) hpo
    have O8 : OptsAt (upd H7 po (.lst [])) po [] := ⟨upd_same, fun o h => by cases h⟩
    have R8 := R7.same z8
    have s8 := s07.trans z8
    have npo : H po = none := Same.free s07 hpo
    have nrp : pr ≠ po := ne_of_none R7.1 hpo
    have n6p : p6 ≠ po := ne_of_none g67 hpo
    have n7p : p7 ≠ po := ne_of_none g7 hpo
    have g6 := z8 _ _ g67
    have g7' := z8 _ _ g7
    generalize upd H7 po (.lst []) = H8 at O8 R8 s8 g6 g7' ⊢
    clear z8 hpo g67 g7 R7 s07
    refine nm ?_
    dsimp only [List.set]
    refine ⟨_, rfl, _, _, _, _, rfl, rfl, .inl (.inl (s8 _ _ R.r)), rfl, _, rfl, _, _, _, _, rfl, rfl, .inl (.inl (s8 _ _ R.r)), rfl, _, _, rfl, rfl, szOk rfl, fun l9 hl9 => ?_⟩
    have z9 := same_new (o := .lst (([q.tk, q.tk + 8] : List Int).map V.int)) hl9
    have O9 := O8.same z9
    have R9 := R8.same z9
    have s9 := s8.trans z9
    have h9 : (upd H8 l9 (.lst (([q.tk, q.tk + 8] : List Int).map V.int))) l9 = some (.lst (([q.tk, q.tk + 8] : List Int).map V.int)) := upd_same
    have n9p : l9 ≠ po := (ne_of_none O8.1 hl9).symm
    have g69 := z9 _ _ g6
    have g79 := z9 _ _ g7'
    have e9 : upd H8 l9 (.lst [V.int q.tk, V.int (q.tk + 8)]) = upd H8 l9 (.lst (([q.tk, q.tk + 8] : List Int).map V.int)) := rfl
    rw [e9]
    generalize upd H8 l9 (.lst (([q.tk, q.tk + 8] : List Int).map V.int)) = H9 at O9 R9 s9 h9 g69 g79 ⊢
    clear z9 hl9 O8 R8 s8 g6 g7' e9
    refine ⟨l9, rfl, ⟨_, .inl (.inl h9)⟩, for_list (K := K) (a := l9) (xs := ([q.tk, q.tk + 8] : List Int).map V.int) (fun i σ H5 => ∃ (v3 v4 v5 v9 v10 v11 v12 : Option V) (os : List Op), σ = [some (.ref ch), some (.ref q.a), some (.ref pr), v3, v4, v5, some (.ref p6), some (.ref p7), some (.ref po), v9, v10, v11, v12] ∧ Same H H5 ∧ H5 l9 = some (.lst (([q.tk, q.tk + 8] : List Int).map V.int)) ∧ H5 p6 = some (.lst ((two q.wt q.lv).map V.int)) ∧ H5 p7 = some (.lst ((two q.kf q.ks).map V.int)) ∧ RtsAt H5 pr rs ∧ OptsAt H5 po os ∧ os.length ≤ 16 * i ∧ os.map Op.d = (([q.tk, q.tk + 8] : List Int).take i).flatMap (F1 (rs.map (·.2)) (two q.wt q.lv) (two q.kf q.ks))) ⟨_, _, _, _, _, _, _, [], rfl, s9, h9, g69, g79, R9, O9, Nat.le_refl _, rfl⟩ (fun i σ H5 _ ⟨_, _, _, _, _, _, _, _, _, _, hl, _⟩ => .inl (.inl hl)) ?_ ?_⟩
    · rintro i y σ H5 hy ⟨v3, v4, v5, v9, v10, v11, v12, os, rfl, s5, l5, a5, b5, R5, O5, ol5, eo5⟩
      obtain ⟨e, rfl, he, hil, htk1⟩ := getMap hy
      have hil : i < 2 := hil
      refine nm ?_
      dsimp only [List.set]
      refine ⟨_, rfl, pr, rfl, ⟨_, .inl (.inl R5.1)⟩, for_list (K := K) (a := pr) (xs := rs.map wref) (fun u σ H6 => ∃ (v3 v4 v5 v10 v11 v12 : Option V) (os : List Op), σ = [some (.ref ch), some (.ref q.a), some (.ref pr), v3, v4, v5, some (.ref p6), some (.ref p7), some (.ref po), some (.int e), v10, v11, v12] ∧ Same H H6 ∧ H6 l9 = some (.lst (([q.tk, q.tk + 8] : List Int).map V.int)) ∧ H6 p6 = some (.lst ((two q.wt q.lv).map V.int)) ∧ H6 p7 = some (.lst ((two q.kf q.ks).map V.int)) ∧ RtsAt H6 pr rs ∧ OptsAt H6 po os ∧ os.length ≤ 16 * i + 4 * u ∧ os.map Op.d = ((([q.tk, q.tk + 8] : List Int).take i).flatMap (F1 (rs.map (·.2)) (two q.wt q.lv) (two q.kf q.ks))) ++ ((rs.take u).map (·.2)).flatMap (F2 e (two q.wt q.lv) (two q.kf q.ks))) ⟨_, _, _, _, _, _, os, rfl, s5, l5, a5, b5, R5, O5, ol5, by rw [eo5]; show _ = _ ++ []; rw [List.append_nil]⟩ (fun u σ H6 _ ⟨_, _, _, _, _, _, _, _, _, _, _, _, R6, _⟩ => .inl (.inl R6.1)) ?_ ?_⟩
      · rintro u y σ H6 hy6 ⟨v3, v4, v5, v10, v11, v12, os, rfl, s6, l6, a6, b6, R6, O6, ol6, eo6⟩
        obtain ⟨z, rfl, hz, hul, htk2⟩ := getMap hy6
        refine nm ?_
        dsimp only [List.set]
        generalize hg2 : ((([q.tk, q.tk + 8] : List Int).take i).flatMap (F1 (rs.map (·.2)) (two q.wt q.lv) (two q.kf q.ks))) ++ ((rs.take u).map (·.2)).flatMap (F2 e (two q.wt q.lv) (two q.kf q.ks)) = pre2 at eo6
        refine ⟨_, rfl, p6, rfl, ⟨_, .inl (.inl a6)⟩, for_list (K := K) (a := p6) (xs := (two q.wt q.lv).map V.int) (fun j σ H8 => ∃ (v4 v5 v10 v11 v12 : Option V) (os : List Op), σ = [some (.ref ch), some (.ref q.a), some (.ref pr), some (.ref z.1), v4, v5, some (.ref p6), some (.ref p7), some (.ref po), some (.int e), v10, v11, v12] ∧ Same H H8 ∧ H8 l9 = some (.lst (([q.tk, q.tk + 8] : List Int).map V.int)) ∧ H8 p6 = some (.lst ((two q.wt q.lv).map V.int)) ∧ H8 p7 = some (.lst ((two q.kf q.ks).map V.int)) ∧ RtsAt H8 pr rs ∧ OptsAt H8 po os ∧ os.length ≤ 16 * i + 4 * u + 2 * j ∧ os.map Op.d = pre2 ++ ((two q.wt q.lv).take j).flatMap (F3 e z.2 (two q.kf q.ks))) ⟨_, _, _, _, _, os, rfl, s6, l6, a6, b6, R6, O6, ol6, by rw [eo6]; show _ = _ ++ []; rw [List.append_nil]⟩ (fun j σ H8 _ ⟨_, _, _, _, _, _, _, _, _, hp8, _⟩ => .inl (.inl hp8)) ?_ ?_⟩
        · rintro j y σ H8 hy8 ⟨v4, v5, v10, v11, v12, os, rfl, s8, l8, a8, b8, R8, O8, ol8, eo8⟩
          obtain ⟨am, rfl, ham, hjl, htk3⟩ := getMap hy8
          have al2 := two_len q.wt q.lv
          refine nm ?_
          dsimp only [List.set]
          generalize hg3 : pre2 ++ ((two q.wt q.lv).take j).flatMap (F3 e z.2 (two q.kf q.ks)) = pre3 at eo8
          refine ⟨_, rfl, p7, rfl, ⟨_, .inl (.inl b8)⟩, for_list (K := K) (a := p7) (xs := (two q.kf q.ks).map V.int) (fun m σ HA => ∃ (v4 v5 v11 v12 : Option V) (os : List Op), σ = [some (.ref ch), some (.ref q.a), some (.ref pr), some (.ref z.1), v4, v5, some (.ref p6), some (.ref p7), some (.ref po), some (.int e), some (.int am), v11, v12] ∧ Same H HA ∧ HA l9 = some (.lst (([q.tk, q.tk + 8] : List Int).map V.int)) ∧ HA p6 = some (.lst ((two q.wt q.lv).map V.int)) ∧ HA p7 = some (.lst ((two q.kf q.ks).map V.int)) ∧ RtsAt HA pr rs ∧ OptsAt HA po os ∧ os.length ≤ 16 * i + 4 * u + 2 * j + m ∧ os.map Op.d = pre3 ++ ((two q.kf q.ks).take m).map fun s => (z.2, s, am, e)) ⟨_, _, _, _, os, rfl, s8, l8, a8, b8, R8, O8, ol8, by rw [eo8]; show _ = _ ++ []; rw [List.append_nil]⟩ (fun m σ HA _ ⟨_, _, _, _, _, _, _, _, _, hpA, _⟩ => .inl (.inl hpA)) ?_ ?_⟩
          · rintro m y σ HA hyA ⟨v4, v5, v11, v12, os, rfl, sA, lA, aA, bA, RA, OA, olA, eoA⟩
            obtain ⟨sp, rfl, hsp, hml, htk4⟩ := getMap hyA
            have sl2 := two_len q.kf q.ks
            refine nm ?_
            dsimp only [List.set]
            refine ⟨_, rfl, (.inl ⟨rfl, _, .inl (.inl OA.1)⟩), _, rfl, _, rfl, _, rfl, szOk rfl, fun tu htu => ?_⟩
            have y1 := same_new (o := .tup [.ref z.1, .int sp, .int am]) htu
            have hzA := y1 _ _ (RA.2 z hz)
            refine ⟨_, rfl, szOk rfl, fun tt htt => ?_⟩
            have y2 := same_new (o := .tup [.ref tu, .int e]) htt
            have hu2 := y2 _ _ (upd_same (H := HA) (a := tu) (o := .tup [.ref z.1, .int sp, .int am]))
            have hz2 := y2 _ _ hzA
            have ht2 : (upd (upd HA tu (.tup [.ref z.1, .int sp, .int am])) tt (.tup [.ref tu, .int e])) tt = some (.tup [.ref tu, .int e]) := upd_same
            have sB := y1.trans y2
            generalize upd (upd HA tu (.tup [.ref z.1, .int sp, .int am])) tt (.tup [.ref tu, .int e]) = HB at hu2 hz2 ht2 sB ⊢
            clear y1 y2 htu htt hzA
            have OB := OA.same sB
            have RB := RA.same sB
            have B : OpAt HB ⟨tt, tu, z.1, z.2, sp, am, e⟩ := ⟨ht2, hu2, hz2⟩
            refine ⟨_, _, _, rfl, rfl, OB.1, (by rw [List.length_map, sizeLine_eq]; omega), ?_⟩
            refine ⟨_, _, _, _, os ++ [⟨tt, tu, z.1, z.2, sp, am, e⟩], rfl, fun b ob hb => ?_, by rw [upd_ne n9p]; exact sB _ _ lA, by rw [upd_ne n6p]; exact sB _ _ aA, by rw [upd_ne n7p]; exact sB _ _ bA, RB.putl OB.1 nrp, OB.add B, by rw [List.length_append, List.length_singleton]; omega, ?_⟩
            · rw [upd_ne (ne_of_none hb npo)]
              exact sB _ _ (sA _ _ hb)
            · rw [List.map_append, eoA, htk4, List.map_append, List.append_assoc]
              rfl
          · rintro σ HA ⟨v4, v5, v11, v12, os, rfl, sA, lA, aA, bA, RA, OA, olA, eoA⟩
            have sl2 := two_len q.kf q.ks
            rw [List.length_map] at olA eoA
            refine ⟨_, _, _, _, _, os, rfl, sA, lA, aA, bA, RA, OA, by omega, ?_⟩
            rw [eoA, List.take_length, htk3, List.flatMap_append, ← List.append_assoc, hg3]
            simp [F3]
        · rintro σ H8 ⟨v4, v5, v10, v11, v12, os, rfl, s8, l8, a8, b8, R8, O8, ol8, eo8⟩
          have al2 := two_len q.wt q.lv
          rw [List.length_map] at ol8 eo8
          refine ⟨_, _, _, _, _, _, os, rfl, s8, l8, a8, b8, R8, O8, by omega, ?_⟩
          rw [eo8, List.take_length, htk2, List.map_append, List.flatMap_append, ← List.append_assoc, hg2]
          simp [F2]
      · rintro σ H6 ⟨v3, v4, v5, v10, v11, v12, os, rfl, s6, l6, a6, b6, R6, O6, ol6, eo6⟩
        rw [List.length_map] at ol6 eo6
        refine ⟨_, _, _, _, _, _, _, os, rfl, s6, l6, a6, b6, R6, O6, by omega, ?_⟩
        rw [eo6, List.take_length, htk1, List.flatMap_append]
        simp [F1]
    · rintro σ H5 ⟨v3, v4, v5, v9, v10, v11, v12, os, rfl, s5, l5, a5, b5, R5, O5, ol5, eo5⟩
      refine ⟨_, rfl, k ((zs.map (·.2)).take 2) os po H5 s5 npo O5 ⟨_, hS, hP, rfl⟩ ?_⟩
      rw [eo5, er, ← hw, List.map_take]
      unfold optsL
      rw [Int.add_zero]
      rfl

end
end Sk

set_option Elab.async false
set_option linter.all false
set_option maxRecDepth 100000
set_option maxHeartbeats 4000000
namespace Sk
open PySem PySem.Spec PyProof.Rows L2 PySem.W
section
variable {P : Program} {w : World} {K : PySem.W.Frag} {mg : Str → Option Value} {base : Heap}
abbrev s_law_spoil : Stmt := top 61
theorem sc_law_spoil : FnScope ["state", "chart", "requests", "at", "request", "kind", "numbers"] ["state", "chart", "requests"] (defScope s_law_spoil) := ⟨rfl, rfl, rfl, by decide +kernel, rfl, by decide +kernel, by decide +kernel⟩
theorem ok_law_spoil {f : Addr} {fd : FuncData} (F : Fun K "_law_spoil" "_law_spoil" s_law_spoil f fd) (T : TxtA mg)
    (D_law_draw : Def P w K mg base 1 "_law_draw" ["state", "bound"] (spDraw K))
    (D_law_pick : Def P w K mg base 2 "_law_pick" ["state", "things"] (spPick K)) : FnOk P w K mg base CX0 3 f fd ["state", "chart", "requests"] (spSpoilQ K) := by
  refine F.ok sc_law_spoil (fun vs H Q E h => ?_) (fun cdv A outer s H vs Q E hr h => ?_)
  · obtain ⟨_, _, _, _, _, rfl, _⟩ := h
    rfl
  · obtain ⟨d, c, ch, l, qs, rfl, S, R, ok, ne, ql, nld, nlc, k⟩ := h
    have hu := hu_of hr
    refine ⟨_, (pss_cons (ps_set (i := 3) sc_law_spoil.nd rfl (Or.inl rfl) (pe_def D_law_draw (hr.mono (by decide)) (by rfl) (pa_cons (pv 0) (pa_cons (pe_callB (r := rLenK K) call_len_seq (by rfl) T.len boot_len (pa_cons (pv 2) pa_nil)) pa_nil))))
    (pss_cons (ps_set (i := 4) sc_law_spoil.nd rfl (Or.inl rfl) (pe_callTy call_list_of (by rfl) T.list boot_list (pa_cons (pe_ix (r := rIxL K) ix_list (pv 2) (pv 3) (fun _ _ => rfl)) pa_nil)))
    (pss_cons (ps_set (i := 5) sc_law_spoil.nd rfl (Or.inl rfl) (pe_def D_law_draw (hr.mono (by decide)) (by rfl) (pa_cons (pv 0) (pa_cons pe_int pa_nil))))
    (pss_cons (ps_if (pt_cmpR op_eq (pv 5) pe_int (nomark _)) (pss_one (ps_asg (pe_def D_law_pick (hr.mono (by decide)) (by rfl) (pa_cons (pv 0) (pa_cons (pe_lst (pa_cons pe_str (pa_cons pe_str (pa_cons pe_str (pa_cons pe_str (pa_cons pe_str (pa_cons (pe_ix (r := rIxT K) ix_tup (pe_ix (r := rIxL K) ix_list (pv 2) pe_int (fun _ _ => rfl)) pe_int (fun _ _ => rfl)) (pa_cons pe_str pa_nil)))))))) pa_nil))) (pg_sub (pv 4) pe_int set_list)))
      pss_nil)
    (pss_cons (ps_if (pt_cmpR op_eq (pv 5) pe_int (nomark _)) (pss_cons (ps_set (i := 6) sc_law_spoil.nd rfl (Or.inl rfl) (pe_callTy call_list_of (by rfl) T.list boot_list (pa_cons (pe_ix (r := rIxL K) ix_list (pv 4) pe_int (fun _ _ => rfl)) pa_nil)))
    (pss_cons (ps_asg (pe_def D_law_pick (hr.mono (by decide)) (by rfl) (pa_cons (pv 0) (pa_cons (pe_lst (pa_cons (pe_un un_neg pe_int) (pa_cons pe_int (pa_cons pe_int (pa_cons pe_int (pa_cons pe_int pa_nil)))))) pa_nil))) (pg_sub (pv 6) (pe_def D_law_draw (hr.mono (by decide)) (by rfl) (pa_cons (pv 0) (pa_cons pe_int pa_nil))) set_list))
    (pss_one (ps_asg (pe_callTy call_tuple_of (by rfl) T.tuple boot_tuple (pa_cons (pv 6) pa_nil)) (pg_sub (pv 4) pe_int set_list)))))
      pss_nil)
    (pss_cons (ps_if (pt_cmpR op_eq (pv 5) pe_int (nomark _)) (pss_one (ps_asg (pe_def D_law_pick (hr.mono (by decide)) (by rfl) (pa_cons (pv 0) (pa_cons (pe_lst (pa_cons (pe_ix (r := rIxL K) ix_list (pv 4) pe_int (fun _ _ => rfl)) (pa_cons pe_str pa_nil))) pa_nil))) (pg_sub (pv 4) pe_int set_list)))
      pss_nil)
    (pss_cons (ps_if (pt_cmpR op_eq (pv 5) pe_int (nomark _)) (pss_one (ps_asg (pe_def D_law_pick (hr.mono (by decide)) (by rfl) (pa_cons (pv 0) (pa_cons (pe_lst (pa_cons (pe_ix (r := rIxL K) ix_list (pv 4) pe_int (fun _ _ => rfl)) (pa_cons pe_str pa_nil))) pa_nil))) (pg_sub (pv 4) pe_int set_list)))
      pss_nil)
    (pss_cons (ps_if (pt_cmpR op_eq (pv 5) pe_int (nomark _)) (pss_one (ps_asg (pe_def D_law_pick (hr.mono (by decide)) (by rfl) (pa_cons (pv 0) (pa_cons (pe_lst (pa_cons (pe_un un_neg pe_int) (pa_cons pe_int (pa_cons pe_int (pa_cons pe_int pa_nil))))) pa_nil))) (pg_sub (pv 4) (pe_op op_add pe_int (pe_def D_law_draw (hr.mono (by decide)) (by rfl) (pa_cons (pv 0) (pa_cons pe_int pa_nil)))) set_list)))
      pss_nil)
    (pss_cons (ps_if (pt_cmpR op_eq (pv 5) pe_int (nomark _)) (pss_one (ps_asg (pe_def D_law_pick (hr.mono (by decide)) (by rfl) (pa_cons (pv 0) (pa_cons (pe_lst (pa_cons (pe_un un_neg pe_int) (pa_cons pe_int (pa_cons pe_int (pa_cons pe_int pa_nil))))) pa_nil))) (pg_sub (pv 4) pe_int set_list)))
      pss_nil)
    (pss_cons (ps_if (pt_cmpR op_eq (pv 5) pe_int (nomark _)) (pss_one (ps_asg (pe_def D_law_pick (hr.mono (by decide)) (by rfl) (pa_cons (pv 0) (pa_cons (pe_lst (pa_cons (pe_un un_neg pe_int) (pa_cons pe_int (pa_cons pe_int (pa_cons pe_int pa_nil))))) pa_nil))) (pg_sub (pv 4) pe_int set_list)))
      pss_nil)
    (pss_one (ps_asg (pe_callTy call_tuple_of (by rfl) T.tuple boot_tuple (pa_cons (pv 4) pa_nil)) (pg_sub (pv 2) (pv 3) set_list))))))))))))), ?_⟩
    rw [show L2.start ["state", "chart", "requests", "at", "request", "kind", "numbers"] [V.ref d, V.ref ch, V.ref l] = [some (V.ref d), some (V.ref ch), some (V.ref l), none, none, none, none] from rfl]
    have lq : 0 < qs.length := List.length_pos_iff.mpr ne
    refine ⟨_, rfl, _, rfl, _, _, rfl, .inl (.inl (.inl R.1)), d, c, _, rfl, S, by rw [List.length_map]; omega, by rw [List.length_map]; omega, fun ia H1 ia0 ia1 S1 k1 => ?_⟩
    rw [List.length_map] at ia1
    obtain ⟨i, rfl⟩ : ∃ i : Nat, ia = i := ⟨ia.toNat, by omega⟩
    have il : i < qs.length := by omega
    have R1 := R.keep S k1
    refine nm ?_
    dsimp only [List.set]
    have eqi := rq_at il
    generalize hqi : qs.getD i rq0 = qi at eqi
    have hqm := List.mem_of_getElem? eqi
    have rz : (qs.map fun q => V.ref q.a)[i]? = some (.ref qi.a) := by rw [List.getElem?_map, eqi]; rfl
    refine ⟨_, rfl, _, rfl, _, _, _, .ref qi.a, rfl, rfl, .inl (.inl R1.1), atI_nat rz, qi.a, _, rfl, .inr (.inl (.inl (R1.2 qi hqm).r)), fun p hp => ?_⟩
    have z2 := same_new (o := .lst qi.v) hp
    have nlp : l ≠ p := ne_of_none R1.1 hp
    have ncp : c ≠ p := (S1.nc hp).symm
    have A2 : SplAt K H (upd H1 p (.lst qi.v)) d c l p qs qi := ⟨S1.same z2, R1.same z2, ok, upd_same, z2 _ _ (R1.2 qi hqm).k, ok qi hqm, k1.trans (Keep.of z2), k1.none (S1.nd hp) hp⟩
    generalize upd H1 p (.lst qi.v) = H2 at A2 ⊢
    clear z2 R1 hp S1 k1 ia0 ia1
    refine nm ?_
    dsimp only [List.set]
    refine ⟨_, rfl, d, c, 8, rfl, A2.S, by decide, by decide, fun kd H3 _ _ S3 k3 => ?_⟩
    have A := A2.keep k3 S3
    clear A2 k3 S3
    generalize qi = q at A
    refine nm ?_
    dsimp only [List.set]
    have v6 : Option V := none
    clear v6
    refine cut (fun σ H' => ∃ (v6 : Option V) (q : Rq), σ = [some (.ref d), some (.ref ch), some (.ref l), some (.int (i : Nat)), some (.ref p), some (.int kd), v6] ∧ SplAt K H H' d c l p qs q) ?_ ?_
    rotate_left
    · intro h
      refine ⟨_, rfl, rfl, _, rfl, ?_⟩
      by_cases e : kd = 0
      rotate_left
      · refine eqN e ?_
        refine nxL ?_
        exact h _ _ ⟨_, q, rfl, A⟩
      refine eqY e ?_
      obtain ⟨q0, qt, eq0⟩ : ∃ q0 qt, qs = q0 :: qt := by
        cases qs with
        | nil => exact absurd rfl ne
        | cons a b => exact ⟨a, b, rfl⟩
      have hq0 : q0 ∈ qs := by rw [eq0]; exact List.mem_cons_self
      have r0 : (qs.map fun q => V.ref q.a)[0]? = some (.ref q0.a) := by rw [eq0]; rfl
      refine ⟨_, rfl, _, rfl, _, _, _, .ref q0.a, rfl, rfl, .inl (.inl A.R.1), (show atI _ ((0 : Nat) : Int) = _ from atI_nat r0), _, _, _, .str q0.nm, rfl, rfl, .inl (.inl (A.R.2 q0 hq0).r), rfl, szOk rfl, fun t ht => ?_⟩
      refine ⟨d, c, t, _, rfl, A.S.new ht, .inl (.inl upd_same), (fun z => nomatch z), (by show 7 ≤ 1000; decide), fun v H6 hv S6 k6 => ?_⟩
      have A6 := (A.same (same_new ht)).keep k6 S6
      obtain ⟨z, rfl, z1, z2⟩ : ∃ z : Str, v = .str z ∧ z.length ≤ 1000 ∧ sOk z := by
        simp only [List.mem_cons, List.not_mem_nil, or_false] at hv
        rcases hv with rfl | rfl | rfl | rfl | rfl | rfl | rfl
        · exact ⟨_, rfl, by decide +kernel, by show sOk _; decide +kernel⟩
        · exact ⟨_, rfl, by decide +kernel, by show sOk _; decide +kernel⟩
        · exact ⟨_, rfl, by decide +kernel, by show sOk _; decide +kernel⟩
        · exact ⟨_, rfl, by decide +kernel, by show sOk _; decide +kernel⟩
        · exact ⟨_, rfl, by decide +kernel, by show sOk _; decide +kernel⟩
        · exact ⟨_, rfl, (ok q0 hq0).nm.1, (ok q0 hq0).nm.2⟩
        · exact ⟨_, rfl, by decide +kernel, by show sOk _; decide +kernel⟩
      clear k6 S6 hv
      refine ⟨_, rfl, p, _, _, 0, rfl, rfl, A6.pl, rfl, ?_⟩
      exact h _ _ ⟨_, { q with nm := z }, rfl, A6.put (q' := { q with nm := z }) nlp ncp A6.pk ⟨⟨z1, z2⟩, A6.qok.st, A6.qok.g⟩⟩
    clear A q
    rintro σ H5 ⟨v6, q, rfl, A⟩
    refine cut (fun σ H' => ∃ (v6 : Option V) (q : Rq), σ = [some (.ref d), some (.ref ch), some (.ref l), some (.int (i : Nat)), some (.ref p), some (.int kd), v6] ∧ SplAt K H H' d c l p qs q) ?_ ?_
    rotate_left
    · intro h
      refine ⟨_, rfl, rfl, _, rfl, ?_⟩
      by_cases e : kd = 1
      rotate_left
      · refine eqN e ?_
        refine nxL ?_
        exact h _ _ ⟨_, q, rfl, A⟩
      refine eqY e ?_
      refine ⟨_, rfl, _, _, _, .ref q.ka, rfl, rfl, .inl (.inl A.pl), rfl, q.ka, _, rfl, .inr (.inl (.inl A.pk)), fun n hn => ?_⟩
      have z1 := same_new (o := .lst q.kv) hn
      have hn1 : (upd H5 n (.lst q.kv)) n = some (.lst q.kv) := upd_same
      have n1 := ne_of_none A.R.1 hn
      have n2 := ne_of_none A.pl hn
      have n3 := A.S.nc hn
      have n4 := A.S.nd hn
      have h0n : H n = none := A.fr.none n4 hn
      have A1 := A.same z1
      generalize upd H5 n (.lst q.kv) = H55 at hn1 A1 ⊢
      clear z1 hn
      refine nm ?_
      dsimp only [List.set]
      refine ⟨_, rfl, _, rfl, szOk rfl, fun t ht => ?_⟩
      refine ⟨d, c, t, _, rfl, A1.S.new ht, .inl (.inl upd_same), (fun z => nomatch z), (by show 5 ≤ 1000; decide), fun v H6 hv S6 k6 => ?_⟩
      obtain ⟨z, rfl⟩ : ∃ z : Int, v = .int z := by
        simp only [List.mem_cons, List.not_mem_nil, or_false] at hv
        rcases hv with rfl | rfl | rfl | rfl | rfl <;> exact ⟨_, rfl⟩
      have A6 := (A1.same (same_new ht)).keep k6 S6
      have hn6 := k6.l (A1.S.new ht) (same_new ht _ _ hn1)
      clear k6 S6 hv
      refine ⟨_, rfl, _, rfl, d, c, 5, rfl, A6.S, by decide, by decide, fun jj H7 j0 j1 S7 k7 => ?_⟩
      have A7 := A6.keep k7 S7
      have hn7 := k7.l A6.S hn6
      obtain ⟨j, rfl⟩ : ∃ j : Nat, jj = j := ⟨jj.toNat, by omega⟩
      have j5 : j < 5 := by omega
      refine ⟨n, _, _, j, rfl, rfl, hn7, ixN22 (by show j < 5; exact j5), ?_⟩
      have A8 := A7.other (xs := q.kv.set j (.int z)) hn7 n1 n2 n3 h0n
      have hn8 : (upd H7 n (.lst (q.kv.set j (.int z)))) n = some (.lst (q.kv.set j (.int z))) := upd_same
      generalize upd H7 n (.lst (q.kv.set j (.int z))) = H8 at A8 hn8 ⊢
      refine ⟨_, rfl, n, _, rfl, .inl ⟨.inl (.inl hn8), fun tt htt => ?_⟩⟩
      have A9 := A8.same (same_new (o := .tup (q.kv.set j (.int z))) htt)
      have hk9 : (upd H8 tt (.tup (q.kv.set j (.int z)))) tt = some (.tup (q.kv.set j (.int z))) := upd_same
      generalize upd H8 tt (.tup (q.kv.set j (.int z))) = H9 at A9 hk9 ⊢
      refine ⟨_, rfl, p, _, _, 1, rfl, rfl, A9.pl, rfl, ?_⟩
      rw [← setk_v q tt (j := j) z]
      exact h _ _ ⟨_, q.setk tt j z, rfl, A9.put nlp ncp (by rw [setk_ka, setk_kv q tt z j5]; exact hk9) (setk_ok tt z A9.qok)⟩
    clear A q v6
    rintro σ H5 ⟨v6, q, rfl, A⟩
    refine cut (fun σ H' => ∃ (v6 : Option V) (q : Rq), σ = [some (.ref d), some (.ref ch), some (.ref l), some (.int (i : Nat)), some (.ref p), some (.int kd), v6] ∧ SplAt K H H' d c l p qs q) ?_ ?_
    rotate_left
    · intro h
      refine ⟨_, rfl, rfl, _, rfl, ?_⟩
      by_cases e : kd = 2
      rotate_left
      · refine eqN e ?_
        refine nxL ?_
        exact h _ _ ⟨_, q, rfl, A⟩
      refine eqY e ?_
      refine ⟨_, rfl, _, rfl, _, _, _, .str q.g, rfl, rfl, .inl (.inl A.pl), rfl, szOk rfl, fun t ht => ?_⟩
      refine ⟨d, c, t, _, rfl, A.S.new ht, .inl (.inl upd_same), (fun z => nomatch z), (by show 2 ≤ 1000; decide), fun v H6 hv S6 k6 => ?_⟩
      have A6 := (A.same (same_new ht)).keep k6 S6
      obtain ⟨z, rfl, z2⟩ : ∃ z : Str, v = .str z ∧ sOk z := by
        simp only [List.mem_cons, List.not_mem_nil, or_false] at hv
        rcases hv with rfl | rfl
        · exact ⟨_, rfl, A.qok.g⟩
        · exact ⟨_, rfl, by show sOk _; decide +kernel⟩
      clear k6 S6 hv
      refine ⟨_, rfl, p, _, _, 2, rfl, rfl, A6.pl, rfl, ?_⟩
      exact h _ _ ⟨_, { q with st := z }, rfl, A6.put (q' := { q with st := z }) nlp ncp A6.pk ⟨A6.qok.nm, z2, A6.qok.g⟩⟩
    clear A q v6
    rintro σ H5 ⟨v6, q, rfl, A⟩
    refine cut (fun σ H' => ∃ (v6 : Option V) (q : Rq), σ = [some (.ref d), some (.ref ch), some (.ref l), some (.int (i : Nat)), some (.ref p), some (.int kd), v6] ∧ SplAt K H H' d c l p qs q) ?_ ?_
    rotate_left
    · intro h
      refine ⟨_, rfl, rfl, _, rfl, ?_⟩
      by_cases e : kd = 3
      rotate_left
      · refine eqN e ?_
        refine nxL ?_
        exact h _ _ ⟨_, q, rfl, A⟩
      refine eqY e ?_
      refine ⟨_, rfl, _, rfl, _, _, _, .str q.st, rfl, rfl, .inl (.inl A.pl), rfl, szOk rfl, fun t ht => ?_⟩
      refine ⟨d, c, t, _, rfl, A.S.new ht, .inl (.inl upd_same), (fun z => nomatch z), (by show 2 ≤ 1000; decide), fun v H6 hv S6 k6 => ?_⟩
      have A6 := (A.same (same_new ht)).keep k6 S6
      obtain ⟨z, rfl, z2⟩ : ∃ z : Str, v = .str z ∧ sOk z := by
        simp only [List.mem_cons, List.not_mem_nil, or_false] at hv
        rcases hv with rfl | rfl
        · exact ⟨_, rfl, A.qok.st⟩
        · exact ⟨_, rfl, by show sOk _; decide +kernel⟩
      clear k6 S6 hv
      refine ⟨_, rfl, p, _, _, 3, rfl, rfl, A6.pl, rfl, ?_⟩
      exact h _ _ ⟨_, { q with g := z }, rfl, A6.put (q' := { q with g := z }) nlp ncp A6.pk ⟨A6.qok.nm, A6.qok.st, z2⟩⟩
    clear A q v6
    rintro σ H5 ⟨v6, q, rfl, A⟩
    refine cut (fun σ H' => ∃ (v6 : Option V) (q : Rq), σ = [some (.ref d), some (.ref ch), some (.ref l), some (.int (i : Nat)), some (.ref p), some (.int kd), v6] ∧ SplAt K H H' d c l p qs q) ?_ ?_
    rotate_left
    · intro h
      refine ⟨_, rfl, rfl, _, rfl, ?_⟩
      by_cases e : kd = 4
      rotate_left
      · refine eqN e ?_
        refine nxL ?_
        exact h _ _ ⟨_, q, rfl, A⟩
      refine eqY e ?_
      refine ⟨_, rfl, _, rfl, szOk rfl, fun t ht => ?_⟩
      refine ⟨d, c, t, _, rfl, A.S.new ht, .inl (.inl upd_same), (fun z => nomatch z), (by show 4 ≤ 1000; decide), fun v H6 hv S6 k6 => ?_⟩
      obtain ⟨z, rfl⟩ : ∃ z : Int, v = .int z := by
        simp only [List.mem_cons, List.not_mem_nil, or_false] at hv
        rcases hv with rfl | rfl | rfl | rfl <;> exact ⟨_, rfl⟩
      have A6 := (A.same (same_new ht)).keep k6 S6
      clear k6 S6 hv
      refine ⟨_, rfl, _, rfl, d, c, 2, rfl, A6.S, by decide, by decide, fun jj H7 j0 j1 S7 k7 => ?_⟩
      have A7 := A6.keep k7 S7
      rcases (show jj = 0 ∨ jj = 1 by omega) with rfl | rfl
      · refine ⟨_, _, rfl, rfl, p, _, _, 4, rfl, rfl, A7.pl, rfl, ?_⟩
        exact h _ _ ⟨_, { q with lv := z }, rfl, A7.put (q' := { q with lv := z }) nlp ncp A7.pk ⟨A7.qok.nm, A7.qok.st, A7.qok.g⟩⟩
      · refine ⟨_, _, rfl, rfl, p, _, _, 5, rfl, rfl, A7.pl, rfl, ?_⟩
        exact h _ _ ⟨_, { q with wt := z }, rfl, A7.put (q' := { q with wt := z }) nlp ncp A7.pk ⟨A7.qok.nm, A7.qok.st, A7.qok.g⟩⟩
    clear A q v6
    rintro σ H5 ⟨v6, q, rfl, A⟩
    refine cut (fun σ H' => ∃ (v6 : Option V) (q : Rq), σ = [some (.ref d), some (.ref ch), some (.ref l), some (.int (i : Nat)), some (.ref p), some (.int kd), v6] ∧ SplAt K H H' d c l p qs q) ?_ ?_
    rotate_left
    · intro h
      refine ⟨_, rfl, rfl, _, rfl, ?_⟩
      by_cases e : kd = 5
      rotate_left
      · refine eqN e ?_
        refine nxL ?_
        exact h _ _ ⟨_, q, rfl, A⟩
      refine eqY e ?_
      refine ⟨_, rfl, _, rfl, szOk rfl, fun t ht => ?_⟩
      refine ⟨d, c, t, _, rfl, A.S.new ht, .inl (.inl upd_same), (fun z => nomatch z), (by show 4 ≤ 1000; decide), fun v H6 hv S6 k6 => ?_⟩
      obtain ⟨z, rfl⟩ : ∃ z : Int, v = .int z := by
        simp only [List.mem_cons, List.not_mem_nil, or_false] at hv
        rcases hv with rfl | rfl | rfl | rfl <;> exact ⟨_, rfl⟩
      have A6 := (A.same (same_new ht)).keep k6 S6
      clear k6 S6 hv
      refine ⟨_, rfl, p, _, _, 6, rfl, rfl, A6.pl, rfl, ?_⟩
      exact h _ _ ⟨_, { q with tk := z }, rfl, A6.put (q' := { q with tk := z }) nlp ncp A6.pk ⟨A6.qok.nm, A6.qok.st, A6.qok.g⟩⟩
    clear A q v6
    rintro σ H5 ⟨v6, q, rfl, A⟩
    refine cut (fun σ H' => ∃ (v6 : Option V) (q : Rq), σ = [some (.ref d), some (.ref ch), some (.ref l), some (.int (i : Nat)), some (.ref p), some (.int kd), v6] ∧ SplAt K H H' d c l p qs q) ?_ ?_
    rotate_left
    · intro h
      refine ⟨_, rfl, rfl, _, rfl, ?_⟩
      by_cases e : kd = 6
      rotate_left
      · refine eqN e ?_
        refine nxL ?_
        exact h _ _ ⟨_, q, rfl, A⟩
      refine eqY e ?_
      refine ⟨_, rfl, _, rfl, szOk rfl, fun t ht => ?_⟩
      refine ⟨d, c, t, _, rfl, A.S.new ht, .inl (.inl upd_same), (fun z => nomatch z), (by show 4 ≤ 1000; decide), fun v H6 hv S6 k6 => ?_⟩
      obtain ⟨z, rfl⟩ : ∃ z : Int, v = .int z := by
        simp only [List.mem_cons, List.not_mem_nil, or_false] at hv
        rcases hv with rfl | rfl | rfl | rfl <;> exact ⟨_, rfl⟩
      have A6 := (A.same (same_new ht)).keep k6 S6
      clear k6 S6 hv
      refine ⟨_, rfl, p, _, _, 7, rfl, rfl, A6.pl, rfl, ?_⟩
      exact h _ _ ⟨_, { q with lt := z }, rfl, A6.put (q' := { q with lt := z }) nlp ncp A6.pk ⟨A6.qok.nm, A6.qok.st, A6.qok.g⟩⟩
    clear A q v6
    rintro σ H5 ⟨v6, q, rfl, A⟩
    refine ⟨_, rfl, p, _, rfl, .inl ⟨.inl (.inl A.pl), fun t ht => ?_⟩⟩
    have z6 := same_new (o := .tup q.v) ht
    have A6 := A.same z6
    have ht6 : (upd H5 t (.tup q.v)) t = some (.tup q.v) := upd_same
    generalize upd H5 t (.tup q.v) = H6 at A6 ht6 ⊢
    refine ⟨_, rfl, _, rfl, l, _, _, i, rfl, rfl, A6.R.1, ixN22 (by rw [List.length_map]; exact il), ?_⟩
    have hm : (qs.map fun q => V.ref q.a).set i (.ref t) = (qs.set i { q with a := t }).map fun q => V.ref q.a := by rw [List.map_set]
    rw [hm]
    have stand : ∀ x, QstAt H6 x → QstAt (upd H6 l (.lst ((qs.set i { q with a := t }).map fun q => V.ref q.a))) x := fun x hx => ⟨by rw [upd_ne (ne_of hx.r A6.R.1 (by intro z; cases z))]; exact hx.r, by rw [upd_ne (ne_of hx.k A6.R.1 (by intro z; cases z))]; exact hx.k⟩
    refine k (qs.set i { q with a := t }) _ ⟨upd_same, fun x hx => ?_⟩ (fun x hx => ?_) (List.length_set ..) (A6.S.put nld nlc) fun b o e n1 n2 => ?_
    · rcases List.mem_or_eq_of_mem_set hx with m | rfl
      · exact stand x (A6.R.2 x m)
      · exact stand _ ⟨ht6, A6.pk⟩
    · rcases List.mem_or_eq_of_mem_set hx with m | rfl
      · exact ok x m
      · exact ⟨A6.qok.nm, A6.qok.st, A6.qok.g⟩
    · rw [upd_ne n2]
      exact A6.fr b o e n1

end
end Sk

set_option Elab.async false
set_option linter.all false
set_option maxRecDepth 100000
set_option maxHeartbeats 4000000
namespace Sk
open PySem PySem.Spec PyProof.Rows L2
def spSmall22 (K : PySem.W.Frag) : Sp := fun vs H Q _ => ∃ (d c : Addr), vs = [.ref d] ∧ St1 K H d c ∧
  ∀ (D : CD) ch hd hv H', CE D → UQ D.ls → D.ls ≠ [] → (∀ l ∈ D.ls, 1 ≤ D.len l.s l.e) → ChartAt H' ch D → HoldAt H' ch D hd hv → H ch = none → H D.fx = none → H hd = none → H D.lg = none → St1 K H' d c → Keep d H H' → Q (.ref ch) H'
section
variable {P : Program} {w : World} {K : PySem.W.Frag} {mg : Str → Option Value} {base : Heap}
abbrev s_law_small_chart : Stmt := top 55
theorem sc_law_small_chart : FnScope ["state", "chart", "names"] ["state"] (defScope s_law_small_chart) := ⟨rfl, rfl, rfl, by decide +kernel, rfl, by decide +kernel, by decide +kernel⟩
theorem ok_law_small_chart {f : Addr} {fd : FuncData} (F : Fun K "_law_small_chart" "_law_small_chart" s_law_small_chart f fd) (T : TxtA mg)
    (D_law_draw : Def P w K mg base 1 "_law_draw" ["state", "bound"] (spDraw K))
    (D_law_pick : Def P w K mg base 2 "_law_pick" ["state", "things"] (spPick K))
    (D_law_chart : Def P w K mg base 4 "_law_chart" ["state", "many", "size"] (spChartW K)) : FnOk P w K mg base CX0 5 f fd ["state"] (spSmall22 K) := by
  refine F.ok sc_law_small_chart (fun vs H Q E h => ?_) (fun cdv A outer s H vs Q E hr h => ?_)
  · obtain ⟨_, _, rfl, _⟩ := h
    rfl
  · obtain ⟨d, c, rfl, S, k⟩ := h
    have hu := hu_of hr
    refine ⟨_, (pss_cons (ps_set (i := 1) sc_law_small_chart.nd rfl (Or.inl rfl) (pe_def D_law_chart (hr.mono (by decide)) (by rfl) (pa_cons (pv 0) (pa_cons (pe_op op_add pe_int (pe_def D_law_draw (hr.mono (by decide)) (by rfl) (pa_cons (pv 0) (pa_cons pe_int pa_nil)))) (pa_cons (pe_def D_law_pick (hr.mono (by decide)) (by rfl) (pa_cons (pv 0) (pa_cons (pe_lst (pa_cons pe_int (pa_cons pe_int (pa_cons pe_int (pa_cons pe_int pa_nil))))) pa_nil))) pa_nil)))))
    (pss_cons (ps_if (pt_cmpR op_eq (pe_callB (r := rLenK K) call_len_seq (by rfl) T.len boot_len (pa_cons (pe_dget hu (pv 1) pe_str (fun _ _ => rfl)) pa_nil)) pe_int (nomark _)) (pss_cons (ps_set (i := 2) sc_law_small_chart.nd rfl (Or.inl rfl) (pe_callB (call_sortedD rfl) (by rfl) T.sorted boot_sorted (pa_cons (pe_dget hu (pv 1) pe_str (fun _ _ => rfl)) pa_nil)))
    (pss_one (ps_expr (pe_bm PySem.F.plainAttrs_list PySem.F.slot_list_append PySem.F.type_list_append mt_append (pe_dget hu (pv 1) pe_str (fun _ _ => rfl)) (pa_cons (pe_tup (pa_cons (pe_ix (r := rIxL K) ix_list (pv 2) pe_int (fun _ _ => rfl)) (pa_cons (pe_ix (r := rIxL K) ix_list (pv 2) pe_int (fun _ _ => rfl)) (pa_cons pe_str (pa_cons pe_int (pa_cons pe_int pa_nil)))))) pa_nil)))))
      pss_nil)
    (pss_one (ps_ret (pv 1))))), ?_⟩
    refine ⟨_, rfl, _, rfl, d, c, _, rfl, S, (by decide), (by decide), fun x1 H1 x1a x1b S1 kp1 => ?_⟩
    refine ⟨_, _, rfl, rfl, _, rfl, szOk rfl, fun p2 hp2 => ?_⟩
    refine ⟨d, c, _, _, rfl, (S1.new hp2), .inl (.inl upd_same), (fun z => nomatch z), (by show 4 ≤ 1000; decide), fun v2 H2 hv2 S2 kp2 => ?_⟩
    obtain ⟨x2, rfl, x2a, x2b⟩ : ∃ z : Int, v2 = .int z ∧ 2 ≤ z ∧ z ≤ 40 := by
      simp only [List.mem_cons, List.not_mem_nil, or_false] at hv2
      rcases hv2 with rfl | rfl | rfl | rfl <;> exact ⟨_, rfl, by decide, by decide⟩
    refine ⟨d, c, _, _, rfl, S2, (by omega), (by omega), (by omega), (by omega), fun D ch hd hv H4 ce hU hlg hpos C4 hh hch hfx hhd S4 kp4 => ?_⟩
    have kA : Keep d H H2 := (kp1.trans (Keep.of (same_new hp2))).trans kp2
    have kB := kA.trans kp4
    have hch0 := kA.none (S2.nd hch) hch
    have hfx0 := kA.none (S2.nd hfx) hfx
    have hlg0 := kA.none (S2.nd hlg) hlg
    have hhd0 := kA.none (S2.nd hhd) hhd
    refine ⟨_, rfl, _, _, rfl, C4.gl, _, _, rfl, .inl (.inl (.inl C4.lg)), rfl, _, rfl, ite2 (fun e => ?_) (fun e => ?_)⟩
    rotate_left
    · exact ⟨_, rfl, k D ch hd hv H4 ce hU (fun z => e (decide_eq_true (by rw [z]; rfl))) hpos C4 hh hch0 hfx0 hhd0 hlg0 S4 kB⟩
    obtain ⟨ns, hks, hnd, n2, n7, hpt, hsep⟩ := ce
    refine ⟨_, rfl, _, _, rfl, C4.gf, D.fx, D.fs, ns, rfl, .inl C4.fx, hks, (by omega), fun ys p hpm hso hp => ?_⟩
    have hyl := hpm.length_eq
    have hynd : ys.Nodup := hpm.nodup_iff.mpr hnd
    obtain ⟨n0, n1, rest, rfl⟩ : ∃ n0 n1 rest, ys = n0 :: n1 :: rest := by
      match ys, hyl with
      | [], h => exact absurd h (by show ¬ 0 = ns.length; omega)
      | [a], h => exact absurd h (by show ¬ 1 = ns.length; omega)
      | a :: b :: l, _ => exact ⟨a, b, l, rfl⟩
    have m0 : n0 ∈ ns := hpm.mem_iff.mp List.mem_cons_self
    have m1 : n1 ∈ ns := hpm.mem_iff.mp (List.mem_cons_of_mem _ List.mem_cons_self)
    have n01 : n0 ≠ n1 := fun z => by
      have := (List.nodup_cons.mp hynd).1
      rw [z] at this
      exact this List.mem_cons_self
    have ls0 : D.ls = [] := by
      have := V.int.inj (of_decide_eq_true e)
      rw [List.length_map] at this
      exact List.eq_nil_of_length_eq_zero (by omega)
    have C5 := C4.same (same_new (o := .lst ((n0 :: n1 :: rest).map V.str)) hp)
    have hh5 := hh.same (same_new (o := .lst ((n0 :: n1 :: rest).map V.str)) hp)
    have hys : (upd H4 p (.lst ((n0 :: n1 :: rest).map V.str))) p = _ := upd_same
    have S5 := S4.new (o := .lst ((n0 :: n1 :: rest).map V.str)) hp
    have k5 := kB.trans (Keep.of (same_new (o := .lst ((n0 :: n1 :: rest).map V.str)) hp))
    generalize upd H4 p (.lst ((n0 :: n1 :: rest).map V.str)) = H5 at *
    refine nm ?_
    dsimp only
    have e0 : (List.map V.str (n0 :: n1 :: rest))[0]? = some (.str n0) := rfl
    have e1 : (List.map V.str (n0 :: n1 :: rest))[1]? = some (.str n1) := rfl
    have a0 : atI (List.map V.str (n0 :: n1 :: rest)) 0 = some (.str n0) := atI_nat e0
    have a1 : atI (List.map V.str (n0 :: n1 :: rest)) 1 = some (.str n1) := atI_nat e1
    refine ⟨_, rfl, _, _, rfl, C5.gl, .inl ⟨rfl, _, .inl (.inl C5.lg)⟩, _, rfl, _, _, _, _, rfl, rfl, (.inl (.inl hys)), a0, _, rfl, _, _, _, _, rfl, rfl, (.inl (.inl hys)), a1, szOk rfl, fun t ht => ?_⟩
    have C6 := C5.same (same_new (o := .tup [.str n0, .str n1, .str "N", .int 0, .int 600]) ht)
    have hh6 := hh5.same (same_new (o := .tup [.str n0, .str n1, .str "N", .int 0, .int 600]) ht)
    have htt : (upd H5 t (.tup [.str n0, .str n1, .str "N", .int 0, .int 600])) t = _ := upd_same
    have S6 := S5.new (o := .tup [.str n0, .str n1, .str "N", .int 0, .int 600]) ht
    have k6 := k5.trans (Keep.of (same_new (o := .tup [.str n0, .str n1, .str "N", .int 0, .int 600]) ht))
    generalize upd H5 t (.tup [.str n0, .str n1, .str "N", .int 0, .int 600]) = H6 at *
    refine ⟨_, _, _, rfl, rfl, C6.lg, (by rw [ls0]; exact small1000 (by decide)), ?_⟩
    have el : (D.ls.map fun l => V.ref l.a) ++ [V.ref t] = [V.ref t] := by rw [ls0]; rfl
    have hw := C6.lg
    have ne : ∀ (a : Addr) o, H6 a = some o → (∀ xs, o ≠ .lst xs) → a ≠ D.lg := fun a o e n => ne_of e hw (n _)
    refine ⟨_, rfl, k ⟨D.fx, D.lg, D.fs, D.pt, [⟨t, n0, n1, "N", 0, 600⟩]⟩ ch hd hv _ ⟨ns, hks, hnd, n2, n7, hpt, hsep⟩ (List.pairwise_singleton _ _) (by intro z; cases z) (fun l hl => ?_) ⟨?_, ?_, ?_, fun l hl => ?_, fun n a x y h => ?_, fun l hl => ?_, fun l hl => ?_, (by show 1 ≤ 100; decide)⟩ ⟨?_, ?_, fun s v hs => ?_⟩ hch0 hfx0 hhd0 hlg0 (S6.put (S2.nd hlg) (S2.nc hlg)) (fun b o e n => ?_)⟩
    · rw [List.mem_singleton.mp hl]
      exact hsep n0 m0 n1 m1 n01
    · obtain ⟨kvs, h1, h2, h3⟩ := C6.ch
      exact ⟨kvs, by rw [upd_ne (ne _ _ h1 (by intro _ z; cases z))]; exact h1, h2, h3⟩
    · rw [upd_ne (ne _ _ C6.fx (by intro _ z; cases z))]; exact C6.fx
    · rw [upd_same]; exact congrArg (fun z => some (HO.lst z)) el
    · rw [List.mem_singleton.mp hl, upd_ne (ne _ _ htt (by intro _ z; cases z))]; exact htt
    · obtain ⟨q1, q2, q3⟩ := C6.pf n a x y h
      exact ⟨q1, by rw [upd_ne (ne _ _ q2 (by intro _ z; cases z))]; exact q2, q3⟩
    · rw [List.mem_singleton.mp hl]
      exact ⟨(hpt n0 m0).2, (hpt n1 m1).2⟩
    · rw [List.mem_singleton.mp hl]
      exact ⟨(hpt n0 m0).1, (hpt n1 m1).1, (by show sOk "N"; decide +kernel)⟩
    · obtain ⟨kvs, h1, h2⟩ := hh6.ch
      exact ⟨kvs, by rw [upd_ne (ne _ _ h1 (by intro _ z; cases z))]; exact h1, h2⟩
    · rw [upd_ne (ne _ _ hh6.hd (by intro _ z; cases z))]; exact hh6.hd
    · obtain ⟨_, _, _, ⟨l, hl⟩, _⟩ := hh6.ok s v hs
      have := (CD.leg_mem hl).1
      rw [ls0] at this
      cases this
    · rw [upd_ne (ne_of_none e hlg0)]
      exact k6 b o e n
end
end Sk

set_option Elab.async false
set_option linter.all false
set_option maxRecDepth 100000
set_option maxHeartbeats 4000000
namespace Sk
open PySem PySem.Spec PyProof.Rows L2 NdefX
section
variable {P : Program} {w : World} {K : PySem.W.Frag} {mg : Str → Option Value} {base : Heap}
abbrev s_is_name : Stmt := top 14
theorem sc_is_name : FnScope ["text", "letter"] ["text"] (defScope s_is_name) := ⟨rfl, rfl, rfl, by decide +kernel, rfl, by decide +kernel, by decide +kernel⟩
theorem ok_is_name {f tc tp : Addr} {fd : FuncData} {TT : List Addr} (F : Fun K "is_name" "is_name" s_is_name f fd) (T : TxtA mg) {tLETTERS : Tok} (G_LETTERS : mg "LETTERS" = some (.str "ABCDEFGHIJKLMNOPQRSTUVWXYZ" tLETTERS)) {tDIGITS : Tok} (G_DIGITS : mg "DIGITS" = some (.str "0123456789" tDIGITS)) (hc : fd.code = .ref tc) (TB : LamX.TabB base mg tc tp) (hP : tp ∈ TT) : FnOk P w K mg base CX0 3 f fd ["text"] (spNameB TT) := by
  refine okT F hc sc_is_name (fun vs H Q E h => ?_) (fun A outer s H vs Q E hr h => ?_)
  · obtain ⟨_, rfl, _⟩ := h
    rfl
  · obtain ⟨t, rfl, ht, hT, k⟩ := h
    refine ⟨_, (pss_cons (ps_if (PW.pt (pw_or (pt_not (pt_chain op_le op_le pe_int (pe_callB call_len_str (by rfl) T.len boot_len (pa_cons (pv 0) pa_nil)) pe_int)) (pw_or1 (pt_cmpR op_notIn_sign (pe_ix ix_str (pv 0) pe_int (fun _ _ => rfl)) (pe_glob (v := .str "ABCDEFGHIJKLMNOPQRSTUVWXYZ") rfl G_LETTERS ⟨_, rfl⟩) rfl)))) (pss_one (ps_ret pe_bl))
      pss_nil)
    (pss_one (ps_ret (pe_allG (k := 0) (own := [("letter", 1)]) (g := gName 1) (hr.mono (by decide)) sc_is_name.nd (by rfl) T.all TB rfl (gscp_by (by decide +kernel)) (blkOk_by (own := [("letter", 1)]) (N := ["text", "letter"]) (sc := defScope s_is_name) (by decide +kernel)) (pi_str (pv 0)) (fun _ _ _ _ _ _ _ r => (pg_name (i := 1) sc_is_name.nd rfl (Or.inl rfl))) (fun _ _ _ _ _ _ _ r => pts_nil) (fun _ _ _ _ _ _ _ r => (pe_or (pe_cmpR op_in_sign (pv 1) (pe_glob (v := .str "ABCDEFGHIJKLMNOPQRSTUVWXYZ") rfl G_LETTERS ⟨_, rfl⟩) rfl) (pe_one (pe_cmpR op_in_sign (pv 1) (pe_glob (v := .str "0123456789") rfl G_DIGITS ⟨_, rfl⟩) rfl)))))))), ?_⟩
    rw [show L2.start ["text", "letter"] [V.str t] = [some (V.str t), none] from rfl]
    have hz : t.length ≤ sizeLine := by rw [sizeLine_eq]; omega
    have k0 : nameB t = false → Q (.bl false) H := fun e => by rw [← e]; exact k H (SameT.refl TT H)
    refine ⟨_, rfl, t, rfl, hz, _, _, rfl, rfl, _, rfl, ?_⟩
    by_cases c1 : (1 : Int) ≤ (t.length : Int)
    rotate_left
    · exact (if_neg (fun z => c1 (of_decide_eq_true z))).mpr ⟨_, rfl, (if_pos rfl).mpr ((if_pos rfl).mpr (k0 (nameB_len (by omega))))⟩
    refine (if_pos (decide_eq_true c1)).mpr ⟨_, _, rfl, rfl, _, rfl, ?_⟩
    by_cases c2 : (t.length : Int) ≤ 5
    rotate_left
    · exact (if_pos (show (!decide ((t.length : Int) ≤ 5)) = true by rw [decide_eq_false c2]; rfl)).mpr ((if_pos rfl).mpr (k0 (nameB_len (by omega))))
    refine (if_neg (show ¬ (!decide ((t.length : Int) ≤ 5)) = true by rw [decide_eq_true c2]; exact Bool.false_ne_true)).mpr ?_
    obtain ⟨c0, hc0, hc1⟩ := head_str (t := t) (by omega)
    refine ⟨_, rfl, _, _, _, rfl, rfl, hz, hc0, c0, _, rfl, rfl, _, rfl, ?_⟩
    by_cases c3 : c0 ∈ LET
    rotate_left
    · exact (if_pos (show (!decide (c0 ∈ ("ABCDEFGHIJKLMNOPQRSTUVWXYZ" : Str).cps.toList)) = true by rw [decide_eq_false (show ¬ c0 ∈ ("ABCDEFGHIJKLMNOPQRSTUVWXYZ" : Str).cps.toList from c3)]; rfl)).mpr (k0 (by unfold nameB; rw [hc1]; dsimp only; rw [decide_eq_false c3, Bool.and_false, Bool.false_and]))
    refine (if_neg (show ¬ (!decide (c0 ∈ ("ABCDEFGHIJKLMNOPQRSTUVWXYZ" : Str).cps.toList)) = true by rw [decide_eq_true (show c0 ∈ ("ABCDEFGHIJKLMNOPQRSTUVWXYZ" : Str).cps.toList from c3)]; exact Bool.false_ne_true)).mpr ?_
    refine nxL ?_
    dsimp only
    have en : nameB t = t.cps.toList.all signB := by
      unfold nameB
      rw [hc1, decide_eq_true (show 1 ≤ t.length ∧ t.length ≤ 5 by omega)]
      dsimp only
      rw [decide_eq_true c3]
      rfl
    refine ⟨_, rfl, t, rfl, hT tp hP, fun H2 tb => ?_⟩
    have s2 : SameT TT H H2 := SameT.tabbed hP tb
    refine till_str (z := t) (e := false) (fun i H' => SameT TT H H' ∧ ∀ j (h : j < t.cps.size), j < i → signB t.cps[j] = true) ⟨s2, fun j _ h => absurd h (Nat.not_lt_zero j)⟩ ?_ ?_
    · rintro i c H' hc ⟨sH, ih⟩
      have hci : ∃ h : i < t.cps.size, t.cps[i] = c := Array.getElem?_eq_some_iff.mp hc
      obtain ⟨hi, hci⟩ := hci
      refine ⟨rfl, yes_if ?_⟩
      have step : signB c = true → ∀ j (h : j < t.cps.size), j < i + 1 → signB t.cps[j] = true := fun e j h hj => by
        rcases Nat.lt_or_ge j i with z | z
        · exact ih j h z
        · have ej : j = i := by omega
          subst ej
          rw [hci]
          exact e
      refine ⟨_, rfl, c, _, rfl, rfl, _, rfl, ?_⟩
      by_cases d1 : c ∈ LET
      · refine (if_pos (decide_eq_true (show c ∈ ("ABCDEFGHIJKLMNOPQRSTUVWXYZ" : Str).cps.toList from d1))).mpr ⟨_, rfl, (if_neg (by decide)).mpr ⟨sH, step (by unfold signB; rw [decide_eq_true d1]; rfl)⟩⟩
      refine (if_neg (fun z => d1 (of_decide_eq_true z))).mpr ⟨_, rfl, c, _, rfl, rfl, _, rfl, ?_⟩
      by_cases d2 : c ∈ DIG
      · rw [decide_eq_true (show c ∈ ("0123456789" : Str).cps.toList from d2)]
        exact (if_neg (by decide)).mpr ⟨sH, step (by unfold signB; rw [decide_eq_true d2, Bool.or_true])⟩
      · rw [decide_eq_false (show ¬ c ∈ ("0123456789" : Str).cps.toList from d2)]
        refine (if_pos rfl).mpr ?_
        have e : nameB t = false := by
          rw [en, List.all_eq_false]
          refine ⟨c, ?_, by unfold signB; rw [decide_eq_false d1, decide_eq_false d2]; decide⟩
          rw [← hci]
          exact Array.getElem_mem_toList hi
        have k := k H' sH
        rw [e] at k
        exact k
    · rintro H' ⟨sH, ih⟩
      have e : nameB t = true := by
        rw [en, List.all_eq_true]
        intro c hc
        obtain ⟨j, hj, rfl⟩ := List.getElem_of_mem hc
        exact ih j (by simpa using hj) (by simpa using hj)
      have k := k H' sH
      rw [e] at k
      exact k

abbrev s_law_is_name : Stmt := top 57
theorem sc_law_is_name : FnScope ["word", "sign"] ["word"] (defScope s_law_is_name) := ⟨rfl, rfl, rfl, by decide +kernel, rfl, by decide +kernel, by decide +kernel⟩
theorem ok_law_is_name {f : Addr} {fd : FuncData} (F : Fun K "_law_is_name" "_law_is_name" s_law_is_name f fd) (T : TxtA mg) : FnOk P w K mg base CX0 1 f fd ["word"] (spNameL) := by
  refine F.ok sc_law_is_name (fun vs H Q E h => ?_) (fun cdv A outer s H vs Q E hr h => ?_)
  · obtain ⟨_, rfl, _⟩ := h
    rfl
  · obtain ⟨t, rfl, ht, k⟩ := h
    refine ⟨_, (pss_cons (ps_if (PW.pt (pw_or (pt_cmpR op_lt (pe_callB call_len_str (by rfl) T.len boot_len (pa_cons (pv 0) pa_nil)) pe_int (nomark _)) (pw_or (pt_cmpR op_gt (pe_callB call_len_str (by rfl) T.len boot_len (pa_cons (pv 0) pa_nil)) pe_int (nomark _)) (pw_or1 (pt_cmpR op_notIn_sign (pe_ix ix_str (pv 0) pe_int (fun _ _ => rfl)) pe_str rfl))))) (pss_one (ps_ret pe_bl))
      pss_nil)
    (pss_one (ps_ret (pe_callB (cr_all rfl) (by rfl) T.all boot_all (pa_cons (pe_lc (own := [("sign", 1)]) (g := gName 1) (by rfl) sc_law_is_name.nd (pi_str (pv 0)) (blkOk_by (own := [("sign", 1)]) (N := ["word", "sign"]) (sc := defScope s_law_is_name) (by decide +kernel)) (fun _ _ _ _ _ => (pg_name (i := 1) sc_law_is_name.nd rfl (Or.inl rfl))) (fun _ _ _ _ _ => pts_nil) (fun _ _ _ _ _ => (pe_cmpR op_in_sign (pv 1) pe_str rfl))) pa_nil))))), ?_⟩
    rw [show L2.start ["word", "sign"] [V.str t] = [some (V.str t), none] from rfl]
    have hz : t.length ≤ sizeLine := by rw [sizeLine_eq]; omega
    have k0 : nameB t = false → Q (.bl false) H := fun e => by rw [← e]; exact k H (Same.refl H)
    refine ⟨_, rfl, t, rfl, hz, _, _, rfl, rfl, _, rfl, ?_⟩
    by_cases c1 : (t.length : Int) < 1
    · exact (if_pos (decide_eq_true c1)).mpr ((if_pos rfl).mpr (k0 (nameB_len (by omega))))
    refine (if_neg (fun z => c1 (of_decide_eq_true z))).mpr ?_
    refine ⟨_, rfl, t, rfl, hz, _, _, rfl, rfl, _, rfl, ?_⟩
    by_cases c2 : (t.length : Int) > 5
    · exact (if_pos (decide_eq_true c2)).mpr ((if_pos rfl).mpr (k0 (nameB_len (by omega))))
    refine (if_neg (fun z => c2 (of_decide_eq_true z))).mpr ?_
    obtain ⟨c0, hc0, hc1⟩ := head_str (t := t) (by omega)
    refine ⟨_, rfl, _, _, _, rfl, rfl, hz, hc0, c0, _, rfl, rfl, _, rfl, ?_⟩
    by_cases c3 : c0 ∈ LET
    rotate_left
    · exact (if_pos (show (!decide (c0 ∈ ("ABCDEFGHIJKLMNOPQRSTUVWXYZ" : Str).cps.toList)) = true by rw [decide_eq_false (show ¬ c0 ∈ ("ABCDEFGHIJKLMNOPQRSTUVWXYZ" : Str).cps.toList from c3)]; rfl)).mpr (k0 (by unfold nameB; rw [hc1]; dsimp only; rw [decide_eq_false c3, Bool.and_false, Bool.false_and]))
    refine (if_neg (show ¬ (!decide (c0 ∈ ("ABCDEFGHIJKLMNOPQRSTUVWXYZ" : Str).cps.toList)) = true by rw [decide_eq_true (show c0 ∈ ("ABCDEFGHIJKLMNOPQRSTUVWXYZ" : Str).cps.toList from c3)]; exact Bool.false_ne_true)).mpr ?_
    refine nxL ?_
    dsimp only
    have en : nameB t = t.cps.toList.all signB := by
      unfold nameB
      rw [hc1, decide_eq_true (show 1 ≤ t.length ∧ t.length ≤ 5 by omega)]
      dsimp only
      rw [decide_eq_true c3]
      rfl
    refine ⟨_, rfl, t, rfl, fun E1 hE1 => ?_⟩
    have tl : t.cps.size = t.length := rfl
    refine lc_str (z := t) (fun i G => Same H G ∧ G E1 = some (.lst (((t.cps.toList.take i).map signB).map V.bl))) ⟨same_new hE1, upd_same⟩ ?_ ?_
    · rintro i c G hc ⟨sm, hA⟩
      obtain ⟨hi, hci⟩ : ∃ h : i < t.cps.size, t.cps[i] = c := Array.getElem?_eq_some_iff.mp hc
      refine ⟨rfl, yes_if ?_⟩
      refine ⟨_, rfl, c, _, rfl, rfl, _, hA, small1000 (by rw [List.length_map, List.length_map, List.length_take]; omega), same_newC hE1 sm, ?_⟩
      have eg : t.cps.toList[i]? = some c := by rw [Array.getElem?_toList]; exact hc
      rw [upd_same, List.take_add_one, eg, List.map_append, List.map_append]
      have e2 : decide (c ∈ ("ABCDEFGHIJKLMNOPQRSTUVWXYZ0123456789" : Str).cps.toList) = signB c := by
        have e3 : ("ABCDEFGHIJKLMNOPQRSTUVWXYZ0123456789" : Str).cps.toList = LET ++ DIG := by decide +kernel
        rw [e3]
        unfold signB
        rw [Bool.eq_iff_iff, decide_eq_true_eq, Bool.or_eq_true, decide_eq_true_eq, decide_eq_true_eq, List.mem_append]
      rw [e2]
      rfl
    · rintro G ⟨sm, hA⟩
      rw [List.take_of_length_le (by rw [Array.length_toList]; exact Nat.le_refl _)] at hA
      refine ⟨E1, _, rfl, .inl (.inl hA), ?_⟩
      have ea : (t.cps.toList.map signB).all id = nameB t := by rw [en, List.all_map]; rfl
      rw [ea]
      exact k G sm

end
end Sk

set_option Elab.async false
set_option linter.all false
set_option maxRecDepth 100000
set_option maxHeartbeats 4000000
namespace Sk
open PySem PySem.Spec PyProof.Rows L2
section
variable {P : Program} {w : World} {K : PySem.W.Frag} {mg : Str → Option Value} {base : Heap}
abbrev s_is_kind : Stmt := top 16
theorem sc_is_kind : FnScope ["kind", "wake", "slow", "fast", "least", "most"] ["kind"] (defScope s_is_kind) := ⟨rfl, rfl, rfl, by decide +kernel, rfl, by decide +kernel, by decide +kernel⟩
theorem ok_is_kind {f : Addr} {fd : FuncData} (F : Fun K "is_kind" "is_kind" s_is_kind f fd) (T : TxtA mg) : FnOk P w K mg base CX0 1 f fd ["kind"] (spIsKind) := by
  refine F.ok sc_is_kind (fun vs H Q E h => ?_) (fun cdv A outer s H vs Q E hr h => ?_)
  · obtain ⟨_, _, _, _, _, _, rfl, _⟩ := h
    rfl
  · obtain ⟨ki, w, s, f, a, b, rfl, hk, k⟩ := h
    refine ⟨_, (pss_cons (ps_asg (pv 0) (pg_tup (by rfl) (pgs_cons (pg_name (i := 1) sc_is_kind.nd rfl (Or.inl rfl)) (pgs_cons (pg_name (i := 2) sc_is_kind.nd rfl (Or.inl rfl)) (pgs_cons (pg_name (i := 3) sc_is_kind.nd rfl (Or.inl rfl)) (pgs_cons (pg_name (i := 4) sc_is_kind.nd rfl (Or.inl rfl)) (pgs_cons (pg_name (i := 5) sc_is_kind.nd rfl (Or.inl rfl)) pgs_nil)))))))
    (pss_one (ps_ret (pe_and (pe_chain op_le op_le pe_int (pv 1) pe_int) (pe_and (pe_chain3 op_le op_le op_le pe_int (pv 2) (pv 3) pe_int) (pe_one (pe_chain3 op_le op_le op_le pe_int (pv 4) (pv 5) pe_int))))))), ?_⟩
    rw [show L2.start ["kind", "wake", "slow", "fast", "least", "most"] [V.ref ki] = [some (V.ref ki), none, none, none, none, none] from rfl]
    have kF : isK w s f a b = false → Q (.bl false) H := fun e => e ▸ k
    refine ⟨_, rfl, _, _, rfl, .inl (.inl hk), rfl, _, _, rfl, _, _, rfl, _, _, rfl, _, _, rfl, _, _, rfl, rfl, ?_⟩
    dsimp only [List.set]
    refine ⟨_, rfl, _, _, rfl, rfl, _, rfl, ?_⟩
    by_cases c1 : 0 ≤ w
    rotate_left
    · exact ifN c1 ⟨_, rfl, iteF (kF (by unfold isK; simp [c1]))⟩
    refine ifY c1 ?_
    refine ⟨_, _, rfl, rfl, ?_⟩
    by_cases c2 : w ≤ 3
    rotate_left
    · exact ⟨_, rfl, ifN c2 (kF (by unfold isK; simp [c2]))⟩
    refine ⟨_, rfl, ifY c2 ?_⟩
    refine ⟨_, rfl, _, _, rfl, rfl, _, rfl, ?_⟩
    by_cases c3 : 1 ≤ s
    rotate_left
    · exact ifN c3 ⟨_, rfl, iteF (kF (by unfold isK; simp [c3]))⟩
    refine ifY c3 ?_
    refine ⟨_, rfl, _, _, rfl, rfl, _, rfl, ?_⟩
    by_cases c4 : s ≤ f
    rotate_left
    · exact ifN c4 ⟨_, rfl, iteF (kF (by unfold isK; simp [c4]))⟩
    refine ifY c4 ?_
    refine ⟨_, _, rfl, rfl, ?_⟩
    by_cases c5 : f ≤ 10000
    rotate_left
    · exact ⟨_, rfl, ifN c5 (kF (by unfold isK; simp [c5]))⟩
    refine ⟨_, rfl, ifY c5 ?_⟩
    refine ⟨_, rfl, _, _, rfl, rfl, _, rfl, ?_⟩
    by_cases c6 : 1 ≤ a
    rotate_left
    · exact ifN c6 (kF (by unfold isK; simp [c6]))
    refine ifY c6 ?_
    refine ⟨_, rfl, _, _, rfl, rfl, _, rfl, ?_⟩
    by_cases c7 : a ≤ b
    rotate_left
    · exact ifN c7 (kF (by unfold isK; simp [c7]))
    refine ifY c7 ?_
    refine ⟨_, _, rfl, rfl, ?_⟩
    have e : isK w s f a b = decide (b ≤ 100) := by unfold isK; simp [c1, c2, c3, c4, c5, c6, c7]
    rw [e] at k
    exact k

end
end Sk

set_option Elab.async false
set_option linter.all false
set_option maxRecDepth 100000
set_option maxHeartbeats 4000000
namespace Sk
open PySem PySem.Spec PyProof.Rows L2 NdefX
section
variable {P : Program} {w : World} {K : PySem.W.Frag} {mg : Str → Option Value} {base : Heap}
abbrev s_RequestError___init__ : Stmt := inClass (top 5) 0
theorem ok_RequestError___init__ {f cc cda C : Addr} {oc kV doc pm ct : Value} {od an : Option Addr} {osl : Array (Option Value)}
    (lk : K.lookup f = some ⟨oc, od, .func (PySem.W.ksFn "__init__" "RequestError.__init__" (defArgs s_RequestError___init__) (defBody s_RequestError___init__) (defScope s_RequestError___init__) .none kV doc pm an (.ref cda) ct cc), osl⟩)
    (hcd : PySem.W.codeIn K (.ref cda) "RequestError.__init__" = true) (U : SupOk P K C cc cda) (T : OexC K C) (msup : mg "super" = none) (n1 : PySem.W.findIn K (.ref C) "code" = some none) (n2 : PySem.W.findIn K (.ref C) "index" = some none) :
    FnOk P w K mg base CX0 1 f (PySem.W.ksFn "__init__" "RequestError.__init__" (defArgs s_RequestError___init__) (defBody s_RequestError___init__) (defScope s_RequestError___init__) .none kV doc pm an (.ref cda) ct cc) ["self", "code", "index"] (spCErrR C) := by
  refine fn_err (N := ["self", "code", "index", "__class__"]) rfl lk hcd (nscope_by (by decide +kernel)) rfl rfl U T msup rfl (fun vs H Q E h => ?_) (fun env => rfl) (fun env => rfl) fun A outer s H vs Q E hr h => ?_
  · obtain ⟨_, _, _, rfl, _⟩ := h
    rfl
  · obtain ⟨a, s, t, rfl, ha, hs, ht, k⟩ := h
    have nd : (["self", "code", "index", "__class__"] : List Str).Nodup := by decide +kernel
    have h1000 : (1000 : Nat) ≤ sizeLine := by decide
    refine ⟨a, [.str s, .int t], _, _, rfl, ha, pe_joined (.cons pe_str (.cons (pe_fmt (pv 1)) (.cons pe_str (.cons (pe_fmt (pv 2)) .nil)))), pss_cons (ps_ost (pv 0) (pv 1)) (pss_one (ps_ost (pv 0) (pv 2))), ?_⟩
    rw [show startF ["self", "code", "index", "__class__"] [V.ref a, .str s, .int t] [some (.ref C)] = [some (.ref a), some (.str s), some (.int t), some (.ref C)] from rfl]
    have e0 : (Str.empty ++ ("request: " : Str)).length ≤ 100 := by decide +kernel
    have e2 : (" at " : Str).length ≤ 100 := by decide +kernel
    have e3 := PyProof.Rows.int_text_len_1921 (natAbs_log ht)
    have z : sizeLine = 16777216 := sizeLine_eq
    refine ⟨_, rfl, by omega, _, rfl, .inl ⟨s, rfl, by omega, _, rfl, by rw [Str.length_append]; omega, _, rfl, by rw [Str.length_append, Str.length_append]; omega, _, rfl, .inr ⟨t, rfl, natAbs_log ht, _, rfl, by rw [Str.length_append, Str.length_append, Str.length_append]; omega, (by show 1 ≤ 1000; decide), ha, ?_⟩⟩⟩
    refine ⟨_, rfl, _, rfl, a, C, rfl, T, n1, .inl ⟨ha, fun dx hdx n => ?_⟩⟩
    refine ⟨_, rfl, _, rfl, a, C, rfl, T, n2, .inr ⟨dx, [("code", .str s)], upd_same, ?_, (by show 1 ≤ 900; decide), ?_⟩⟩
    · rw [upd_ne n, upd_same]
    · exact k dx hdx n
end
end Sk

set_option Elab.async false
set_option linter.all false
set_option maxRecDepth 100000
set_option maxHeartbeats 4000000
namespace Sk
open PySem PySem.Spec PyProof.Rows L2 PySem.W
def spLawT (K : PySem.W.Frag) (TT : List Addr) : Sp := fun vs H Q _ => ∃ (a : Addr) (ns : List Int), vs = [.ref a] ∧ SqL K H a (ns.map V.int) ∧ ns.length ≤ 63 ∧ Tabs TT H ∧ ∀ H', Q (.bl true) H'
section
variable {P : Program} {w : World} {K : PySem.W.Frag} {mg : Str → Option Value} {base : Heap}
abbrev s_law : Stmt := top 64
theorem sc_law : FnScope ["script", "state", "chart", "requests", "k", "name", "flaw", "kept", "request", "due", "found"] ["script"] (defScope s_law) := ⟨rfl, rfl, rfl, by decide +kernel, rfl, by decide +kernel, by decide +kernel⟩
theorem ok_law {f : Addr} {fd : FuncData} {TT : List Addr} (F : Fun K "law" "law" s_law f fd) (T : TxtA mg) (Ts : mg "str" = none)
    (D_law_start : Def P w K mg base 1 "_law_start" ["script"] (spStart K))
    (D_law_draw : Def P w K mg base 1 "_law_draw" ["state", "bound"] (spDraw K))
    (D_law_pick : Def P w K mg base 2 "_law_pick" ["state", "things"] (spPick K))
    (D_law_small_chart : Def P w K mg base 5 "_law_small_chart" ["state"] (spSmall22 K))
    (D_law_request : Def P w K mg base 4 "_law_request" ["state", "chart", "name"] (spRequestR K))
    (D_law_spoil : Def P w K mg base 3 "_law_spoil" ["state", "chart", "requests"] (spSpoilQ K))
    (D_law_flaw : Def P w K mg base 3 "_law_flaw" ["chart", "requests"] (spFlawQ))
    (D_law_checked : Def P w K mg base 6 "_law_checked" ["chart", "requests"] (spCheckedQ TT))
    (D_law_code : Def P w K mg base 2 "_law_code" ["chart", "request", "before"] (spCodeQ))
    (D_law_menu : Def P w K mg base 4 "_law_menu" ["chart", "request"] (spMenuL))
    (D_menu : Def P w K mg base 8 "menu" ["chart", "request"] (spMenuR)) : FnOk P w K mg base CX0 9 f fd ["script"] (spLawT K TT) := by
  refine F.ok sc_law (fun vs H Q E h => ?_) (fun cdv A outer s H vs Q E hr h => ?_)
  · obtain ⟨a, ns0, rfl, _⟩ := h
    rfl
  · obtain ⟨a, ns0, rfl, hS, hl0, hT, k⟩ := h
    have hu := hu_of hr
    refine ⟨_, (pss_cons (ps_set (i := 1) sc_law.nd rfl (Or.inl rfl) (pe_def D_law_start (hr.mono (by decide)) (by rfl) (pa_cons (pv 0) pa_nil)))
    (pss_cons (ps_set (i := 2) sc_law.nd rfl (Or.inl rfl) (pe_def D_law_small_chart (hr.mono (by decide)) (by rfl) (pa_cons (pv 1) pa_nil)))
    (pss_cons (ps_set (i := 3) sc_law.nd rfl (Or.inl rfl) (pe_lst pa_nil))
    (pss_cons (ps_for PassesOwn.never rfl (pi_range1 (by rfl) T.range (pa_cons (pe_op op_add pe_int (pe_def D_law_draw (hr.mono (by decide)) (by rfl) (pa_cons (pv 1) (pa_cons pe_int pa_nil)))) pa_nil)) (pg_name (i := 4) sc_law.nd rfl (Or.inl rfl))
      (pss_cons (ps_set (i := 5) sc_law.nd rfl (Or.inl rfl) (pe_def D_law_pick (hr.mono (by decide)) (by rfl) (pa_cons (pv 1) (pa_cons (pe_lst (pa_cons pe_str (pa_cons pe_str (pa_cons pe_str (pa_cons pe_str pa_nil))))) pa_nil))))
    (pss_one (ps_expr (pe_bm PySem.F.plainAttrs_list PySem.F.slot_list_append PySem.F.type_list_append mt_append (pv 3) (pa_cons (pe_def D_law_request (hr.mono (by decide)) (by rfl) (pa_cons (pv 1) (pa_cons (pv 2) (pa_cons (pe_op op_add_str (pe_slice sl_str (pv 5) po_none (po_some pe_int)) (pe_callTy call_str_int (by rfl) Ts PySem.Pv.boot_str (pa_cons (pv 4) pa_nil))) pa_nil)))) pa_nil))))))
    (pss_cons (ps_for PassesOwn.never rfl (pi_range1 (by rfl) T.range (pa_cons (pe_def D_law_draw (hr.mono (by decide)) (by rfl) (pa_cons (pv 1) (pa_cons pe_int pa_nil))) pa_nil)) (pg_name (i := 4) sc_law.nd rfl (Or.inl rfl))
      (pss_one (ps_expr (pe_def D_law_spoil (hr.mono (by decide)) (by rfl) (pa_cons (pv 1) (pa_cons (pv 2) (pa_cons (pv 3) pa_nil)))))))
    (pss_cons (ps_set (i := 6) sc_law.nd rfl (Or.inl rfl) (pe_def D_law_flaw (hr.mono (by decide)) (by rfl) (pa_cons (pv 2) (pa_cons (pv 3) pa_nil))))
    (pss_cons (ps_set (i := 7) sc_law.nd rfl (Or.inl rfl) (pe_callTy call_list_of (by rfl) T.list boot_list (pa_cons (pv 3) pa_nil)))
    (pss_cons (ps_if (PW.pt (pw_or (pt_cmpR (op_neD hr.units) (pe_def D_law_checked (hr.mono (by decide)) (by rfl) (pa_cons (pv 2) (pa_cons (pv 3) pa_nil))) (pv 6) (nomark _)) (pw_or1 (pt_cmpR (op_neD hr.units) (pv 3) (pv 7) (nomark _))))) (pss_one (ps_ret pe_bl))
      pss_nil)
    (pss_cons (ps_for PassesOwn.never rfl (pi_list (pv 3)) (pg_name (i := 8) sc_law.nd rfl (Or.inl rfl))
      (pss_one (ps_if (pt_cmpR op_eq (pe_def D_law_code (hr.mono (by decide)) (by rfl) (pa_cons (pv 2) (pa_cons (pv 8) (pa_cons (pe_lst pa_nil) pa_nil)))) pe_str (nomark _)) (pss_cons (ps_set (i := 9) sc_law.nd rfl (Or.inl rfl) (pe_def D_law_menu (hr.mono (by decide)) (by rfl) (pa_cons (pv 2) (pa_cons (pv 8) pa_nil))))
    (pss_cons (ps_set (i := 10) sc_law.nd rfl (Or.inl rfl) (pe_def D_menu (hr.mono (by decide)) (by rfl) (pa_cons (pv 2) (pa_cons (pv 8) pa_nil))))
    (pss_cons (ps_if (PW.pt (pw_or (pt_not (pt_val (pe_callB (r := rIsi K) call_isi (by rfl) T.isinstance boot_isinstance (pa_cons (pv 10) (pa_cons (pe_bltn (v := .ty "list") (by rfl) T.list boot_list rfl) pa_nil))))) (pw_or1 (pt_cmpR (op_neD hr.units) (pv 10) (pv 9) (nomark _))))) (pss_one (ps_ret pe_bl))
      pss_nil)
    (pss_cons (ps_expr (pe_bm PySem.F.plainAttrs_list PySem.F.slot_list_append PySem.F.type_list_append mt_append (pv 10) (pa_cons pe_str pa_nil)))
    (pss_one (ps_if (pt_cmpR (op_neD hr.units) (pe_def D_menu (hr.mono (by decide)) (by rfl) (pa_cons (pv 2) (pa_cons (pv 8) pa_nil))) (pv 9) (nomark _)) (pss_one (ps_ret pe_bl))
      pss_nil))))))
      pss_nil)))
    (pss_one (ps_ret pe_bl))))))))))), ?_⟩
    rw [show L2.start ["script", "state", "chart", "requests", "k", "name", "flaw", "kept", "request", "due", "found"] [V.ref a] = [some (V.ref a), none, none, none, none, none, none, none, none, none, none] from rfl]
    refine ⟨_, rfl, a, ns0, rfl, hS, hl0, fun d c H1 hd0 hc0 S1 s1 => ?_⟩
    have T1 := Same.tabs s1 hT
    clear s1 hS hT hd0 hc0
    refine nm ?_
    dsimp only [List.set]
    refine ⟨_, rfl, d, c, rfl, S1, fun D ch hd hv H2 ce uq hls hpos C2 A2 hch hfx hhd hlg S2 k2 => ?_⟩
    have L2 : L22 K TT H2 d c ch hd D hv := ⟨S2, let ⟨_, e⟩ := S1.dk; Keep.tabs k2 e T1, C2, A2, S1.nd hch, S1.nd hfx, S1.nd hhd⟩
    clear S1 T1 C2 A2 hch hfx hhd hlg S2 k2 hls
    refine nm ?_
    dsimp only [List.set]
    refine ⟨szOk rfl, fun l hl => ?_⟩
    have z3 := same_new (o := .lst []) hl
    have nld := L2.S.nd hl
    have nlc := L2.S.nc hl
    have ngl : D.lg ≠ l := ne_of_none L2.C.lg hl
    have L3 := L2.same z3
    have R3 : QstsAt (upd H2 l (.lst [])) l [] := ⟨upd_same, fun q h => by cases h⟩
    generalize upd H2 l (.lst []) = H3 at L3 R3 ⊢
    clear L2 z3 hl
    refine nm ?_
    dsimp only [List.set]
    -- requests
    refine ⟨_, rfl, d, c, 4, rfl, L3.S, by decide, by decide, fun x H4 x0 x1 S4 k4 => ?_⟩
    have L4 := L3.keep k4 S4
    have R4 := R3.keep L3.S k4
    clear L3 R3 k4 S4
    refine ⟨_, _, rfl, rfl, ?_⟩
    refine ⟨_, rfl, by omega, by omega, for_range (n := (1 + x).toNat) (fun i σ H5 => ∃ (v4 v5 : Option V) (qs : List Rq), σ = [some (.ref a), some (.ref d), some (.ref ch), some (.ref l), v4, v5, none, none, none, none, none] ∧ L22 K TT H5 d c ch hd D hv ∧ QstsAt H5 l qs ∧ (∀ q ∈ qs, QstOk q) ∧ qs.length = i) ⟨_, _, [], rfl, L4, R4, (fun q h => by cases h), rfl⟩ ?_ ?_⟩
    · rintro i σ H5 hi ⟨v4, v5, qs, rfl, L5, R5, ok5, ql⟩
      have i4 : i < 4 := by omega
      refine nm ?_
      dsimp only [List.set]
      rw [Int.zero_add]
      refine ⟨_, rfl, szOk rfl, fun p hp => ?_⟩
      refine ⟨d, c, p, _, rfl, L5.S.new hp, .inl (.inl upd_same), (fun z => nomatch z), (by show 4 ≤ 1000; decide), fun v H6 hv6 S6 k6 => ?_⟩
      obtain ⟨nm0, hnm, rfl⟩ : ∃ s ∈ nm4, v = .str s := by
        simp only [List.mem_cons, List.not_mem_nil, or_false] at hv6
        rcases hv6 with rfl | rfl | rfl | rfl
        · exact ⟨_, by simp [nm4], rfl⟩
        · exact ⟨_, by simp [nm4], rfl⟩
        · exact ⟨_, by simp [nm4], rfl⟩
        · exact ⟨_, by simp [nm4], rfl⟩
      obtain ⟨h1, h2, h3, h4, h5⟩ := name_ok nm0 hnm i i4
      have L6 := (L5.same (same_new hp)).keep k6 S6
      have R6 := (R5.same (same_new hp)).keep (L5.S.new hp) k6
      clear k6 S6 L5 R5 hp hv6
      refine nm ?_
      dsimp only [List.set]
      refine ⟨_, rfl, (.inl ⟨rfl, _, .inl (.inl R6.1)⟩), _, rfl, _, rfl, _, rfl, _, rfl, nm0, rfl, by rw [sizeLine_eq]; omega, _, rfl, _, rfl, h4, _, _, rfl, rfl, by rw [sizeLine_eq]; omega, d, c, ch, D, _, rfl, L6.S, L6.C, ce, L6.n1, L6.n2, by rw [Str.length_append]; omega, h5, fun q H7 Rq okq S7 k7 => ?_⟩
      have L7 := L6.keep k7 S7
      have R7 := R6.keep L6.S k7
      refine ⟨_, _, _, rfl, rfl, R7.1, small1000 (by rw [List.length_map]; omega), ?_⟩
      have kp : Kp2 d l H7 (upd H7 l (.lst (qs.map (fun q => V.ref q.a) ++ [.ref q.a]))) := fun b o e n1 n2 => by rw [upd_ne n2]; exact e
      refine ⟨_, _, qs ++ [q], rfl, L7.kp2 R7.1 ngl kp (L7.S.put nld nlc), ⟨by rw [upd_same, List.map_append]; rfl, fun y hy => ?_⟩, fun y hy => ?_, by rw [List.length_append, ql]; rfl⟩
      · have key : QstAt H7 y := by
          rcases List.mem_append.mp hy with h | h
          · exact R7.2 y h
          · rw [List.mem_singleton.mp h]; exact Rq
        exact ⟨by rw [upd_ne (ne_of key.r R7.1 (by intro z; cases z))]; exact key.r, by rw [upd_ne (ne_of key.k R7.1 (by intro z; cases z))]; exact key.k⟩
      · rcases List.mem_append.mp hy with h | h
        · exact ok5 y h
        · rw [List.mem_singleton.mp h]; exact okq
    rintro σ H5 ⟨v4, v5, qs, rfl, L5, R5, ok5, ql⟩
    have qne : qs ≠ [] := fun z => by rw [z] at ql; simp only [List.length_nil] at ql; omega
    have q100 : qs.length ≤ 100 := by omega
    clear ql L4 R4
    dsimp only
    -- spoilt
    refine ⟨_, rfl, d, c, 4, rfl, L5.S, by decide, by decide, fun y H6 y0 y1 S6 k6 => ?_⟩
    have L6 := L5.keep k6 S6
    have R6 := R5.keep L5.S k6
    clear L5 R5 k6 S6
    refine ⟨_, rfl, by omega, by omega, for_range (n := y.toNat) (fun i σ H7 => ∃ (v4 : Option V) (qs : List Rq), σ = [some (.ref a), some (.ref d), some (.ref ch), some (.ref l), v4, v5, none, none, none, none, none] ∧ L22 K TT H7 d c ch hd D hv ∧ QstsAt H7 l qs ∧ (∀ q ∈ qs, QstOk q) ∧ qs ≠ [] ∧ qs.length ≤ 100) ⟨_, qs, rfl, L6, R6, ok5, qne, q100⟩ ?_ ?_⟩
    · rintro i σ H7 hi ⟨v4, qs, rfl, L7, R7, ok7, ne7, q7⟩
      refine nm ?_
      dsimp only [List.set]
      refine ⟨_, rfl, _, rfl, _, rfl, d, c, ch, l, qs, rfl, L7.S, R7, ok7, ne7, q7, nld, nlc, fun qs' H8 R8 ok8 ql8 S8 kp8 => ?_⟩
      exact ⟨_, qs', rfl, L7.kp2 R7.1 ngl kp8 S8, R8, ok8, (fun z => ne7 (List.eq_nil_of_length_eq_zero (by rw [← ql8, z]; rfl))), by omega⟩
    clear L6 R6 ok5 qne q100 qs
    rintro σ H7 ⟨v4, qs, rfl, L7, R7, ok, ne7, q7⟩
    dsimp only
    refine ⟨_, rfl, _, rfl, ch, l, D, qs, rfl, L7.C, R7, ok, q7, fun v6 H8 s8 fq => ?_⟩
    have L8 := L7.same s8
    have R8 := R7.same s8
    clear L7 R7 s8
    refine nm ?_
    dsimp only [List.set]
    refine ⟨_, rfl, l, _, rfl, .inl (.inl (.inl R8.1)), fun kp hkp => ?_⟩
    have z9 := same_new (o := .lst (qs.map fun q => V.ref q.a)) hkp
    have L9 := L8.same z9
    have R9 := R8.same z9
    have fq9 := fq.same z9
    have hk9 : (upd H8 kp (.lst (qs.map fun q => V.ref q.a))) kp = some (.lst (qs.map fun q => V.ref q.a)) := upd_same
    generalize upd H8 kp (.lst (qs.map fun q => V.ref q.a)) = H9 at L9 R9 fq9 hk9 ⊢
    clear L8 R8 fq z9 hkp
    refine nm ?_
    dsimp only [List.set]
    refine ⟨_, rfl, _, rfl, ch, l, D, qs, rfl, L9.C, R9, ok, q7, L9.T, fun w H10 st10 gq => ?_⟩
    have L10 := L9.st st10
    have R10 := R9.st st10 L9.T
    have hk10 := st10.l L9.T hk9
    obtain ⟨e, d1, d2, she, cne⟩ := gq.two (K := K) (fq9.st st10 L9.T)
    refine ⟨_, rfl, e, e, d1, d2, she, she, _, rfl, eqvN cne ?_⟩
    refine ⟨_, rfl, _, rfl, _, _, R10.dp R10.1, R10.dp hk10, sh_rqs ok, sh_rqs ok, _, rfl, eqvN (can_rqs ok) ?_⟩
    refine nxL ?_
    dsimp only
    clear gq fq9 d1 d2 she cne e hk10 hk9 st10 L9 R9
    obtain ⟨ks, hks, hnd, ks2, ks7, hpt, hsep⟩ := ce
    refine ⟨_, rfl, l, rfl, ⟨_, .inl (.inl R10.1)⟩, for_list (K := K) (a := l) (xs := qs.map fun q => V.ref q.a) (fun i σ H11 => ∃ (v8 v9 v10 : Option V), σ = [some (.ref a), some (.ref d), some (.ref ch), some (.ref l), v4, v5, some v6, some (.ref kp), v8, v9, v10] ∧ L22 K TT H11 d c ch hd D hv ∧ QstsAt H11 l qs) ⟨_, _, _, rfl, L10, R10⟩ (fun i σ H11 _ ⟨_, _, _, _, _, R11⟩ => .inl (.inl R11.1)) ?_ ?_⟩
    · rintro i y σ H11 hy11 ⟨v8, v9, v10, rfl, L11, R11⟩
      obtain ⟨q, rfl, hq, hil, htk⟩ := getMap hy11
      refine nm ?_
      dsimp only [List.set]
      refine ⟨_, rfl, _, rfl, szOk rfl, fun b hb => ?_⟩
      have z12 := same_new (o := .lst []) hb
      have L12 := L11.same z12
      have R12 := R11.same z12
      have hb12 : (upd H11 b (.lst [])) b = some (.lst (([] : List Str).map V.str)) := upd_same
      generalize upd H11 b (.lst []) = H12 at L12 R12 hb12 ⊢
      refine ⟨ch, D, q, b, [], rfl, L12.C, R12.2 q hq, ok q hq, hb12, fun H13 s13 => ?_⟩
      have L13 := L12.same s13
      have R13 := R12.same s13
      clear L11 R11 z12 hb L12 R12 hb12 s13
      refine ⟨rfl, _, rfl, ?_⟩
      by_cases e : faultR D [] q = ""
      rotate_left
      · refine ifN (fun z => e (V.str.inj z)) ?_
        refine nxL ?_
        exact ⟨_, _, _, rfl, L13, R13⟩
      refine ifY (congrArg V.str e) ?_
      obtain ⟨f1, f2, f3⟩ := fault_ok e
      have O : Ok7 D ks q.st q.g := ⟨⟨uq, end_in L13.C hks, ks7⟩, hpos, has_key hks f1, has_key hks f2, f3⟩
      refine ⟨_, rfl, _, rfl, ch, hd, D, hv, ks, q, rfl, L13.C, L13.A, O, R13.2 q hq, fun fd os p H14 s14 np OA ⟨al, aS, aP, efd⟩ eos => ?_⟩
      have L14 := L13.same s14
      have R14 := R13.same s14
      clear L13 R13 s14
      refine nm ?_
      dsimp only [List.set]
      refine ⟨_, rfl, _, rfl, ch, hd, D, hv, ks, q, rfl, L14.C, L14.A, O, R14.2 q hq, fun fd2 os2 p2 H15 s15 np2 OA2 hal eos2 => ?_⟩
      have ef2 : fd2 = fd := (hal al aS aP).trans efd.symm
      subst ef2
      refine nm ?_
      dsimp only [List.set]
      have fok : ∀ ns ∈ fd2, ∀ n ∈ ns, sOk n := fun ns hns n hn => by
        rw [efd] at hns
        obtain ⟨_, _, _, _, h⟩ := con_ok O aP ns (List.mem_of_mem_take hns)
        exact (hpt n (h n hn)).1
      have f2l : fd2.length ≤ 2 := by rw [efd, List.length_take]; omega
      have ook := opts_ok L14.A.ok fok q
      have ol := opts_len (hv := hv) q f2l
      refine ⟨_, rfl, _, _, _, _, true, rfl, ClsV.ty "list", TyX.base (TyOf.lst OA2.1), kit_ty (by decide +kernel), ?_⟩
      refine ⟨_, rfl, iteF ?_⟩
      have D1 : Dp K H15 (.ref p2) (.list ((optsL hv fd2 q).map opD)) := by rw [← eos2]; exact OA2.dp
      have D2 : Dp K H15 (.ref p) (.list ((optsL hv fd2 q).map opD)) := by rw [← eos]; exact (OA.same s15).dp
      refine ⟨_, rfl, _, rfl, _, _, D1, D2, sh_opts ook, sh_opts ook, _, rfl, eqvN (can_opts ook) ?_⟩
      refine nxL ?_
      dsimp only
      have o2 : os2.length ≤ 32 := by
        have := congrArg List.length eos2
        rw [List.length_map] at this
        omega
      refine ⟨_, rfl, (.inl ⟨rfl, _, .inl (.inl OA2.1)⟩), ⟨_, _, _, rfl, rfl, OA2.1, small1000 (by rw [List.length_map]; omega), ?_⟩⟩
      have s16 : Same H14 (upd H15 p2 (.lst (os2.map (fun o => V.ref o.t) ++ [.str "spoilt"]))) := fun b ob hb => by
        rw [upd_ne (ne_of_none hb np2)]
        exact s15 _ _ hb
      have L16 := L14.same s16
      have R16 := R14.same s16
      have OA16 := OA.same s16
      generalize upd H15 p2 (.lst (os2.map (fun o => V.ref o.t) ++ [.str "spoilt"])) = H16 at L16 R16 OA16 ⊢
      clear L14 R14 OA OA2 s15 s16 D1 D2 np np2
      refine ⟨_, rfl, _, rfl, ch, hd, D, hv, ks, q, rfl, L16.C, L16.A, O, R16.2 q hq, fun fd3 os3 p3 H17 s17 np3 OA3 hal3 eos3 => ?_⟩
      have ef3 : fd3 = fd2 := (hal3 al aS aP).trans efd.symm
      subst ef3
      have D1 : Dp K H17 (.ref p3) (.list ((optsL hv fd3 q).map opD)) := by rw [← eos3]; exact OA3.dp
      have D2 : Dp K H17 (.ref p) (.list ((optsL hv fd3 q).map opD)) := by rw [← eos]; exact (OA16.same s17).dp
      refine ⟨_, rfl, _, _, D1, D2, sh_opts ook, sh_opts ook, _, rfl, eqvN (can_opts ook) ?_⟩
      refine nxL ?_
      exact ⟨_, _, _, rfl, L16.same s17, R16.same s17⟩
    rintro σ H11 ⟨v8, v9, v10, rfl, L11, R11⟩
    exact k _

end
end Sk

set_option Elab.async false
set_option linter.all false
set_option maxRecDepth 100000
set_option maxHeartbeats 4000000
namespace Sk
open PySem PySem.Spec PyProof.Rows L2
/-! the end -/
theorem all_mk {l : PySem.W.OpenLaw} {w : World} {K : PySem.W.Frag} {h : Heap} {mg : Str → Option Value} {fa f1 f2 f3 f4 f5 f6 f7 f8 f9 f10 f11 f12 f13 f14 f15 f16 f17 f18 f19 f20 f21 f22 f23 f24 f25 f26 f27 f28 f29 f30 f31 f32 f33 f34 f35 tc12 tp12 : Addr} (X : K.In h) (G : h.Ns mainGlobals mg) (hfa : mg "law" = some (.ref fa))
    {od1 an1 od2 an2 od3 an3 od4 an4 od5 an5 od6 an6 od7 an7 od8 an8 od9 an9 od10 an10 od11 an11 od12 an12 od13 an13 od14 an14 od15 an15 od16 an16 od17 an17 od18 an18 od19 an19 od20 an20 od21 an21 od22 an22 od23 an23 od24 an24 od25 an25 od26 an26 od27 an27 od28 an28 od29 an29 od30 an30 od31 an31 od32 an32 od33 an33 od34 an34 od35 an35 : Option Addr} {sl1 sl2 sl3 sl4 sl5 sl6 sl7 sl8 sl9 sl10 sl11 sl12 sl13 sl14 sl15 sl16 sl17 sl18 sl19 sl20 sl21 sl22 sl23 sl24 sl25 sl26 sl27 sl28 sl29 sl30 sl31 sl32 sl33 sl34 sl35 : Array (Option Value)} {oc1 kV1 dc1 pm1 ct1 cd1 oc2 kV2 dc2 pm2 ct2 cd2 oc3 kV3 dc3 pm3 ct3 cd3 oc4 kV4 dc4 pm4 ct4 cd4 oc5 kV5 dc5 pm5 ct5 cd5 oc6 kV6 dc6 pm6 ct6 cd6 oc7 kV7 dc7 pm7 ct7 cd7 oc8 kV8 dc8 pm8 ct8 cd8 oc9 kV9 dc9 pm9 ct9 cd9 oc10 kV10 dc10 pm10 ct10 cd10 oc11 kV11 dc11 pm11 ct11 cd11 oc12 kV12 dc12 pm12 ct12 oc13 kV13 dc13 pm13 ct13 cd13 oc14 kV14 dc14 pm14 ct14 cd14 oc15 kV15 dc15 pm15 ct15 cd15 oc16 kV16 dc16 pm16 ct16 cd16 oc17 kV17 dc17 pm17 ct17 cd17 oc18 kV18 dc18 pm18 ct18 cd18 oc19 kV19 dc19 pm19 ct19 cd19 oc20 kV20 dc20 pm20 ct20 cd20 oc21 kV21 dc21 pm21 ct21 cd21 oc22 kV22 dc22 pm22 ct22 cd22 oc23 kV23 dc23 pm23 ct23 cd23 oc24 kV24 dc24 pm24 ct24 cd24 oc25 kV25 dc25 pm25 ct25 cd25 oc26 kV26 dc26 pm26 ct26 cd26 oc27 kV27 dc27 pm27 ct27 cd27 oc28 kV28 dc28 pm28 ct28 cd28 oc29 kV29 dc29 pm29 ct29 cd29 oc30 kV30 dc30 pm30 ct30 cd30 oc31 kV31 dc31 pm31 ct31 cd31 oc32 kV32 dc32 pm32 ct32 cd32 oc33 kV33 dc33 pm33 ct33 cd33 oc34 kV34 dc34 pm34 ct34 cd34 oc35 kV35 dc35 pm35 ct35 cd35 ov12 : Value} {oo12 : Option Addr} {os12 : Array (Option Value)} {fv12 : Array Value}
    {CE_RequestError fE0 ccE0 cdE0 NE0 : Addr} {ocE0 kVE0 dcE0 pmE0 ctE0 clE0 cclE0 : Value} {odE0 anE0 cldE0 cddE0 ddE0 : Option Addr} {slE0 cslE0 ccsE0 : Array (Option Value)} {vsE0 : Array Value} {fileE0 nmE0 qE0 : Str} {tfE0 : Tok} {bsE0 bmE0 subE0 : List Value} {snE0 : List Str} {abE0 : Bool} {colE0 : Option Bool} {k0E0 k1E0 k2E0 k3E0 k5E0 : Option Value}
    {CE fE1 ccE1 cdE1 NE1 : Addr} {ocE1 kVE1 dcE1 pmE1 ctE1 clE1 cclE1 : Value} {odE1 anE1 cldE1 cddE1 ddE1 : Option Addr} {slE1 cslE1 ccsE1 : Array (Option Value)} {vsE1 : Array Value} {fileE1 nmE1 qE1 : Str} {tfE1 : Tok} {bsE1 bmE1 subE1 : List Value} {snE1 : List Str} {abE1 : Bool} {colE1 : Option Bool} {k0E1 k1E1 k2E1 k3E1 k5E1 : Option Value}
    (a1 : PySem.W.nsIn K mainGlobals "_law_start" = some (some (.ref f1))) (l1 : K.lookup f1 = some ⟨oc1, od1, .func (PySem.W.fnOf "_law_start" "_law_start" (defArgs s_law_start) (defBody s_law_start) (defScope s_law_start) .none kV1 dc1 pm1 an1 cd1 ct1), sl1⟩) (c1 : PySem.W.codeIn K cd1 "_law_start" = true) (k1 : PySem.W.keepIn K (.ref f1) = true)
    (a2 : PySem.W.nsIn K mainGlobals "_law_draw" = some (some (.ref f2))) (l2 : K.lookup f2 = some ⟨oc2, od2, .func (PySem.W.fnOf "_law_draw" "_law_draw" (defArgs s_law_draw) (defBody s_law_draw) (defScope s_law_draw) .none kV2 dc2 pm2 an2 cd2 ct2), sl2⟩) (c2 : PySem.W.codeIn K cd2 "_law_draw" = true) (k2 : PySem.W.keepIn K (.ref f2) = true)
    (a3 : PySem.W.nsIn K mainGlobals "_law_pick" = some (some (.ref f3))) (l3 : K.lookup f3 = some ⟨oc3, od3, .func (PySem.W.fnOf "_law_pick" "_law_pick" (defArgs s_law_pick) (defBody s_law_pick) (defScope s_law_pick) .none kV3 dc3 pm3 an3 cd3 ct3), sl3⟩) (c3 : PySem.W.codeIn K cd3 "_law_pick" = true) (k3 : PySem.W.keepIn K (.ref f3) = true)
    (a4 : PySem.W.nsIn K mainGlobals "root_down" = some (some (.ref f4))) (l4 : K.lookup f4 = some ⟨oc4, od4, .func (PySem.W.fnOf "root_down" "root_down" (defArgs s_root_down) (defBody s_root_down) (defScope s_root_down) .none kV4 dc4 pm4 an4 cd4 ct4), sl4⟩) (c4 : PySem.W.codeIn K cd4 "root_down" = true) (k4 : PySem.W.keepIn K (.ref f4) = true)
    (a5 : PySem.W.nsIn K mainGlobals "root_up" = some (some (.ref f5))) (l5 : K.lookup f5 = some ⟨oc5, od5, .func (PySem.W.fnOf "root_up" "root_up" (defArgs s_root_up) (defBody s_root_up) (defScope s_root_up) .none kV5 dc5 pm5 an5 cd5 ct5), sl5⟩) (c5 : PySem.W.codeIn K cd5 "root_up" = true) (k5 : PySem.W.keepIn K (.ref f5) = true)
    (a6 : PySem.W.nsIn K mainGlobals "leg_length" = some (some (.ref f6))) (l6 : K.lookup f6 = some ⟨oc6, od6, .func (PySem.W.fnOf "leg_length" "leg_length" (defArgs s_leg_length) (defBody s_leg_length) (defScope s_leg_length) .none kV6 dc6 pm6 an6 cd6 ct6), sl6⟩) (c6 : PySem.W.codeIn K cd6 "leg_length" = true) (k6 : PySem.W.keepIn K (.ref f6) = true)
    (a7 : PySem.W.nsIn K mainGlobals "_law_root_up" = some (some (.ref f7))) (l7 : K.lookup f7 = some ⟨oc7, od7, .func (PySem.W.fnOf "_law_root_up" "_law_root_up" (defArgs s_law_root_up) (defBody s_law_root_up) (defScope s_law_root_up) .none kV7 dc7 pm7 an7 cd7 ct7), sl7⟩) (c7 : PySem.W.codeIn K cd7 "_law_root_up" = true) (k7 : PySem.W.keepIn K (.ref f7) = true)
    (a8 : PySem.W.nsIn K mainGlobals "_law_names" = some (some (.ref f8))) (l8 : K.lookup f8 = some ⟨oc8, od8, .func (PySem.W.fnOf "_law_names" "_law_names" (defArgs s_law_names) (defBody s_law_names) (defScope s_law_names) .none kV8 dc8 pm8 an8 cd8 ct8), sl8⟩) (c8 : PySem.W.codeIn K cd8 "_law_names" = true) (k8 : PySem.W.keepIn K (.ref f8) = true)
    (a9 : PySem.W.nsIn K mainGlobals "_law_legs" = some (some (.ref f9))) (l9 : K.lookup f9 = some ⟨oc9, od9, .func (PySem.W.fnOf "_law_legs" "_law_legs" (defArgs s_law_legs) (defBody s_law_legs) (defScope s_law_legs) .none kV9 dc9 pm9 an9 cd9 ct9), sl9⟩) (c9 : PySem.W.codeIn K cd9 "_law_legs" = true) (k9 : PySem.W.keepIn K (.ref f9) = true)
    (a10 : PySem.W.nsIn K mainGlobals "_law_chart" = some (some (.ref f10))) (l10 : K.lookup f10 = some ⟨oc10, od10, .func (PySem.W.fnOf "_law_chart" "_law_chart" (defArgs s_law_chart) (defBody s_law_chart) (defScope s_law_chart) .none kV10 dc10 pm10 an10 cd10 ct10), sl10⟩) (c10 : PySem.W.codeIn K cd10 "_law_chart" = true) (k10 : PySem.W.keepIn K (.ref f10) = true)
    (a11 : PySem.W.nsIn K mainGlobals "_law_lengths" = some (some (.ref f11))) (l11 : K.lookup f11 = some ⟨oc11, od11, .func (PySem.W.fnOf "_law_lengths" "_law_lengths" (defArgs s_law_lengths) (defBody s_law_lengths) (defScope s_law_lengths) .none kV11 dc11 pm11 an11 cd11 ct11), sl11⟩) (c11 : PySem.W.codeIn K cd11 "_law_lengths" = true) (k11 : PySem.W.keepIn K (.ref f11) = true)
    (a12 : PySem.W.nsIn K mainGlobals "is_name" = some (some (.ref f12))) (l12 : K.lookup f12 = some ⟨oc12, od12, .func (PySem.W.fnOf "is_name" "is_name" (defArgs s_is_name) (defBody s_is_name) (defScope s_is_name) .none kV12 dc12 pm12 an12 (.ref tc12) ct12), sl12⟩) (c12 : PySem.W.codeIn K (.ref tc12) "is_name" = true) (k12 : PySem.W.keepIn K (.ref f12) = true)
    (lc12 : K.lookup tc12 = some ⟨ov12, oo12, .fields fv12, os12⟩) (hv12 : fv12[11]? = some (.ref tp12)) (np12 : K.lookup tp12 = none) (w12 : PySem.W.CodeHd h tc12 tp12 ∧ h.get? tp12 = some { cls := .none, data := .fields #[] })
    (a13 : PySem.W.nsIn K mainGlobals "_law_is_name" = some (some (.ref f13))) (l13 : K.lookup f13 = some ⟨oc13, od13, .func (PySem.W.fnOf "_law_is_name" "_law_is_name" (defArgs s_law_is_name) (defBody s_law_is_name) (defScope s_law_is_name) .none kV13 dc13 pm13 an13 cd13 ct13), sl13⟩) (c13 : PySem.W.codeIn K cd13 "_law_is_name" = true) (k13 : PySem.W.keepIn K (.ref f13) = true)
    (a14 : PySem.W.nsIn K mainGlobals "_law_kind" = some (some (.ref f14))) (l14 : K.lookup f14 = some ⟨oc14, od14, .func (PySem.W.fnOf "_law_kind" "_law_kind" (defArgs s_law_kind) (defBody s_law_kind) (defScope s_law_kind) .none kV14 dc14 pm14 an14 cd14 ct14), sl14⟩) (c14 : PySem.W.codeIn K cd14 "_law_kind" = true) (k14 : PySem.W.keepIn K (.ref f14) = true)
    (a15 : PySem.W.nsIn K mainGlobals "_open" = some (some (.ref f15))) (l15 : K.lookup f15 = some ⟨oc15, od15, .func (PySem.W.fnOf "_open" "_open" (defArgs s_open) (defBody s_open) (defScope s_open) .none kV15 dc15 pm15 an15 cd15 ct15), sl15⟩) (c15 : PySem.W.codeIn K cd15 "_open" = true) (k15 : PySem.W.keepIn K (.ref f15) = true)
    (a16 : PySem.W.nsIn K mainGlobals "_longer" = some (some (.ref f16))) (l16 : K.lookup f16 = some ⟨oc16, od16, .func (PySem.W.fnOf "_longer" "_longer" (defArgs s_longer) (defBody s_longer) (defScope s_longer) .none kV16 dc16 pm16 an16 cd16 ct16), sl16⟩) (c16 : PySem.W.codeIn K cd16 "_longer" = true) (k16 : PySem.W.keepIn K (.ref f16) = true)
    (a17 : PySem.W.nsIn K mainGlobals "alternatives" = some (some (.ref f17))) (l17 : K.lookup f17 = some ⟨oc17, od17, .func (PySem.W.fnOf "alternatives" "alternatives" (defArgs s_alternatives) (defBody s_alternatives) (defScope s_alternatives) .none kV17 dc17 pm17 an17 cd17 ct17), sl17⟩) (c17 : PySem.W.codeIn K cd17 "alternatives" = true) (k17 : PySem.W.keepIn K (.ref f17) = true)
    (a18 : PySem.W.nsIn K mainGlobals "_looped" = some (some (.ref f18))) (l18 : K.lookup f18 = some ⟨oc18, od18, .func (PySem.W.fnOf "_looped" "_looped" (defArgs s_looped) (defBody s_looped) (defScope s_looped) .none kV18 dc18 pm18 an18 cd18 ct18), sl18⟩) (c18 : PySem.W.codeIn K cd18 "_looped" = true) (k18 : PySem.W.keepIn K (.ref f18) = true)
    (a19 : PySem.W.nsIn K mainGlobals "with_loops" = some (some (.ref f19))) (l19 : K.lookup f19 = some ⟨oc19, od19, .func (PySem.W.fnOf "with_loops" "with_loops" (defArgs s_with_loops) (defBody s_with_loops) (defScope s_with_loops) .none kV19 dc19 pm19 an19 cd19 ct19), sl19⟩) (c19 : PySem.W.codeIn K cd19 "with_loops" = true) (k19 : PySem.W.keepIn K (.ref f19) = true)
    (a20 : PySem.W.nsIn K mainGlobals "is_kind" = some (some (.ref f20))) (l20 : K.lookup f20 = some ⟨oc20, od20, .func (PySem.W.fnOf "is_kind" "is_kind" (defArgs s_is_kind) (defBody s_is_kind) (defScope s_is_kind) .none kV20 dc20 pm20 an20 cd20 ct20), sl20⟩) (c20 : PySem.W.codeIn K cd20 "is_kind" = true) (k20 : PySem.W.keepIn K (.ref f20) = true)
    (a21 : PySem.W.nsIn K mainGlobals "_law_route_length" = some (some (.ref f21))) (l21 : K.lookup f21 = some ⟨oc21, od21, .func (PySem.W.fnOf "_law_route_length" "_law_route_length" (defArgs s_law_route_length) (defBody s_law_route_length) (defScope s_law_route_length) .none kV21 dc21 pm21 an21 cd21 ct21), sl21⟩) (c21 : PySem.W.codeIn K cd21 "_law_route_length" = true) (k21 : PySem.W.keepIn K (.ref f21) = true)
    (a22 : PySem.W.nsIn K mainGlobals "_law_small_chart" = some (some (.ref f22))) (l22 : K.lookup f22 = some ⟨oc22, od22, .func (PySem.W.fnOf "_law_small_chart" "_law_small_chart" (defArgs s_law_small_chart) (defBody s_law_small_chart) (defScope s_law_small_chart) .none kV22 dc22 pm22 an22 cd22 ct22), sl22⟩) (c22 : PySem.W.codeIn K cd22 "_law_small_chart" = true) (k22 : PySem.W.keepIn K (.ref f22) = true)
    (a23 : PySem.W.nsIn K mainGlobals "_once" = some (some (.ref f23))) (l23 : K.lookup f23 = some ⟨oc23, od23, .func (PySem.W.fnOf "_once" "_once" (defArgs s_once) (defBody s_once) (defScope s_once) .none kV23 dc23 pm23 an23 cd23 ct23), sl23⟩) (c23 : PySem.W.codeIn K cd23 "_once" = true) (k23 : PySem.W.keepIn K (.ref f23) = true)
    (a24 : PySem.W.nsIn K mainGlobals "_fault" = some (some (.ref f24))) (l24 : K.lookup f24 = some ⟨oc24, od24, .func (PySem.W.fnOf "_fault" "_fault" (defArgs s_fault) (defBody s_fault) (defScope s_fault) .none kV24 dc24 pm24 an24 cd24 ct24), sl24⟩) (c24 : PySem.W.codeIn K cd24 "_fault" = true) (k24 : PySem.W.keepIn K (.ref f24) = true)
    (a25 : PySem.W.nsIn K mainGlobals "check_requests" = some (some (.ref f25))) (l25 : K.lookup f25 = some ⟨oc25, od25, .func (PySem.W.fnOf "check_requests" "check_requests" (defArgs s_check_requests) (defBody s_check_requests) (defScope s_check_requests) .none kV25 dc25 pm25 an25 cd25 ct25), sl25⟩) (c25 : PySem.W.codeIn K cd25 "check_requests" = true) (k25 : PySem.W.keepIn K (.ref f25) = true)
    (a26 : PySem.W.nsIn K mainGlobals "_with_and_without_loop" = some (some (.ref f26))) (l26 : K.lookup f26 = some ⟨oc26, od26, .func (PySem.W.fnOf "_with_and_without_loop" "_with_and_without_loop" (defArgs s_with_and_without_loop) (defBody s_with_and_without_loop) (defScope s_with_and_without_loop) .none kV26 dc26 pm26 an26 cd26 ct26), sl26⟩) (c26 : PySem.W.codeIn K cd26 "_with_and_without_loop" = true) (k26 : PySem.W.keepIn K (.ref f26) = true)
    (a27 : PySem.W.nsIn K mainGlobals "menu" = some (some (.ref f27))) (l27 : K.lookup f27 = some ⟨oc27, od27, .func (PySem.W.fnOf "menu" "menu" (defArgs s_menu) (defBody s_menu) (defScope s_menu) .none kV27 dc27 pm27 an27 cd27 ct27), sl27⟩) (c27 : PySem.W.codeIn K cd27 "menu" = true) (k27 : PySem.W.keepIn K (.ref f27) = true)
    (a28 : PySem.W.nsIn K mainGlobals "_law_code" = some (some (.ref f28))) (l28 : K.lookup f28 = some ⟨oc28, od28, .func (PySem.W.fnOf "_law_code" "_law_code" (defArgs s_law_code) (defBody s_law_code) (defScope s_law_code) .none kV28 dc28 pm28 an28 cd28 ct28), sl28⟩) (c28 : PySem.W.codeIn K cd28 "_law_code" = true) (k28 : PySem.W.keepIn K (.ref f28) = true)
    (a29 : PySem.W.nsIn K mainGlobals "_law_flaw" = some (some (.ref f29))) (l29 : K.lookup f29 = some ⟨oc29, od29, .func (PySem.W.fnOf "_law_flaw" "_law_flaw" (defArgs s_law_flaw) (defBody s_law_flaw) (defScope s_law_flaw) .none kV29 dc29 pm29 an29 cd29 ct29), sl29⟩) (c29 : PySem.W.codeIn K cd29 "_law_flaw" = true) (k29 : PySem.W.keepIn K (.ref f29) = true)
    (a30 : PySem.W.nsIn K mainGlobals "_law_checked" = some (some (.ref f30))) (l30 : K.lookup f30 = some ⟨oc30, od30, .func (PySem.W.fnOf "_law_checked" "_law_checked" (defArgs s_law_checked) (defBody s_law_checked) (defScope s_law_checked) .none kV30 dc30 pm30 an30 cd30 ct30), sl30⟩) (c30 : PySem.W.codeIn K cd30 "_law_checked" = true) (k30 : PySem.W.keepIn K (.ref f30) = true)
    (a31 : PySem.W.nsIn K mainGlobals "_law_request" = some (some (.ref f31))) (l31 : K.lookup f31 = some ⟨oc31, od31, .func (PySem.W.fnOf "_law_request" "_law_request" (defArgs s_law_request) (defBody s_law_request) (defScope s_law_request) .none kV31 dc31 pm31 an31 cd31 ct31), sl31⟩) (c31 : PySem.W.codeIn K cd31 "_law_request" = true) (k31 : PySem.W.keepIn K (.ref f31) = true)
    (a32 : PySem.W.nsIn K mainGlobals "_law_routes" = some (some (.ref f32))) (l32 : K.lookup f32 = some ⟨oc32, od32, .func (PySem.W.fnOf "_law_routes" "_law_routes" (defArgs s_law_routes) (defBody s_law_routes) (defScope s_law_routes) .none kV32 dc32 pm32 an32 cd32 ct32), sl32⟩) (c32 : PySem.W.codeIn K cd32 "_law_routes" = true) (k32 : PySem.W.keepIn K (.ref f32) = true)
    (a33 : PySem.W.nsIn K mainGlobals "_law_menu" = some (some (.ref f33))) (l33 : K.lookup f33 = some ⟨oc33, od33, .func (PySem.W.fnOf "_law_menu" "_law_menu" (defArgs s_law_menu) (defBody s_law_menu) (defScope s_law_menu) .none kV33 dc33 pm33 an33 cd33 ct33), sl33⟩) (c33 : PySem.W.codeIn K cd33 "_law_menu" = true) (k33 : PySem.W.keepIn K (.ref f33) = true)
    (a34 : PySem.W.nsIn K mainGlobals "_law_spoil" = some (some (.ref f34))) (l34 : K.lookup f34 = some ⟨oc34, od34, .func (PySem.W.fnOf "_law_spoil" "_law_spoil" (defArgs s_law_spoil) (defBody s_law_spoil) (defScope s_law_spoil) .none kV34 dc34 pm34 an34 cd34 ct34), sl34⟩) (c34 : PySem.W.codeIn K cd34 "_law_spoil" = true) (k34 : PySem.W.keepIn K (.ref f34) = true)
    (a35 : PySem.W.nsIn K mainGlobals "law" = some (some (.ref f35))) (l35 : K.lookup f35 = some ⟨oc35, od35, .func (PySem.W.fnOf "law" "law" (defArgs s_law) (defBody s_law) (defScope s_law) .none kV35 dc35 pm35 an35 cd35 ct35), sl35⟩) (c35 : PySem.W.codeIn K cd35 "law" = true) (k35 : PySem.W.keepIn K (.ref f35) = true)
    (aE0 : PySem.W.nsIn K mainGlobals "RequestError" = some (some (.ref CE_RequestError))) (iE0 : PySem.W.findIn K (.ref CE_RequestError) "__init__" = some (some (.ref fE0))) (tE0 : PySem.W.typeIn K (.ref fE0) = some (.type "function"))
    (lE0 : K.lookup fE0 = some ⟨ocE0, odE0, .func (PySem.W.ksFn "__init__" "RequestError.__init__" (defArgs s_RequestError___init__) (defBody s_RequestError___init__) (defScope s_RequestError___init__) .none kVE0 dcE0 pmE0 anE0 (.ref cdE0) ctE0 ccE0), slE0⟩) (cE0 : PySem.W.codeIn K (.ref cdE0) "RequestError.__init__" = true)
    (xE0 : K.lookup CE_RequestError = some (excClassObj nmE0 qE0 CE_RequestError NE0 bsE0 bmE0 true snE0 subE0 abE0 colE0 ddE0 k0E0 k1E0 k2E0 k3E0 k5E0 "ValueError.__new__")) (rE0 : PySem.HandSPX.refsVE bmE0 = true) (sE0 : PySem.W.findIn K (.ref CE_RequestError) "__setattr__" = some (some (.builtin "object.__setattr__"))) (bE0 : PySem.W.subIn K (.ref CE_RequestError) (.type "BaseException") = some true) (yE0 : PySem.W.typeIn K (.ref CE_RequestError) = some (.type "type")) (kE0 : PySem.W.keepIn K (.ref CE_RequestError) = true)
    (uE0 : K.lookup ccE0 = some ⟨clE0, cldE0, .cell (some (.ref CE_RequestError)), cslE0⟩) (oE0 : K.lookup cdE0 = some ⟨cclE0, cddE0, .fields vsE0, ccsE0⟩) (vE0 : vsE0[2]? = some (.str fileE0 tfE0)) (pE0 : ((l.prog.main.file : Str) == fileE0) = true) (q_E0 : (l.prog.main.scope.names.lookup ("super" : Str)).isSome = false)
    (mE0 : PySem.W.mroIn K CE_RequestError (.ref CE_RequestError) = some true) (nE0 : PySem.W.ks_superIn K CE_RequestError CE_RequestError "__init__" = some (some (.builtin "ValueError.__init__"))) (zE0 : PySem.W.nsIn K cStatics "thirdparty.any" = some none) (w_E0 : PySem.W.subIn K (.ref CE_RequestError) (.type "ValueError") = some true) (g_E0 : PySem.W.nsIn K mainGlobals "super" = some none) (n1E0 : PySem.W.findIn K (.ref CE_RequestError) "code" = some none) (n2E0 : PySem.W.findIn K (.ref CE_RequestError) "index" = some none) (eE0 : PySem.W.exmOne K (.ref CE_RequestError) (.ref CE_RequestError) = some true)
    (xgE0 : PySem.W.findIn K (.ref CE_RequestError) "__getattribute__" = some (some (.builtin "BaseException.__getattribute__"))) (xaE0 : PySem.W.findIn K (.ref CE_RequestError) "__getattr__" = some none) (xdE0 : PySem.W.hasDictIn K CE_RequestError = true)
    (aE1 : PySem.W.nsIn K mainGlobals "RouteError" = some (some (.ref CE))) (iE1 : PySem.W.findIn K (.ref CE) "__init__" = some (some (.ref fE1))) (tE1 : PySem.W.typeIn K (.ref fE1) = some (.type "function"))
    (lE1 : K.lookup fE1 = some ⟨ocE1, odE1, .func (PySem.W.ksFn "__init__" "RouteError.__init__" (defArgs s_RouteError___init__) (defBody s_RouteError___init__) (defScope s_RouteError___init__) .none kVE1 dcE1 pmE1 anE1 (.ref cdE1) ctE1 ccE1), slE1⟩) (cE1 : PySem.W.codeIn K (.ref cdE1) "RouteError.__init__" = true)
    (xE1 : K.lookup CE = some (excClassObj nmE1 qE1 CE NE1 bsE1 bmE1 true snE1 subE1 abE1 colE1 ddE1 k0E1 k1E1 k2E1 k3E1 k5E1 "ValueError.__new__")) (rE1 : PySem.HandSPX.refsVE bmE1 = true) (sE1 : PySem.W.findIn K (.ref CE) "__setattr__" = some (some (.builtin "object.__setattr__"))) (bE1 : PySem.W.subIn K (.ref CE) (.type "BaseException") = some true) (yE1 : PySem.W.typeIn K (.ref CE) = some (.type "type")) (kE1 : PySem.W.keepIn K (.ref CE) = true)
    (uE1 : K.lookup ccE1 = some ⟨clE1, cldE1, .cell (some (.ref CE)), cslE1⟩) (oE1 : K.lookup cdE1 = some ⟨cclE1, cddE1, .fields vsE1, ccsE1⟩) (vE1 : vsE1[2]? = some (.str fileE1 tfE1)) (pE1 : ((l.prog.main.file : Str) == fileE1) = true) (q_E1 : (l.prog.main.scope.names.lookup ("super" : Str)).isSome = false)
    (mE1 : PySem.W.mroIn K CE (.ref CE) = some true) (nE1 : PySem.W.ks_superIn K CE CE "__init__" = some (some (.builtin "ValueError.__init__"))) (zE1 : PySem.W.nsIn K cStatics "thirdparty.any" = some none) (w_E1 : PySem.W.subIn K (.ref CE) (.type "ValueError") = some true) (g_E1 : PySem.W.nsIn K mainGlobals "super" = some none) (n1E1 : PySem.W.findIn K (.ref CE) "code" = some none) (n2E1 : PySem.W.findIn K (.ref CE) "index" = some none) (eE1 : PySem.W.exmOne K (.ref CE) (.ref CE) = some true)
    (xgE1 : PySem.W.findIn K (.ref CE) "__getattribute__" = some (some (.builtin "BaseException.__getattribute__"))) (xaE1 : PySem.W.findIn K (.ref CE) "__getattr__" = some none) (xdE1 : PySem.W.hasDictIn K CE = true)
    (z1 : PySem.W.nsIn K mainGlobals "abs" = some none) (z2 : PySem.W.nsIn K mainGlobals "int" = some none) (z3 : PySem.W.nsIn K mainGlobals "len" = some none) (z4 : PySem.W.nsIn K mainGlobals "bool" = some none) (z5 : PySem.W.nsIn K mainGlobals "isinstance" = some none) (z6 : PySem.W.nsIn K mainGlobals "max" = some none) (z7 : PySem.W.nsIn K mainGlobals "min" = some none) (z8 : PySem.W.nsIn K mainGlobals "range" = some none) (z9 : PySem.W.nsIn K mainGlobals "tuple" = some none) (z10 : PySem.W.nsIn K mainGlobals "list" = some none) (z11 : PySem.W.nsIn K mainGlobals "sum" = some none) (z12 : PySem.W.nsIn K mainGlobals "any" = some none) (z13 : PySem.W.nsIn K mainGlobals "all" = some none) (z14 : PySem.W.nsIn K mainGlobals "sorted" = some none) (z15 : PySem.W.nsIn K mainGlobals "dict" = some none) (z16 : PySem.W.nsIn K mainGlobals "enumerate" = some none) (yTh : PySem.W.nsIn K mainGlobals "heappush" = some (some (.builtin "_heapq.heappush"))) (yTp : PySem.W.nsIn K mainGlobals "heappop" = some (some (.builtin "_heapq.heappop"))) (yq : PySem.W.nsIn K mainGlobals "isqrt" = some (some (.builtin "math.isqrt"))) (ys : PySem.W.nsIn K mainGlobals "str" = some none) {tg1 : Tok} (g1 : PySem.W.nsIn K mainGlobals "DIGITS" = some (some (.str "0123456789" tg1))) {tg2 : Tok} (g2 : PySem.W.nsIn K mainGlobals "LATEST_ENTRY" = some (some (.int (90000) tg2))) {tg3 : Tok} (g3 : PySem.W.nsIn K mainGlobals "LETTERS" = some (some (.str "ABCDEFGHIJKLMNOPQRSTUVWXYZ" tg3))) {tg4 : Tok} (g4 : PySem.W.nsIn K mainGlobals "MOST_ALTERNATIVES" = some (some (.int (2) tg4))) {tg5 : Tok} (g5 : PySem.W.nsIn K mainGlobals "MOST_LATE" = some (some (.int (10000) tg5))) {tg6 : Tok} (g6 : PySem.W.nsIn K mainGlobals "MOST_NAMES" = some (some (.int (16) tg6))) {tg7 : Tok} (g7 : PySem.W.nsIn K mainGlobals "MOST_NAMES_OF_ALTERNATIVES" = some (some (.int (8) tg7))) {tg8 : Tok} (g8 : PySem.W.nsIn K mainGlobals "TOP_LEVEL" = some (some (.int (600) tg8))) {EN : Addr} (gen_ : PySem.W.nsIn K mainGlobals "ENTRIES" = some (some (.ref EN))) (hEN : intsK K EN = some [0, 8]) :
    LamX.LawAtS l w K CX0 9 63 "script" mg fa h := by
  have e := hfa.symm.trans (PySem.W.mg_of X G a35)
  cases e
  have F1 := fun_mk (st := s_law_start) l1 c1 k1
  have F2 := fun_mk (st := s_law_draw) l2 c2 k2
  have F3 := fun_mk (st := s_law_pick) l3 c3 k3
  have F4 := fun_mk (st := s_root_down) l4 c4 k4
  have F5 := fun_mk (st := s_root_up) l5 c5 k5
  have F6 := fun_mk (st := s_leg_length) l6 c6 k6
  have F7 := fun_mk (st := s_law_root_up) l7 c7 k7
  have F8 := fun_mk (st := s_law_names) l8 c8 k8
  have F9 := fun_mk (st := s_law_legs) l9 c9 k9
  have F10 := fun_mk (st := s_law_chart) l10 c10 k10
  have F11 := fun_mk (st := s_law_lengths) l11 c11 k11
  have F12 := fun_mk (st := s_is_name) l12 c12 k12
  have F13 := fun_mk (st := s_law_is_name) l13 c13 k13
  have F14 := fun_mk (st := s_law_kind) l14 c14 k14
  have F15 := fun_mk (st := s_open) l15 c15 k15
  have F16 := fun_mk (st := s_longer) l16 c16 k16
  have F17 := fun_mk (st := s_alternatives) l17 c17 k17
  have F18 := fun_mk (st := s_looped) l18 c18 k18
  have F19 := fun_mk (st := s_with_loops) l19 c19 k19
  have F20 := fun_mk (st := s_is_kind) l20 c20 k20
  have F21 := fun_mk (st := s_law_route_length) l21 c21 k21
  have F22 := fun_mk (st := s_law_small_chart) l22 c22 k22
  have F23 := fun_mk (st := s_once) l23 c23 k23
  have F24 := fun_mk (st := s_fault) l24 c24 k24
  have F25 := fun_mk (st := s_check_requests) l25 c25 k25
  have F26 := fun_mk (st := s_with_and_without_loop) l26 c26 k26
  have F27 := fun_mk (st := s_menu) l27 c27 k27
  have F28 := fun_mk (st := s_law_code) l28 c28 k28
  have F29 := fun_mk (st := s_law_flaw) l29 c29 k29
  have F30 := fun_mk (st := s_law_checked) l30 c30 k30
  have F31 := fun_mk (st := s_law_request) l31 c31 k31
  have F32 := fun_mk (st := s_law_routes) l32 c32 k32
  have F33 := fun_mk (st := s_law_menu) l33 c33 k33
  have F34 := fun_mk (st := s_law_spoil) l34 c34 k34
  have F35 := fun_mk (st := s_law) l35 c35 k35
  have b1 := F1.binds (ps := ["script"]) fun _ _ _ _ _ _ us hl => match us, hl with | [_], _ => rfl
  have b2 := F2.binds (ps := ["state", "bound"]) fun _ _ _ _ _ _ us hl => match us, hl with | [_, _], _ => rfl
  have b3 := F3.binds (ps := ["state", "things"]) fun _ _ _ _ _ _ us hl => match us, hl with | [_, _], _ => rfl
  have b4 := F4.binds (ps := ["n"]) fun _ _ _ _ _ _ us hl => match us, hl with | [_], _ => rfl
  have b5 := F5.binds (ps := ["n"]) fun _ _ _ _ _ _ us hl => match us, hl with | [_], _ => rfl
  have b6 := F6.binds (ps := ["chart", "start", "end"]) fun _ _ _ _ _ _ us hl => match us, hl with | [_, _, _], _ => rfl
  have b7 := F7.binds (ps := ["n"]) fun _ _ _ _ _ _ us hl => match us, hl with | [_], _ => rfl
  have b8 := F8.binds (ps := ["state", "many"]) fun _ _ _ _ _ _ us hl => match us, hl with | [_, _], _ => rfl
  have b9 := F9.binds (ps := ["state", "names"]) fun _ _ _ _ _ _ us hl => match us, hl with | [_, _], _ => rfl
  have b10 := F10.binds (ps := ["state", "many", "size"]) fun _ _ _ _ _ _ us hl => match us, hl with | [_, _, _], _ => rfl
  have b11 := F11.binds (ps := ["chart"]) fun _ _ _ _ _ _ us hl => match us, hl with | [_], _ => rfl
  have b12 := F12.binds (ps := ["text"]) fun _ _ _ _ _ _ us hl => match us, hl with | [_], _ => rfl
  have b13 := F13.binds (ps := ["word"]) fun _ _ _ _ _ _ us hl => match us, hl with | [_], _ => rfl
  have b14 := F14.binds (ps := ["state"]) fun _ _ _ _ _ _ us hl => match us, hl with | [_], _ => rfl
  have b15 := F15.binds (ps := ["leg", "level"]) fun _ _ _ _ _ _ us hl => match us, hl with | [_, _], _ => rfl
  have b16 := F16.binds (ps := ["chart", "length", "route", "level"]) fun _ _ _ _ _ _ us hl => match us, hl with | [_, _, _, _], _ => rfl
  have b17 := F17.binds (ps := ["chart", "start", "goal", "level", "count"]) fun _ _ _ _ _ _ us hl => match us, hl with | [_, _, _, _, _], _ => rfl
  have b18 := F18.binds (ps := ["route", "index", "loop"]) fun _ _ _ _ _ _ us hl => match us, hl with | [_, _, _], _ => rfl
  have b19 := F19.binds (ps := ["chart", "route", "loops"]) fun _ _ _ _ _ _ us hl => match us, hl with | [_, _, _], _ => rfl
  have b20 := F20.binds (ps := ["kind"]) fun _ _ _ _ _ _ us hl => match us, hl with | [_], _ => rfl
  have b21 := F21.binds (ps := ["lengths", "route"]) fun _ _ _ _ _ _ us hl => match us, hl with | [_, _], _ => rfl
  have b22 := F22.binds (ps := ["state"]) fun _ _ _ _ _ _ us hl => match us, hl with | [_], _ => rfl
  have b23 := F23.binds (ps := ["one", "other"]) fun _ _ _ _ _ _ us hl => match us, hl with | [_, _], _ => rfl
  have b24 := F24.binds (ps := ["chart", "request", "names"]) fun _ _ _ _ _ _ us hl => match us, hl with | [_, _, _], _ => rfl
  have b25 := F25.binds (ps := ["chart", "requests"]) fun _ _ _ _ _ _ us hl => match us, hl with | [_, _], _ => rfl
  have b26 := F26.binds (ps := ["chart", "route"]) fun _ _ _ _ _ _ us hl => match us, hl with | [_, _], _ => rfl
  have b27 := F27.binds (ps := ["chart", "request"]) fun _ _ _ _ _ _ us hl => match us, hl with | [_, _], _ => rfl
  have b28 := F28.binds (ps := ["chart", "request", "before"]) fun _ _ _ _ _ _ us hl => match us, hl with | [_, _, _], _ => rfl
  have b29 := F29.binds (ps := ["chart", "requests"]) fun _ _ _ _ _ _ us hl => match us, hl with | [_, _], _ => rfl
  have b30 := F30.binds (ps := ["chart", "requests"]) fun _ _ _ _ _ _ us hl => match us, hl with | [_, _], _ => rfl
  have b31 := F31.binds (ps := ["state", "chart", "name"]) fun _ _ _ _ _ _ us hl => match us, hl with | [_, _, _], _ => rfl
  have b32 := F32.binds (ps := ["chart", "start", "goal", "level"]) fun _ _ _ _ _ _ us hl => match us, hl with | [_, _, _, _], _ => rfl
  have b33 := F33.binds (ps := ["chart", "request"]) fun _ _ _ _ _ _ us hl => match us, hl with | [_, _], _ => rfl
  have b34 := F34.binds (ps := ["state", "chart", "requests"]) fun _ _ _ _ _ _ us hl => match us, hl with | [_, _, _], _ => rfl
  have T : TxtA mg := { abs := PySem.W.mg_none_of X G z1, int := PySem.W.mg_none_of X G z2, len := PySem.W.mg_none_of X G z3, bool := PySem.W.mg_none_of X G z4, isinstance := PySem.W.mg_none_of X G z5, max := PySem.W.mg_none_of X G z6, min := PySem.W.mg_none_of X G z7, range := PySem.W.mg_none_of X G z8, tuple := PySem.W.mg_none_of X G z9, list := PySem.W.mg_none_of X G z10, sum := PySem.W.mg_none_of X G z11, any := PySem.W.mg_none_of X G z12, all := PySem.W.mg_none_of X G z13, sorted := PySem.W.mg_none_of X G z14, dict := PySem.W.mg_none_of X G z15, enumerate := PySem.W.mg_none_of X G z16 }
  have Th : mg "heappush" = some (.builtin "_heapq.heappush") := PySem.W.mg_of X G yTh
  have Tp : mg "heappop" = some (.builtin "_heapq.heappop") := PySem.W.mg_of X G yTp
  have Tq : mg "isqrt" = some (.builtin "math.isqrt") := PySem.W.mg_of X G yq
  have Ts : mg "str" = none := PySem.W.mg_none_of X G ys
  have G_DIGITS : mg "DIGITS" = some (.str "0123456789" tg1) := PySem.W.mg_of X G g1
  have G_LATEST_ENTRY : mg "LATEST_ENTRY" = some (.int (90000) tg2) := PySem.W.mg_of X G g2
  have G_LETTERS : mg "LETTERS" = some (.str "ABCDEFGHIJKLMNOPQRSTUVWXYZ" tg3) := PySem.W.mg_of X G g3
  have G_MOST_ALTERNATIVES : mg "MOST_ALTERNATIVES" = some (.int (2) tg4) := PySem.W.mg_of X G g4
  have G_MOST_LATE : mg "MOST_LATE" = some (.int (10000) tg5) := PySem.W.mg_of X G g5
  have G_MOST_NAMES : mg "MOST_NAMES" = some (.int (16) tg6) := PySem.W.mg_of X G g6
  have G_MOST_NAMES_OF_ALTERNATIVES : mg "MOST_NAMES_OF_ALTERNATIVES" = some (.int (8) tg7) := PySem.W.mg_of X G g7
  have G_TOP_LEVEL : mg "TOP_LEVEL" = some (.int (600) tg8) := PySem.W.mg_of X G g8
  have G_ENTRIES : mg "ENTRIES" = some (.ref EN) := PySem.W.mg_of X G gen_
  refine ⟨PySem.W.fnOf "law" "law" (defArgs s_law) (defBody s_law) (defScope s_law) .none kV35 dc35 pm35 an35 cd35 ct35, [(tc12, tp12)], (spLawT K [tp12]), fun p hp => ?_, fun p hp => ?_, fun p hp => ?_, fun s v => .of_eq rfl, fun H a ns hl hb hH hS => ⟨a, ns, rfl, hS, hl, fun P hP => ?_, fun _ => rfl⟩, fun base _ _ hTB => ?_⟩
  · simp only [List.mem_cons, List.not_mem_nil, or_false] at hp
    subst hp
    exact w12.2
  · simp only [List.mem_cons, List.not_mem_nil, or_false] at hp
    subst hp
    exact np12
  · simp only [List.mem_cons, List.not_mem_nil, or_false] at hp
    subst hp
    exact w12.1
  · simp only [List.mem_cons, List.not_mem_nil, or_false] at hP
    rw [hP]; exact ⟨#[], hH (tc12, tp12) (by simp), True.intro⟩
  have TE0 : OexC K CE_RequestError := ⟨⟨_, _, _, _, _, _, _, _, _, _, _, _, _, _, _, xE0, rE0⟩, sE0, bE0, yE0, kE0⟩
  have UE0 : SupOk l.prog K CE_RequestError ccE0 cdE0 := ⟨⟨_, _, _, uE0⟩, ⟨_, _, _, _, _, _, oE0, vE0, pE0⟩, q_E0, mE0, nE0, zE0, w_E0⟩
  have DE_RequestError : ErrD l.prog w K mg base 1 "RequestError" CE_RequestError ["self", "code", "index"] (spCErrR CE_RequestError) := ⟨⟨_, _, ok_RequestError___init__ lE0 cE0 UE0 TE0 (PySem.W.mg_none_of X G g_E0) n1E0 n2E0, .all (fun us hl => match us, hl with | [_, _, _], _ => rfl), iE0, tE0⟩, PySem.W.mg_of X G aE0, TE0, eE0⟩
  have TE1 : OexC K CE := ⟨⟨_, _, _, _, _, _, _, _, _, _, _, _, _, _, _, xE1, rE1⟩, sE1, bE1, yE1, kE1⟩
  have UE1 : SupOk l.prog K CE ccE1 cdE1 := ⟨⟨_, _, _, uE1⟩, ⟨_, _, _, _, _, _, oE1, vE1, pE1⟩, q_E1, mE1, nE1, zE1, w_E1⟩
  have DE_RouteError : ErrD l.prog w K mg base 1 "RouteError" CE ["self", "code", "index"] (spCErrR CE) := ⟨⟨_, _, ok_RouteError___init__ lE1 cE1 UE1 TE1 (PySem.W.mg_none_of X G g_E1) n1E1 n2E1, .all (fun us hl => match us, hl with | [_, _, _], _ => rfl), iE1, tE1⟩, PySem.W.mg_of X G aE1, TE1, eE1⟩
  have D1 : Def l.prog w K mg base 1 "_law_start" ["script"] (spStart K) := .mk' F1 b1 (PySem.W.mg_of X G a1) (ok_law_start F1 T.toTxt0)
  have D2 : Def l.prog w K mg base 1 "_law_draw" ["state", "bound"] (spDraw K) := .mk' F2 b2 (PySem.W.mg_of X G a2) (ok_law_draw F2 T.toTxt0)
  have D3 : Def l.prog w K mg base 2 "_law_pick" ["state", "things"] (spPick K) := .mk' F3 b3 (PySem.W.mg_of X G a3) (ok_law_pick F3 T.toTxt0 D2)
  have D4 : Def l.prog w K mg base 1 "root_down" ["n"] (spDownR) := .mk' F4 b4 (PySem.W.mg_of X G a4) (ok_root_down F4 T Tq)
  have D5 : Def l.prog w K mg base 2 "root_up" ["n"] (spUpR) := .mk' F5 b5 (PySem.W.mg_of X G a5) (ok_root_up F5 T D4)
  have D6 : Def l.prog w K mg base 3 "leg_length" ["chart", "start", "end"] (spLegLen) := .mk' F6 b6 (PySem.W.mg_of X G a6) (ok_leg_length F6 T D5)
  have D7 : Def l.prog w K mg base 1 "_law_root_up" ["n"] (spRootR) := .mk' F7 b7 (PySem.W.mg_of X G a7) (ok_law_root_up F7 T)
  have D8 : Def l.prog w K mg base 3 "_law_names" ["state", "many"] (spNames K) := .mk' F8 b8 (PySem.W.mg_of X G a8) (ok_law_names F8 T D2 D3)
  have D9 : Def l.prog w K mg base 3 "_law_legs" ["state", "names"] (spLegs7 K) := .mk' F9 b9 (PySem.W.mg_of X G a9) (ok_law_legs F9 T D2 D3)
  have D10 : Def l.prog w K mg base 4 "_law_chart" ["state", "many", "size"] (spChartW K) := .mk' F10 b10 (PySem.W.mg_of X G a10) (ok_law_chart F10 T D2 D8 D9)
  have D11 : Def l.prog w K mg base 2 "_law_lengths" ["chart"] (spLens) := .mk' F11 b11 (PySem.W.mg_of X G a11) (ok_law_lengths F11 T D7)
  have D12 : Def l.prog w K mg base 3 "is_name" ["text"] (spNameB [tp12]) := .mk' F12 b12 (PySem.W.mg_of X G a12) (ok_is_name F12 T G_LETTERS G_DIGITS rfl (hTB (tc12, tp12) (by simp)) (by simp))
  have D13 : Def l.prog w K mg base 1 "_law_is_name" ["word"] (spNameL) := .mk' F13 b13 (PySem.W.mg_of X G a13) (ok_law_is_name F13 T)
  have D14 : Def l.prog w K mg base 3 "_law_kind" ["state"] (spKind22 K) := .mk' F14 b14 (PySem.W.mg_of X G a14) (ok_law_kind F14 T D2 D3)
  have D15 : Def l.prog w K mg base 1 "_open" ["leg", "level"] (spOpen) := .mk' F15 b15 (PySem.W.mg_of X G a15) (ok_open F15 T)
  have D16 : Def l.prog w K mg base 4 "_longer" ["chart", "length", "route", "level"] (spLonger) := .mk' F16 b16 (PySem.W.mg_of X G a16) (ok_longer F16 T D15 D6)
  have D17 : Def l.prog w K mg base 5 "alternatives" ["chart", "start", "goal", "level", "count"] (spAlt) := .mk' F17 b17 (PySem.W.mg_of X G a17) (ok_alternatives F17 T G_MOST_NAMES_OF_ALTERNATIVES Tp Th D16)
  have D18 : DefX l.prog w K mg base 3 "_looped" ["route", "index", "loop"] (spLooped CE) := .mk' F18 b18 (PySem.W.mg_of X G a18) (ok_looped F18 T G_MOST_NAMES DE_RouteError)
  have D19 : DefX l.prog w K mg base 4 "with_loops" ["chart", "route", "loops"] (spWithLoops CE) := .mk' F19 b19 (PySem.W.mg_of X G a19) (ok_with_loops F19 T DE_RouteError D18)
  have D20 : Def l.prog w K mg base 1 "is_kind" ["kind"] (spIsKind) := .mk' F20 b20 (PySem.W.mg_of X G a20) (ok_is_kind F20 T)
  have D21 : Def l.prog w K mg base 1 "_law_route_length" ["lengths", "route"] (spRtLenL) := .mk' F21 b21 (PySem.W.mg_of X G a21) (ok_law_route_length F21 T)
  have D22 : Def l.prog w K mg base 5 "_law_small_chart" ["state"] (spSmall22 K) := .mk' F22 b22 (PySem.W.mg_of X G a22) (ok_law_small_chart F22 T D2 D3 D10)
  have D23 : Def l.prog w K mg base 1 "_once" ["one", "other"] (spOnceR) := .mk' F23 b23 (PySem.W.mg_of X G a23) (ok_once F23 T)
  have D24 : Def l.prog w K mg base 4 "_fault" ["chart", "request", "names"] (spFaultR [tp12]) := .mk' F24 b24 (PySem.W.mg_of X G a24) (ok_fault F24 T G_MOST_LATE G_LATEST_ENTRY G_TOP_LEVEL D12 D20)
  have D25 : DefX l.prog w K mg base 5 "check_requests" ["chart", "requests"] (spCheckQ CE_RequestError [tp12]) := .mk' F25 b25 (PySem.W.mg_of X G a25) (ok_check_requests F25 T DE_RequestError D24)
  have D26 : Def l.prog w K mg base 6 "_with_and_without_loop" ["chart", "route"] (spLoopsR) := .mk' F26 b26 (PySem.W.mg_of X G a26) (ok_with_and_without_loop F26 T DE_RouteError D19)
  have D27 : Def l.prog w K mg base 8 "menu" ["chart", "request"] (spMenuR) := .mk' F27 b27 (PySem.W.mg_of X G a27) (ok_menu F27 T G_ENTRIES hEN G_MOST_ALTERNATIVES D17 D26 D23)
  have D28 : Def l.prog w K mg base 2 "_law_code" ["chart", "request", "before"] (spCodeQ) := .mk' F28 b28 (PySem.W.mg_of X G a28) (ok_law_code F28 T D13)
  have D29 : Def l.prog w K mg base 3 "_law_flaw" ["chart", "requests"] (spFlawQ) := .mk' F29 b29 (PySem.W.mg_of X G a29) (ok_law_flaw F29 T D28)
  have D30 : Def l.prog w K mg base 6 "_law_checked" ["chart", "requests"] (spCheckedQ [tp12]) := .mk' F30 b30 (PySem.W.mg_of X G a30) (ok_law_checked F30 T ⟨⟨xgE0, xaE0, bE0, xdE0⟩, n1E0, n2E0⟩ DE_RequestError D25)
  have D31 : Def l.prog w K mg base 4 "_law_request" ["state", "chart", "name"] (spRequestR K) := .mk' F31 b31 (PySem.W.mg_of X G a31) (ok_law_request F31 T D2 D3 D14)
  have D32 : Def l.prog w K mg base 3 "_law_routes" ["chart", "start", "goal", "level"] (spRoutesQ) := .mk' F32 b32 (PySem.W.mg_of X G a32) (ok_law_routes F32 T D11 D21)
  have D33 : Def l.prog w K mg base 4 "_law_menu" ["chart", "request"] (spMenuL) := .mk' F33 b33 (PySem.W.mg_of X G a33) (ok_law_menu F33 T D32)
  have D34 : Def l.prog w K mg base 3 "_law_spoil" ["state", "chart", "requests"] (spSpoilQ K) := .mk' F34 b34 (PySem.W.mg_of X G a34) (ok_law_spoil F34 T D2 D3)
  exact ok_law F35 T Ts D1 D2 D3 D22 D31 D34 D29 D30 D28 D33 D27
end Sk
open PySem PySem.W PyProof.Rows
set_option maxRecDepth 100000 in
set_option maxHeartbeats 0 in
theorem PySem.Challenge.cw_skyapart_k22_requests_and_menus_holds : PySem.Challenge.rw_skyapart_k22_requests_and_menus.Holds := by
  w_on; o_law; k_head; (case hw => w_witness2)
  k_fill
  refine Sk.walk_tabs (l := PySem.Challenge.rw_skyapart_k22_requests_and_menus) (n := 63) (k := 9) (x := "script") (CX := fun _ => L2.CX0) rfl (by decide) rfl ⟨rfl, by decide, by decide⟩ (fun w h Y => PySem.W.kIn_of Y) ?F (fun _ _ _ _ _ z => z)
  case F =>
    intro w mg fa h KX G hmg hT
    refine' Sk.all_mk KX G hmg ?a1 ?l1 ?c1 ?k1 ?a2 ?l2 ?c2 ?k2 ?a3 ?l3 ?c3 ?k3 ?a4 ?l4 ?c4 ?k4 ?a5 ?l5 ?c5 ?k5 ?a6 ?l6 ?c6 ?k6 ?a7 ?l7 ?c7 ?k7 ?a8 ?l8 ?c8 ?k8 ?a9 ?l9 ?c9 ?k9 ?a10 ?l10 ?c10 ?k10 ?a11 ?l11 ?c11 ?k11 ?a12 ?l12 ?c12 ?k12 ?lc12 ?hv12 ?np12 ?w12 ?a13 ?l13 ?c13 ?k13 ?a14 ?l14 ?c14 ?k14 ?a15 ?l15 ?c15 ?k15 ?a16 ?l16 ?c16 ?k16 ?a17 ?l17 ?c17 ?k17 ?a18 ?l18 ?c18 ?k18 ?a19 ?l19 ?c19 ?k19 ?a20 ?l20 ?c20 ?k20 ?a21 ?l21 ?c21 ?k21 ?a22 ?l22 ?c22 ?k22 ?a23 ?l23 ?c23 ?k23 ?a24 ?l24 ?c24 ?k24 ?a25 ?l25 ?c25 ?k25 ?a26 ?l26 ?c26 ?k26 ?a27 ?l27 ?c27 ?k27 ?a28 ?l28 ?c28 ?k28 ?a29 ?l29 ?c29 ?k29 ?a30 ?l30 ?c30 ?k30 ?a31 ?l31 ?c31 ?k31 ?a32 ?l32 ?c32 ?k32 ?a33 ?l33 ?c33 ?k33 ?a34 ?l34 ?c34 ?k34 ?a35 ?l35 ?c35 ?k35 ?aE0 ?iE0 ?tE0 ?lE0 ?cE0 ?xE0 ?rE0 ?sE0 ?bE0 ?yE0 ?kE0 ?uE0 ?oE0 ?vE0 ?pE0 ?q_E0 ?mE0 ?nE0 ?zE0 ?w_E0 ?g_E0 ?n1E0 ?n2E0 ?eE0 ?xgE0 ?xaE0 ?xdE0 ?aE1 ?iE1 ?tE1 ?lE1 ?cE1 ?xE1 ?rE1 ?sE1 ?bE1 ?yE1 ?kE1 ?uE1 ?oE1 ?vE1 ?pE1 ?q_E1 ?mE1 ?nE1 ?zE1 ?w_E1 ?g_E1 ?n1E1 ?n2E1 ?eE1 ?xgE1 ?xaE1 ?xdE1 ?z1 ?z2 ?z3 ?z4 ?z5 ?z6 ?z7 ?z8 ?z9 ?z10 ?z11 ?z12 ?z13 ?z14 ?z15 ?z16 ?yTh ?yTp ?yq ?ys ?g1 ?g2 ?g3 ?g4 ?g5 ?g6 ?g7 ?g8 ?gen_ ?hEN
    (case a1 => k_is); (case l1 => k_is); (case c1 => k_is); (case k1 => k_is)
    (case a2 => k_is); (case l2 => k_is); (case c2 => k_is); (case k2 => k_is)
    (case a3 => k_is); (case l3 => k_is); (case c3 => k_is); (case k3 => k_is)
    (case a4 => k_is); (case l4 => k_is); (case c4 => k_is); (case k4 => k_is)
    (case a5 => k_is); (case l5 => k_is); (case c5 => k_is); (case k5 => k_is)
    (case a6 => k_is); (case l6 => k_is); (case c6 => k_is); (case k6 => k_is)
    (case a7 => k_is); (case l7 => k_is); (case c7 => k_is); (case k7 => k_is)
    (case a8 => k_is); (case l8 => k_is); (case c8 => k_is); (case k8 => k_is)
    (case a9 => k_is); (case l9 => k_is); (case c9 => k_is); (case k9 => k_is)
    (case a10 => k_is); (case l10 => k_is); (case c10 => k_is); (case k10 => k_is)
    (case a11 => k_is); (case l11 => k_is); (case c11 => k_is); (case k11 => k_is)
    (case a12 => k_is); (case l12 => k_is); (case c12 => k_is); (case k12 => k_is)
    (case lc12 => k_is); (case hv12 => exact rfl); (case np12 => kernel_rfl); (case w12 => exact hT "is_name" _ _ _ rfl (by kernel_rfl))
    (case a13 => k_is); (case l13 => k_is); (case c13 => k_is); (case k13 => k_is)
    (case a14 => k_is); (case l14 => k_is); (case c14 => k_is); (case k14 => k_is)
    (case a15 => k_is); (case l15 => k_is); (case c15 => k_is); (case k15 => k_is)
    (case a16 => k_is); (case l16 => k_is); (case c16 => k_is); (case k16 => k_is)
    (case a17 => k_is); (case l17 => k_is); (case c17 => k_is); (case k17 => k_is)
    (case a18 => k_is); (case l18 => k_is); (case c18 => k_is); (case k18 => k_is)
    (case a19 => k_is); (case l19 => k_is); (case c19 => k_is); (case k19 => k_is)
    (case a20 => k_is); (case l20 => k_is); (case c20 => k_is); (case k20 => k_is)
    (case a21 => k_is); (case l21 => k_is); (case c21 => k_is); (case k21 => k_is)
    (case a22 => k_is); (case l22 => k_is); (case c22 => k_is); (case k22 => k_is)
    (case a23 => k_is); (case l23 => k_is); (case c23 => k_is); (case k23 => k_is)
    (case a24 => k_is); (case l24 => k_is); (case c24 => k_is); (case k24 => k_is)
    (case a25 => k_is); (case l25 => k_is); (case c25 => k_is); (case k25 => k_is)
    (case a26 => k_is); (case l26 => k_is); (case c26 => k_is); (case k26 => k_is)
    (case a27 => k_is); (case l27 => k_is); (case c27 => k_is); (case k27 => k_is)
    (case a28 => k_is); (case l28 => k_is); (case c28 => k_is); (case k28 => k_is)
    (case a29 => k_is); (case l29 => k_is); (case c29 => k_is); (case k29 => k_is)
    (case a30 => k_is); (case l30 => k_is); (case c30 => k_is); (case k30 => k_is)
    (case a31 => k_is); (case l31 => k_is); (case c31 => k_is); (case k31 => k_is)
    (case a32 => k_is); (case l32 => k_is); (case c32 => k_is); (case k32 => k_is)
    (case a33 => k_is); (case l33 => k_is); (case c33 => k_is); (case k33 => k_is)
    (case a34 => k_is); (case l34 => k_is); (case c34 => k_is); (case k34 => k_is)
    (case a35 => k_is); (case l35 => k_is); (case c35 => k_is); (case k35 => k_is)
    (case aE0 => k_is); (case iE0 => k_is); (case tE0 => k_is); (case lE0 => k_is)
    (case cE0 => k_is); (case xE0 => k_is); (case rE0 => decide +kernel); (case sE0 => k_is)
    (case bE0 => k_is); (case yE0 => k_is); (case kE0 => k_is); (case uE0 => k_is)
    (case oE0 => k_is); (case vE0 => exact rfl); (case pE0 => kernel_rfl); (case q_E0 => kernel_rfl)
    (case mE0 => k_is); (case nE0 => kernel_rfl); (case zE0 => k_is); (case w_E0 => k_is)
    (case g_E0 => k_is); (case n1E0 => k_is); (case n2E0 => k_is); (case eE0 => kernel_rfl)
    (case xgE0 => k_is); (case xaE0 => k_is); (case xdE0 => k_is); (case aE1 => k_is)
    (case iE1 => k_is); (case tE1 => k_is); (case lE1 => k_is); (case cE1 => k_is)
    (case xE1 => k_is); (case rE1 => decide +kernel); (case sE1 => k_is); (case bE1 => k_is)
    (case yE1 => k_is); (case kE1 => k_is); (case uE1 => k_is); (case oE1 => k_is)
    (case vE1 => exact rfl); (case pE1 => kernel_rfl); (case q_E1 => kernel_rfl); (case mE1 => k_is)
    (case nE1 => kernel_rfl); (case zE1 => k_is); (case w_E1 => k_is); (case g_E1 => k_is)
    (case n1E1 => k_is); (case n2E1 => k_is); (case eE1 => kernel_rfl); (case xgE1 => k_is)
    (case xaE1 => k_is); (case xdE1 => k_is); (case z1 => k_is); (case z2 => k_is)
    (case z3 => k_is); (case z4 => k_is); (case z5 => k_is); (case z6 => k_is)
    (case z7 => k_is); (case z8 => k_is); (case z9 => k_is); (case z10 => k_is)
    (case z11 => k_is); (case z12 => k_is); (case z13 => k_is); (case z14 => k_is)
    (case z15 => k_is); (case z16 => k_is); (case yTh => k_is); (case yTp => k_is)
    (case yq => k_is); (case ys => k_is); (case g1 => k_is); (case g2 => k_is)
    (case g3 => k_is); (case g4 => k_is); (case g5 => k_is); (case g6 => k_is)
    (case g7 => k_is); (case g8 => k_is); (case gen_ => k_is); (case hEN => kernel_rfl)
