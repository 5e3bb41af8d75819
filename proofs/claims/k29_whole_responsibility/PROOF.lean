import PyProof.Rows.All
import Wide.All
import OpenK.AllK
import Wide.FinOn
import HandS.Base
import HandS.Call
import HandS.List
import HandS.Comp
import HandS.Ends
import HandS.Dict
import HandS.Iter
import HandS.Words
import HandS.WordsList
import HandS.Wide
import HandS.Gcd
import HandS.IsInst
import Flt.RightSqrt
import KE.DataCmp
import HandS.Deep
import HandS.GenList
import HandS.AnyAll
import HandS.EndTab
import HandS.Zip
import HandS.Nested
import HandS.Flow
import PyProof.ConsumeS
import HandS.SortKw
import KE.KMinKey
import HandS.FromBytesMap
import HandS.More
import KE.KExcSuper
import KE.KSuper
import HandS.Exc
import HandS.ExcInit
import HandS.EndOwn
import KE.KNest
import HandS.FStr
import HandS.TryOnly
import HandS.ExcOwn
import HandS.WordsExc
import HandS.ExcField
import HandS.DictComp
import PyProof.Rows.RegStrFacts
import PySem.Challenge.RW_skyapart_k29_whole_responsibility
set_option Elab.async false
set_option linter.all false
set_option maxRecDepth 100000
set_option maxHeartbeats 4000000
namespace Sk
open PySem PySem.Spec PyProof.Rows L2

/-! a def of the text, ready to be called by its name -/
structure Def (P : Program) (w : World) (K : PySem.W.Frag) (mg : Str → Option Value) (base : Heap) (k : Nat) (x : Str) (ps : List Str) (sp : Sp) : Prop where
  ex : ∃ (f : Addr) (fd : FuncData), FnOk P w K mg base CX0 k f fd ps sp ∧ mg x = some (.ref f) ∧ PySem.W.keepIn K (.ref f) = true ∧ Binds K fd ps []
theorem Def.mk' {P : Program} {w : World} {K : PySem.W.Frag} {mg : Str → Option Value} {base : Heap} {k : Nat} {x qual : Str} {st : Stmt} {f : Addr} {fd : FuncData} {ps : List Str} {sp : Sp}
    (F : Fun K x qual st f fd) (b : Binds K fd ps []) (m : mg x = some (.ref f)) (G : FnOk P w K mg base CX0 k f fd ps sp) : Def P w K mg base k x ps sp := ⟨f, fd, G, m, F.kp, b⟩
theorem pe_def {X : Cx} {k : Nat} {x : Str} {ps : List Str} {sp : Sp} {p pos : Pos} {e : Expr} {es : List Expr} {t : TA} (D : Def X.prog X.w X.K X.mg X.base k x ps sp) (hr : Room k X.A) (hg : Gl X x)
    (ha : PA X (e :: es) t) (hdb : (x == ("__debug__" : Str)) = false := by decide) (he : starEach (e :: es) X.env = (false, eval e X.env) :: starEach es X.env := by rfl) (hpl : (backTo pos (starEach es X.env)).any (·.1) = false := by rfl) :
    PE X (.Call (.Name x p) (e :: es) [] pos) (tCall sp [] E0 t) := by
  obtain ⟨f, fd, F, m, kp, b⟩ := D.ex
  exact pe_call F hr hg m kp b .nil pass0 ha hdb he hpl
/-- a call's reading: the values of the arguments as they are -/
theorem sp_nil {sp : Sp} {vs : List V} {H : Hp} {Q : VK} {E : XK} (h : sp vs H Q E) : sp (vs ++ []) H Q E := by
  rw [List.append_nil]
  exact h

/-! heaps -/
/-- all but what stands at d is as it was -/
def Keep (d : Addr) (H H' : Hp) : Prop := ∀ c o, H c = some o → c ≠ d → H' c = some o
theorem Keep.refl (d : Addr) (H : Hp) : Keep d H H := fun _ _ h _ => h
theorem Keep.trans {d : Addr} {H H1 H2 : Hp} (a : Keep d H H1) (b : Keep d H1 H2) : Keep d H H2 := fun c o h n => b c o (a c o h n) n
theorem Keep.of {d : Addr} {H H1 : Hp} (a : Same H H1) : Keep d H H1 := fun c o h _ => a c o h
theorem Keep.upd (d : Addr) (H : Hp) (o : HO) : Keep d H (upd H d o) := fun c u h n => by
  rw [upd_ne n]
  exact h
theorem same_new {H : Hp} {p : Addr} {o : HO} (h : H p = none) : Same H (upd H p o) := fun b x e => by
  rw [upd_ne (ne_of_none e h)]
  exact e
theorem lst_ne {H : Hp} {a d : Addr} {xs : List V} {o : HO} (h : H d = some (.dK o')) (ha : H a = some (.lst xs)) : a ≠ d := ne_of ha h (by intro z; cases z)
/-- a list to be read stays, if it isn't the dict at d -/
theorem Keep.seq {K : PySem.W.Frag} {d : Addr} {kvs : List (Key × V)} {H H' : Hp} {a : Addr} {xs : List V} (k : Keep d H H') (hd : H d = some (.dK kvs)) (h : SqL K H a xs) : SqL K H' a xs := by
  rcases h with (h | ⟨o, h⟩) | h
  · exact .inl (.inl (k _ _ h (ne_of h hd (by intro z; cases z))))
  · exact .inl (.inr ⟨o, k _ _ h (ne_of h hd (by intro z; cases z))⟩)
  · exact .inr h
theorem Keep.tup {K : PySem.W.Frag} {d : Addr} {kvs : List (Key × V)} {H H' : Hp} {a : Addr} {xs : List V} (k : Keep d H H') (hd : H d = some (.dK kvs)) (h : SqT K H a xs) : SqT K H' a xs := by
  rcases h with (h | ⟨o, h⟩) | h
  · exact .inl (.inl (k _ _ h (ne_of h hd (by intro z; cases z))))
  · exact .inl (.inr ⟨o, k _ _ h (ne_of h hd (by intro z; cases z))⟩)
  · exact .inr h
theorem Keep.lst {d : Addr} {kvs : List (Key × V)} {H H' : Hp} {a : Addr} {xs : List V} (k : Keep d H H') (hd : H d = some (.dK kvs)) (h : H a = some (.lst xs)) : H' a = some (.lst xs) := k _ _ h (ne_of h hd (by intro z; cases z))
theorem Keep.tp {d : Addr} {kvs : List (Key × V)} {H H' : Hp} {a : Addr} {xs : List V} (k : Keep d H H') (hd : H d = some (.dK kvs)) (h : H a = some (.tup xs)) : H' a = some (.tup xs) := k _ _ h (ne_of h hd (by intro z; cases z))
theorem same_tup {K : PySem.W.Frag} {H H' : Hp} {a : Addr} {xs : List V} (e : Same H H') (h : SqT K H a xs) : SqT K H' a xs := by
  rcases h with (h | ⟨o, h⟩) | h
  · exact .inl (.inl (e _ _ h))
  · exact .inl (.inr ⟨o, e _ _ h⟩)
  · exact .inr h

/-! the state of the draws -/
theorem k01 : ¬ ("cells" : Str) = "at" := by decide +kernel
theorem k02 : ¬ ("cells" : Str) = "left" := by decide +kernel
theorem k03 : ¬ ("cells" : Str) = "mix" := by decide +kernel
theorem k10 : ¬ ("at" : Str) = "cells" := by decide +kernel
theorem k12 : ¬ ("at" : Str) = "left" := by decide +kernel
theorem k13 : ¬ ("at" : Str) = "mix" := by decide +kernel
theorem k20 : ¬ ("left" : Str) = "cells" := by decide +kernel
theorem k21 : ¬ ("left" : Str) = "at" := by decide +kernel
theorem k23 : ¬ ("left" : Str) = "mix" := by decide +kernel
theorem k30 : ¬ ("mix" : Str) = "cells" := by decide +kernel
theorem k31 : ¬ ("mix" : Str) = "at" := by decide +kernel
theorem k32 : ¬ ("mix" : Str) = "left" := by decide +kernel
theorem kr {a b : Str} (h : ¬ a = b) : ¬ (Sum.inr a : Key) = Sum.inr b := fun z => h (Sum.inr.inj z)
def stK (c : Addr) (i l m : Int) : List (Key × V) := [(.inr "cells", .ref c), (.inr "at", .int i), (.inr "left", .int l), (.inr "mix", .int m)]
theorem g_cells (c : Addr) (i l m : Int) : valV (stK c i l m) (.inr "cells") = some (.ref c) := valV_pos rfl
theorem g_at (c : Addr) (i l m : Int) : valV (stK c i l m) (.inr "at") = some (.int i) := by
  unfold stK
  rw [valV_neg (kr k01), valV_pos rfl]
theorem g_left (c : Addr) (i l m : Int) : valV (stK c i l m) (.inr "left") = some (.int l) := by
  unfold stK
  rw [valV_neg (kr k02), valV_neg (kr k12), valV_pos rfl]
theorem g_mix (c : Addr) (i l m : Int) : valV (stK c i l m) (.inr "mix") = some (.int m) := by
  unfold stK
  rw [valV_neg (kr k03), valV_neg (kr k13), valV_neg (kr k23), valV_pos rfl]
theorem put_any {kvs : List (Key × V)} {k : Key} {v y : V} (h : valV kvs k = some v) : putK kvs k y = kvs.map (fun kv => if kv.1 = k then (kv.1, y) else kv) := by
  unfold putK
  rw [valV_any, h]
  exact if_pos rfl
theorem p_at (c : Addr) (i l m j : Int) : putK (stK c i l m) (.inr "at") (.int j) = stK c j l m := by
  rw [put_any (g_at c i l m)]
  unfold stK
  simp only [List.map_cons, List.map_nil, if_neg (kr k01), if_neg (kr k21), if_neg (kr k31), if_true]
theorem p_left (c : Addr) (i l m j : Int) : putK (stK c i l m) (.inr "left") (.int j) = stK c i j m := by
  rw [put_any (g_left c i l m)]
  unfold stK
  simp only [List.map_cons, List.map_nil, if_neg (kr k02), if_neg (kr k12), if_neg (kr k32), if_true]
theorem p_mix (c : Addr) (i l m j : Int) : putK (stK c i l m) (.inr "mix") (.int j) = stK c i l j := by
  rw [put_any (g_mix c i l m)]
  unfold stK
  simp only [List.map_cons, List.map_nil, if_neg (kr k03), if_neg (kr k13), if_neg (kr k23), if_true]
theorem merge_st (c : Addr) (i l m : Int) : mergeK [] (stK c i l m) = stK c i l m := by
  have e0 : putK ([] : List (Key × V)) (.inr "cells" : Key) (.ref c) = [((.inr "cells" : Key), V.ref c)] := rfl
  have e1 : putK [((.inr "cells" : Key), V.ref c)] (.inr "at" : Key) (.int i) = [((.inr "cells" : Key), V.ref c), (.inr "at", .int i)] := by
    rw [putK_new _ (by rw [valV_neg (kr k01)]; rfl)]
    all_goals rfl
  have e2 : putK [((.inr "cells" : Key), V.ref c), (.inr "at", .int i)] (.inr "left") (.int l) = [((.inr "cells" : Key), V.ref c), (.inr "at", .int i), (.inr "left", .int l)] := by
    rw [putK_new _ (by rw [valV_neg (kr k02), valV_neg (kr k12)]; rfl)]
    all_goals rfl
  have e3 : putK [((.inr "cells" : Key), V.ref c), (.inr "at", .int i), (.inr "left", .int l)] (.inr "mix") (.int m) = stK c i l m := by
    rw [putK_new _ (by rw [valV_neg (kr k03), valV_neg (kr k13), valV_neg (kr k23)]; rfl)]
    all_goals rfl
  show putK (putK (putK (putK ([] : List (Key × V)) (.inr "cells" : Key) (.ref c)) (.inr "at" : Key) (.int i)) (.inr "left" : Key) (.int l)) (.inr "mix" : Key) (.int m) = stK c i l m
  rw [e0, e1, e2, e3]
/-- the dict of the draws stands at d -/
structure StAt (K : PySem.W.Frag) (H : Hp) (d : Addr) (c : Addr) (ns : List Int) (i l m : Int) : Prop where
  dc : H d = some (.dK (stK c i l m))
  cs : H c = some (.lst (ns.map V.int))
  nn : ∀ x ∈ ns, 0 ≤ x
  i0 : 0 ≤ i
  l0 : 0 ≤ l
  m0 : 0 ≤ m
  m1 : m < 2147483648
def St1 (K : PySem.W.Frag) (H : Hp) (d c : Addr) : Prop := ∃ ns i l m, StAt K H d c ns i l m
theorem St1.dk {K : PySem.W.Frag} {H : Hp} {d c : Addr} (S : St1 K H d c) : ∃ kvs, H d = some (.dK kvs) := let ⟨_, _, _, _, S⟩ := S; ⟨_, S.dc⟩
theorem St1.cl {K : PySem.W.Frag} {H : Hp} {d c : Addr} (S : St1 K H d c) : ∃ xs, H c = some (.lst xs) := let ⟨_, _, _, _, S⟩ := S; ⟨_, S.cs⟩
/-- the state stands on where both its objects stand -/
theorem St1.of {K : PySem.W.Frag} {H H' : Hp} {d c : Addr} (S : St1 K H d c) (e1 : H' d = H d) (e2 : H' c = H c) : St1 K H' d c := by
  obtain ⟨ns, i, l, m, S⟩ := S
  exact ⟨ns, i, l, m, e1.trans S.dc, e2.trans S.cs, S.nn, S.i0, S.l0, S.m0, S.m1⟩
theorem St1.same {K : PySem.W.Frag} {H H' : Hp} {d c : Addr} (S : St1 K H d c) (e : Same H H') : St1 K H' d c := by
  obtain ⟨ns, i, l, m, S⟩ := S
  exact ⟨ns, i, l, m, e _ _ S.dc, e _ _ S.cs, S.nn, S.i0, S.l0, S.m0, S.m1⟩
theorem St1.new {K : PySem.W.Frag} {H : Hp} {d c a : Addr} {o : HO} (S : St1 K H d c) (h : H a = none) : St1 K (upd H a o) d c := S.same (same_new h)
theorem St1.nd {K : PySem.W.Frag} {H : Hp} {d c a : Addr} (S : St1 K H d c) (h : H a = none) : a ≠ d := let ⟨_, e⟩ := S.dk; (ne_of_none e h).symm
theorem St1.nc {K : PySem.W.Frag} {H : Hp} {d c a : Addr} (S : St1 K H d c) (h : H a = none) : a ≠ c := let ⟨_, e⟩ := S.cl; (ne_of_none e h).symm
theorem St1.put {K : PySem.W.Frag} {H : Hp} {d c a : Addr} {o : HO} (S : St1 K H d c) (h1 : a ≠ d) (h2 : a ≠ c) : St1 K (upd H a o) d c := S.of (upd_ne h1.symm) (upd_ne h2.symm)
theorem StAt.put {K : PySem.W.Frag} {H : Hp} {d c : Addr} {ns : List Int} {i l m i' l' m' : Int} (S : StAt K H d c ns i l m) (h0 : 0 ≤ i') (h1 : 0 ≤ l') (h2 : 0 ≤ m') (h3 : m' < 2147483648) :
    StAt K (upd H d (.dK (stK c i' l' m'))) d c ns i' l' m' := ⟨upd_same, (Keep.upd d H _).lst S.dc S.cs, S.nn, h0, h1, h2, h3⟩
section
variable {H : Hp} {d c : Addr} {i l m j : Int}
theorem dg_cells (h : H d = some (.dK (stK c i l m))) : DGet H d (.str "cells") (some (.ref c)) := g_cells c i l m ▸ DGet.k (k := .inr "cells") h
theorem dg_at (h : H d = some (.dK (stK c i l m))) : DGet H d (.str "at") (some (.int i)) := g_at c i l m ▸ DGet.k (k := .inr "at") h
theorem dg_left (h : H d = some (.dK (stK c i l m))) : DGet H d (.str "left") (some (.int l)) := g_left c i l m ▸ DGet.k (k := .inr "left") h
theorem dg_mix (h : H d = some (.dK (stK c i l m))) : DGet H d (.str "mix") (some (.int m)) := g_mix c i l m ▸ DGet.k (k := .inr "mix") h
theorem st_few : (stK c i l m).length < sizeLine := Nat.lt_of_le_of_lt (show 4 ≤ 1000 by decide) (by decide)
theorem dp_at (h : H d = some (.dK (stK c i l m))) : DPut H d (.str "at") (.int j) (upd H d (.dK (stK c j l m))) := p_at c i l m j ▸ DPut.k (k := .inr "at") h st_few
theorem dp_left (h : H d = some (.dK (stK c i l m))) : DPut H d (.str "left") (.int j) (upd H d (.dK (stK c i j m))) := p_left c i l m j ▸ DPut.k (k := .inr "left") h st_few
theorem dp_mix (h : H d = some (.dK (stK c i l m))) : DPut H d (.str "mix") (.int j) (upd H d (.dK (stK c i l j))) := p_mix c i l m j ▸ DPut.k (k := .inr "mix") h st_few
end
/-! what follows is shown once, for both ways of an if ahead of it -/
theorem cut {t u : TS} {D : Ends} {σ : L2.St} {H : Hp} (I : L2.St → Hp → Prop) (h2 : ∀ σ' H', I σ' H' → u D σ' H') (h1 : (∀ σ' H', I σ' H' → u D σ' H') → t { D with nx := u D } σ H) : tSeq t u D σ H := h1 h2

/-! the promises of the draws -/
/-- the bound's bound -/
def big : Int := 10000000000000000000000000000000000000000000000000000000000000000000000
def spStart (K : PySem.W.Frag) : Sp := fun vs H Q _ => ∃ (a : Addr) (ns : List Int), vs = [.ref a] ∧ SqL K H a (ns.map V.int) ∧ ns.length ≤ 63 ∧ ∀ d c H', H d = none → H c = none → St1 K H' d c → Same H H' → Q (.ref d) H'
def spDraw (K : PySem.W.Frag) : Sp := fun vs H Q _ => ∃ (d c : Addr) (b : Int), vs = [.ref d, .int b] ∧ St1 K H d c ∧ 0 < b ∧ b ≤ 10000000000000000000000000000000000000000000000000000000000000000000000 ∧
  ∀ n H', 0 ≤ n → n < b → St1 K H' d c → Keep d H H' → Q (.int n) H'
def spPick (K : PySem.W.Frag) : Sp := fun vs H Q _ => ∃ (d c l : Addr) (xs : List V), vs = [.ref d, .ref l] ∧ St1 K H d c ∧ SqL K H l xs ∧ xs ≠ [] ∧ xs.length ≤ 1000 ∧
  ∀ v H', v ∈ xs → St1 K H' d c → Keep d H H' → Q v H'
/-- a value's kind -/
def isInt : V → Bool | .int _ => true | _ => false
def isBl : V → Bool | .bl _ => true | _ => false
def spIsNum : Sp := fun vs H Q _ => ∃ n : Int, vs = [.int n] ∧ Q (.bl true) H
theorem log_of {b : Int} (h0 : 0 < b) (h1 : b ≤ 10000000000000000000000000000000000000000000000000000000000000000000000) : CDivW l b := wide_div (b := 300) h0 (by
  have : (b.natAbs : Int) = b := by omega
  have e : (2 : Nat) ^ 300 = 2037035976334486086268445688409378161051468393665936250636140449354381299763336706183397376 := by decide +kernel
  rw [e]
  omega) (by decide) (by decide)
/-! tests whose answer is known -/
theorem ifN {c A B : Prop} [Decidable c] (h : ¬ c) (q : B) : if decide c = true then A else B := by
  rw [decide_eq_false h]
  exact iteF q
theorem ifY {c A B : Prop} [Decidable c] (h : c) (q : A) : if decide c = true then A else B := by
  rw [decide_eq_true h]
  exact iteT q
theorem wm {i j : Int} (hi : i.natAbs < 2 ^ 250) (hj : j.natAbs < 2 ^ 250) : CMulW i j := wide_mul hi hj (by decide) (by decide) (by decide)
theorem ltge (a b : Int) : a < b ∨ b ≤ a := by omega
theorem nm {i : Nat} {x : V} {σ : L2.St} {H : Hp} {k : L2.St → Hp → Prop} (h : k (σ.set i (some x)) H) : gName i x σ H k := h
/-! math.isqrt -/
def rIsqrt : List V → Hp → VK → Prop := fun vs H Q => ∃ n : Int, vs = [.int n] ∧ 0 ≤ n ∧ n.natAbs < 2 ^ 250 ∧ ∀ r : Int, 0 ≤ r → r * r ≤ n → n < (r + 1) * (r + 1) → Q (.int r) H
theorem cr_isqrt {X : Cx} : CallR X (.builtin "math.isqrt") rIsqrt := by
  intro pins s σ H vs us Q I r h
  obtain ⟨a, rfl, h0, h1, q⟩ := h
  obtain ⟨u, rfl, t, rfl⟩ := vals1 r
  have hl : a.toNat.log2 < 250 := by
    have e : a.toNat = a.natAbs := by omega
    rw [e]
    exact PySem.Flt.log2_lt_of (by decide) h1
  obtain ⟨z1, z2⟩ := PySem.Float64.isqrt_spec a.toNat
  refine call_function_meets PySem.W.MGF.kind_isqrt PySem.W.MGF.plain_isqrt PySem.W.MGF.entry_isqrt (PySem.W.MGF.args_isqrt _) (PySem.W.mg_run_isqrt a t (by omega) (by omega) (by omega)).meets ?_
  refine ⟨.int ((Float64.isqrt a.toNat : Nat) : Int), H, I.tok _, ⟨_, rfl⟩, q _ (Int.natCast_nonneg _) ?_ ?_⟩
  · have := Int.ofNat_le.mpr z1
    rw [Int.natCast_mul] at this
    omega
  · have := Int.ofNat_lt.mpr z2
    rw [Int.natCast_mul, Int.natCast_add] at this
    have e : ((a.toNat : Nat) : Int) = a := by omega
    rw [e] at this
    exact this
theorem szOk {xs : List V} (h : Nat.ble xs.length 1000 = true) : xs.length ≤ sizeLine := Nat.le_trans (Nat.le_of_ble_eq_true h) (by decide)
theorem eqN {a b : Int} {A B : Prop} (h : a ≠ b) (q : B) : if decide (V.int a = V.int b) = true then A else B := ifN (fun z => h (V.int.inj z)) q
theorem eqY {a b : Int} {A B : Prop} (h : a = b) (q : A) : if decide (V.int a = V.int b) = true then A else B := ifY (congrArg V.int h) q
theorem neN {a b : Int} {A B : Prop} (h : a = b) (q : B) : if (!decide (V.int a = V.int b)) = true then A else B := iteNS (congrArg V.int h) q
/-! tracked things behind a call that changes the state alone -/
section
variable {K : PySem.W.Frag} {d c : Addr} {H H' : Hp}
theorem Keep.l (k : Keep d H H') (S : St1 K H d c) {a : Addr} {xs : List V} (h : H a = some (.lst xs)) : H' a = some (.lst xs) := let ⟨_, e⟩ := S.dk; k.lst e h
theorem Keep.t (k : Keep d H H') (S : St1 K H d c) {a : Addr} {xs : List V} (h : H a = some (.tup xs)) : H' a = some (.tup xs) := let ⟨_, e⟩ := S.dk; k.tp e h
theorem Keep.sl (k : Keep d H H') (S : St1 K H d c) {a : Addr} {xs : List V} (h : SqL K H a xs) : SqL K H' a xs := let ⟨_, e⟩ := S.dk; k.seq e h
theorem Keep.st (k : Keep d H H') (S : St1 K H d c) {a : Addr} {xs : List V} (h : SqT K H a xs) : SqT K H' a xs := let ⟨_, e⟩ := S.dk; k.tup e h
end
theorem sq0 (x : Int) : 0 ≤ x * x := by
  rcases ltge x 0 with z | z
  · have := Int.mul_nonneg (show 0 ≤ -x by omega) (show 0 ≤ -x by omega)
    rw [Int.neg_mul_neg] at this
    exact this
  · exact Int.mul_nonneg z z
theorem atI0 {α : Type} {xs : List α} {j : Nat} {v : α} (h : xs[j]? = some v) : atI xs (0 + (j : Int)) = some v := by
  rw [Int.zero_add]
  exact atI_nat h
theorem atI_back {α : Type} {xs : List α} {v : α} (h : xs.getLast? = some v) : atI xs (-1) = some v := by
  obtain ⟨ys, rfl⟩ := List.getLast?_eq_some_iff.mp h
  exact atI_last ys v
theorem eqvN {d : PyData} {A B : Prop} (h : d.canLay0 = true) (q : B) : if (!PyData.eqv d d) = true then A else B := by
  rw [SeqAt.eqv_refl d h]
  exact q
theorem getInt {ns : List Int} {i : Nat} {y : V} (h : (ns.map V.int)[i]? = some y) : ∃ x, y = .int x ∧ x ∈ ns ∧ i < ns.length ∧ ns.take (i + 1) = ns.take i ++ [x] := by
  rw [List.getElem?_map] at h
  cases e : ns[i]? with
  | none => rw [e] at h; cases h
  | some x =>
    rw [e] at h
    exact ⟨x, (Option.some.inj h).symm, List.mem_of_getElem? e, (List.getElem?_eq_some_iff.mp e).1, by rw [List.take_add_one, e]; rfl⟩
/-- the built-in names that the text has not bound -/
structure Txt0 (mg : Str → Option Value) : Prop where
  abs : mg "abs" = none
  int : mg "int" = none
  len : mg "len" = none
  bool : mg "bool" = none
  isinstance : mg "isinstance" = none
structure TxtA (mg : Str → Option Value) : Prop extends Txt0 mg where
  max : mg "max" = none
  min : mg "min" = none
  range : mg "range" = none
  tuple : mg "tuple" = none
  list : mg "list" = none
  sum : mg "sum" = none
  any : mg "any" = none
  all : mg "all" = none
  sorted : mg "sorted" = none
  dict : mg "dict" = none
  enumerate : mg "enumerate" = none
theorem getMap {α : Type} {f : α → V} {ns : List α} {i : Nat} {y : V} (h : (ns.map f)[i]? = some y) : ∃ x, y = f x ∧ x ∈ ns ∧ i < ns.length ∧ ns.take (i + 1) = ns.take i ++ [x] := by
  rw [List.getElem?_map] at h
  cases e : ns[i]? with
  | none => rw [e] at h; cases h
  | some x =>
    rw [e] at h
    exact ⟨x, (Option.some.inj h).symm, List.mem_of_getElem? e, (List.getElem?_eq_some_iff.mp e).1, by rw [List.take_add_one, e]; rfl⟩
theorem sq_le {x b : Int} (h0 : -b ≤ x) (h1 : x ≤ b) : x * x ≤ b * b := by
  rcases ltge x 0 with z | z
  · have := Int.mul_le_mul (show -x ≤ b by omega) (show -x ≤ b by omega) (show 0 ≤ -x by omega) (show 0 ≤ b by omega)
    rw [Int.neg_mul_neg] at this
    exact this
  · exact Int.mul_le_mul h1 h1 z (by omega)
/-- 2 ^ (24 - i) -/
def pw (i : Nat) : Int := (2 ^ (24 - i) : Nat)
theorem pw_step {i : Nat} (h : i < 24) : pw i = 2 * pw (i + 1) := by
  unfold pw
  rw [show 24 - i = (24 - (i + 1)) + 1 by omega, Nat.pow_succ]
  omega
theorem mapAt {α : Type} {f : α → V} {ns : List α} {i : Nat} (h : i < ns.length) : (ns.map f)[i]? = some (f ns[i]) := by simp [h]
theorem at_mod {α : Type} {f : α → V} {ns : List α} {z m : Int} (hm : m = (ns.length : Int)) (h : 0 < ns.length) : ∃ x, x ∈ ns ∧ atI (ns.map f) (z % m) = some (f x) := by
  obtain ⟨j, hj⟩ : ∃ j : Nat, z % m = (j : Int) := ⟨(z % m).toNat, by have := Int.emod_nonneg z (show m ≠ 0 by omega); omega⟩
  have hj2 : j < ns.length := by have := Int.emod_lt_of_pos z (show 0 < m by omega); omega
  exact ⟨ns[j], List.getElem_mem hj2, by rw [hj]; exact atI_nat (mapAt hj2)⟩
/-- all that stood, but at d -/
theorem Keep.none {d a : Addr} {H H' : Hp} (k : Keep d H H') (n : a ≠ d) (h : H' a = none) : H a = none := by
  cases e : H a with
  | none => rfl
  | some o => rw [k _ _ e n] at h; cases h
theorem atI_lastn {α : Type} {xs : List α} {v : α} {m : Int} (hm : m = (xs.length : Int) - 1) (h : xs.getLast? = some v) : atI xs m = some v := by
  obtain ⟨ys, rfl⟩ := List.getLast?_eq_some_iff.mp h
  rw [hm, List.length_append, List.length_singleton]
  have e : ((ys.length + 1 : Nat) : Int) - 1 = ((ys.length : Nat) : Int) := by omega
  rw [e]
  exact atI_nat (by simp)
theorem sq_swap (a b : Int) : (a - b) * (a - b) = (b - a) * (b - a) := by
  have e : a - b = -(b - a) := by omega
  rw [e, Int.neg_mul_neg]
def rLenK (K : PySem.W.Frag) : List V → Hp → VK → Prop := fun xs H Q => ∃ p ys, xs = [V.ref p] ∧ (SqL K H p ys ∨ SqT K H p ys) ∧ Q (.int ys.length) H
end Sk

set_option Elab.async false
set_option linter.all false
set_option maxRecDepth 100000
set_option maxHeartbeats 4000000
namespace Sk
open PySem PySem.Spec PyProof.Rows L2
/-! a method of the text, ready to be called -/
structure MDef (P : Program) (w : World) (K : PySem.W.Frag) (mg : Str → Option Value) (base : Heap) (k : Nat) (C : Addr) (m : Str) (ps : List Str) (sp : Sp) : Prop where
  ex : ∃ (f : Addr) (fd : FuncData), FnOk P w K mg base CX0 k f fd ps sp ∧ Meth K C m f ∧ Binds K fd ps []
theorem pe_mdef {X : Cx} {k : Nat} {C : Addr} {m : Str} {ps : List Str} {sp : Sp} {pos apos : Pos} {o e : Expr} {es : List Expr} {ta : TE} {t : TA} {pl : Sem Bool} (D : MDef X.prog X.w X.K X.mg X.base k C m ps sp) (cl : Cls X.K C) (hr : Room k X.A) (ho : PE X o ta)
    (ha : PA X (e :: es) t) (he : starEach (e :: es) X.env = (false, eval e X.env) :: starEach es X.env := by rfl) (hpl : (backTo pos (starEach es X.env)).any (·.1) = false := by rfl)
    (ht : eval (.Call (.Attribute o m apos) (e :: es) [] pos) X.env = (do
      let ov ← eval o X.env
      standAt apos.atName
      let (f, first) ← holding [ov] (getMethod ov m pl)
      callWith pos f first (backTo pos (starEach (e :: es) X.env)) (backToKw pos (keywordEach [] X.env))) := by rfl) :
    PE X (.Call (.Attribute o m apos) (e :: es) [] pos) (tMeth C m sp [] E0 ta t) := by
  obtain ⟨f, fd, F, M, b⟩ := D.ex
  exact pe_meth ho cl M F hr b .nil pass0 ha he hpl ht
theorem pe_mdef0 {X : Cx} {k : Nat} {C : Addr} {m : Str} {ps : List Str} {sp : Sp} {pos apos : Pos} {o : Expr} {ta : TE} {pl : Sem Bool} (D : MDef X.prog X.w X.K X.mg X.base k C m ps sp) (cl : Cls X.K C) (hr : Room k X.A) (ho : PE X o ta)
    (ht : eval (.Call (.Attribute o m apos) [] [] pos) X.env = (do
      let ov ← eval o X.env
      standAt apos.atName
      let (f, first) ← holding [ov] (getMethod ov m pl)
      callWith pos f first (backTo pos (starEach [] X.env)) (backToKw pos (keywordEach [] X.env))) := by rfl) :
    PE X (.Call (.Attribute o m apos) [] [] pos) (tMeth C m sp [] E0 ta tNil) := by
  obtain ⟨f, fd, F, M, b⟩ := D.ex
  exact pe_meth0 ho cl M F hr b .nil pass0 ht
/-! a class of the text, ready to be made -/
structure CDef (P : Program) (w : World) (K : PySem.W.Frag) (mg : Str → Option Value) (base : Heap) (k : Nat) (C : Addr) (x : Str) (ps : List Str) (sp : Sp) : Prop where
  ex : ∃ (f : Addr) (fd : FuncData), FnOk P w K mg base CX0 k f fd ps sp ∧ Mk K C f ∧ mg x = some (.ref C) ∧ Binds K fd ps []
theorem pe_cdef {X : Cx} {k : Nat} {C : Addr} {x : Str} {ps : List Str} {sp : Sp} {p pos : Pos} {e : Expr} {es : List Expr} {t : TA} (D : CDef X.prog X.w X.K X.mg X.base k C x ps sp) (hr : Room (k + 1) X.A) (hg : Gl X x)
    (ha : PA X (e :: es) t) (hdb : (x == ("__debug__" : Str)) = false := by decide) (he : starEach (e :: es) X.env = (false, eval e X.env) :: starEach es X.env := by rfl) (hpl : (backTo pos (starEach es X.env)).any (·.1) = false := by rfl) :
    PE X (.Call (.Name x p) (e :: es) [] pos) (tMake C sp [] E0 t) := by
  obtain ⟨f, fd, F, M, m, b⟩ := D.ex
  exact pe_make M F hr hg m b .nil pass0 ha hdb he hpl
abbrev sOk (x : Str) : Prop := PySem.PyData.strOk x = true
/-! data that can be compared -/
theorem cla {xs : List PyData} (h : ∀ x ∈ xs, x.canLay0 = true) : PyData.canLayAll0 xs = true := by
  induction xs with
  | nil => rfl
  | cons x xs ih =>
    show (PyData.canLay0 x && PyData.canLayAll0 xs) = true
    rw [h x List.mem_cons_self, ih fun y hy => h y (List.mem_cons_of_mem _ hy)]
    rfl
theorem dpa {xs : List PyData} {n : Nat} (h : ∀ x ∈ xs, x.depth ≤ n) : PyData.depthAll xs ≤ n := by
  induction xs with
  | nil => exact Nat.zero_le _
  | cons x xs ih =>
    show max (PyData.depth x) (PyData.depthAll xs) ≤ n
    exact Nat.max_le.mpr ⟨h x List.mem_cons_self, ih fun y hy => h y (List.mem_cons_of_mem _ hy)⟩
theorem sh_of {d : PyData} (h1 : d.canLay0 = true) (h2 : d.depth ≤ 64) : SeqAt.shaped d = true := by
  unfold SeqAt.shaped
  rw [h1, decide_eq_true h2]
  rfl
theorem can_str {ns : List Str} (h : ∀ n ∈ ns, sOk n) : (PyData.tuple (ns.map PyData.str)).canLay0 = true := by
  show PyData.canLayAll0 _ = true
  refine cla fun x hx => ?_
  obtain ⟨n, hn, rfl⟩ := List.mem_map.mp hx
  exact h n hn
theorem sh_str {ns : List Str} (h : ∀ n ∈ ns, sOk n) : SeqAt.shaped (.tuple (ns.map PyData.str)) = true := by
  refine sh_of (can_str h) ?_
  show PyData.depthAll _ + 1 ≤ 64
  have : PyData.depthAll (ns.map PyData.str) ≤ 1 := dpa fun x hx => by
    obtain ⟨n, _, rfl⟩ := List.mem_map.mp hx
    exact Nat.zero_le _
  omega
theorem dpAll_str {K : PySem.W.Frag} {H : Hp} : ∀ xs : List Str, DpAll K H (xs.map V.str) (xs.map PyData.str)
  | [] => .nil
  | x :: xs => .cons (.str x) (dpAll_str xs)
theorem hu65 {A : Around} {k : Nat} (hr : Room k A) : A.units + 65 < cLine := by
  have := hr.un
  omega
/-- all tuples stay -/
def TK (H H' : Hp) : Prop := ∀ a xs, H a = some (.tup xs) → H' a = some (.tup xs)
theorem TK.refl (H : Hp) : TK H H := fun _ _ h => h
theorem TK.trans {H H1 H2 : Hp} (a : TK H H1) (b : TK H1 H2) : TK H H2 := fun x xs h => b x xs (a x xs h)
theorem Same.tk {H H' : Hp} (e : Same H H') : TK H H' := fun _ _ h => e _ _ h
theorem Keep.tk {d : Addr} {H H' : Hp} {o : HO} (k : Keep d H H') (h : H d = some o) (n : ∀ xs, o ≠ .tup xs) : TK H H' := fun a xs e => k a _ e (ne_of e h (fun z => n xs z.symm))
theorem tk_new {H : Hp} {p : Addr} {o : HO} (h : H p = none) : TK H (upd H p o) := Same.tk (same_new h)
theorem keep_new {d p : Addr} {H H1 : Hp} {o : HO} (k : Keep d H H1) (h : H1 p = none) : Keep d H (upd H1 p o) := k.trans (Keep.of (same_new h))
theorem keep_put {d : Addr} {H H1 : Hp} {o : HO} (k : Keep d H H1) : Keep d H (upd H1 d o) := k.trans (Keep.upd d H1 o)
end Sk

set_option Elab.async false
set_option linter.all false
set_option maxRecDepth 100000
set_option maxHeartbeats 4000000
namespace Sk
open PySem PySem.Spec PyProof.Rows L2
/-! data of clearances, courses, messages, answers: all tuples -/
def VAt (H : Hp) (v : V) (d : PyData) : Prop := (∃ i, v = .int i ∧ d = .int i) ∨ (∃ (t : Addr) (ss : List Str), v = .ref t ∧ H t = some (.tup (ss.map V.str)) ∧ d = .tuple (ss.map PyData.str) ∧ (∀ s ∈ ss, sOk s))
section
variable {K : PySem.W.Frag} {H H' : Hp} {v : V} {d : PyData} {a q p : Addr}
theorem VAt.tk (h : VAt H v d) (k : TK H H') : VAt H' v d := by
  rcases h with h | ⟨t, ss, e1, e2, e3, e4⟩
  · exact .inl h
  · exact .inr ⟨t, ss, e1, k _ _ e2, e3, e4⟩
theorem VAt.dp (h : VAt H v d) : Dp K H v d := by
  rcases h with ⟨i, rfl, rfl⟩ | ⟨t, ss, rfl, e2, rfl, e4⟩
  · exact .int i
  · exact .tup (.inl (.inl e2)) (dpAll_str ss)
theorem VAt.can (h : VAt H v d) : d.canLay0 = true := by
  rcases h with ⟨i, rfl, rfl⟩ | ⟨t, ss, rfl, e2, rfl, e4⟩
  · rfl
  · exact can_str e4
theorem VAt.dep (h : VAt H v d) : d.depth ≤ 2 := by
  rcases h with ⟨i, rfl, rfl⟩ | ⟨t, ss, rfl, e2, rfl, e4⟩
  · exact Nat.zero_le _
  · show PyData.depthAll _ + 1 ≤ 2
    have : PyData.depthAll (ss.map PyData.str) ≤ 1 := dpa fun x hx => by
      obtain ⟨n, _, rfl⟩ := List.mem_map.mp hx
      exact Nat.zero_le _
    omega
structure CL where
  f : Str
  n : Int
  b : Int
  g : Addr
  w : Str
  v : V
  vd : PyData
structure ClAt (H : Hp) (a : Addr) (z : CL) : Prop where
  t : H a = some (.tup [.str z.f, .int z.n, .int z.b, .ref z.g])
  g : H z.g = some (.tup [.str z.w, z.v])
  v : VAt H z.v z.vd
  f : sOk z.f
  w : z.w = "level" ∨ z.w = "speed" ∨ z.w = "route"
def CL.dt (z : CL) : PyData := .tuple [.str z.f, .int z.n, .int z.b, .tuple [.str z.w, z.vd]]
theorem w_ok {w : Str} (h : w = "level" ∨ w = "speed" ∨ w = "route") : sOk w := by rcases h with rfl | rfl | rfl <;> decide +kernel
variable {z : CL}
theorem ClAt.tk (h : ClAt H a z) (k : TK H H') : ClAt H' a z := ⟨k _ _ h.t, k _ _ h.g, h.v.tk k, h.f, h.w⟩
theorem ClAt.dp (h : ClAt H a z) : Dp K H (.ref a) z.dt := .tup (.inl (.inl h.t)) (.cons (.str _) (.cons (.int _) (.cons (.int _) (.cons (.tup (.inl (.inl h.g)) (.cons (.str _) (.cons h.v.dp .nil))) .nil))))
theorem ClAt.can (h : ClAt H a z) : z.dt.canLay0 = true := by
  show PyData.canLayAll0 _ = true
  refine cla fun x hx => ?_
  simp only [List.mem_cons, List.not_mem_nil, or_false] at hx
  rcases hx with rfl | rfl | rfl | rfl
  · exact h.f
  · rfl
  · rfl
  · show PyData.canLayAll0 _ = true
    refine cla fun x hx => ?_
    simp only [List.mem_cons, List.not_mem_nil, or_false] at hx
    rcases hx with rfl | rfl
    · exact w_ok h.w
    · exact h.v.can
theorem ClAt.dep (h : ClAt H a z) : z.dt.depth ≤ 10 := by
  show PyData.depthAll _ + 1 ≤ 10
  have : PyData.depthAll [.str z.f, .int z.n, .int z.b, .tuple [.str z.w, z.vd]] ≤ 6 := dpa fun x hx => by
    simp only [List.mem_cons, List.not_mem_nil, or_false] at hx
    rcases hx with rfl | rfl | rfl | rfl
    · exact Nat.zero_le _
    · exact Nat.zero_le _
    · exact Nat.zero_le _
    · show PyData.depthAll _ + 1 ≤ 6
      have : PyData.depthAll [.str z.w, z.vd] ≤ 2 := dpa fun x hx => by
        simp only [List.mem_cons, List.not_mem_nil, or_false] at hx
        rcases hx with rfl | rfl
        · exact Nat.zero_le _
        · exact h.v.dep
      omega
  omega
theorem ClAt.sh (h : ClAt H a z) : SeqAt.shaped z.dt = true := sh_of h.can (Nat.le_trans h.dep (by decide))
/-- a course -/
structure CO where
  x : V
  y : V
  z : V
  dx : PyData
  dy : PyData
  dz : PyData
structure CoAt (H : Hp) (a : Addr) (c : CO) : Prop where
  t : H a = some (.tup [c.x, c.y, c.z])
  x : VAt H c.x c.dx
  y : VAt H c.y c.dy
  z : VAt H c.z c.dz
def CO.dt (c : CO) : PyData := .tuple [c.dx, c.dy, c.dz]
variable {c : CO}
theorem CoAt.tk (h : CoAt H a c) (k : TK H H') : CoAt H' a c := ⟨k _ _ h.t, h.x.tk k, h.y.tk k, h.z.tk k⟩
theorem CoAt.dp (h : CoAt H a c) : Dp K H (.ref a) c.dt := .tup (.inl (.inl h.t)) (.cons h.x.dp (.cons h.y.dp (.cons h.z.dp .nil)))
theorem CoAt.can (h : CoAt H a c) : c.dt.canLay0 = true := by
  show PyData.canLayAll0 _ = true
  refine cla fun x hx => ?_
  simp only [List.mem_cons, List.not_mem_nil, or_false] at hx
  rcases hx with rfl | rfl | rfl
  · exact h.x.can
  · exact h.y.can
  · exact h.z.can
theorem CoAt.dep (h : CoAt H a c) : c.dt.depth ≤ 3 := by
  show PyData.depthAll _ + 1 ≤ 3
  have : PyData.depthAll [c.dx, c.dy, c.dz] ≤ 2 := dpa fun x hx => by
    simp only [List.mem_cons, List.not_mem_nil, or_false] at hx
    rcases hx with rfl | rfl | rfl
    · exact h.x.dep
    · exact h.y.dep
    · exact h.z.dep
  omega
theorem CoAt.sh (h : CoAt H a c) : SeqAt.shaped c.dt = true := sh_of h.can (Nat.le_trans h.dep (by decide))
def CO.ch (c : CO) (z : CL) : CO := if z.w = "route" then { c with x := z.v, dx := z.vd } else if z.w = "speed" then { c with y := z.v, dy := z.vd } else { c with z := z.v, dz := z.vd }
/-! the state of a pilot -/
abbrev Hd := Option (Addr × CL)
def oV : Hd → V
  | none => .non
  | some z => .ref z.1
def OAt (H : Hp) (o : Hd) : Prop := ∀ z, o = some z → ClAt H z.1 z.2
theorem OAt.tk {o : Hd} (h : OAt H o) (k : TK H H') : OAt H' o := fun z e => (h z e).tk k
structure AS where
  f : Str
  co : CO
  he : Hd
  nx : Hd
  dn : Int
  ts : List Int
def Sb (i : Int) : Prop := -1000000 ≤ i ∧ i ≤ 1000000
/-- that it is a state: what stands in memory apart from its own objects -/
structure AsAt (H : Hp) (s : AS) : Prop where
  he : OAt H s.he
  nx : OAt H s.nx
  f : sOk s.f
  ts : s.ts.length ≤ 1000
theorem AsAt.tk {s : AS} (h : AsAt H s) (k : TK H H') : AsAt H' s := ⟨h.he.tk k, h.nx.tk k, h.f, h.ts⟩
def plf (s : AS) (ca tk : Addr) : List (Str × V) := [("_flight", .str s.f), ("_course", .ref ca), ("_heard", oV s.he), ("_upcoming", oV s.nx), ("_done", .int s.dn), ("_taken", .ref tk)]
/-- a pilot -/
structure PiAt (C : Addr) (H : Hp) (p tk : Addr) (s : AS) : Prop where
  o : ∃ dx ca, H p = some (.ins C dx (plf s ca tk)) ∧ CoAt H ca s.co
  tk : ∃ ks : List (Key × V), H tk = some (.dK ks) ∧ ks.length ≤ s.ts.length ∧ ∀ n, (valV ks (.inl n)).isSome = true ↔ n ∈ s.ts
  st : AsAt H s
def mkv (s : AS) (ca tl : Addr) : List (Key × V) := [(.inr "flight", .str s.f), (.inr "course", .ref ca), (.inr "heard", oV s.he), (.inr "next", oV s.nx), (.inr "done", .int s.dn), (.inr "taken", .ref tl)]
/-- the law's own -/
structure MiAt (H : Hp) (m tl : Addr) (s : AS) : Prop where
  o : ∃ ca, H m = some (.dK (mkv s ca tl)) ∧ CoAt H ca s.co
  tl : H tl = some (.lst (s.ts.map V.int))
  st : AsAt H s
/-- messages -/
inductive Msg
  | cl (w : Str) (a : Addr) (z : CL)
  | no (w : Str) (f : Str) (n : Int)
def MsgAt (H : Hp) (q : Addr) : Msg → Prop
  | .cl w a z => H q = some (.tup [.str w, .ref a]) ∧ ClAt H a z ∧ (w = "say" ∨ w = "confirm" ∨ w = "read")
  | .no w f n => H q = some (.tup [.str w, .str f, .int n]) ∧ sOk f ∧ (w = "ask" ∨ w = "taken" ∨ w = "not")
theorem MsgAt.tk {m : Msg} (h : MsgAt H q m) (k : TK H H') : MsgAt H' q m := by
  cases m with
  | cl w a z => exact ⟨k _ _ h.1, h.2.1.tk k, h.2.2⟩
  | no w f n => exact ⟨k _ _ h.1, h.2⟩
/-- answers -/
inductive Rp
  | read (a : Addr) (z : CL)
  | num (w : Str) (f : Str) (n : Int)
def RpAt (H : Hp) (v : V) : Option Rp → Prop
  | none => v = .non
  | some (.read a z) => ∃ q, v = .ref q ∧ H q = some (.tup [.str "read", .ref a]) ∧ ClAt H a z
  | some (.num w f n) => ∃ q, v = .ref q ∧ H q = some (.tup [.str w, .str f, .int n]) ∧ sOk f ∧ (w = "taken" ∨ w = "not")
theorem RpAt.tk {r : Option Rp} (h : RpAt H v r) (k : TK H H') : RpAt H' v r := by
  match r, h with
  | none, h => exact h
  | some (.read a z), ⟨q, e, h1, h2⟩ => exact ⟨q, e, k _ _ h1, h2.tk k⟩
  | some (.num w f n), ⟨q, e, h1, h2⟩ => exact ⟨q, e, k _ _ h1, h2⟩
def rpD : Option Rp → PyData
  | none => .none
  | some (.read _ z) => .tuple [.str "read", z.dt]
  | some (.num w f n) => .tuple [.str w, .str f, .int n]
theorem RpAt.dp {r : Option Rp} (h : RpAt H v r) : Dp K H v (rpD r) := by
  match r, h with
  | none, h => rw [show v = .non from h]; exact .non
  | some (.read a z), ⟨q, e, h1, h2⟩ => rw [e]; exact .tup (.inl (.inl h1)) (.cons (.str _) (.cons h2.dp .nil))
  | some (.num w f n), ⟨q, e, h1, h2⟩ => rw [e]; exact .tup (.inl (.inl h1)) (.cons (.str _) (.cons (.str _) (.cons (.int _) .nil)))
theorem RpAt.can {r : Option Rp} (h : RpAt H v r) : (rpD r).canLay0 = true := by
  match r, h with
  | none, h => rfl
  | some (.read a z), ⟨q, e, h1, h2⟩ =>
    show PyData.canLayAll0 _ = true
    refine cla fun x hx => ?_
    simp only [List.mem_cons, List.not_mem_nil, or_false] at hx
    rcases hx with rfl | rfl
    · exact (by decide +kernel : sOk "read")
    · exact h2.can
  | some (.num w f n), ⟨q, e, h1, h2, h3⟩ =>
    show PyData.canLayAll0 _ = true
    refine cla fun x hx => ?_
    simp only [List.mem_cons, List.not_mem_nil, or_false] at hx
    rcases hx with rfl | rfl | rfl
    · rcases h3 with rfl | rfl
      · exact (by decide +kernel : sOk "taken")
      · exact (by decide +kernel : sOk "not")
    · exact h2
    · rfl
theorem RpAt.sh {r : Option Rp} (h : RpAt H v r) : SeqAt.shaped (rpD r) = true := by
  refine sh_of h.can ?_
  match r, h with
  | none, h => exact Nat.zero_le _
  | some (.read a z), ⟨q, e, h1, h2⟩ =>
    show PyData.depthAll _ + 1 ≤ 64
    have : PyData.depthAll [.str "read", z.dt] ≤ 10 := dpa fun x hx => by
      simp only [List.mem_cons, List.not_mem_nil, or_false] at hx
      rcases hx with rfl | rfl
      · exact Nat.zero_le _
      · exact h2.dep
    omega
  | some (.num w f n), ⟨q, e, h1, h2, h3⟩ =>
    show PyData.depthAll _ + 1 ≤ 64
    have : PyData.depthAll [.str w, .str f, .int n] ≤ 10 := dpa fun x hx => by
      simp only [List.mem_cons, List.not_mem_nil, or_false] at hx
      rcases hx with rfl | rfl | rfl <;> exact Nat.zero_le _
    omega
end
/-! what is done -/
open Classical in
noncomputable def sayA (s : AS) (a : Addr) (z : CL) (t : Int) : AS × Option Rp :=
  if z.n ≤ s.dn ∨ z.b ≤ t ∨ s.nx ≠ none then (s, none) else if ∃ h, s.he = some h ∧ z.n < h.2.n then (s, none) else ({ s with he := some (a, z) }, some (.read a z))
open Classical in
noncomputable def confA (s : AS) (a : Addr) (z : CL) (t : Int) : AS := if (∃ h, s.he = some h ∧ PyData.eqv z.dt h.2.dt = true) ∧ t < z.b then { s with nx := some (a, z), he := none } else s
open Classical in
noncomputable def askA (s : AS) (n : Int) : AS × Option Rp :=
  if ∃ h, s.nx = some h ∧ h.2.n = n then (s, none) else if n ∈ s.ts then (s, some (.num "taken" s.f n)) else
    ({ s with dn := if n > s.dn then n else s.dn, he := if ∃ h, s.he = some h ∧ h.2.n ≤ n then none else s.he }, some (.num "not" s.f n))
open Classical in
noncomputable def hearA (s : AS) (m : Msg) (t : Int) : AS × Option Rp := match m with
  | .cl w a z => if z.f = s.f then (if w = "say" then sayA s a z t else if w = "confirm" then (confA s a z t, none) else (s, none)) else (s, none)
  | .no w f n => if w = "ask" ∧ f = s.f then askA s n else (s, none)
def begA (s : AS) (t : Int) : AS × Option Rp := match s.nx with
  | none => (s, none)
  | some h => if t < h.2.b then (s, none) else ({ s with nx := none, co := s.co.ch h.2, ts := s.ts ++ [h.2.n], dn := if h.2.n > s.dn then h.2.n else s.dn }, some (.num "taken" s.f h.2.n))
/-! the class -/
structure PilY (K : PySem.W.Frag) (mg : Str → Option Value) (C : Addr) : Prop where
  cl : Cls K C
  n1 : NoAttr K C "_flight"
  n2 : NoAttr K C "_course"
  n3 : NoAttr K C "_heard"
  n4 : NoAttr K C "_upcoming"
  n5 : NoAttr K C "_done"
  n6 : NoAttr K C "_taken"
end Sk
namespace Sk
open PySem PySem.Spec PyProof.Rows L2
/-! promises -/
def Oth (T : List Addr) (H H' : Hp) : Prop := ∀ b o, H b = some o → b ∉ T → H' b = some o
theorem Oth.refl (T : List Addr) (H : Hp) : Oth T H H := fun _ _ e _ => e
theorem Oth.of {T : List Addr} {H H' : Hp} (s : Same H H') : Oth T H H' := fun b o e _ => s b o e
theorem Oth.trans {T : List Addr} {H H1 H2 : Hp} (a : Oth T H H1) (b : Oth T H1 H2) : Oth T H H2 := fun x o e n => b x o (a x o e n) n
theorem Oth.put {T : List Addr} {H : Hp} {a : Addr} {o : HO} (h : a ∈ T) : Oth T H (upd H a o) := fun b x e n => by
  rw [upd_ne (fun z => n (by rw [z]; exact h))]
  exact e
theorem tk_put {H : Hp} {a : Addr} {o o' : HO} (h : H a = some o) (n : ∀ xs, o ≠ .tup xs) : TK H (upd H a o') := fun b xs e => by
  rw [upd_ne (ne_of e h (fun z => n xs z.symm))]
  exact e
def spChanged : Sp := fun vs H Q _ => ∃ (ca a : Addr) (c : CO) (z : CL), vs = [.ref ca, .ref z.g] ∧ CoAt H ca c ∧ ClAt H a z ∧ ∀ q H', H q = none → Same H H' → CoAt H' q (c.ch z) → Q (.ref q) H'
def spCourse28 (C : Addr) : Sp := fun vs H Q _ => ∃ (p tk : Addr) (s : AS), vs = [.ref p] ∧ PiAt C H p tk s ∧ ∀ ca, CoAt H ca s.co → (∃ dx, H p = some (.ins C dx (plf s ca tk))) → Q (.ref ca) H
def spSay (C : Addr) : Sp := fun vs H Q _ => ∃ (p tk a : Addr) (s : AS) (z : CL) (t : Int), vs = [.ref p, .ref a, .int t] ∧ PiAt C H p tk s ∧ ClAt H a z ∧ ∀ v H', PiAt C H' p tk (sayA s a z t).1 → RpAt H' v (sayA s a z t).2 → Oth [p, tk] H H' → TK H H' → Q v H'
def spConf (C : Addr) : Sp := fun vs H Q _ => ∃ (p tk a : Addr) (s : AS) (z : CL) (t : Int), vs = [.ref p, .ref a, .int t] ∧ PiAt C H p tk s ∧ ClAt H a z ∧ ∀ H', PiAt C H' p tk (confA s a z t) → Oth [p, tk] H H' → TK H H' → Q .non H'
def spAsk (C : Addr) : Sp := fun vs H Q _ => ∃ (p tk : Addr) (s : AS) (n : Int), vs = [.ref p, .int n] ∧ PiAt C H p tk s ∧ ∀ v H', PiAt C H' p tk (askA s n).1 → RpAt H' v (askA s n).2 → Oth [p, tk] H H' → TK H H' → Q v H'
def spHear (C : Addr) : Sp := fun vs H Q _ => ∃ (p tk q : Addr) (s : AS) (m : Msg) (t : Int), vs = [.ref p, .ref q, .int t] ∧ PiAt C H p tk s ∧ MsgAt H q m ∧ ∀ v H', PiAt C H' p tk (hearA s m t).1 → RpAt H' v (hearA s m t).2 → Oth [p, tk] H H' → TK H H' → Q v H'
def spBegin28 (C : Addr) : Sp := fun vs H Q _ => ∃ (p tk : Addr) (s : AS) (t : Int), vs = [.ref p, .int t] ∧ PiAt C H p tk s ∧ s.ts.length < 1000 ∧ ∀ v H', PiAt C H' p tk (begA s t).1 → RpAt H' v (begA s t).2 → Oth [p, tk] H H' → TK H H' → Q v H'
def spPil (C : Addr) : Sp := fun vs H Q _ => ∃ (p dx ca : Addr) (f : Str) (c : CO), vs = [.ref p, .str f, .ref ca] ∧ H p = some (.ins C dx []) ∧ CoAt H ca c ∧ sOk f ∧ ∀ tk H', H tk = none → tk ≠ p → PiAt C H' p tk ⟨f, c, none, none, 0, []⟩ → Oth [p] H H' → Q .non H'
def spLAsk : Sp := fun vs H Q _ => ∃ (m tl : Addr) (s : AS) (n : Int), vs = [.ref m, .int n] ∧ MiAt H m tl s ∧ ∀ v H', MiAt H' m tl (askA s n).1 → RpAt H' v (askA s n).2 → Oth [m, tl] H H' → TK H H' → Q v H'
def spLHear : Sp := fun vs H Q _ => ∃ (m tl q : Addr) (s : AS) (ms : Msg) (t : Int), vs = [.ref m, .ref q, .int t] ∧ MiAt H m tl s ∧ MsgAt H q ms ∧ ∀ v H', MiAt H' m tl (hearA s ms t).1 → RpAt H' v (hearA s ms t).2 → Oth [m, tl] H H' → TK H H' → Q v H'
def spLBegin : Sp := fun vs H Q _ => ∃ (m tl : Addr) (s : AS) (t : Int), vs = [.ref m, .int t] ∧ MiAt H m tl s ∧ s.ts.length < 1000 ∧ ∀ v H', MiAt H' m tl (begA s t).1 → RpAt H' v (begA s t).2 → Oth [m, tl] H H' → TK H H' → Q v H'
def spLNew : Sp := fun vs H Q _ => ∃ (ca : Addr) (f : Str) (c : CO), vs = [.str f, .ref ca] ∧ CoAt H ca c ∧ sOk f ∧ ∀ m tl H', H m = none → H tl = none → MiAt H' m tl ⟨f, c, none, none, 0, []⟩ → Same H H' → Q (.ref m) H'
/-! pilots stay -/
theorem PiAt.stay {C p tk : Addr} {H H' : Hp} {s : AS} (h : PiAt C H p tk s) (k : ∀ b o, H b = some o → (b = p ∨ b = tk) → H' b = some o) (t : TK H H') : PiAt C H' p tk s := by
  obtain ⟨⟨dx, ca, o, co⟩, ⟨ks, e, i⟩, st⟩ := h
  exact ⟨⟨dx, ca, k _ _ o (.inl rfl), co.tk t⟩, ⟨ks, k _ _ e (.inr rfl), i⟩, st.tk t⟩
theorem PiAt.same {C p tk : Addr} {H H' : Hp} {s : AS} (h : PiAt C H p tk s) (k : Same H H') : PiAt C H' p tk s := h.stay (fun b o e _ => k b o e) (Same.tk k)
theorem MiAt.stay {m tl : Addr} {H H' : Hp} {s : AS} (h : MiAt H m tl s) (k : ∀ b o, H b = some o → (b = m ∨ b = tl) → H' b = some o) (t : TK H H') : MiAt H' m tl s := by
  obtain ⟨⟨ca, o, co⟩, e, st⟩ := h
  exact ⟨⟨ca, k _ _ o (.inl rfl), co.tk t⟩, k _ _ e (.inr rfl), st.tk t⟩
theorem MiAt.same {m tl : Addr} {H H' : Hp} {s : AS} (h : MiAt H m tl s) (k : Same H H') : MiAt H' m tl s := h.stay (fun b o e _ => k b o e) (Same.tk k)
end Sk
namespace Sk
open PySem PySem.Spec PyProof.Rows L2
theorem ch_route {c : CO} {z : CL} (e : z.w = "route") : c.ch z = { c with x := z.v, dx := z.vd } := if_pos e
theorem ch_speed {c : CO} {z : CL} (e : z.w = "speed") : c.ch z = { c with y := z.v, dy := z.vd } := by
  unfold CO.ch
  rw [e, if_neg (by decide +kernel), if_pos rfl]
theorem ch_level {c : CO} {z : CL} (e : z.w = "level") : c.ch z = { c with z := z.v, dz := z.vd } := by
  unfold CO.ch
  rw [e, if_neg (by decide +kernel), if_neg (by decide +kernel)]
theorem CoAt.ch {H H' : Hp} {ca a q : Addr} {c : CO} {z : CL} (h : CoAt H ca c) (k : ClAt H a z) (s : Same H H') (t : H' q = some (.tup [(c.ch z).x, (c.ch z).y, (c.ch z).z])) : CoAt H' q (c.ch z) := by
  refine ⟨t, ?_, ?_, ?_⟩
  · rcases k.w with e | e | e
    · rw [ch_level e]; exact h.x.tk (Same.tk s)
    · rw [ch_speed e]; exact h.x.tk (Same.tk s)
    · rw [ch_route e]; exact k.v.tk (Same.tk s)
  · rcases k.w with e | e | e
    · rw [ch_level e]; exact h.y.tk (Same.tk s)
    · rw [ch_speed e]; exact k.v.tk (Same.tk s)
    · rw [ch_route e]; exact h.y.tk (Same.tk s)
  · rcases k.w with e | e | e
    · rw [ch_level e]; exact k.v.tk (Same.tk s)
    · rw [ch_speed e]; exact h.z.tk (Same.tk s)
    · rw [ch_route e]; exact h.z.tk (Same.tk s)
/-- a field is set -/
theorem PiAt.put {C p tk ca dx : Addr} {H : Hp} {s s' : AS} (ho : H p = some (.ins C dx (plf s ca tk))) (hco : CoAt H ca s.co) (hk : ∃ ks : List (Key × V), H tk = some (.dK ks) ∧ ks.length ≤ s.ts.length ∧ ∀ n, (valV ks (.inl n)).isSome = true ↔ n ∈ s.ts) (st : AsAt H s') (e1 : s'.ts = s.ts) (e2 : s'.co = s.co) : PiAt C (upd H p (.ins C dx (plf s' ca tk))) p tk s' ∧ TK H (upd H p (.ins C dx (plf s' ca tk))) ∧ Oth [p, tk] H (upd H p (.ins C dx (plf s' ca tk))) := by
  obtain ⟨ks, k1, kl, k2⟩ := hk
  have t := tk_put (o' := .ins C dx (plf s' ca tk)) ho (fun xs z => nomatch z)
  exact ⟨⟨⟨dx, ca, upd_same, by rw [e2]; exact hco.tk t⟩, ⟨ks, by rw [upd_ne (ne_of k1 ho (by intro z; cases z))]; exact k1, by rw [e1]; exact kl, by rw [e1]; exact k2⟩, st.tk t⟩, t, Oth.put (by simp)⟩
theorem MiAt.put {m tl ca : Addr} {H : Hp} {s s' : AS} (ho : H m = some (.dK (mkv s ca tl))) (hco : CoAt H ca s.co) (hl : H tl = some (.lst (s.ts.map V.int))) (st : AsAt H s') (e1 : s'.ts = s.ts) (e2 : s'.co = s.co) : MiAt (upd H m (.dK (mkv s' ca tl))) m tl s' ∧ TK H (upd H m (.dK (mkv s' ca tl))) ∧ Oth [m, tl] H (upd H m (.dK (mkv s' ca tl))) := by
  have t := tk_put (o' := .dK (mkv s' ca tl)) ho (fun xs z => nomatch z)
  exact ⟨⟨⟨ca, upd_same, by rw [e2]; exact hco.tk t⟩, by rw [upd_ne (ne_of hl ho (by intro z; cases z)), e1]; exact hl, st.tk t⟩, t, Oth.put (by simp)⟩
theorem sh_non : SeqAt.shaped .none = true := sh_of rfl (Nat.zero_le _)
theorem oV_non {o : Hd} (h : o ≠ none) : oV o ≠ .non := by
  cases o with
  | none => exact absurd rfl h
  | some z => exact fun e => nomatch e
/-- what a heard clearance is, as data -/
def hdD : Hd → PyData
  | none => .none
  | some z => z.2.dt
theorem OAt.dp {K : PySem.W.Frag} {H : Hp} {o : Hd} (h : OAt H o) : Dp K H (oV o) (hdD o) := by
  cases o with
  | none => exact .non
  | some z => exact (h z rfl).dp
theorem OAt.sh {H : Hp} {o : Hd} (h : OAt H o) : SeqAt.shaped (hdD o) = true := by
  cases o with
  | none => exact sh_non
  | some z => exact (h z rfl).sh
theorem eqv_hd {z : CL} {o : Hd} : PyData.eqv z.dt (hdD o) = true ↔ ∃ h, o = some h ∧ PyData.eqv z.dt h.2.dt = true := by
  cases o with
  | none => exact ⟨fun e => by simp [hdD, CL.dt, PyData.eqv] at e, fun ⟨h, e, _⟩ => nomatch e⟩
  | some h => exact ⟨fun e => ⟨h, rfl, e⟩, fun ⟨h', e, q⟩ => by cases e; exact q⟩
theorem putK_len {κ α : Type} [DecidableEq κ] (k : κ) (y : V) (kvs : List (κ × V)) : (putK kvs k y).length ≤ kvs.length + 1 := by
  unfold putK
  split
  · rw [List.length_map]; omega
  · rw [List.length_append]; exact Nat.le_refl _
section
variable {H : Hp} {m ca tl : Addr} {s : AS}
theorem mg_f (e : H m = some (.dK (mkv s ca tl))) : DGet H m (.str "flight") (some (.str s.f)) := DGet.k (k := .inr "flight") e
theorem mg_c (e : H m = some (.dK (mkv s ca tl))) : DGet H m (.str "course") (some (.ref ca)) := DGet.k (k := .inr "course") e
theorem mg_h (e : H m = some (.dK (mkv s ca tl))) : DGet H m (.str "heard") (some (oV s.he)) := DGet.k (k := .inr "heard") e
theorem mg_n (e : H m = some (.dK (mkv s ca tl))) : DGet H m (.str "next") (some (oV s.nx)) := DGet.k (k := .inr "next") e
theorem mg_d (e : H m = some (.dK (mkv s ca tl))) : DGet H m (.str "done") (some (.int s.dn)) := DGet.k (k := .inr "done") e
theorem mg_t (e : H m = some (.dK (mkv s ca tl))) : DGet H m (.str "taken") (some (.ref tl)) := DGet.k (k := .inr "taken") e
theorem mp_h (e : H m = some (.dK (mkv s ca tl))) (o : Hd) : DPut H m (.str "heard") (oV o) (upd H m (.dK (mkv { s with he := o } ca tl))) := DPut.k (k := .inr "heard") (v := oV o) e (small1000 (by show 6 ≤ 1000; decide))
theorem mp_n (e : H m = some (.dK (mkv s ca tl))) (o : Hd) : DPut H m (.str "next") (oV o) (upd H m (.dK (mkv { s with nx := o } ca tl))) := DPut.k (k := .inr "next") (v := oV o) e (small1000 (by show 6 ≤ 1000; decide))
theorem mp_d (e : H m = some (.dK (mkv s ca tl))) (i : Int) : DPut H m (.str "done") (.int i) (upd H m (.dK (mkv { s with dn := i } ca tl))) := DPut.k (k := .inr "done") (v := .int i) e (small1000 (by show 6 ≤ 1000; decide))
theorem mp_c (e : H m = some (.dK (mkv s ca tl))) (q : Addr) (c : CO) : DPut H m (.str "course") (.ref q) (upd H m (.dK (mkv { s with co := c } q tl))) := DPut.k (k := .inr "course") (v := .ref q) e (small1000 (by show 6 ≤ 1000; decide))
end
end Sk
namespace Sk
open PySem PySem.Spec PyProof.Rows L2
def spClr (K : PySem.W.Frag) : Sp := fun vs H Q _ => ∃ (d c : Addr) (f : Str) (t : Int), vs = [.ref d, .str f, .int t] ∧ St1 K H d c ∧ sOk f ∧ ∀ a z H', H a = none → ClAt H' a z → St1 K H' d c → Keep d H H' → Q (.ref a) H'
/-- all stays but the draws' state and one more -/
def KP (d po : Addr) (H H' : Hp) : Prop := ∀ b o, H b = some o → b ≠ d → b ≠ po → H' b = some o
theorem KP.trans {d po : Addr} {H H1 H2 : Hp} (a : KP d po H H1) (b : KP d po H1 H2) : KP d po H H2 := fun x o e n1 n2 => b x o (a x o e n1 n2) n1 n2
theorem KP.keep {d po : Addr} {H H' : Hp} (k : Keep d H H') : KP d po H H' := fun x o e n _ => k x o e n
theorem KP.put {d po : Addr} {H : Hp} {o : HO} : KP d po H (upd H po o) := fun x y e _ n => by rw [upd_ne n]; exact e
def Pool (H : Hp) (po : Addr) (as : List Addr) : Prop := H po = some (.lst (as.map V.ref)) ∧ ∀ a ∈ as, ∃ z, ClAt H a z
def spMsg (K : PySem.W.Frag) : Sp := fun vs H Q _ => ∃ (d c po : Addr) (f : Str) (t : Int) (as : List Addr), vs = [.ref d, .ref po, .str f, .int t] ∧ St1 K H d c ∧ sOk f ∧ Pool H po as ∧ as.length ≤ 100 ∧ po ≠ d ∧ po ≠ c ∧
  ∀ q m as' H', MsgAt H' q m → Pool H' po as' → as'.length ≤ as.length + 1 → St1 K H' d c → KP d po H H' → TK H H' → Q (.ref q) H'
theorem Pool.keep {K : PySem.W.Frag} {d c po : Addr} {H H' : Hp} {as : List Addr} (h : Pool H po as) (S : St1 K H d c) (k : Keep d H H') : Pool H' po as := ⟨k.l S h.1, fun a ha => let ⟨z, hz⟩ := h.2 a ha; ⟨z, hz.tk fun b xs e => k.t S e⟩⟩
theorem Pool.same {po : Addr} {H H' : Hp} {as : List Addr} (h : Pool H po as) (s : Same H H') : Pool H' po as := ⟨s _ _ h.1, fun a ha => let ⟨z, hz⟩ := h.2 a ha; ⟨z, hz.tk (Same.tk s)⟩⟩
theorem Pool.snoc {po a : Addr} {H : Hp} {as : List Addr} {z : CL} (h : Pool H po as) (hz : ClAt H a z) : Pool (upd H po (.lst (as.map V.ref ++ [.ref a]))) po (as ++ [a]) ∧ TK H (upd H po (.lst (as.map V.ref ++ [.ref a]))) := by
  have t := tk_put (o' := .lst (as.map V.ref ++ [.ref a])) h.1 (fun xs z => nomatch z)
  refine ⟨⟨by rw [upd_same, List.map_append]; rfl, fun b hb => ?_⟩, t⟩
  rcases List.mem_append.mp hb with hb | hb
  · obtain ⟨z, hz⟩ := h.2 b hb
    exact ⟨z, hz.tk t⟩
  · rw [List.mem_singleton.mp hb]
    exact ⟨z, hz.tk t⟩
theorem kp_tk {K : PySem.W.Frag} {d c : Addr} {H H' : Hp} (k : Keep d H H') (S : St1 K H d c) : TK H H' := fun b xs e => k.t S e
end Sk

set_option Elab.async false
set_option linter.all false
set_option maxRecDepth 100000
set_option maxHeartbeats 4000000
namespace Sk
open PySem PySem.Spec PyProof.Rows L2
/-! what is true of a pilot and of what was said to it -/
structure Lg (s : AS) (sds cfs : List (Addr × CL)) (rfs : List Int) : Prop where
  nx : ∀ h, s.nx = some h → h ∈ cfs ∧ (∃ x ∈ sds, PyData.eqv x.2.dt h.2.dt = true) ∧ h.2.n ∉ rfs ∧ s.he = none
  he : ∀ h, s.he = some h → h ∈ sds ∧ s.dn < h.2.n
  rf : ∀ r ∈ rfs, r ≤ s.dn
def sdA (m : Msg) (sds : List (Addr × CL)) : List (Addr × CL) := match m with
  | .cl w a z => if w = "say" then sds ++ [(a, z)] else sds
  | .no _ _ _ => sds
def cfA (m : Msg) (cfs : List (Addr × CL)) : List (Addr × CL) := match m with
  | .cl w a z => if w = "confirm" then cfs ++ [(a, z)] else cfs
  | .no _ _ _ => cfs
def rfA (r : Option Rp) (rfs : List Int) : List Int := match r with
  | some (.num w _ n) => if w = "not" then rfs ++ [n] else rfs
  | _ => rfs
theorem eqv_n {x y : CL} (h : PyData.eqv x.dt y.dt = true) : x.n = y.n := by
  simp only [CL.dt, PyData.eqv, PyData.eqvAll, Bool.and_eq_true] at h
  have h2 := h.2.1
  simpa using h2
section
variable {s : AS} {sds cfs : List (Addr × CL)} {rfs : List Int}
theorem Lg.more (L : Lg s sds cfs rfs) (a b : List (Addr × CL)) : Lg s (sds ++ a) (cfs ++ b) rfs := ⟨fun h e => by
    obtain ⟨h1, ⟨x, hx, ex⟩, h2, h3⟩ := L.nx h e
    exact ⟨List.mem_append_left _ h1, ⟨x, List.mem_append_left _ hx, ex⟩, h2, h3⟩, fun h e => ⟨List.mem_append_left _ (L.he h e).1, (L.he h e).2⟩, L.rf⟩
theorem Lg.say (L : Lg s sds cfs rfs) (a : Addr) (z : CL) (t : Int) : Lg (sayA s a z t).1 (sds ++ [(a, z)]) cfs (rfA (sayA s a z t).2 rfs) := by
  have M : Lg s (sds ++ [(a, z)]) cfs rfs := by have := L.more [(a, z)] []; rwa [List.append_nil] at this
  unfold sayA
  split
  · exact M
  · rename_i h1
    split
    · exact M
    · refine ⟨fun h e => ?_, fun h e => ?_, L.rf⟩
      · exact absurd (show s.nx ≠ none by rw [show s.nx = some h from e]; exact fun w => nomatch w) (fun w => h1 (.inr (.inr w)))
      · cases e
        exact ⟨List.mem_append_right _ (List.mem_singleton.mpr rfl), by
          show s.dn < z.n
          have : ¬ z.n ≤ s.dn := fun w => h1 (.inl w)
          omega⟩
theorem Lg.conf (L : Lg s sds cfs rfs) (a : Addr) (z : CL) (t : Int) : Lg (confA s a z t) sds (cfs ++ [(a, z)]) rfs := by
  have M : Lg s sds (cfs ++ [(a, z)]) rfs := by have := L.more [] [(a, z)]; rwa [List.append_nil] at this
  unfold confA
  split
  · rename_i h1
    obtain ⟨⟨h, e, q⟩, _⟩ := h1
    obtain ⟨hs, hd⟩ := L.he h e
    refine ⟨fun g eg => ?_, fun g eg => (nomatch eg), L.rf⟩
    cases eg
    refine ⟨List.mem_append_right _ (List.mem_singleton.mpr rfl), ⟨h, hs, by rw [PySem.W.eqv_comm]; exact q⟩, fun w => ?_, rfl⟩
    have := L.rf _ w
    have := eqv_n q
    dsimp only at *
    omega
  · exact M
theorem Lg.ask (L : Lg s sds cfs rfs) (n : Int) : Lg (askA s n).1 sds cfs (rfA (askA s n).2 rfs) := by
  unfold askA
  split
  · exact L
  · rename_i h1
    split
    · show Lg s sds cfs (if ("taken" : Str) = "not" then rfs ++ [n] else rfs)
      rw [if_neg (by decide +kernel)]
      exact L
    · show Lg _ sds cfs (if ("not" : Str) = "not" then rfs ++ [n] else rfs)
      rw [if_pos rfl]
      refine ⟨fun h e => ?_, fun h e => ?_, fun r hr => ?_⟩
      · obtain ⟨a1, a2, a3, a4⟩ := L.nx h e
        refine ⟨a1, a2, fun w => ?_, ?_⟩
        · rcases List.mem_append.mp w with w | w
          · exact a3 w
          · exact h1 ⟨h, e, List.mem_singleton.mp w⟩
        · show (if _ then none else s.he) = none
          rw [a4]
          split <;> rfl
      · have e : (if ∃ h, s.he = some h ∧ h.2.n ≤ n then none else s.he) = some h := e
        split at e
        · cases e
        · rename_i h2
          obtain ⟨b1, b2⟩ := L.he h e
          refine ⟨b1, ?_⟩
          have : ¬ h.2.n ≤ n := fun w => h2 ⟨h, e, w⟩
          show (if n > s.dn then n else s.dn) < h.2.n
          split <;> omega
      · show r ≤ (if n > s.dn then n else s.dn)
        rcases List.mem_append.mp hr with w | w
        · have := L.rf r w
          split <;> omega
        · rw [List.mem_singleton.mp w]
          split <;> omega
theorem Lg.hear (L : Lg s sds cfs rfs) (m : Msg) (t : Int) : Lg (hearA s m t).1 (sdA m sds) (cfA m cfs) (rfA (hearA s m t).2 rfs) := by
  cases m with
  | cl w a z =>
    have M : Lg s (sdA (.cl w a z) sds) (cfA (.cl w a z) cfs) rfs := by
      unfold sdA cfA
      dsimp only
      split <;> split
      · exact L.more _ _
      · have := L.more [(a, z)] []; rwa [List.append_nil] at this
      · have := L.more [] [(a, z)]; rwa [List.append_nil] at this
      · exact L
    unfold hearA
    dsimp only
    split
    · split
      · rename_i e
        subst e
        unfold sdA cfA
        dsimp only
        rw [if_pos rfl, if_neg (by decide +kernel)]
        exact L.say a z t
      · split
        · rename_i e
          subst e
          unfold sdA cfA
          dsimp only
          rw [if_pos rfl, if_neg (by decide +kernel)]
          exact L.conf a z t
        · exact M
    · exact M
  | no w f n =>
    unfold hearA
    dsimp only
    split
    · exact L.ask n
    · exact L
theorem Lg.beg (L : Lg s sds cfs rfs) (t : Int) : (begA s t = (s, none) ∧ (s.nx = none ∨ ∃ h, s.nx = some h ∧ t < h.2.b)) ∨ ∃ h, s.nx = some h ∧ h.2.b ≤ t ∧ (begA s t).2 = some (.num "taken" s.f h.2.n) ∧ (begA s t).1.co = s.co.ch h.2 ∧ h ∈ cfs ∧ (∃ x ∈ sds, PyData.eqv x.2.dt h.2.dt = true) ∧ h.2.n ∉ rfs ∧ Lg (begA s t).1 sds cfs (rfs ++ [h.2.n]) := by
  unfold begA
  cases e : s.nx with
  | none => exact .inl ⟨rfl, .inl rfl⟩
  | some h =>
    dsimp only
    split
    · rename_i w
      exact .inl ⟨rfl, .inr ⟨h, rfl, w⟩⟩
    · rename_i w
      obtain ⟨a1, a2, a3, a4⟩ := L.nx h e
      refine .inr ⟨h, rfl, by omega, rfl, rfl, a1, a2, a3, fun g eg => (nomatch eg), fun g eg => ?_, fun r hr => ?_⟩
      · have eg : s.he = some g := eg
        rw [a4] at eg
        cases eg
      · show r ≤ (if h.2.n > s.dn then h.2.n else s.dn)
        rcases List.mem_append.mp hr with w | w
        · have := L.rf r w
          split <;> omega
        · rw [List.mem_singleton.mp w]
          split <;> omega
end
end Sk
namespace Sk
open PySem PySem.Spec PyProof.Rows L2
theorem hear_ts (s : AS) (m : Msg) (t : Int) : (hearA s m t).1.ts = s.ts := by
  cases m with
  | cl w a z =>
    unfold hearA
    dsimp only
    split
    · split
      · unfold sayA
        split
        · rfl
        · split <;> rfl
      · split
        · unfold confA
          split <;> rfl
        · rfl
    · rfl
  | no w f n =>
    unfold hearA
    dsimp only
    split
    · unfold askA
      split
      · rfl
      · split <;> rfl
    · rfl
end Sk

set_option Elab.async false
set_option linter.all false
set_option maxRecDepth 100000
set_option maxHeartbeats 4000000
namespace Sk
open PySem PySem.Spec PyProof.Rows L2
/-! two pilots and what belongs to them -/
structure Ad where
  p : Addr
  tk : Addr
  m : Addr
  tl : Addr
  sd : Addr
  cf : Addr
  rf : Addr
def Ad.l (a : Ad) : List Addr := [a.p, a.tk, a.m, a.tl, a.sd, a.cf, a.rf]
def LL (G : Hp) (l : Addr) (xs : List (Addr × CL)) : Prop := G l = some (.lst (xs.map fun x => V.ref x.1)) ∧ ∀ x ∈ xs, ClAt G x.1 x.2
structure PC (C : Addr) (G : Hp) (A : Ad) (s : AS) (sds cfs : List (Addr × CL)) (rfs : List Int) : Prop where
  P : PiAt C G A.p A.tk s
  M : MiAt G A.m A.tl s
  sd : LL G A.sd sds
  cf : LL G A.cf cfs
  rf : G A.rf = some (.lst (rfs.map V.int))
section
variable {C : Addr} {G G1 G2 : Hp} {A : Ad} {s s' : AS} {sds cfs : List (Addr × CL)} {rfs : List Int}
theorem LL.tk {l : Addr} {xs : List (Addr × CL)} (h : LL G l xs) (e : G1 l = G l) (t : TK G G1) : LL G1 l xs := ⟨e.trans h.1, fun x hx => (h.2 x hx).tk t⟩
theorem PC.stay (h : PC C G A s sds cfs rfs) (k : ∀ b o, G b = some o → b ∈ A.l → G1 b = some o) (t : TK G G1) : PC C G1 A s sds cfs rfs :=
  ⟨h.P.stay (fun b o e w => k b o e (by rcases w with rfl | rfl <;> simp [Ad.l])) t, h.M.stay (fun b o e w => k b o e (by rcases w with rfl | rfl <;> simp [Ad.l])) t,
    h.sd.tk ((k _ _ h.sd.1 (by simp [Ad.l])).trans h.sd.1.symm) t, h.cf.tk ((k _ _ h.cf.1 (by simp [Ad.l])).trans h.cf.1.symm) t, k _ _ h.rf (by simp [Ad.l])⟩
theorem Oth.sub {T T' : List Addr} (h : Oth T G G1) (k : ∀ x ∈ T, x ∈ T') : Oth T' G G1 := fun b o e n => h b o e fun w => n (k b w)
theorem PC.mid (h : PC C G A s sds cfs rfs) (nd : A.l.Nodup) (O : Oth [A.m, A.tl] G G1) (t : TK G G1) : PiAt C G1 A.p A.tk s := by
  simp only [Ad.l, List.nodup_cons, List.mem_cons, List.not_mem_nil, or_false, not_or] at nd
  refine h.P.stay (fun b o e w => O b o e ?_) t
  rcases w with rfl | rfl <;> simp only [List.mem_cons, List.not_mem_nil, or_false, not_or]
  · exact ⟨nd.1.2.1, nd.1.2.2.1⟩
  · exact ⟨nd.2.1.1, nd.2.1.2.1⟩
theorem PC.next (h : PC C G A s sds cfs rfs) (nd : A.l.Nodup) (M1 : MiAt G1 A.m A.tl s') (O1 : Oth [A.m, A.tl] G G1) (t1 : TK G G1) (P2 : PiAt C G2 A.p A.tk s') (O2 : Oth [A.p, A.tk] G1 G2) (t2 : TK G1 G2) : PC C G2 A s' sds cfs rfs ∧ Oth A.l G G2 := by
  simp only [Ad.l, List.nodup_cons, List.mem_cons, List.not_mem_nil, or_false, not_or] at nd
  obtain ⟨⟨n1, n2, n3, n4, n5, n6⟩, ⟨m1, m2, m3, m4, m5⟩, ⟨k1, k2, k3, k4⟩, ⟨j1, j2, j3⟩, _⟩ := nd
  have both : ∀ b o, G b = some o → b ∉ [A.m, A.tl] → b ∉ [A.p, A.tk] → G2 b = some o := fun b o e x y => O2 b o (O1 b o e x) y
  refine ⟨⟨P2, M1.stay (fun b o e w => O2 b o e ?_) t2, h.sd.tk ((both _ _ h.sd.1 ?_ ?_).trans h.sd.1.symm) (t1.trans t2), h.cf.tk ((both _ _ h.cf.1 ?_ ?_).trans h.cf.1.symm) (t1.trans t2), both _ _ h.rf ?_ ?_⟩, (O1.sub (by simp [Ad.l])).trans (O2.sub (by simp [Ad.l]))⟩
  · rcases w with rfl | rfl <;> simp only [List.mem_cons, List.not_mem_nil, or_false, not_or]
    · exact ⟨fun w => n2 w.symm, fun w => m1 w.symm⟩
    · exact ⟨fun w => n3 w.symm, fun w => m2 w.symm⟩
  all_goals simp only [List.mem_cons, List.not_mem_nil, or_false, not_or]
  · exact ⟨fun w => k2 w.symm, fun w => j1 w.symm⟩
  · exact ⟨fun w => n4 w.symm, fun w => m3 w.symm⟩
  · exact ⟨fun w => k3 w.symm, fun w => j2 w.symm⟩
  · exact ⟨fun w => n5 w.symm, fun w => m4 w.symm⟩
  · exact ⟨fun w => k4 w.symm, fun w => j3 w.symm⟩
  · exact ⟨fun w => n6 w.symm, fun w => m5 w.symm⟩
theorem PC.putAt (h : PC C G A s sds cfs rfs) (nd : A.l.Nodup) {l : Addr} {xs : List V} {o : HO} (hl : G l = some (.lst xs)) (ml : l ∈ A.l) :
    TK G (upd G l o) ∧ Oth A.l G (upd G l o) := ⟨tk_put hl (fun ys z => nomatch z), Oth.put ml⟩
theorem PC.putS (h : PC C G A s sds cfs rfs) (nd : A.l.Nodup) {a : Addr} {z : CL} (CZ : ClAt G a z) : PC C (upd G A.sd (.lst ((sds.map fun x => V.ref x.1) ++ [.ref a]))) A s (sds ++ [(a, z)]) cfs rfs := by
  obtain ⟨t, _⟩ := h.putAt nd (o := .lst ((sds.map fun x => V.ref x.1) ++ [.ref a])) h.sd.1 (by simp [Ad.l])
  simp only [Ad.l, List.nodup_cons, List.mem_cons, List.not_mem_nil, or_false, not_or] at nd
  obtain ⟨⟨n1, n2, n3, n4, n5, n6⟩, ⟨m1, m2, m3, m4, m5⟩, ⟨k1, k2, k3, k4⟩, ⟨j1, j2, j3⟩, ⟨i1, i2⟩, _⟩ := nd
  refine ⟨h.P.stay (fun b o e w => ?_) t, h.M.stay (fun b o e w => ?_) t, ⟨by rw [upd_same, List.map_append]; rfl, fun x hx => ?_⟩, h.cf.tk (upd_ne fun w => i1 w.symm) t, by rw [upd_ne fun w => i2 w.symm]; exact h.rf⟩
  · rw [upd_ne (by rcases w with rfl | rfl; exact n4; exact m3)]; exact e
  · rw [upd_ne (by rcases w with rfl | rfl; exact k2; exact j1)]; exact e
  · rcases List.mem_append.mp hx with hx | hx
    · exact (h.sd.2 x hx).tk t
    · rw [List.mem_singleton.mp hx]; exact CZ.tk t
theorem PC.putC (h : PC C G A s sds cfs rfs) (nd : A.l.Nodup) {a : Addr} {z : CL} (CZ : ClAt G a z) : PC C (upd G A.cf (.lst ((cfs.map fun x => V.ref x.1) ++ [.ref a]))) A s sds (cfs ++ [(a, z)]) rfs := by
  obtain ⟨t, _⟩ := h.putAt nd (o := .lst ((cfs.map fun x => V.ref x.1) ++ [.ref a])) h.cf.1 (by simp [Ad.l])
  simp only [Ad.l, List.nodup_cons, List.mem_cons, List.not_mem_nil, or_false, not_or] at nd
  obtain ⟨⟨n1, n2, n3, n4, n5, n6⟩, ⟨m1, m2, m3, m4, m5⟩, ⟨k1, k2, k3, k4⟩, ⟨j1, j2, j3⟩, ⟨i1, i2⟩, h1, _⟩ := nd
  refine ⟨h.P.stay (fun b o e w => ?_) t, h.M.stay (fun b o e w => ?_) t, h.sd.tk (upd_ne i1) t, ⟨by rw [upd_same, List.map_append]; rfl, fun x hx => ?_⟩, by rw [upd_ne fun w => h1 w.symm]; exact h.rf⟩
  · rw [upd_ne (by rcases w with rfl | rfl; exact n5; exact m4)]; exact e
  · rw [upd_ne (by rcases w with rfl | rfl; exact k3; exact j2)]; exact e
  · rcases List.mem_append.mp hx with hx | hx
    · exact (h.cf.2 x hx).tk t
    · rw [List.mem_singleton.mp hx]; exact CZ.tk t
theorem PC.putR (h : PC C G A s sds cfs rfs) (nd : A.l.Nodup) (n : Int) : PC C (upd G A.rf (.lst (rfs.map V.int ++ [.int n]))) A s sds cfs (rfs ++ [n]) := by
  obtain ⟨t, _⟩ := h.putAt nd (o := .lst (rfs.map V.int ++ [.int n])) h.rf (by simp [Ad.l])
  simp only [Ad.l, List.nodup_cons, List.mem_cons, List.not_mem_nil, or_false, not_or] at nd
  obtain ⟨⟨n1, n2, n3, n4, n5, n6⟩, ⟨m1, m2, m3, m4, m5⟩, ⟨k1, k2, k3, k4⟩, ⟨j1, j2, j3⟩, ⟨i1, i2⟩, h1, _⟩ := nd
  refine ⟨h.P.stay (fun b o e w => ?_) t, h.M.stay (fun b o e w => ?_) t, h.sd.tk (upd_ne i2) t, h.cf.tk (upd_ne h1) t, by rw [upd_same, List.map_append]; rfl⟩
  · rw [upd_ne (by rcases w with rfl | rfl; exact n6; exact m5)]; exact e
  · rw [upd_ne (by rcases w with rfl | rfl; exact k4; exact j3)]; exact e
end
/-! all of it -/
structure Ds (A : Nat → Ad) (d c po : Addr) (os : List (Addr × HO)) : Prop where
  nd : ∀ j, j < 2 → (A j).l.Nodup
  dj : ∀ i j, i < 2 → j < 2 → i ≠ j → ∀ x ∈ (A i).l, x ∉ (A j).l
  dc : ∀ j, j < 2 → ∀ x ∈ (A j).l, x ≠ d ∧ x ≠ c ∧ x ≠ po ∧ ∀ y ∈ os, x ≠ y.1
  po : po ≠ d ∧ po ≠ c ∧ ∀ y ∈ os, po ≠ y.1
  od : ∀ y ∈ os, y.1 ≠ d
structure W28 (K : PySem.W.Frag) (C : Addr) (A : Nat → Ad) (d c po : Addr) (os : List (Addr × HO)) (G : Hp) (n : Nat) : Prop where
  S : St1 K G d c
  o : ∀ y ∈ os, G y.1 = some y.2
  po : ∃ as, Pool G po as ∧ as.length ≤ n
  J : ∀ j, j < 2 → ∃ s sds cfs rfs, PC C G (A j) s sds cfs rfs ∧ Lg s sds cfs rfs ∧ sds.length ≤ n ∧ cfs.length ≤ n ∧ rfs.length ≤ 3 * n ∧ s.ts.length ≤ 3 * n
section
variable {K : PySem.W.Frag} {C d c po : Addr} {A : Nat → Ad} {os : List (Addr × HO)} {G G' : Hp} {n n' : Nat}
theorem W28.draw (h : W28 K C A d c po os G n) (D : Ds A d c po os) (S : St1 K G' d c) (k : Keep d G G') : W28 K C A d c po os G' n := by
  have t := kp_tk k h.S
  obtain ⟨as, h1, h2⟩ := h.po
  refine ⟨S, fun y hy => k _ _ (h.o y hy) (D.od y hy), ⟨as, h1.keep h.S k, h2⟩, fun j hj => ?_⟩
  obtain ⟨s, sds, cfs, rfs, P, r⟩ := h.J j hj
  exact ⟨s, sds, cfs, rfs, P.stay (fun b o e hb => k b o e (D.dc j hj b hb).1) t, r⟩
theorem W28.same (h : W28 K C A d c po os G n) (D : Ds A d c po os) (k : Same G G') : W28 K C A d c po os G' n := h.draw D (h.S.same k) (Keep.of k)
theorem W28.mono (h : W28 K C A d c po os G n) (l : n ≤ n') : W28 K C A d c po os G n' := by
  obtain ⟨as, h1, h2⟩ := h.po
  refine ⟨h.S, h.o, ⟨as, h1, by omega⟩, fun j hj => ?_⟩
  obtain ⟨s, sds, cfs, rfs, P, L, a, b, e, f⟩ := h.J j hj
  exact ⟨s, sds, cfs, rfs, P, L, by omega, by omega, by omega, by omega⟩
theorem W28.msg (h : W28 K C A d c po os G n) (D : Ds A d c po os) (S : St1 K G' d c) (k : KP d po G G') (t : TK G G') {as' : List Addr} (P' : Pool G' po as') (l : as'.length ≤ n + 1) : W28 K C A d c po os G' (n + 1) := by
  refine ⟨S, fun y hy => k _ _ (h.o y hy) (D.od y hy) (fun w => D.po.2.2 y hy w.symm), ⟨as', P', l⟩, fun j hj => ?_⟩
  obtain ⟨s, sds, cfs, rfs, P, L, a, b, e, f⟩ := h.J j hj
  exact ⟨s, sds, cfs, rfs, P.stay (fun b o e hb => k b o e (D.dc j hj b hb).1 (D.dc j hj b hb).2.2.1) t, L, by omega, by omega, by omega, by omega⟩
theorem W28.step (h : W28 K C A d c po os G n) (D : Ds A d c po os) {j : Nat} (hj : j < 2) (O : Oth (A j).l G G') (t : TK G G') (l : n ≤ n') (J : ∃ s sds cfs rfs, PC C G' (A j) s sds cfs rfs ∧ Lg s sds cfs rfs ∧ sds.length ≤ n' ∧ cfs.length ≤ n' ∧ rfs.length ≤ 3 * n' ∧ s.ts.length ≤ 3 * n') : W28 K C A d c po os G' n' := by
  obtain ⟨as, h1, h2⟩ := h.po
  have nd : d ∉ (A j).l := fun w => (D.dc j hj d w).1 rfl
  have nc : c ∉ (A j).l := fun w => (D.dc j hj c w).2.1 rfl
  have np : po ∉ (A j).l := fun w => (D.dc j hj po w).2.2.1 rfl
  refine ⟨?_, fun y hy => O _ _ (h.o y hy) (fun w => (D.dc j hj y.1 w).2.2.2 y hy rfl), ⟨as, ⟨O _ _ h1.1 np, fun a ha => let ⟨z, hz⟩ := h1.2 a ha; ⟨z, hz.tk t⟩⟩, by omega⟩, fun i hi => ?_⟩
  · have S := h.S
    obtain ⟨ns, i, l, m, S'⟩ := id S
    exact S.of ((O _ _ S'.dc nd).trans S'.dc.symm) ((O _ _ S'.cs nc).trans S'.cs.symm)
  · by_cases e : i = j
    · rw [e]; exact J
    · obtain ⟨s, sds, cfs, rfs, P, L, a, b, e', f⟩ := h.J i hi
      exact ⟨s, sds, cfs, rfs, P.stay (fun b o e'' hb => O b o e'' (D.dj i j hi hj e b hb)) t, L, by omega, by omega, by omega, by omega⟩
end
end Sk
namespace Sk
open PySem PySem.Spec PyProof.Rows L2
/-! that all objects differ -/
def Dm (G G' : Hp) : Prop := ∀ b, G b ≠ none → G' b ≠ none
theorem Dm.refl (G : Hp) : Dm G G := fun _ h => h
theorem Dm.trans {G G1 G2 : Hp} (a : Dm G G1) (b : Dm G1 G2) : Dm G G2 := fun x h => b x (a x h)
theorem Dm.same {G G' : Hp} (s : Same G G') : Dm G G' := fun b h => by
  cases e : G b with
  | none => exact absurd e h
  | some o => rw [s _ _ e]; exact fun w => nomatch w
theorem Dm.put {G : Hp} {a : Addr} {o : HO} : Dm G (upd G a o) := fun b h => by
  by_cases e : b = a
  · rw [e, upd_same]; exact fun w => nomatch w
  · rw [upd_ne e]; exact h
structure Al (G : Hp) (X0 X1 OU : List Addr) : Prop where
  nd : (X0 ++ (X1 ++ OU)).Nodup
  n : ∀ x ∈ X0 ++ (X1 ++ OU), G x ≠ none
section
variable {G G' : Hp} {X0 X1 OU : List Addr} {a : Addr}
theorem Al.mono (h : Al G X0 X1 OU) (d : Dm G G') : Al G' X0 X1 OU := ⟨h.nd, fun x hx => d x (h.n x hx)⟩
theorem Al.out (h : Al G X0 X1 OU) (f : G a = none) : a ∉ X0 ∧ a ∉ X1 ∧ a ∉ OU := by
  refine ⟨fun w => h.n a (by simp [w]) f, fun w => h.n a (by simp [w]) f, fun w => h.n a (by simp [w]) f⟩
theorem Al.n0 (h : Al G X0 X1 OU) (f : G a = none) (d : Dm G G') (e : G' a ≠ none) : Al G' (X0 ++ [a]) X1 OU := by
  obtain ⟨o0, o1, o2⟩ := h.out f
  have p : (X0 ++ [a] ++ (X1 ++ OU)).Perm (a :: (X0 ++ (X1 ++ OU))) := by
    rw [List.append_assoc]
    exact List.perm_middle
  refine ⟨p.nodup_iff.mpr (List.nodup_cons.mpr ⟨by simp [o0, o1, o2], h.nd⟩), fun x hx => ?_⟩
  rcases List.mem_cons.mp (p.mem_iff.mp hx) with w | w
  · rw [w]; exact e
  · exact d x (h.n x w)
theorem Al.n1 (h : Al G X0 X1 OU) (f : G a = none) (d : Dm G G') (e : G' a ≠ none) : Al G' X0 (X1 ++ [a]) OU := by
  obtain ⟨o0, o1, o2⟩ := h.out f
  have p : (X0 ++ (X1 ++ [a] ++ OU)).Perm (a :: (X0 ++ (X1 ++ OU))) := by
    rw [show X0 ++ (X1 ++ [a] ++ OU) = (X0 ++ X1) ++ a :: OU by simp, show X0 ++ (X1 ++ OU) = (X0 ++ X1) ++ OU by simp]
    exact List.perm_middle
  refine ⟨p.nodup_iff.mpr (List.nodup_cons.mpr ⟨by simp [o0, o1, o2], h.nd⟩), fun x hx => ?_⟩
  rcases List.mem_cons.mp (p.mem_iff.mp hx) with w | w
  · rw [w]; exact e
  · exact d x (h.n x w)
theorem Al.no (h : Al G X0 X1 OU) (f : G a = none) (d : Dm G G') (e : G' a ≠ none) : Al G' X0 X1 (OU ++ [a]) := by
  obtain ⟨o0, o1, o2⟩ := h.out f
  have p : (X0 ++ (X1 ++ (OU ++ [a]))).Perm (a :: (X0 ++ (X1 ++ OU))) := by
    rw [show X0 ++ (X1 ++ (OU ++ [a])) = (X0 ++ (X1 ++ OU)) ++ [a] by simp]
    exact List.perm_append_comm
  refine ⟨p.nodup_iff.mpr (List.nodup_cons.mpr ⟨by simp [o0, o1, o2], h.nd⟩), fun x hx => ?_⟩
  rcases List.mem_cons.mp (p.mem_iff.mp hx) with w | w
  · rw [w]; exact e
  · exact d x (h.n x w)
theorem Al.alloc0 (h : Al G X0 X1 OU) (f : G a = none) (o : HO) : Al (upd G a o) (X0 ++ [a]) X1 OU := h.n0 f Dm.put (by rw [upd_same]; exact fun w => nomatch w)
theorem Al.alloc1 (h : Al G X0 X1 OU) (f : G a = none) (o : HO) : Al (upd G a o) X0 (X1 ++ [a]) OU := h.n1 f Dm.put (by rw [upd_same]; exact fun w => nomatch w)
theorem Al.alloco (h : Al G X0 X1 OU) (f : G a = none) (o : HO) : Al (upd G a o) X0 X1 (OU ++ [a]) := h.no f Dm.put (by rw [upd_same]; exact fun w => nomatch w)
end
/-- from all that, the distinctness that the loop needs -/
theorem Al.ds {G : Hp} {A : Nat → Ad} {d c po : Addr} {os : List (Addr × HO)} (h : Al G (A 0).l (A 1).l ([d, c] ++ (os.map fun y => y.1) ++ [po])) : Ds A d c po os := by
  obtain ⟨n0, n1, x01⟩ := List.nodup_append.mp h.nd
  obtain ⟨n2, n3, x12⟩ := List.nodup_append.mp n1
  have all : ∀ j, j < 2 → ∀ x ∈ (A j).l, x ∉ [d, c] ++ (os.map fun y => y.1) ++ [po] := by
    intro j hj x hx w
    rcases (by omega : j = 0 ∨ j = 1) with rfl | rfl
    · exact x01 x hx x (List.mem_append_right _ w) rfl
    · exact x12 x hx x w rfl
  refine ⟨fun j hj => ?_, fun i j hi hj e x hx w => ?_, fun j hj x hx => ?_, ?_, ?_⟩
  · rcases (by omega : j = 0 ∨ j = 1) with rfl | rfl
    · exact n0
    · exact n2
  · rcases (by omega : i = 0 ∧ j = 1 ∨ i = 1 ∧ j = 0) with ⟨rfl, rfl⟩ | ⟨rfl, rfl⟩
    · exact x01 x hx x (List.mem_append_left _ w) rfl
    · exact x01 x w x (List.mem_append_left _ hx) rfl
  · have w := all j hj x hx
    refine ⟨fun e => w (by simp [e]), fun e => w (by simp [e]), fun e => w (by simp [e]), fun y hy e => w ?_⟩
    rw [e]
    simp only [List.mem_append, List.mem_map]
    exact .inl (.inr ⟨y, hy, rfl⟩)
  · obtain ⟨_, _, q⟩ := List.nodup_append.mp n3
    refine ⟨fun e => q d (by simp) po (by simp) e.symm, fun e => q c (by simp) po (by simp) e.symm, fun y hy e => q y.1 ?_ po (by simp) e.symm⟩
    simp only [List.mem_append, List.mem_map]
    exact .inr ⟨y, hy, rfl⟩
  · obtain ⟨q, _, _⟩ := List.nodup_append.mp n3
    obtain ⟨_, _, q⟩ := List.nodup_append.mp q
    exact fun y hy e => q d (by simp) y.1 (List.mem_map.mpr ⟨y, hy, rfl⟩) e.symm
end Sk
namespace Sk
open PySem PySem.Spec PyProof.Rows L2
def fn28 (k : Nat) : Str := if k = 0 then "AB1" else "A"
def st28 (c0 : CO) (k : Nat) : AS := ⟨fn28 k, c0, none, none, 0, []⟩
def XP (ps : List (Addr × Addr)) (k : Nat) : List Addr := match ps[k]? with
  | some x => [x.1, x.2]
  | none => []
theorem PiAt.putL {C p tk l : Addr} {H : Hp} {s : AS} {xs : List V} {o : HO} (h : PiAt C H p tk s) (hl : H l = some (.lst xs)) : PiAt C (upd H l o) p tk s := by
  obtain ⟨dx, ca, e1, _⟩ := h.o
  obtain ⟨ks, e2, _⟩ := h.tk
  refine h.stay (fun b x e w => ?_) (tk_put hl (fun ys z => nomatch z))
  rw [upd_ne]
  · exact e
  · rcases w with rfl | rfl
    · exact ne_of e1 hl (by intro z; cases z)
    · exact ne_of e2 hl (by intro z; cases z)
theorem MiAt.putL {m tl l : Addr} {H : Hp} {s : AS} {xs : List V} {o : HO} (h : MiAt H m tl s) (hl : H l = some (.lst xs)) (n : tl ≠ l) : MiAt (upd H l o) m tl s := by
  obtain ⟨ca, e1, _⟩ := h.o
  refine h.stay (fun b x e w => ?_) (tk_put hl (fun ys z => nomatch z))
  rw [upd_ne]
  · exact e
  · rcases w with rfl | rfl
    · exact ne_of e1 hl (by intro z; cases z)
    · exact n
theorem fn_ok (k : Nat) : sOk (fn28 k) := by
  unfold fn28
  split <;> decide +kernel
/-- the pilots, one after the other -/
structure PsB (C : Addr) (G3 G : Hp) (c0 : CO) (d c fl pl : Addr) (i : Nat) (ps : List (Addr × Addr)) : Prop where
  l : ps.length = i
  s : Same G3 G
  e : G pl = some (.lst (ps.map fun x => V.ref x.1))
  p : ∀ k x, ps[k]? = some x → PiAt C G x.1 x.2 (st28 c0 k)
  a : Al G (XP ps 0) (XP ps 1) [d, c, fl, pl]
theorem PsB.add {C : Addr} {G3 G H' : Hp} {c0 : CO} {d c fl pl p tk dx : Addr} {i : Nat} {ps : List (Addr × Addr)} (h : PsB C G3 G c0 d c fl pl i ps) (hi : i < 2) (h3 : G3 pl = none) (hp : G p = none) (ht : G tk = none) (ne : tk ≠ p) (s : Same G H') (P : PiAt C H' p tk (st28 c0 i)) : PsB C G3 (upd H' pl (.lst ((ps.map fun x => V.ref x.1) ++ [V.ref p]))) c0 d c fl pl (i + 1) (ps ++ [(p, tk)]) := by
  have e' := s _ _ h.e
  obtain ⟨dx, ca, op, _⟩ := P.o
  obtain ⟨ks, ot, _⟩ := P.tk
  have D : Dm G (upd H' pl (.lst ((ps.map fun x => V.ref x.1) ++ [V.ref p]))) := (Dm.same s).trans Dm.put
  have P' := P.putL (o := .lst ((ps.map fun x => V.ref x.1) ++ [V.ref p])) e'
  obtain ⟨_, _, op', _⟩ := P'.o
  obtain ⟨_, ot', _⟩ := P'.tk
  refine ⟨by rw [List.length_append, h.l]; rfl, fun b o e => by rw [upd_ne (ne_of_none e h3)]; exact s _ _ (h.s _ _ e), by rw [upd_same, List.map_append]; rfl, fun k x hx => ?_, ?_⟩
  · rcases Nat.lt_or_ge k ps.length with w | w
    · rw [List.getElem?_append_left w] at hx
      exact ((h.p k x hx).same s).putL e'
    · have kl := (List.getElem?_eq_some_iff.mp hx).1
      rw [List.length_append, List.length_singleton] at kl
      obtain rfl : k = i := by have := h.l; omega
      rw [List.getElem?_append_right w, show k - ps.length = 0 by omega] at hx
      cases hx
      exact P'
  · have A := h.a
    rcases (by omega : i = 0 ∨ i = 1) with rfl | rfl
    · obtain rfl : ps = [] := List.eq_nil_of_length_eq_zero h.l
      have A1 : Al (upd G p (.lst [])) ([] ++ [p]) [] [d, c, fl, pl] := A.alloc0 hp (.lst [])
      have A2 := A1.n0 (a := tk) (G' := upd H' pl (.lst ((([] : List (Addr × Addr)).map fun x => V.ref x.1) ++ [V.ref p]))) (by rw [upd_ne ne]; exact ht) (fun b hb => by
        by_cases w : b = p
        · rw [w, op']; exact fun z => nomatch z
        · rw [upd_ne w] at hb; exact D b hb) (by rw [ot']; exact fun z => nomatch z)
      exact A2
    · obtain ⟨x, rfl⟩ : ∃ x, ps = [x] := List.length_eq_one_iff.mp h.l
      have A1 : Al (upd G p (.lst [])) [x.1, x.2] ([] ++ [p]) [d, c, fl, pl] := A.alloc1 hp (.lst [])
      have A2 := A1.n1 (a := tk) (G' := upd H' pl (.lst ((([x] : List (Addr × Addr)).map fun x => V.ref x.1) ++ [V.ref p]))) (by rw [upd_ne ne]; exact ht) (fun b hb => by
        by_cases w : b = p
        · rw [w, op']; exact fun z => nomatch z
        · rw [upd_ne w] at hb; exact D b hb) (by rw [ot']; exact fun z => nomatch z)
      exact A2
end Sk
namespace Sk
open PySem PySem.Spec PyProof.Rows L2
/-- the law's own, one after the other -/
structure MsB (G3 G : Hp) (c0 : CO) (X0 X1 OU : List Addr) (ml : Addr) (i : Nat) (ms : List (Addr × Addr)) : Prop where
  l : ms.length = i
  s : Same G3 G
  e : G ml = some (.lst (ms.map fun x => V.ref x.1))
  p : ∀ k x, ms[k]? = some x → MiAt G x.1 x.2 (st28 c0 k) ∧ x.2 ≠ ml
  a : Al G (X0 ++ XP ms 0) (X1 ++ XP ms 1) OU
theorem MsB.add {G3 G H' : Hp} {c0 : CO} {X0 X1 OU : List Addr} {ml m tl : Addr} {i : Nat} {ms : List (Addr × Addr)} (h : MsB G3 G c0 X0 X1 OU ml i ms) (hi : i < 2) (h3 : G3 ml = none) (hm : G m = none) (ht : G tl = none) (s : Same G H') (P : MiAt H' m tl (st28 c0 i)) : MsB G3 (upd H' ml (.lst ((ms.map fun x => V.ref x.1) ++ [V.ref m]))) c0 X0 X1 OU ml (i + 1) (ms ++ [(m, tl)]) := by
  have e' := s _ _ h.e
  have tn : tl ≠ ml := (ne_of_none h.e ht).symm
  obtain ⟨ca, om, _⟩ := P.o
  have ot := P.tl
  have ne : tl ≠ m := ne_of ot om (by intro z; cases z)
  have D : Dm G (upd H' ml (.lst ((ms.map fun x => V.ref x.1) ++ [V.ref m]))) := (Dm.same s).trans Dm.put
  have P' := P.putL (o := .lst ((ms.map fun x => V.ref x.1) ++ [V.ref m])) e' tn
  obtain ⟨_, om', _⟩ := P'.o
  have ot' := P'.tl
  refine ⟨by rw [List.length_append, h.l]; rfl, fun b o e => by rw [upd_ne (ne_of_none e h3)]; exact s _ _ (h.s _ _ e), by rw [upd_same, List.map_append]; rfl, fun k x hx => ?_, ?_⟩
  · rcases Nat.lt_or_ge k ms.length with w | w
    · rw [List.getElem?_append_left w] at hx
      exact ⟨((h.p k x hx).1.same s).putL e' (h.p k x hx).2, (h.p k x hx).2⟩
    · have kl := (List.getElem?_eq_some_iff.mp hx).1
      rw [List.length_append, List.length_singleton] at kl
      obtain rfl : k = i := by have := h.l; omega
      rw [List.getElem?_append_right w, show k - ms.length = 0 by omega] at hx
      cases hx
      exact ⟨P', tn⟩
  · have A := h.a
    rcases (by omega : i = 0 ∨ i = 1) with rfl | rfl
    · obtain rfl : ms = [] := List.eq_nil_of_length_eq_zero h.l
      have A1 := A.alloc0 hm (.lst [])
      have A2 := A1.n0 (a := tl) (G' := upd H' ml (.lst ((([] : List (Addr × Addr)).map fun x => V.ref x.1) ++ [V.ref m]))) (by rw [upd_ne ne]; exact ht) (fun b hb => by
        by_cases w : b = m
        · rw [w, om']; exact fun z => nomatch z
        · rw [upd_ne w] at hb; exact D b hb) (by rw [ot']; exact fun z => nomatch z)
      simpa [XP] using A2
    · obtain ⟨x, rfl⟩ : ∃ x, ms = [x] := List.length_eq_one_iff.mp h.l
      have A1 := A.alloc1 hm (.lst [])
      have A2 := A1.n1 (a := tl) (G' := upd H' ml (.lst ((([x] : List (Addr × Addr)).map fun x => V.ref x.1) ++ [V.ref m]))) (by rw [upd_ne ne]; exact ht) (fun b hb => by
        by_cases w : b = m
        · rw [w, om']; exact fun z => nomatch z
        · rw [upd_ne w] at hb; exact D b hb) (by rw [ot']; exact fun z => nomatch z)
      simpa [XP] using A2
end Sk
namespace Sk
open PySem PySem.Spec PyProof.Rows L2
theorem Ds.os {A : Nat → Ad} {d c po : Addr} {os : List (Addr × HO)} {G G' : Hp} {j : Nat} (D : Ds A d c po os) (hj : j < 2) (O : Oth (A j).l G G') (h : ∀ y ∈ os, G y.1 = some y.2) : ∀ y ∈ os, G' y.1 = some y.2 := fun y hy => O _ _ (h y hy) fun w => (D.dc j hj y.1 w).2.2.2 y hy rfl
end Sk
namespace Sk
open PySem PySem.Spec PyProof.Rows L2
/-! lists as data -/
theorem dpa_list {K : PySem.W.Frag} {G : Hp} {α : Type} {r : α → V} {dt : α → PyData} : ∀ {xs : List α}, (∀ x ∈ xs, Dp K G (r x) (dt x)) → DpAll K G (xs.map r) (xs.map dt)
  | [], _ => .nil
  | x :: xs, h => .cons (h x List.mem_cons_self) (dpa_list fun y hy => h y (List.mem_cons_of_mem _ hy))
theorem sh_list {α : Type} {dt : α → PyData} {xs : List α} (h : ∀ x ∈ xs, (dt x).canLay0 = true ∧ (dt x).depth ≤ 10) : SeqAt.shaped (.list (xs.map dt)) = true := by
  refine sh_of ?_ ?_
  · show PyData.canLayAll0 _ = true
    refine cla fun y hy => ?_
    obtain ⟨x, hx, rfl⟩ := List.mem_map.mp hy
    exact (h x hx).1
  · show PyData.depthAll _ + 1 ≤ 64
    have : PyData.depthAll (xs.map dt) ≤ 10 := dpa fun y hy => by
      obtain ⟨x, hx, rfl⟩ := List.mem_map.mp hy
      exact (h x hx).2
    omega
theorem LL.dp {K : PySem.W.Frag} {G : Hp} {l : Addr} {xs : List (Addr × CL)} (h : LL G l xs) : Dp K G (.ref l) (.list (xs.map fun x => x.2.dt)) := .lst (.inl (.inl h.1)) (dpa_list fun x hx => (h.2 x hx).dp)
theorem LL.sh {G : Hp} {l : Addr} {xs : List (Addr × CL)} (h : LL G l xs) : SeqAt.shaped (.list (xs.map fun x => x.2.dt)) = true := sh_list fun x hx => ⟨(h.2 x hx).can, (h.2 x hx).dep⟩
def LC (G : Hp) (l : Addr) (us : List (Addr × CO)) : Prop := G l = some (.lst (us.map fun x => V.ref x.1)) ∧ ∀ u ∈ us, CoAt G u.1 u.2
theorem LC.dp {K : PySem.W.Frag} {G : Hp} {l : Addr} {xs : List (Addr × CO)} (h : LC G l xs) : Dp K G (.ref l) (.list (xs.map fun x => x.2.dt)) := .lst (.inl (.inl h.1)) (dpa_list fun x hx => (h.2 x hx).dp)
theorem LC.sh {G : Hp} {l : Addr} {xs : List (Addr × CO)} (h : LC G l xs) : SeqAt.shaped (.list (xs.map fun x => x.2.dt)) = true := sh_list fun x hx => ⟨(h.2 x hx).can, Nat.le_trans (h.2 x hx).dep (by decide)⟩
theorem LC.snoc {G : Hp} {l q : Addr} {us : List (Addr × CO)} {c : CO} (h : LC G l us) (k : CoAt G q c) : LC (upd G l (.lst ((us.map fun x => V.ref x.1) ++ [.ref q]))) l (us ++ [(q, c)]) := by
  have t := tk_put (o' := .lst ((us.map fun x => V.ref x.1) ++ [.ref q])) h.1 (fun xs z => nomatch z)
  refine ⟨by rw [upd_same, List.map_append]; rfl, fun u hu => ?_⟩
  rcases List.mem_append.mp hu with hu | hu
  · exact (h.2 u hu).tk t
  · rw [List.mem_singleton.mp hu]; exact k.tk t
theorem LC.same {G G' : Hp} {l : Addr} {us : List (Addr × CO)} (h : LC G l us) (s : Same G G') : LC G' l us := ⟨s _ _ h.1, fun u hu => (h.2 u hu).tk (Same.tk s)⟩
end Sk

set_option Elab.async false
set_option linter.all false
set_option maxRecDepth 100000
set_option maxHeartbeats 4000000
namespace Sk
open PySem PySem.Spec PyProof.Rows L2 GenW GxR
/-! generator expressions whose elements may call own defs -/
/-! ### one run of a generator's code -/
def Run1 (M : Model) (A : Around) (Z : End → Shared → Prop) (c : Code) (t : Sem PySem.Fin) (fs : List Frame) (s : Shared) : Prop :=
  ∀ (Γ : PySem.Ctx) (p : Pos), Γ.code = c → Γ.Woken A → ∃ e s', Runs M Γ p t fs s e s' ∧ Z e s'
section
variable {M : Model} {A : Around} {Z : End → Shared → Prop} {c : Code} {fs : List Frame} {s : Shared}
theorem run1_wrap {α : Type} {m : Sem α} {K : α → Sem PySem.Fin} {J : Value → Sem PySem.Fin} {gd lv}
    (h : wpAny M (A.over c fs) m (fun a s' => Run1 M A Z c (K a) fs s') (fun x s' => Run1 M A Z c (J x) fs s') s) : Run1 M A Z c (m.wrap K J gd lv) fs s := by
  intro Γ p e w
  subst e
  exact runs_wrap_of_wp K J gd lv m (h (Γ.over fs) p (w.over fs)) (fun a p' s' q => q Γ p' rfl w) fun x p' s' q => q Γ p' rfl w
theorem run1_bind {α β : Type} {m : Sem α} {K : α → Sem β} {K' : β → Sem PySem.Fin} {J' : Value → Sem PySem.Fin} {gd lv}
    (h : wpAny M (A.over c fs) m (fun a s' => Run1 M A Z c ((K a).wrap K' J' gd lv) fs s') (fun x s' => Run1 M A Z c (J' x) fs s') s) : Run1 M A Z c ((m >>= K).wrap K' J' gd lv) fs s := by
  rw [Sem.bind_eq_wrap', Sem.wrap_wrap]
  exact run1_wrap h
theorem run1_at {p' : Pos} {k : Unit → Sem PySem.Fin} (h : Run1 M A Z c (k ()) fs s) : Run1 M A Z c (.at p' k) fs s :=
  run1_wrap (m := standAt p') (K := k) (J := .raise) (gd := id) (lv := id) (wpAny_standAt h)
theorem run1_again {c' : Code} (q : c'.quiet = true) (h : Run1 M A Z c' (M.den c') fs s) : Run1 M A Z c (.pure (.again c')) fs s := by
  intro Γ p e w
  subst e
  obtain ⟨e, s', r, z⟩ := h (Γ.goto c') p rfl (w.goto c')
  exact ⟨e, s', Runs.head (c₁ := c') (fun _ _ x => .again q x) r, z⟩
theorem run1_end (r : Result) (h : Z (.ret r) s) : Run1 M A Z c (leafOf r) [] s := by
  intro Γ p e w
  exact ⟨.ret r, s, Runs.leaf r, h⟩
theorem run1_yield {v g l} {k : Resume → Sem PySem.Fin} (hfs : splitAtGen fs = none) (h : ∀ p, Z (.susp v g l k c p fs) s) : Run1 M A Z c (.yield v g l k) fs s := by
  intro Γ p e w
  subst e
  exact ⟨_, s, Runs.yield' fs hfs, h p⟩
end
/-- a generator's state, woken by None -/
def Goes1 (M : Model) (A : Around) (Z : End → Shared → Prop) (gs : GenState) (s : Shared) : Prop :=
  match gs with
  | .fresh c => Run1 M A Z c (M.den c) [] s
  | .suspended k _ c _ fs _ => Run1 M A Z c (k (.send .none)) fs s
  | _ => False
theorem bare_of {e : End} (h : e.quiet = true) : e.genState.bare = true := End.bare_of_quiet h
theorem wp_resume1 {M : Model} {A : Around} {Z : End → Shared → Prop} {E : Value → Shared → Prop} {s : Shared} {g : Nat} {gs : GenState} {l : List Value} {α : Type} {k : GenResult → Sem α} {Q : α → Shared → Prop} (hg : s.gens[g]? = some gs)
    (go : Goes1 M A Z gs (s.setGen g .running)) (hZ : ∀ e s1, Z e s1 → s.gens.size ≤ s1.gens.size → e.quiet = true ∧ wpAny M A (k e.result) Q E (s1.setGen g e.genState)) : wpAny M A (.resume g (.send .none) l k) Q E s := by
  intro Γ p hΓ
  rw [Sem.wp_resume]
  have wk : ∀ c, (Γ.wake c p).Woken A := fun c => hΓ.wake c p
  have sz : (s.setGen g .running).gens.size = s.gens.size := setGen_size s g .running
  cases gs with
  | fresh c =>
    obtain ⟨e, s1, r, z⟩ := go (Γ.wake c p) p rfl (wk c)
    obtain ⟨q1, q2⟩ := hZ e s1 z (by have := runs_gsz r; rw [sz] at this; exact this)
    exact ⟨_, _, by unfold Wakes; rw [hg]; exact ⟨e, s1, r, q1, rfl, rfl⟩, q2 Γ p hΓ⟩
  | suspended k0 l0 c p0 fs cl =>
    obtain ⟨e, s1, r, z⟩ := go (Γ.wake c p) p0 rfl (wk c)
    obtain ⟨q1, q2⟩ := hZ e s1 z (by have := runs_gsz r; rw [sz] at this; exact this)
    exact ⟨_, _, by unfold Wakes; rw [hg]; exact ⟨e, s1, r, q1, rfl, rfl⟩, q2 Γ p hΓ⟩
  | running => exact go.elim
  | finished => exact go.elim
/-- next(g): what the code's run comes to -/
theorem next1 {P : Program} {w : World} {A : Around} {E : Value → Shared → Prop} {s : Shared} {a : Addr} {g : Nat} {gs : GenState} {Z : End → Shared → Prop} {Q : Option Value → Shared → Prop} (hh : A.handled = none) (hl : s.heap.NoLimit) (hroom : A.depth < recursionLimit)
    (hg : s.heap.IsGen a g) (hgs : s.gens[g]? = some gs) (go : Goes1 (model P w) A.in1 Z gs (s.setGen g .running))
    (hY : ∀ e s1, Z e s1 → s.gens.size ≤ s1.gens.size → (e = .ret (.ok .next) ∧ ∀ h', (∀ b o, s1.heap.get? b = some o → h'.get? b = some o) → Q none { s1.setGen g .finished with heap := h' }) ∨
      (∃ v l k c p fs, e = .susp v false l k c p fs ∧ e.quiet = true ∧ Q (some v) (s1.setGen g e.genState))) : wpAny (model P w) A (pyNext (.ref a)) Q E s := by
  unfold pyNext
  refine wpAny_bind (wpAny_attempt (wpAny_callSpecial?_slot (name := Str.ofString "__next__") hg.typeIs slot_gen_next (wpAny_call_entry slot_gen_next hg.typeIs entry_gen_next ?_ (args_gen_next _))))
  show wpAny _ A.in1 (Builtin.Generator.genWake (.ref a) (.send .none)) _ _ s
  unfold Builtin.Generator.genWake
  refine wpAny_bind (wpAny_holding (wpAny_genNumber hg (wpAny_bind (wpAny_genState hgs ?_))))
  cases gs with
  | running => exact go.elim
  | finished => exact go.elim
  | _ =>
    refine wpAny_bind (wpAny_roomToWake hl hroom ?_)
    show wpAny _ A.in1 (.resume g (.send .none) [] _) _ _ s
    refine wp_resume1 hgs go fun e s1 z hsz => ?_
    rcases hY e s1 z hsz with ⟨rfl, q⟩ | ⟨v, l, k, c, p, fs, rfl, q1, q⟩
    · refine ⟨rfl, ?_⟩
      show wpAny _ A.in1 (newExc (.type "StopIteration") [] >>= _) _ _ _
      refine wpAny_bind ?_
      simp only [newExc, newTuple]
      refine wpAny_bind (wpAny_newObj_type ?_ (by size_fits))
      refine wpAny_bind (m := firstArgMember _ _) (wpAny_of_eq (a := Value.none) (by first | rfl | (simp only [firstArgMember]; rfl)) ?_)
      refine wpAny_newObj_type ?_ (by size_fits)
      simp only [raiseNew]
      refine wpAny_bind (wpAny_bind (wpAny_handled ?_))
      first | rw [show A.in1.handled = none from hh] | rw [hh]
      refine wpAny_throw ?_
      refine wpAny_bind (wpAny_isInstance (T := "StopIteration") (b := true) ⟨_, Heap.get?_push_size _ rfl, rfl⟩ isSubtype_stop ?_)
      exact wpAny_pure (q _ fun b o hb => Heap.get?_push_of_some _ (Heap.get?_push_of_some _ hb))
    · exact ⟨q1, wpAny_pure ⟨v, rfl, wpAny_pure q⟩⟩

/-! ### the generator's frame -/
abbrev gcx (X : Cx) (s : Shared) (H : Hp) (cenv : Env) (fp : List Addr) (A : Around) : Cx :=
  { X with A := A, s_0 := s, H_0 := H, env := cenv, outer := X.stack, stack := cenv :: X.stack, ex := fp, fn := fun _ => false, calm := true, pn := [], xe := fun _ _ => False }
/-- its scope: no cells of its own -/
structure GScp (scope : Scope) : Prop where
  co : scope.isCoroutine = false
  kind : scope.kind = .function
  nocell : ∀ y ∈ scope.names, y.2 ≠ .cell
  dot : scope.names.lookup (".0" : Str) = some NameKind.local
section
variable {X : Cx} {pins : List (Addr × Obj)} {σ : L2.St} {H : Hp} {s : Shared}
theorem blk_free {N : List Str} {scope : Scope} {own : List (Str × Nat)} (ok : BlkOk N X.env.scope scope own) (o : X.Ok) : ∀ y ∈ scope.names, y.2 = .free → ∃ c, X.env.cells.lookup y.1 = some c := fun y hy e =>
  (ok.free y hy e).elim (fun z => o.has _ (.inl z)) fun z => o.has _ (.inr z)
theorem gen_start {scope : Scope} {own : List (Str × Nat)} {fp : List Addr} {code : Value} {A : Around} {h' : Heap} {g' : Array GenState} {d' : Drawn} {t' : Nat} {m : Str → Option Value} (I : Inv X pins σ H s) (ok : BlkOk X.N X.env.scope scope own) (G : GScp scope) (hN : X.N.Nodup)
    (hfp : ∀ b ∈ fp, FpOk X pins H b ∧ b < s.heap.objs.size) (hd : A.handled = none) (hfr : A.frames = some (genEnv scope (cloFrom X.env.cells scope.names []) s.heap.objs.size code builtinsNs X.env :: X.stack))
    (hns : h'.Ns s.heap.objs.size m) (kp : ∀ b o, s.heap.get? b = some o → h'.get? b = some o) (hg : AllBare g') :
    Inv (gcx X s H (genEnv scope (cloFrom X.env.cells scope.names []) s.heap.objs.size code builtinsNs X.env) fp A) [] (wipe σ (own.map (·.2))) H { s with heap := h', gens := g', drawn := d', toks := t' } := by
  have hfree := blk_free ok I.ok
  have cm : ∀ {y c}, (cloFrom X.env.cells scope.names []).lookup y = some c → X.env.cells.lookup y = some c := fun e => NdefX.clo_cm hfree e
  have frk : ∀ y, scope.names.lookup y = some .free → ∃ c, (cloFrom X.env.cells scope.names []).lookup y = some c ∧ X.env.cells.lookup y = some c := fun y e => by
    have hy : (y, NameKind.free) ∈ scope.names := PySem.mem_of_lookup e
    obtain ⟨c, hc⟩ := hfree _ hy rfl
    exact ⟨c, NdefX.clo_has hfree hy hc, hc⟩
  have okG : (gcx X s H (genEnv scope (cloFrom X.env.cells scope.names []) s.heap.objs.size code builtinsNs X.env) fp A).Ok :=
    { mod := I.ok.mod, kind := G.kind, glob := I.ok.glob, blt := rfl, above := Nat.le_refl _
      inj := fun y z c e1 e2 => I.ok.inj y z c (cm e1) (cm e2)
      has := fun y hy => by
        have hy : scope.names.lookup y = some .cell ∨ scope.names.lookup y = some .free := hy
        rcases hy with hy | hy
        · exact absurd rfl (G.nocell _ (PySem.mem_of_lookup hy))
        · obtain ⟨c, e, _⟩ := frk y hy
          exact ⟨c, e⟩
      cab := fun y c z _ => by cases z
      hd := fun _ => hd
      frames := hfr
      stk := .inr ⟨rfl, rfl⟩
      exf := fun b hb => ⟨Nat.ne_of_lt (hfp b hb).2, fun y c e => (hfp b hb).1.2.2.2.2.1 y c (cm e)⟩
      bs := I.bs
      bsz := Nat.le_trans I.ok.bsz I.sz
      noex := fun b o e hb => by
        rcases (hfp b hb).1.2.2.2.1 with z | z
        · exact I.ok.noex b o e z
        · exact Nat.lt_irrefl _ (Nat.lt_of_lt_of_le (Heap.lt_size e) (Nat.le_trans I.ok.bsz z))
      exfs := fun b hb z => by
        rcases List.mem_cons.mp (I.stkSub b z) with z | z
        · exact (hfp b hb).1.2.1 z
        · exact (hfp b hb).1.2.2.1 z
      funs := I.stack
      frf := I.stkFree }
  refine ⟨okG, rfl, hg, Un.kept kp, ⟨m, hns, fun i y v e1 e2 e3 => ?_⟩, fun y c e => ?_, I.hok.fresh (Nat.le_refl _), fun y c e => I.freeC y c (cm e), fun p hp => absurd (show p ∈ ([] : List (Addr × Obj)) ++ [] from hp) (by simp), I.hok.kept kp, by rw [wipe_length]; exact I.len⟩
  · obtain ⟨e2, hne⟩ := wipe_some e2
    have no : ∀ k, scope.names.lookup y = some k → k = .local ∨ k = .cell → False := fun k hk hh => by
      rcases ok.own _ (PySem.mem_of_lookup hk) hh with z | z
      · obtain ⟨p, hp, hpy⟩ := List.mem_map.mp z
        have q := ok.ix p hp
        have hpy : p.1 = y := hpy
        rw [hpy] at q
        exact hne (List.mem_map.mpr ⟨p, hp, nodup_ix hN q e1⟩)
      · exact z (List.mem_of_getElem? e1)
    have e3 : scope.names.lookup y = some .local ∨ scope.names.lookup y = some .cell ∨ scope.names.lookup y = some .free := e3
    have hfr2 : scope.names.lookup y = some .free := by
      rcases e3 with z | z | z
      · exact (no _ z (.inl rfl)).elim
      · exact (no _ z (.inr rfl)).elim
      · exact z
    obtain ⟨c, c1, c2⟩ := frk y hfr2
    obtain ⟨m0, hn0, hl⟩ := I.loc
    have k := ok.free _ (PySem.mem_of_lookup hfr2) rfl
    obtain ⟨u, r, q⟩ := hl i y v e1 e2 (k.elim (fun z => .inr (.inl z)) fun z => .inr (.inr z))
    refine ⟨u, r, .inr ⟨.inr hfr2, c, c1, ?_⟩⟩
    rcases q with ⟨z, _⟩ | ⟨_, c', e', z⟩
    · have z : X.env.scope.names.lookup y = some .local := z
      rcases k with k | k <;> rw [show X.env.scope.names.lookup y = _ from k] at z <;> cases z
    · rw [c2] at e'
      cases e'
      exact z.keeps kp
  · obtain ⟨v, z⟩ := I.cell y c (cm e)
    exact ⟨v, z.keeps kp⟩
end

/-! ### asleep and awake -/
/-- what the consumer may do while the generator sleeps: its own objects at Sx, new objects -/
structure Aft (Sx : List Addr) (s s' : Shared) : Prop where
  os : s'.os = s.os
  bare : AllBare s'.gens
  keep : ∀ b o, b ∉ Sx → s.heap.get? b = some o → s'.heap.get? b = some o
  own : ∀ b ∈ Sx, ∃ o, s'.heap.get? b = some o ∧ ∀ v, o.data ≠ .cell v
/-- the consumer's word: what is out so far, the next value, the heap, going on -/
abbrev Eats := List V → V → Hp → Prop → Prop
structure GEx where
  X : Cx
  s4 : Shared
  H1 : Hp
  cenv : Env
  fp : List Addr
  B : Around
  σ0 : L2.St
  ge : Expr
  it : Addr
  a : Addr
  g : Nat
  Sx : List Addr
  C : Eats
  F : List V → Hp → Prop
abbrev GEx.loop (Y : GEx) : Code := .compLoop Y.ge 0 (.ref Y.it) .none Y.cenv
abbrev GEx.Xg (Y : GEx) : Cx := gcx Y.X Y.s4 Y.H1 Y.cenv Y.fp (Y.B.over Y.loop [])
abbrev GEx.pn (Y : GEx) (s : Shared) : List (Addr × Obj) := pinsAt (Y.a :: Y.Sx) s.heap
abbrev GEx.M (Y : GEx) : Model := model Y.X.prog Y.X.w
/-- a run's end: over, or a value is handed out and R holds of what sleeps -/
def GEx.Z (Y : GEx) (R : List V → Hp → GenState → Shared → Prop) (ys : List V) (s0 : Shared) (e : End) (s1 : Shared) : Prop :=
  (e = .ret (.ok .next) ∧ ∃ σ' H', Inv Y.Xg (Y.pn s0) σ' H' s1 ∧ Y.F ys H') ∨
  ∃ v l k c p fs y σ' H', e = .susp v false l k c p fs ∧ e.quiet = true ∧ Inv Y.Xg (Y.pn s0) σ' H' s1 ∧ RelV y v ∧ Y.C ys y H' (R (ys ++ [y]) H' e.genState s1)
/-- asleep: at most n more values -/
def GEx.Rdy (Y : GEx) : Nat → List V → Hp → GenState → Shared → Prop
  | 0 => fun ys H gs s => ∀ s', Aft Y.Sx s s' → Goes1 Y.M Y.B (Y.Z (fun _ _ _ _ => False) ys s') gs (s'.setGen Y.g .running)
  | n + 1 => fun ys H gs s => ∀ s', Aft Y.Sx s s' → Goes1 Y.M Y.B (Y.Z (Y.Rdy n) ys s') gs (s'.setGen Y.g .running)
def GEx.Rp (Y : GEx) : Nat → List V → Hp → GenState → Shared → Prop
  | 0 => fun _ _ _ _ => False
  | n + 1 => Y.Rdy n
theorem GEx.rdy_iff (Y : GEx) (n : Nat) (ys : List V) (H : Hp) (gs : GenState) (s : Shared) : Y.Rdy n ys H gs s ↔ ∀ s', Aft Y.Sx s s' → Goes1 Y.M Y.B (Y.Z (Y.Rp n) ys s') gs (s'.setGen Y.g .running) := by
  cases n <;> rfl
/-- the addresses are new -/
structure GEx.Ok (Y : GEx) : Prop where
  new : ∀ b ∈ Y.a :: Y.Sx, Y.s4.heap.objs.size < b
  loc : Y.cenv.locals = Y.s4.heap.objs.size
  cel : ∀ y c, Y.cenv.cells.lookup y = some c → c < Y.s4.heap.objs.size
  fps : ∀ b ∈ Y.fp, b < Y.s4.heap.objs.size
  aS : Y.a ∉ Y.Sx
  co : Y.cenv.scope.isCoroutine = false
theorem setGen_os (s : Shared) (g : Nat) (x : GenState) : (s.setGen g x).os = s.os := rfl
theorem setGen_heap (s : Shared) (g : Nat) (x : GenState) : (s.setGen g x).heap = s.heap := rfl
section
variable {Y : GEx} {σ σ' : L2.St} {H : Hp} {s s0 s1 : Shared} {pins : List (Addr × Obj)}
theorem GEx.Ok.fpOk (O : Y.Ok) (I : Inv Y.Xg (Y.pn s0) σ H s) (hn : ∀ b ∈ Y.fp, H b = none) : ∀ b ∈ Y.fp, FpOk Y.Xg (Y.pn s0) H b := fun b hb =>
  ⟨hn b hb, (I.ok.exf b hb).1, I.ok.exfs b hb, .inl hb, fun x c e => (I.ok.exf b hb).2 x c e, fun p hp => by
    have hp : p ∈ Y.pn s0 := by
      rcases List.mem_append.mp hp with z | z
      · cases z
      · exact z
    have h1 := O.new p.1 (of_pinsAt hp).1
    have h2 := O.fps b hb
    exact fun z => Nat.lt_irrefl _ (Nat.lt_trans h2 (z ▸ h1))⟩
/-- what is pinned while it runs -/
theorem GEx.Ok.pinned (O : Y.Ok) (I : Inv Y.Xg (Y.pn s0) σ H s) {b : Addr} {o : Obj} (hb : b ∈ Y.a :: Y.Sx) (e : s0.heap.get? b = some o) : s.heap.get? b = some o ∧ H b = none :=
  let z := I.pin (b, o) (List.mem_append_right _ (mem_pinsAt hb e))
  ⟨z.1, z.2.1⟩
/-- woken again -/
theorem GEx.Ok.woken (O : Y.Ok) (I : Inv Y.Xg (Y.pn s0) σ H s) (there : ∀ b ∈ Y.a :: Y.Sx, ∃ o, s0.heap.get? b = some o) (ag : ∃ o, s0.heap.get? Y.a = some o ∧ ∀ v, o.data ≠ .cell v) (A : Aft Y.Sx s s1) (x : GenState) (hx : x.bare = true) :
    Inv Y.Xg (Y.pn s1) σ H (s1.setGen Y.g x) := by
  have hT : ∀ b ∈ Y.a :: Y.Sx, H b = none := fun b hb => by
    obtain ⟨o, e⟩ := there b hb
    exact (O.pinned I hb e).2
  have I0 : Inv Y.Xg [] σ H s := I.pins_of fun p hp => absurd (show p ∈ ([] : List (Addr × Obj)) ++ [] from hp) (by simp)
  have nt : ∀ b u, H b = some u → b ∉ Y.Sx := fun b u q hb => by rw [hT b (List.mem_cons_of_mem _ hb)] at q; cases q
  obtain ⟨z1, z2, z3, z4⟩ := A
  obtain ⟨hh, g', d, t, o⟩ := s1
  have ho : o = s.os := z1
  subst ho
  have J : Inv Y.Xg [] σ H { s with heap := hh, gens := (({ heap := hh, gens := g', drawn := d, toks := t, os := s.os } : Shared).setGen Y.g x).gens, drawn := d, toks := t } := by
    refine I0.step (h' := hh) (g' := (({ heap := hh, gens := g', drawn := d, toks := t, os := s.os } : Shared).setGen Y.g x).gens) (t' := t) (d' := d) (ch := Y.Sx) (fun b hb => ?_) (fun b ob _ _ hc q _ => z3 b ob hc q) (fun b ob _ _ hc q _ => ⟨ob.slots, z3 b ob hc q⟩)
      (fun _ _ _ _ n => n) (fun b ob hc q => ⟨ob, z3 b ob hc q⟩) (fun _ _ q => q) (fun _ _ _ q => q) (fun b ps q => ⟨#[], by rw [q]; simp⟩) (fun m hm => ?_) (fun b u q => ?_) (allBare_setGen z2 hx)
    · have h1 := O.new b (List.mem_cons_of_mem _ hb)
      refine ⟨.inr (Nat.le_of_lt h1), fun z => ?_, fun y c e z => ?_, fun p hp => absurd (show p ∈ ([] : List (Addr × Obj)) ++ [] from hp) (by simp)⟩
      · have z : b = Y.cenv.locals := z
        rw [z, O.loc] at h1
        exact Nat.lt_irrefl _ h1
      · have h2 := O.cel y c e
        rw [z] at h2
        exact Nat.lt_irrefl _ (Nat.lt_trans h1 h2)
    · obtain ⟨ob, es, ep, ho, r⟩ := hm
      refine ⟨ob, es, ep, z3 _ ob (fun hb => ?_) ho, r⟩
      have h1 := O.new _ (List.mem_cons_of_mem _ hb)
      have h1 : Y.s4.heap.objs.size < Y.cenv.locals := h1
      rw [O.loc] at h1
      exact Nat.lt_irrefl _ h1
    · refine (I0.hok b u q).stay (fun c v hc y => z3 c v ?_ y) (fun _ y => y) fun _ _ y => y
      rcases hc with y | y
      · rw [y]; exact nt b u q
      · exact nt c _ y
  refine J.pins_of fun p hp => ?_
  have hp : p ∈ pinsAt (Y.a :: Y.Sx) hh := hp
  obtain ⟨hb, e⟩ := of_pinsAt hp
  have h1 := O.new _ hb
  refine ⟨e, hT _ hb, fun z => ?_, fun z => ?_, ?_⟩
  · have z : p.1 = Y.cenv.locals := z
    rw [z, O.loc] at h1
    exact Nat.lt_irrefl _ h1
  · obtain ⟨_, ob, hob, _⟩ := J.ok.funs.mem z
    exact absurd (Nat.lt_trans h1 (Heap.lt_size hob)) (Nat.lt_irrefl _)
  · rcases List.mem_cons.mp hb with z | z
    · obtain ⟨oa, ea, da⟩ := ag
      have q := (O.pinned I List.mem_cons_self ea).1
      have q2 := z3 _ oa O.aS q
      rw [z] at e
      rw [e] at q2
      cases q2
      exact da
    · obtain ⟨ob, eb, db⟩ := z4 _ z
      have eb : hh.get? p.1 = some ob := eb
      rw [e] at eb
      cases eb
      exact db
end

/-! ### the turns -/
def GStep (W : Nat → Nat → List V → Hp → Prop) (J : It) (g : TG) (tt : TT) (te : TE) (vs : List Nat) (σ0 : L2.St) (C : Eats) (F : List V → Hp → Prop) : Prop :=
  ∀ i m ys H, W i m ys H → (J.stop i H ∧ F ys H) ∨ (J.go i H ∧ ∃ Nx : List V → Hp → Prop, (∀ ys' H', Nx ys' H' → ∃ m', m' < m ∧ W (i + 1) m' ys' H') ∧
    ∀ x H', J.yld i H x H' → g x σ0 H' fun σ2 H2 => wipe σ2 vs = σ0 ∧ tt σ2 H2 fun b H3 => if b = true then te σ2 H3 fun y H4 => C ys y H4 (Nx (ys ++ [y]) H4) else Nx ys H3)
def EatsMono (C : Eats) : Prop := ∀ ys y H (p q : Prop), (p → q) → C ys y H p → C ys y H q
section
variable {ge elt iter tg : Expr} {cs : List Comprehension} {ifs : List Expr} {scope : Scope} {gpos : Pos}
theorem turn_one {it acc : Value} {env : Env} (h : ge = .GeneratorExp elt cs scope gpos) : compTurn ge 0 it acc env = compTurn (.GeneratorExp elt cs scope gpos) 0 it acc env := by rw [h]
theorem den_one {P : Program} {w : World} {it acc : Value} {env : Env} (h : ge = .GeneratorExp elt cs scope gpos) : (model P w).den (.compLoop ge 0 it acc env) = (compTurn ge 0 it acc env).onRaise (leaving env) := by subst h; rfl
theorem den_start {P : Program} {w : World} {it acc : Value} {env : Env} (h : ge = .GeneratorExp elt cs scope gpos) : (model P w).den (.compStart ge 0 it acc env) = (compStart ge 0 it acc env).onRaise (leaving env) := by subst h; rfl
theorem quiet_loop {d : Nat} {it acc : Value} {env : Env} : (Code.compLoop ge d it acc env).quiet = true := by rfl
end
theorem gen_turns {Y : GEx} {elt tg iter : Expr} {ifs : List Expr} {scope : Scope} {gpos : Pos} (hge : Y.ge = .GeneratorExp elt [⟨tg, iter, ifs, 0⟩] scope gpos) {J : It} {tn : Nat → Heap → Prop} {g : TG} {tt : TT} {te : TE} {vs : List Nat} {W : Nat → Nat → List V → Hp → Prop} (O : Y.Ok) (T : Turn Y.X.prog Y.X.w Y.X.K tg J Y.fp Y.it tn) (hg : PG Y.Xg tg g) (ht : PTs Y.Xg ifs tt) (he : PE Y.Xg elt te)
    (hC : EatsMono Y.C) (st : GStep W J g tt te vs Y.σ0 Y.C Y.F) : ∀ (m n : Nat) (i : Nat) (ys : List V) (H : Hp) (s0 s : Shared), m ≤ n → (∀ b ∈ Y.a :: Y.Sx, ∃ o, s0.heap.get? b = some o) → (∃ o, s0.heap.get? Y.a = some o ∧ ∀ v, o.data ≠ .cell v) → Inv Y.Xg (Y.pn s0) Y.σ0 H s → tn i s.heap → (∀ b ∈ Y.fp, H b = none) → W i m ys H →
      Run1 Y.M Y.B (Y.Z (Y.Rp n) ys s0) Y.loop (Y.M.den Y.loop) [] s := by
  intro m
  induction m using Nat.strongRecOn with
  | ind m ih =>
    intro n i ys H s0 s hmn there ag I stt fr w
    have hco := O.co
    rw [den_one hge, turn_one hge, compTurn_gen, ← hge, Sem.onRaise_eq_wrap]
    refine run1_bind (wpAny_standAt ?_)
    rcases st i m ys H w with ⟨stop, fin⟩ | ⟨go, Nx, hN, step⟩
    · refine run1_bind (wpAny_mono (T.done Y.Xg rfl rfl rfl rfl i (Y.pn s0) s Y.σ0 H (fun _ _ => False) I (O.fpOk I fr) stt stop) (fun r s1 ⟨hr, I1⟩ => ?_) fun _ _ z => z.elim)
      subst hr
      exact run1_end (.ok .next) (.inl ⟨rfl, Y.σ0, H, I1, fin⟩)
    · refine run1_bind (wpAny_mono (T.item Y.Xg rfl rfl rfl rfl i (Y.pn s0) s Y.σ0 H (fun _ _ => False) I (O.fpOk I fr) stt go) (fun r s1 ⟨u, hr, h1⟩ => ?_) fun _ _ z => z.elim)
      subst hr
      refine run1_bind (wpAny_mono h1 (fun _ s2 ⟨x, H2, I2, r2, y2, st2, fr2⟩ => ?_) fun _ _ z => z.elim)
      have I2' := I2.pinned (O.fpOk I2 fr2) (T.obj _ _ st2)
      refine run1_bind (wpAny_mono (hg.run _ s2 Y.σ0 H2 x u _ I2' r2 (step x H2 y2)) (fun _ s3 ⟨σ3, H3, I3, hw3, q3⟩ => ?_) fun _ _ z => z.elim)
      refine run1_bind (wpAny_mono (ht.run _ s3 σ3 H3 _ I3 q3) (fun b s4 ⟨H4, I4, q4⟩ => ?_) fun _ _ z => z.elim)
      have fpin : ∀ {s' : Shared} {H' : Hp}, Inv Y.Xg (Y.pn s0 ++ pinsAt Y.fp s2.heap) σ3 H' s' → tn (i + 1) s'.heap ∧ ∀ b ∈ Y.fp, H' b = none := fun {s' H'} I' => by
        have pin' : ∀ b ∈ Y.fp, ∀ o, s2.heap.get? b = some o → s'.heap.get? b = some o ∧ H' b = none := fun b hb o e =>
          let z := I'.pin (b, o) (List.mem_append_right _ (List.mem_append_right _ (mem_pinsAt hb e)))
          ⟨z.1, z.2.1⟩
        refine ⟨T.keep _ _ _ st2 fun b hb o e => (pin' b hb o e).1, fun b hb => ?_⟩
        obtain ⟨o, e, _⟩ := T.obj _ _ st2 b hb
        exact (pin' b hb o e).2
      have wk : ∀ {s' : Shared} {H' : Hp} {pins : List (Addr × Obj)}, Inv Y.Xg pins σ3 H' s' → Inv Y.Xg pins Y.σ0 H' s' := fun {s' H' pins} I' => by
        have hl : Y.σ0.length = σ3.length := by rw [← hw3, wipe_length]
        refine I'.weak hl fun j v e => ?_
        rw [← hw3] at e
        exact (wipe_some e).1
      cases b with
      | false =>
        simp only [Bool.false_eq_true, if_false] at q4 ⊢
        obtain ⟨m', hm, w'⟩ := hN ys H4 q4
        exact run1_again rfl (ih m' hm n (i + 1) ys H4 s0 s4 (by omega) there ag (wk I4.unpinned) (fpin I4).1 (fpin I4).2 w')
      | true =>
        simp only [if_true] at q4 ⊢
        have hy : ∀ v, yieldOut Y.cenv v = yieldValue v := fun v => by simp only [yieldOut, hco, Bool.false_eq_true, if_false]
        simp only [hy]
        rw [Sem.bind_eq_wrap', Sem.bind_eq_wrap', Sem.wrap_wrap, Sem.wrap_wrap]
        refine run1_wrap (wpAny_mono (he.run _ s4 σ3 H4 _ I4 q4) (fun v s5 ⟨y, H5, I5, r5, c5⟩ => ?_) fun _ _ z => z.elim)
        refine run1_at (run1_yield rfl fun p => .inr ⟨v, _, _, _, p, _, y, σ3, H5, rfl, rfl, I5.unpinned, r5, hC _ _ _ _ _ (fun nx => ?_) c5⟩)
        obtain ⟨m', hm, w'⟩ := hN _ H5 nx
        obtain ⟨n', rfl⟩ : ∃ k, n = k + 1 := ⟨n - 1, by omega⟩
        refine (Y.rdy_iff n' _ _ _ _).mpr fun s6 A6 => ?_
        have there6 : ∀ b ∈ Y.a :: Y.Sx, ∃ o, s6.heap.get? b = some o := fun b hb => by
          rcases List.mem_cons.mp hb with z | z
          · obtain ⟨o, e⟩ := there b hb
            exact ⟨o, A6.keep b o (by rw [z]; exact O.aS) (O.pinned I5.unpinned hb e).1⟩
          · obtain ⟨o, e, _⟩ := A6.own b z
            exact ⟨o, e⟩
        have ag6 : ∃ o, s6.heap.get? Y.a = some o ∧ ∀ v, o.data ≠ .cell v := by
          obtain ⟨o, e, d⟩ := ag
          exact ⟨o, A6.keep _ o O.aS (O.pinned I5.unpinned List.mem_cons_self e).1, d⟩
        have I6 := O.woken (wk I5.unpinned) there ag A6 .running rfl
        show Run1 _ _ _ _ _ [] _
        have st6 : tn (i + 1) s6.heap := T.keep _ _ _ (fpin I5).1 fun b hb o e => A6.keep b o (fun z => Nat.lt_irrefl _ (Nat.lt_trans (O.fps b hb) (O.new b (List.mem_cons_of_mem _ z)))) e
        exact run1_again rfl (ih m' hm n' (i + 1) _ H5 s6 (s6.setGen Y.g .running) (by omega) there6 ag6 I6 st6 (fpin I5).2 w')
/-! ### two clauses -/
theorem run1_call {M : Model} {A : Around} {Z : End → Shared → Prop} {c c' : Code} {fs : List Frame} {s : Shared} {h g l} {k : Result → Sem PySem.Fin} (hc : ∀ p, Run1 M A Z c' (M.den c') (.ret k h g l c p [] :: fs) s) : Run1 M A Z c (.call c' h g l k) fs s := by
  intro Γ p e w
  subst e
  obtain ⟨e, s', r, z⟩ := hc p (Γ.goto c') p rfl (w.goto c')
  exact ⟨e, s', runs_call_seg r, z⟩
theorem run1_leaf {M : Model} {A : Around} {Z : End → Shared → Prop} {c c1 : Code} {fs : List Frame} {s : Shared} {k h g l p1 kp} (r : Result) (hk : Run1 M A Z c1 (k r) fs s) : Run1 M A Z c (leafOf r) (.ret k h g l c1 p1 kp :: fs) s := by
  intro Γ p e w
  subst e
  obtain ⟨e, s', hr, z⟩ := hk (Γ.goto c1) p1 rfl (w.goto c1)
  exact ⟨e, s', Runs.pop r hr, z⟩
section
variable {ge elt : Expr} {cs : List Comprehension} {scope : Scope} {gpos : Pos}
theorem den_in {P : Program} {w : World} {it acc : Value} {env : Env} (h : ge = .GeneratorExp elt cs scope gpos) : (model P w).den (.compLoop ge 1 it acc env) = (compTurn ge 1 it acc env).onRaise (fun x => do noteFrame x env; theTreesLotGoes x) := by subst h; rfl
theorem den_in0 {P : Program} {w : World} {it acc : Value} {env : Env} (h : ge = .GeneratorExp elt cs scope gpos) : (model P w).den (.compStart ge 1 it acc env) = (compStart ge 1 it acc env).onRaise (fun x => do noteFrame x env; standAt theWindowsPlace) := by subst h; rfl
theorem over_in {B : Around} {it it1 acc acc1 : Value} {env : Env} {fs : List Frame} {k : Result → Sem PySem.Fin} {g : Bool} {l kp : List Value} {p : Pos} (h : ge = .GeneratorExp elt cs scope gpos) :
    B.over (.compLoop ge 1 it1 acc1 env) (.ret k none g l (.compLoop ge 0 it acc env) p kp :: fs) = B.over (.compLoop ge 0 it acc env) fs ∧ B.over (.compStart ge 1 it1 acc1 env) (.ret k none g l (.compLoop ge 0 it acc env) p kp :: fs) = B.over (.compLoop ge 0 it acc env) fs := by
  subst h
  exact ⟨over_loop rfl rfl, over_loop rfl rfl⟩
end
def GStep2 (W : Nat → Nat → List V → Hp → Prop) (J : It) (g : TG) (tt : TT) (wi1 : TI) (g1 : TG) (tt1 : TT) (te : TE) (vs vs1 : List Nat) (σ0 : L2.St) (C : Eats) (F : List V → Hp → Prop) : Prop :=
  ∀ i m ys H, W i m ys H → (J.stop i H ∧ F ys H) ∨ (J.go i H ∧ ∀ x H', J.yld i H x H' → g x σ0 H' fun σ2 H2 => wipe σ2 vs = σ0 ∧ tt σ2 H2 fun b H3 => if b = true then wi1 σ2 H3 fun J1 H4 =>
      ∃ W1 : Nat → Nat → List V → Hp → Prop, (∃ m1, m1 < m ∧ W1 0 m1 ys H4) ∧ ∀ i1 m1 ys H, W1 i1 m1 ys H → (J1.stop i1 H ∧ ∃ m', m' ≤ m1 ∧ m' < m ∧ W (i + 1) m' ys H) ∨ (J1.go i1 H ∧ ∃ N1 : List V → Hp → Prop, (∀ ys' H', N1 ys' H' → ∃ m', m' < m1 ∧ W1 (i1 + 1) m' ys' H') ∧
        ∀ x1 H', J1.yld i1 H x1 H' → g1 x1 (wipe σ2 vs1) H' fun σ3 H5 => wipe σ3 vs1 = wipe σ2 vs1 ∧ tt1 σ3 H5 fun b1 H6 => if b1 = true then te σ3 H6 fun y H7 => C ys y H7 (N1 (ys ++ [y]) H7) else N1 ys H6)
    else ∃ m', m' < m ∧ W (i + 1) m' ys H3)
/-- what stays true of the inner iterator -/
structure InIt (Y : GEx) (fp1 : List Addr) : Prop where
  loc : ∀ b ∈ fp1, b ≠ Y.cenv.locals
  fs : ∀ b ∈ fp1, b ∉ frs Y.X.stack
  sz : ∀ b ∈ fp1, b ∈ Y.fp ∨ Y.s4.heap.objs.size ≤ b
  cel : ∀ b ∈ fp1, ∀ x c, Y.cenv.cells.lookup x = some c → c ≠ b
  own : ∀ b ∈ fp1, b ∉ Y.a :: Y.Sx
  out : ∀ b ∈ fp1, b ∉ Y.fp
section
variable {Y : GEx} {σ : L2.St} {H : Hp} {s s0 : Shared} {fp1 : List Addr}
theorem InIt.fpOk (N : InIt Y fp1) {h : Heap} (hn : ∀ b ∈ fp1, H b = none) : ∀ b ∈ fp1, FpOk Y.Xg (Y.pn s0 ++ pinsAt Y.fp h) H b := fun b hb =>
  ⟨hn b hb, N.loc b hb, N.fs b hb, N.sz b hb, N.cel b hb, fun p hp z => by
    have hp : p ∈ Y.pn s0 ++ pinsAt Y.fp h := by
      rcases List.mem_append.mp hp with y | y
      · cases y
      · exact y
    rcases List.mem_append.mp hp with y | y
    · exact N.own b hb (z ▸ (of_pinsAt y).1)
    · exact N.out b hb (z ▸ (of_pinsAt y).1)⟩
end
theorem gen_inner {Y : GEx} {elt tg iter tg1 iter1 : Expr} {ifs ifs1 : List Expr} {scope : Scope} {gpos : Pos} (hge : Y.ge = .GeneratorExp elt [⟨tg, iter, ifs, 0⟩, ⟨tg1, iter1, ifs1, 0⟩] scope gpos) {J J1 : It} {tn tn1 : Nat → Heap → Prop} {g1 : TG} {tt1 : TT} {te : TE} {vs vs1 : List Nat} {fp1 : List Addr} {it1 : Addr} {i : Nat} {σ2 : L2.St}
    {W1 : Nat → Nat → List V → Hp → Prop} {Wo : Nat → List V → Hp → Prop} {k : Result → Sem PySem.Fin} {l kp : List Value} {p : Pos} (O : Y.Ok) (T : Turn Y.X.prog Y.X.w Y.X.K tg J Y.fp Y.it tn) (T1 : Turn Y.X.prog Y.X.w Y.X.K tg1 J1 fp1 it1 tn1) (N : InIt Y fp1) (hσ : wipe σ2 vs = Y.σ0) (hvs : ∀ v ∈ vs1, v ∈ vs) (hg : PG Y.Xg tg1 g1) (ht : PTs Y.Xg ifs1 tt1) (he : PE Y.Xg elt te) (hC : EatsMono Y.C)
    (st : ∀ i1 m1 ys H, W1 i1 m1 ys H → (J1.stop i1 H ∧ ∃ m', m' ≤ m1 ∧ Wo m' ys H) ∨ (J1.go i1 H ∧ ∃ N1 : List V → Hp → Prop, (∀ ys' H', N1 ys' H' → ∃ m', m' < m1 ∧ W1 (i1 + 1) m' ys' H') ∧
        ∀ x1 H', J1.yld i1 H x1 H' → g1 x1 (wipe σ2 vs1) H' fun σ3 H5 => wipe σ3 vs1 = wipe σ2 vs1 ∧ tt1 σ3 H5 fun b1 H6 => if b1 = true then te σ3 H6 fun y H7 => Y.C ys y H7 (N1 (ys ++ [y]) H7) else N1 ys H6))
    (cont : ∀ (m' n : Nat) (ys : List V) (H : Hp) (s0 s : Shared), m' ≤ n → (∀ b ∈ Y.a :: Y.Sx, ∃ o, s0.heap.get? b = some o) → (∃ o, s0.heap.get? Y.a = some o ∧ ∀ v, o.data ≠ .cell v) → Inv Y.Xg (Y.pn s0) Y.σ0 H s → tn i s.heap → (∀ b ∈ Y.fp, H b = none) → Wo m' ys H → Run1 Y.M Y.B (Y.Z (Y.Rp n) ys s0) Y.loop (k (.ok .next)) [] s) :
    ∀ (m1 n i1 : Nat) (ys : List V) (H : Hp) (s0 s : Shared), m1 ≤ n → (∀ b ∈ Y.a :: Y.Sx, ∃ o, s0.heap.get? b = some o) → (∃ o, s0.heap.get? Y.a = some o ∧ ∀ v, o.data ≠ .cell v) → Inv Y.Xg (Y.pn s0) (wipe σ2 vs1) H s → tn i s.heap → (∀ b ∈ Y.fp, H b = none) → tn1 i1 s.heap → (∀ b ∈ fp1, H b = none) → W1 i1 m1 ys H →
      Run1 Y.M Y.B (Y.Z (Y.Rp n) ys s0) (.compLoop Y.ge 1 (.ref it1) .none Y.cenv) (Y.M.den (.compLoop Y.ge 1 (.ref it1) .none Y.cenv)) [.ret k none false l Y.loop p kp] s := by
  intro m1
  induction m1 using Nat.strongRecOn with
  | ind m1 ih =>
    intro n i1 ys H s0 s hmn there ag I stt fr st1 fr1 w
    have hco := O.co
    have ov := over_in (B := Y.B) (it := .ref Y.it) (it1 := .ref it1) (acc := .none) (acc1 := .none) (env := Y.cenv) (fs := []) (k := k) (g := false) (l := l) (kp := kp) (p := p) hge
    rw [den_in hge, Sem.onRaise_eq_wrap]
    have ct : compTurn Y.ge 1 (.ref it1) .none Y.cenv = compTurn (.GeneratorExp elt [⟨tg, iter, ifs, 0⟩, ⟨tg1, iter1, ifs1, 0⟩] scope gpos) 1 (.ref it1) .none Y.cenv := by rw [← hge]
    rw [ct]
    unfold compTurn
    simp only [List.getElem?_cons_succ, List.getElem?_cons_zero, List.getElem?_nil, bne_self_eq_false, Bool.false_eq_true, if_false]
    rw [← hge]
    have II := I.pinned (O.fpOk I fr) (T.obj _ _ stt)
    refine run1_bind (wpAny_standAt ?_)
    rcases st i1 m1 ys H w with ⟨stop, m', hm', wo⟩ | ⟨go, N1, hN, step⟩
    · refine run1_bind ?_
      rw [ov.1]
      refine wpAny_mono (T1.done Y.Xg rfl rfl rfl rfl i1 _ s _ H (fun _ _ => False) II (N.fpOk fr1) st1 stop) (fun r s1 ⟨hr, I1⟩ => ?_) fun _ _ z => z.elim
      subst hr
      have J1 : Inv Y.Xg (Y.pn s0) Y.σ0 H s1 := by
        refine (I1.unpinned).weak (by rw [← hσ, wipe_length, wipe_length]) fun j v e => ?_
        rw [← hσ] at e
        obtain ⟨e, hv⟩ := wipe_some e
        rw [wipe_out fun z => hv (hvs j z)]
        exact e
      have pin' : ∀ b ∈ Y.fp, ∀ o, s.heap.get? b = some o → s1.heap.get? b = some o := fun b hb o e => (I1.pin (b, o) (List.mem_append_right _ (List.mem_append_right _ (mem_pinsAt hb e)))).1
      exact run1_leaf (.ok .next) (cont m' n ys H s0 s1 (by omega) there ag J1 (T.keep _ _ _ stt pin') fr wo)
    · refine run1_bind ?_
      rw [ov.1]
      refine wpAny_mono (T1.item Y.Xg rfl rfl rfl rfl i1 _ s _ H (fun _ _ => False) II (N.fpOk fr1) st1 go) (fun r s1 ⟨u, hr, h1⟩ => ?_) fun _ _ z => z.elim
      subst hr
      refine run1_bind ?_
      rw [ov.1]
      refine wpAny_mono h1 (fun _ s2 ⟨x, H2, I2, r2, y2, st2, fr2⟩ => ?_) fun _ _ z => z.elim
      have I2' := I2.pinned (N.fpOk fr2) (T1.obj _ _ st2)
      refine run1_bind ?_
      rw [ov.1]
      refine wpAny_mono (hg.run _ s2 _ H2 x u _ I2' r2 (step x H2 y2)) (fun _ s3 ⟨σ3, H3, I3, hw3, q3⟩ => ?_) fun _ _ z => z.elim
      refine run1_bind ?_
      rw [ov.1]
      refine wpAny_mono (ht.run _ s3 σ3 H3 _ I3 q3) (fun b s4 ⟨H4, I4, q4⟩ => ?_) fun _ _ z => z.elim
      -- behind the turn
      have back : ∀ {s' : Shared} {H' : Hp}, Inv Y.Xg ((Y.pn s0 ++ pinsAt Y.fp s.heap) ++ pinsAt fp1 s2.heap) σ3 H' s' → Inv Y.Xg (Y.pn s0) (wipe σ2 vs1) H' s' ∧ tn i s'.heap ∧ (∀ b ∈ Y.fp, H' b = none) ∧ tn1 (i1 + 1) s'.heap ∧ ∀ b ∈ fp1, H' b = none := fun {s' H'} I' => by
        have p0 : ∀ b ∈ Y.fp, ∀ o, s.heap.get? b = some o → s'.heap.get? b = some o ∧ H' b = none := fun b hb o e => by
          have z := I'.pin (b, o) (List.mem_append_right _ (List.mem_append_left _ (List.mem_append_right _ (mem_pinsAt hb e))))
          exact ⟨z.1, z.2.1⟩
        have p1 : ∀ b ∈ fp1, ∀ o, s2.heap.get? b = some o → s'.heap.get? b = some o ∧ H' b = none := fun b hb o e => by
          have z := I'.pin (b, o) (List.mem_append_right _ (List.mem_append_right _ (mem_pinsAt hb e)))
          exact ⟨z.1, z.2.1⟩
        refine ⟨(I'.unpinned.unpinned).weak (by rw [← hw3, wipe_length]) fun j v e => ?_, T.keep _ _ _ stt fun b hb o e => (p0 b hb o e).1, fun b hb => ?_, T1.keep _ _ _ st2 fun b hb o e => (p1 b hb o e).1, fun b hb => ?_⟩
        · rw [← hw3] at e
          exact (wipe_some e).1
        · obtain ⟨o, e, _⟩ := T.obj _ _ stt b hb
          exact (p0 b hb o e).2
        · obtain ⟨o, e, _⟩ := T1.obj _ _ st2 b hb
          exact (p1 b hb o e).2
      cases b with
      | false =>
        simp only [Bool.false_eq_true, if_false] at q4 ⊢
        obtain ⟨m', hm, w'⟩ := hN ys H4 q4
        obtain ⟨b1, b2, b3, b4, b5⟩ := back I4
        exact run1_again rfl (ih m' hm n (i1 + 1) ys H4 s0 s4 (by omega) there ag b1 b2 b3 b4 b5 w')
      | true =>
        simp only [if_true] at q4 ⊢
        have hy : ∀ v, yieldOut Y.cenv v = yieldValue v := fun v => by simp only [yieldOut, hco, Bool.false_eq_true, if_false]
        simp only [hy]
        rw [Sem.bind_eq_wrap', Sem.bind_eq_wrap', Sem.wrap_wrap, Sem.wrap_wrap]
        refine run1_wrap ?_
        rw [ov.1]
        refine wpAny_mono (he.run _ s4 σ3 H4 _ I4 q4) (fun v s5 ⟨y, H5, I5, r5, c5⟩ => ?_) fun _ _ z => z.elim
        refine run1_at (run1_yield rfl fun p => .inr ⟨v, _, _, _, p, _, y, σ3, H5, rfl, rfl, I5.unpinned.unpinned, r5, hC _ _ _ _ _ (fun nx => ?_) c5⟩)
        obtain ⟨m', hm, w'⟩ := hN _ H5 nx
        obtain ⟨n', rfl⟩ : ∃ k, n = k + 1 := ⟨n - 1, by omega⟩
        obtain ⟨b1, b2, b3, b4, b5⟩ := back I5
        refine (Y.rdy_iff n' _ _ _ _).mpr fun s6 A6 => ?_
        have there6 : ∀ b ∈ Y.a :: Y.Sx, ∃ o, s6.heap.get? b = some o := fun b hb => by
          rcases List.mem_cons.mp hb with z | z
          · obtain ⟨o, e⟩ := there b hb
            exact ⟨o, A6.keep b o (by rw [z]; exact O.aS) (O.pinned b1 hb e).1⟩
          · obtain ⟨o, e, _⟩ := A6.own b z
            exact ⟨o, e⟩
        have ag6 : ∃ o, s6.heap.get? Y.a = some o ∧ ∀ v, o.data ≠ .cell v := by
          obtain ⟨o, e, d⟩ := ag
          exact ⟨o, A6.keep _ o O.aS (O.pinned b1 List.mem_cons_self e).1, d⟩
        have I6 := O.woken b1 there ag A6 .running rfl
        have st6 : tn i s6.heap := T.keep _ _ _ b2 fun b hb o e => A6.keep b o (fun z => Nat.lt_irrefl _ (Nat.lt_trans (O.fps b hb) (O.new b (List.mem_cons_of_mem _ z)))) e
        have st7 : tn1 (i1 + 1) s6.heap := T1.keep _ _ _ b4 fun b hb o e => A6.keep b o (fun z => N.own b hb (List.mem_cons_of_mem _ z)) e
        exact run1_again rfl (ih m' hm n' (i1 + 1) _ H5 s6 (s6.setGen Y.g .running) (by omega) there6 ag6 I6 st6 b3 st7 b5 w')
theorem gen_turns2 {Y : GEx} {elt tg iter tg1 iter1 : Expr} {ifs ifs1 : List Expr} {scope : Scope} {gpos : Pos} (hge : Y.ge = .GeneratorExp elt [⟨tg, iter, ifs, 0⟩, ⟨tg1, iter1, ifs1, 0⟩] scope gpos) {J : It} {tn : Nat → Heap → Prop} {g g1 : TG} {tt tt1 : TT} {te : TE} {wi1 : TI} {vs vs1 : List Nat} {W : Nat → Nat → List V → Hp → Prop}
    (O : Y.Ok) (T : Turn Y.X.prog Y.X.w Y.X.K tg J Y.fp Y.it tn) (hvs : ∀ v ∈ vs1, v ∈ vs) (hg : PG Y.Xg tg g) (ht : PTs Y.Xg ifs tt) (hi1 : PI Y.Xg tg1 iter1 wi1) (hs1 : ∀ x, foldedSetIterable iter1 Y.cenv x = pure x) (hg1 : PG Y.Xg tg1 g1) (ht1 : PTs Y.Xg ifs1 tt1) (he : PE Y.Xg elt te) (hC : EatsMono Y.C)
    (st : GStep2 W J g tt wi1 g1 tt1 te vs vs1 Y.σ0 Y.C Y.F) : ∀ (m n : Nat) (i : Nat) (ys : List V) (H : Hp) (s0 s : Shared), m ≤ n → (∀ b ∈ Y.a :: Y.Sx, ∃ o, s0.heap.get? b = some o) → (∃ o, s0.heap.get? Y.a = some o ∧ ∀ v, o.data ≠ .cell v) → Inv Y.Xg (Y.pn s0) Y.σ0 H s → tn i s.heap → (∀ b ∈ Y.fp, H b = none) → W i m ys H →
      Run1 Y.M Y.B (Y.Z (Y.Rp n) ys s0) Y.loop (Y.M.den Y.loop) [] s := by
  intro m
  induction m using Nat.strongRecOn with
  | ind m ih =>
    intro n i ys H s0 s hmn there ag I stt fr w
    rw [den_one hge, Sem.onRaise_eq_wrap]
    have ct : compTurn Y.ge 0 (.ref Y.it) .none Y.cenv = compTurn (.GeneratorExp elt [⟨tg, iter, ifs, 0⟩, ⟨tg1, iter1, ifs1, 0⟩] scope gpos) 0 (.ref Y.it) .none Y.cenv := by rw [← hge]
    rw [ct]
    unfold compTurn
    simp only [List.getElem?_cons_succ, List.getElem?_cons_zero, List.getElem?_nil, bne_self_eq_false, Bool.false_eq_true, if_false]
    rw [← hge]
    refine run1_bind (wpAny_standAt ?_)
    rcases st i m ys H w with ⟨stop, fin⟩ | ⟨go, step⟩
    · refine run1_bind (wpAny_mono (T.done Y.Xg rfl rfl rfl rfl i (Y.pn s0) s Y.σ0 H (fun _ _ => False) I (O.fpOk I fr) stt stop) (fun r s1 ⟨hr, I1⟩ => ?_) fun _ _ z => z.elim)
      subst hr
      exact run1_end (.ok .next) (.inl ⟨rfl, Y.σ0, H, I1, fin⟩)
    · refine run1_bind (wpAny_mono (T.item Y.Xg rfl rfl rfl rfl i (Y.pn s0) s Y.σ0 H (fun _ _ => False) I (O.fpOk I fr) stt go) (fun r s1 ⟨u, hr, h1⟩ => ?_) fun _ _ z => z.elim)
      subst hr
      refine run1_bind (wpAny_mono h1 (fun _ s2 ⟨x, H2, I2, r2, y2, st2, fr2⟩ => ?_) fun _ _ z => z.elim)
      have I2' := I2.pinned (O.fpOk I2 fr2) (T.obj _ _ st2)
      refine run1_bind (wpAny_mono (hg.run _ s2 Y.σ0 H2 x u _ I2' r2 (step x H2 y2)) (fun _ s3 ⟨σ3, H3, I3, hw3, q3⟩ => ?_) fun _ _ z => z.elim)
      refine run1_bind (wpAny_mono (ht.run _ s3 σ3 H3 _ I3 q3) (fun b s4 ⟨H4, I4, q4⟩ => ?_) fun _ _ z => z.elim)
      have fpin : ∀ {s' : Shared} {H' : Hp}, Inv Y.Xg (Y.pn s0 ++ pinsAt Y.fp s2.heap) σ3 H' s' → tn (i + 1) s'.heap ∧ ∀ b ∈ Y.fp, H' b = none := fun {s' H'} I' => by
        have pin' : ∀ b ∈ Y.fp, ∀ o, s2.heap.get? b = some o → s'.heap.get? b = some o ∧ H' b = none := fun b hb o e => by
          have z := I'.pin (b, o) (List.mem_append_right _ (List.mem_append_right _ (mem_pinsAt hb e)))
          exact ⟨z.1, z.2.1⟩
        refine ⟨T.keep _ _ _ st2 fun b hb o e => (pin' b hb o e).1, fun b hb => ?_⟩
        obtain ⟨o, e, _⟩ := T.obj _ _ st2 b hb
        exact (pin' b hb o e).2
      have wk : ∀ {s' : Shared} {H' : Hp} {pins : List (Addr × Obj)}, Inv Y.Xg pins σ3 H' s' → Inv Y.Xg pins Y.σ0 H' s' := fun {s' H' pins} I' => by
        have hl : Y.σ0.length = σ3.length := by rw [← hw3, wipe_length]
        refine I'.weak hl fun j v e => ?_
        rw [← hw3] at e
        exact (wipe_some e).1
      cases b with
      | false =>
        simp only [Bool.false_eq_true, if_false] at q4 ⊢
        obtain ⟨m', hm, w'⟩ := q4
        exact run1_again rfl (ih m' hm n (i + 1) ys H4 s0 s4 (by omega) there ag (wk I4.unpinned) (fpin I4).1 (fpin I4).2 w')
      | true =>
        simp only [if_true] at q4 ⊢
        refine run1_bind (wpAny_mono (hi1.run _ s4 σ3 H4 _ I4 q4) (fun xv s5 h5 => ?_) fun _ _ z => z.elim)
        refine run1_bind (wpAny_standAt (run1_bind (wpAny_of_eq (hs1 xv) (run1_bind (wpAny_holding (wpAny_mono h5 (fun itv s6 h6 => ?_) fun _ _ z => z.elim))))))
        obtain ⟨it1, fp1, tn1, J1, H6, rfl, I6, T1, st1, f1, W1, ⟨m1, hm1, w1⟩, st'⟩ := h6
        have N : InIt Y fp1 :=
          { loc := fun b hb => (f1 b hb).2.1
            fs := fun b hb => (f1 b hb).2.2.1
            sz := fun b hb => (f1 b hb).2.2.2.1
            cel := fun b hb => (f1 b hb).2.2.2.2.1
            own := fun b hb z => by
              obtain ⟨o, e⟩ := there b z
              exact (f1 b hb).2.2.2.2.2 (b, o) (List.mem_append_right _ (List.mem_append_left _ (mem_pinsAt z e))) rfl
            out := fun b hb z => by
              obtain ⟨o, e, _⟩ := T.obj _ _ st2 b z
              exact (f1 b hb).2.2.2.2.2 (b, o) (List.mem_append_right _ (List.mem_append_right _ (mem_pinsAt z e))) rfl }
        have I7 : Inv Y.Xg (Y.pn s0) (wipe σ3 vs1) H6 s6 := (I6.unpinned).weak (wipe_length _ _) fun j v e => (wipe_some e).1
        rw [Sem.bind_eq_wrap', Sem.wrap_wrap]
        unfold runOwn run
        rw [Sem.onRaise_eq_wrap, Sem.wrap_wrap]
        show Run1 _ _ _ _ (.call (.compStart Y.ge 1 (.ref it1) .none Y.cenv) none false [] _) [] s6
        refine run1_call fun p => ?_
        have inner := fun (k : Result → Sem PySem.Fin) hk => gen_inner (Wo := fun m' ys H => m' < m ∧ W (i + 1) m' ys H) (k := k) (l := []) (kp := []) (p := p) hge O T T1 N hw3 hvs hg1 ht1 he hC (fun i1 m1 ys H w1 => by
          rcases st' i1 m1 ys H w1 with ⟨z1, m', z2, z3, z4⟩ | z
          · exact .inl ⟨z1, m', z2, z3, z4⟩
          · exact .inr z) hk m1 n 0 ys H6 s0 s6 (by omega) there ag I7 (fpin I6).1 (fpin I6).2 st1 (fun b hb => (f1 b hb).1) w1
        rw [den_in0 hge]
        have e : (clausesOf Y.ge)[1]? = some ⟨tg1, iter1, ifs1, 0⟩ := by rw [hge]; rfl
        unfold compStart
        rw [Sem.onRaise_eq_wrap, e]
        refine run1_bind (wpAny_askSetting ?_)
        split
        · exact run1_again rfl (inner _ fun m' n' ys' H' s0' s' h1 h2 h3 h4 h5 h6 h7 => run1_again rfl (ih m' h7.1 n' (i + 1) ys' H' s0' s' h1 h2 h3 h4 h5 h6 h7.2))
        · refine run1_bind (wpAny_rule (run1_bind (wpAny_standAt (run1_bind (T1.self _ 0 s6 _ _ st1 (run1_again rfl (inner _ fun m' n' ys' H' s0' s' h1 h2 h3 h4 h5 h6 h7 => ?_)))))))
          exact run1_again rfl (ih m' h7.1 n' (i + 1) ys' H' s0' s' h1 h2 h3 h4 h5 h6 h7.2)
/-- from the start -/
theorem gen_first {Y : GEx} {elt tg iter : Expr} {ifs : List Expr} {scope : Scope} {gpos : Pos} {cs : List Comprehension} (hge : Y.ge = .GeneratorExp elt (⟨tg, iter, ifs, 0⟩ :: cs) scope gpos) {J : It} {tn : Nat → Heap → Prop} {Z : End → Shared → Prop} (T : Turn Y.X.prog Y.X.w Y.X.K tg J Y.fp Y.it tn) (s : Shared) (stt : tn 0 s.heap)
    (loop : Run1 Y.M Y.B Z Y.loop (Y.M.den Y.loop) [] s) : Run1 Y.M Y.B Z (.compStart Y.ge 0 (.ref Y.it) .none Y.cenv) (Y.M.den (.compStart Y.ge 0 (.ref Y.it) .none Y.cenv)) [] s := by
  rw [den_start hge]
  have e : (clausesOf Y.ge)[0]? = some ⟨tg, iter, ifs, 0⟩ := by rw [hge]; rfl
  unfold compStart
  rw [Sem.onRaise_eq_wrap, e]
  show Run1 _ _ _ _ ((ask >>= _).wrap _ _ _ _) [] s
  refine run1_bind (wpAny_askSetting ?_)
  split
  · exact run1_again rfl loop
  · first
      | exact run1_bind (wpAny_rule (run1_bind (wpAny_standAt (run1_bind (T.self _ 0 s _ _ stt (run1_again rfl loop))))))
      | (refine run1_bind (wpAny_rule ?_); show Run1 _ _ _ _ ((standAt iter.pos >>= _).wrap _ _ _ _) [] s; exact run1_bind (wpAny_standAt (run1_bind (T.self _ 0 s _ _ stt (run1_again rfl loop)))))

/-! ### making it -/
/-- the generator a (number g) in s5, made at s4 over the iterator it -/
structure Made (X : Cx) (pins : List (Addr × Obj)) (σ : L2.St) (ge tg : Expr) (scope : Scope) (J : It) (H2 : Hp) (s4 : Shared) (cenv : Env) (fp : List Addr) (it : Addr) (tn : Nat → Heap → Prop) (a g : Addr) (s5 : Shared) : Prop where
  inv : Inv X pins σ H2 s4
  fps : ∀ b ∈ fp, FpOk X pins H2 b ∧ b < s4.heap.objs.size
  turn : Turn X.prog X.w X.K tg J fp it tn
  at0 : tn 0 s4.heap
  env : ∃ code, cenv = genEnv scope (cloFrom X.env.cells scope.names []) s4.heap.objs.size code builtinsNs X.env
  os : s5.os = s4.os
  gens : s5.gens = s4.gens.push (.fresh (.compStart ge 0 (.ref it) .none cenv))
  num : g = s4.gens.size
  drawn : s5.drawn = s4.drawn
  isg : s5.heap.IsGen a g
  new : s4.heap.objs.size < a
  lt : s5.heap.objs.size = a + 1
  keep : ∀ b o, s4.heap.get? b = some o → s5.heap.get? b = some o
  ns : ∃ m, s5.heap.Ns s4.heap.objs.size m
section
variable {X : Cx} {pins : List (Addr × Obj)} {σ : L2.St} {H : Hp} {s : Shared}
theorem make_any {M : Model} {A : Around} {E : Value → Shared → Prop} {s : Shared} {env : Env} {elt tg iter : Expr} {ifs : List Expr} {cs : List Comprehension} {scope : Scope} {cl : List (Str × Addr)} {pos : Pos} {Q : Value → Shared → Prop} (G : GScp scope) (hcl : closureFor scope env = pure cl) (hroom : A.depth < recursionLimit)
    (h : wpAny M A (eval iter env) (fun xv s1 => wpAny M A (pyIter xv) (fun it s2 => s2.heap.NoLimit ∧ wpAny M A (genexprCode env pos (env.qual ++ "<genexpr>") scope) (fun code s3 => wpAny M A (builtinsFor env.globals env.builtins) (fun bi s4 =>
      ∀ h', h'.Ns s4.heap.objs.size (fun y => if y = ".0" then some it else none) → Heap.SameBut s4.heap.objs.size (s4.heap.push { cls := .type "frame", data := .dict #[] }) h' →
        Q (.ref h'.objs.size) { s4 with gens := s4.gens.push (.fresh (.compStart (.GeneratorExp elt (⟨tg, iter, ifs, 0⟩ :: cs) scope pos) 0 it .none (genEnv scope cl s4.heap.objs.size code bi env))), toks := s4.toks + 1 + 1 + 1, heap := h'.push { cls := .type "generator", data := .fields #[.int s4.gens.size 0, .str "<genexpr>" (s4.toks + 1), .str (env.qual ++ "<genexpr>") (s4.toks + 1 + 1)] } }) E s3) E s2) E s1) E s)
    (hs : ∀ x, genFold iter env x = pure x) : wpAny M A (eval (.GeneratorExp elt (⟨tg, iter, ifs, 0⟩ :: cs) scope pos) env) Q E s := by
  rw [arm_eval_GeneratorExp]
  simp only [G.co, Bool.false_eq_true, if_false]
  refine wpAny_bind (thn h fun xv s1 h1 => wpAny_bind (wpAny_standAt (wpAny_bind (wpAny_of_eq (a := xv) ?_ ?_))))
  · have := hs xv
    unfold genFold at this
    cases iter <;> exact this
  refine wpAny_bind (wpAny_holding (thn h1 fun it s2 h2 => wpAny_bind (wpAny_enterFrame h2.1 hroom ?_)))
  rw [hcl]
  refine wpAny_bind (wpAny_pure (wpAny_bind (thn h2.2 fun code s3 h3 => wpAny_bind (thn h3 fun bi s4 h4 => ?_))))
  have hb : ∀ y ∈ ([((".0" : Str), it)] : List (Str × Value)), scope.names.lookup y.1 = some NameKind.local := fun y hy => by
    rw [List.mem_singleton.mp hy]
    exact G.dot
  refine wpAny_bind (wpAny_newFunctionEnv G.nocell hb (fun h' hn' hs' => ?_) G.kind)
  have e : (fun y : Str => ([((".0" : Str), it)] : List (Str × Value)).reverse.lookup y) = fun y : Str => if y = (".0" : Str) then some it else none := by
    funext y
    by_cases hy : y = ".0"
    · subst hy
      simp
    · have : (y == (".0" : Str)) = false := by simpa using hy
      simp [List.lookup, this, hy]
  rw [e] at hn'
  simp only [newGenerator, newFields]
  exact wpAny_bind (wpAny_newGen (wpAny_bind (wpAny_mkText (wpAny_bind (wpAny_mkText (wpAny_newObj_type (h4 h' hn' hs') (by size_fits)))))))
theorem gen_made {c P : Addr} {elt tg iter : Expr} {ifs : List Expr} {cs : List Comprehension} {scope : Scope} {own : List (Str × Nat)} {gpos : Pos} {wi : TI} {k : Nat} {R : It → Hp → Prop} {Q' : Value → Shared → Prop} (hr : Room k X.A) (TB : LamX.TabB X.base X.mg c P) (hcode : X.env.code = .ref c)
    (G : GScp scope) (ok : BlkOk X.N X.env.scope scope own) (hi : PI X tg iter wi) (hs : ∀ v, genFold iter X.env v = pure v) (I : Inv X pins σ H s) (h : wi σ H fun J H1 => TabG H1 P ∧ R J H1)
    (hQ : ∀ J H1 H2 s4 cenv fp it tn a g s5, R J H1 → Tabbed P H1 H2 → Made X pins σ (.GeneratorExp elt (⟨tg, iter, ifs, 0⟩ :: cs) scope gpos) tg scope J H2 s4 cenv fp it tn a g s5 → Q' (.ref a) s5) :
    wpAny (model X.prog X.w) X.A (eval (.GeneratorExp elt (⟨tg, iter, ifs, 0⟩ :: cs) scope gpos) X.env) Q' X.xe s := by
  refine make_any G (closure_ok (blk_free ok I.ok)) hr.depth ?_ hs
  refine thn (hi.run pins s σ H _ I h) fun xv s1 h1 => thn h1 fun itv s2 h2 => ?_
  obtain ⟨it, fp, tn, J, H1, rfl, I2, T, st2, f2, ⟨ps, hP, htr⟩, q⟩ := h2
  refine ⟨I2.nolimit, ?_⟩
  have hPs : s2.heap.get? P = some { cls := .none, data := .fields ps } := I2.hok P _ hP
  have cd : PySem.W.CodeHd s2.heap c P := TB.code.keeps fun b u e => I2.bk b u e
  have nfP : ∀ b ∈ fp, b ≠ P := fun b hb z => by
    have e := (f2 b hb).1
    rw [z, hP] at e
    cases e
  have cont : ∀ (code : Value) (h3 : Heap) (tk : Nat) (ps' : Array Value), Heap.ExtBut P s2.heap h3 → h3.get? P = some { cls := .none, data := .fields ps' } → (∃ more, ps' = ps ++ more) → TriplesOk ps'.toList →
      wpAny (model X.prog X.w) X.A (builtinsFor X.env.globals X.env.builtins) (fun bi s₄ => ∀ h', h'.Ns s₄.heap.objs.size (fun y => if y = ".0" then some (.ref it) else none) → Heap.SameBut s₄.heap.objs.size (s₄.heap.push { cls := .type "frame", data := .dict #[] }) h' →
          Q' (.ref h'.objs.size) { s₄ with
            gens := s₄.gens.push (.fresh (.compStart (.GeneratorExp elt (⟨tg, iter, ifs, 0⟩ :: cs) scope gpos) 0 (.ref it) .none (genEnv scope (cloFrom X.env.cells scope.names []) s₄.heap.objs.size code bi X.env))),
            toks := s₄.toks + 1 + 1 + 1,
            heap := h'.push { cls := .type "generator", data := .fields #[.int s₄.gens.size 0, .str "<genexpr>" (s₄.toks + 1), .str (X.env.qual ++ "<genexpr>") (s₄.toks + 1 + 1)] } }) X.xe { s2 with heap := h3, toks := tk } := by
    intro code h3 tk ps' hx hP3 hmore ht3
    obtain ⟨bm, ob, e1, e2, e3, e4, e5, e6, e7, e8⟩ := TB.bm
    have keep3 : ∀ b u, b ≠ P → s2.heap.get? b = some u → h3.get? b = some u := fun b u hb e => hx b u hb e
    refine wpAny_builtinsFor (m := X.mg) (by rw [I2.ok.glob]; exact (I2.mod.glob.keeps I2.bk).extBut hx TB.gP) e1 e2 (keep3 _ _ e4 (I2.bk _ _ e5)) e6 e7 e8 ?_
    intro h' hn' hs'
    obtain ⟨more, em⟩ := hmore
    have J4 := inv_tab (more := more) (h' := h3) (g' := s2.gens) (d' := s2.drawn) (t' := tk) I2 hP (fun b u hb e => keep3 b u hb e) (by rw [← em]; exact hP3) I2.bare
    have J4 : Inv X pins σ (upd H1 P (.tbl (ps ++ more))) { s2 with heap := h3, toks := tk } := J4
    have keep' : ∀ b o, h3.get? b = some o → h'.get? b = some o := fun b o e => hs'.extBut b o (Nat.ne_of_lt (Heap.lt_size e)) (Heap.get?_push_of_some _ e)
    have hsz : h'.objs.size = h3.objs.size + 1 := by rw [hs'.1, Heap.size_push]
    have nfpH : ∀ b ∈ fp, upd H1 P (.tbl (ps ++ more)) b = none := fun b hb => by rw [upd_ne (nfP b hb)]; exact (f2 b hb).1
    refine hQ J H1 (upd H1 P (.tbl (ps ++ more))) { s2 with heap := h3, toks := tk } (genEnv scope (cloFrom X.env.cells scope.names []) h3.objs.size code builtinsNs X.env) fp it tn _ s2.gens.size _ q ⟨⟨ps ++ more, upd_same, by rw [← em]; exact ht3⟩, fun b hb => upd_ne hb⟩
      { inv := J4, fps := fun b hb => ?_, turn := T, at0 := ?_, env := ⟨code, rfl⟩, os := rfl, gens := rfl, num := rfl, drawn := rfl, isg := ⟨_, _, _, Heap.get?_push_size _ rfl, rfl, rfl, rfl⟩, new := ?_, lt := ?_, keep := fun b o e => Heap.get?_push_of_some _ (keep' b o e), ns := ⟨_, hn'.push _⟩ }
    · obtain ⟨o, e, _⟩ := T.obj _ _ st2 b hb
      exact ⟨⟨nfpH b hb, (f2 b hb).2⟩, Heap.lt_size (keep3 b o (nfP b hb) e)⟩
    · exact T.keep _ _ _ st2 fun b hb o e => keep3 b o (nfP b hb) e
    · show h3.objs.size < h'.objs.size
      rw [hsz]; exact Nat.lt_succ_self _
    · exact Heap.size_push ..
  cases hf : codeAmong gpos ps.toList with
  | none =>
    refine wpAny_genexprCodeX hcode (cd.code hPs htr) (cd.tab hPs) hf fun c' h' tk hx hge hlt hco' _ htab' _ => ?_
    obtain ⟨o1, vs, f1, tf, fl, tg, inF, tx, tt, op, _, _, _, _, _, _, _, _, _, htr', _⟩ := hco'
    exact cont _ h' tk _ hx htab'.2 ⟨_, rfl⟩ htr'
  | some cv =>
    refine wpAny_genexprCode_hit hcode (cd.code hPs htr) hf ?_
    exact cont cv s2.heap s2.toks ps (Heap.ExtBut.refl _ _) hPs ⟨#[], by simp⟩ htr
end

/-! ### ready -/
theorem Aft.refl {s : Shared} (hb : AllBare s.gens) : Aft [] s s := ⟨rfl, hb, fun _ _ _ e => e, fun b z => by cases z⟩
theorem over_fr {B : Around} {ge elt : Expr} {cs : List Comprehension} {scope : Scope} {gpos : Pos} {it : Value} {cenv : Env} {l : List Env} (hge : ge = .GeneratorExp elt cs scope gpos) (h : B.frames = some l) :
    (B.over (.compLoop ge 0 it .none cenv) []).frames = some (cenv :: l) := by
  subst hge
  obtain ⟨b1, b2, b3, b4, b5⟩ := B
  cases h
  rfl
/-- room in the generator's frame -/
structure NearA (B A : Around) : Prop where
  hd : B.handled = A.handled
  fr : B.frames = A.frames
  dp : B.depth ≤ A.depth + 2
  un : B.units ≤ A.units + 12
theorem NearA.room {B A : Around} {k : Nat} {ge elt : Expr} {cs : List Comprehension} {scope : Scope} {gpos : Pos} {it : Value} {cenv : Env} (hge : ge = .GeneratorExp elt cs scope gpos) (n : NearA B A) (r : Room (k + 1) A) : Room k (B.over (.compLoop ge 0 it .none cenv) []) := by
  subst hge
  obtain ⟨n1, n2, n3, n4⟩ := n
  obtain ⟨r1, r2, r3⟩ := r
  refine ⟨?_, ?_, ?_⟩
  · show B.handled = none
    rw [n1]; exact r1
  · show B.depth + 0 + 1 + 3 * k + 5 < _
    omega
  · show B.units + 0 + 3 + 16 * k + 200 < _
    omega
theorem nearA2 (A : Around) : NearA A.in1.in1 A := ⟨rfl, rfl, Nat.le_add_right _ _, by show A.units + 1 + 1 ≤ _; omega⟩
section
variable {X : Cx} {pins : List (Addr × Obj)} {σ : L2.St} {H2 : Hp} {s4 s5 : Shared}
abbrev mkY (X : Cx) (s4 : Shared) (H2 : Hp) (cenv : Env) (fp : List Addr) (B : Around) (σ0 : L2.St) (ge : Expr) (it a : Addr) (g : Nat) (Sx : List Addr) (C : Eats) (F : List V → Hp → Prop) : GEx :=
  ⟨X, s4, H2, cenv, fp, B, σ0, ge, it, a, g, Sx, C, F⟩
theorem gen_rdy0 {ge elt tg iter : Expr} {ifs : List Expr} {cs : List Comprehension} {scope : Scope} {own : List (Str × Nat)} {gpos : Pos} {J : It} {cenv : Env} {fp : List Addr} {it a g : Addr} {tn : Nat → Heap → Prop} {B : Around} {k : Nat} {C : Eats} {F : List V → Hp → Prop} {Sx : List Addr} (hge : ge = .GeneratorExp elt (⟨tg, iter, ifs, 0⟩ :: cs) scope gpos)
    (hr : Room (k + 1) X.A) (hB : NearA B X.A) (G : GScp scope) (ok : BlkOk X.N X.env.scope scope own) (hN : X.N.Nodup) (M : Made X pins σ ge tg scope J H2 s4 cenv fp it tn a g s5)
    (hS : ∀ b ∈ Sx, a < b) (m : Nat) (turns : (mkY X s4 H2 cenv fp B (wipe σ (own.map (·.2))) ge it a g Sx C F).Ok → Room k (B.over (.compLoop ge 0 (.ref it) .none cenv) []) → ∀ s0 s, (∀ b ∈ a :: Sx, ∃ o, s0.heap.get? b = some o) → (∃ o, s0.heap.get? a = some o ∧ ∀ v, o.data ≠ .cell v) →
      Inv (mkY X s4 H2 cenv fp B (wipe σ (own.map (·.2))) ge it a g Sx C F).Xg ((mkY X s4 H2 cenv fp B (wipe σ (own.map (·.2))) ge it a g Sx C F).pn s0) (wipe σ (own.map (·.2))) H2 s → tn 0 s.heap → (∀ b ∈ fp, H2 b = none) →
      Run1 (model X.prog X.w) B ((mkY X s4 H2 cenv fp B (wipe σ (own.map (·.2))) ge it a g Sx C F).Z ((mkY X s4 H2 cenv fp B (wipe σ (own.map (·.2))) ge it a g Sx C F).Rp m) [] s0) (.compLoop ge 0 (.ref it) .none cenv) ((model X.prog X.w).den (.compLoop ge 0 (.ref it) .none cenv)) [] s) :
    (mkY X s4 H2 cenv fp B (wipe σ (own.map (·.2))) ge it a g Sx C F).Ok ∧
    (mkY X s4 H2 cenv fp B (wipe σ (own.map (·.2))) ge it a g Sx C F).Rdy m [] H2 (.fresh (.compStart ge 0 (.ref it) .none cenv)) s5 := by
  obtain ⟨code, hce⟩ := M.env
  have hfree := blk_free ok M.inv.ok
  have O : (mkY X s4 H2 cenv fp B (wipe σ (own.map (·.2))) ge it a g Sx C F).Ok :=
    { new := fun b hb => by
        rcases List.mem_cons.mp hb with z | z
        · rw [z]; exact M.new
        · exact Nat.lt_trans M.new (hS b z)
      loc := by
        show cenv.locals = _
        rw [hce]; rfl
      cel := fun y c e => by
        have e : cenv.cells.lookup y = some c := e
        rw [hce] at e
        obtain ⟨v, z⟩ := M.inv.cell y c (NdefX.clo_cm hfree e)
        exact z.lt
      fps := fun b hb => (M.fps b hb).2
      aS := fun z => Nat.lt_irrefl _ (hS _ z)
      co := by
        show cenv.scope.isCoroutine = false
        rw [hce]; exact G.co }
  refine ⟨O, (GEx.rdy_iff _ m _ _ _ _).mpr fun s6 A6 => ?_⟩
  have R := hB.room (k := k) (it := Value.ref it) (cenv := cenv) hge hr
  have hfrm : (B.over (.compLoop ge 0 (.ref it) .none cenv) []).frames = some (cenv :: X.stack) := over_fr hge (by rw [hB.fr]; exact M.inv.ok.frames)
  have hS2 : ∀ b o, s5.heap.get? b = some o → b < a + 1 := fun b o e => by
    have := Heap.lt_size e
    rw [M.lt] at this
    exact this
  have kp5 : ∀ b o, s5.heap.get? b = some o → s6.heap.get? b = some o := fun b o e => A6.keep b o (fun z => by
    have h1 := hS b z
    have h2 := hS2 b o e
    exact Nat.lt_irrefl _ (Nat.lt_of_lt_of_le h1 (Nat.le_of_lt_succ h2))) e
  have kp : ∀ b o, s4.heap.get? b = some o → s6.heap.get? b = some o := fun b o e => kp5 b o (M.keep b o e)
  have agn : ∃ o, s6.heap.get? a = some o ∧ ∀ v, o.data ≠ .cell v := by
    obtain ⟨o, n1, n2, e, c, d, _⟩ := M.isg
    exact ⟨o, kp5 _ _ e, fun v z => by rw [d] at z; cases z⟩
  have there : ∀ b ∈ a :: Sx, ∃ o, s6.heap.get? b = some o := fun b hb => by
    rcases List.mem_cons.mp hb with z | z
    · obtain ⟨o, e, _⟩ := agn
      exact ⟨o, by rw [z]; exact e⟩
    · obtain ⟨o, e, _⟩ := A6.own b z
      exact ⟨o, e⟩
  obtain ⟨mm, hns⟩ := M.ns
  have hns6 : s6.heap.Ns s4.heap.objs.size mm := by
    obtain ⟨ob, es, ep, ho, r⟩ := hns
    exact ⟨ob, es, ep, kp5 _ ob ho, r⟩
  have ho6 : s6.os = s4.os := A6.os.trans M.os
  have I0 := gen_start (code := code) (A := B.over (.compLoop ge 0 (.ref it) .none cenv) []) (g' := (s6.setGen g .running).gens) (d' := s6.drawn) (t' := s6.toks) M.inv ok G hN M.fps R.hd (by rw [← hce]; exact hfrm) hns6 kp (allBare_setGen A6.bare rfl)
  rw [← hce] at I0
  have I1 : Inv (mkY X s4 H2 cenv fp B (wipe σ (own.map (·.2))) ge it a g Sx C F).Xg [] (wipe σ (own.map (·.2))) H2 (s6.setGen g .running) := by
    obtain ⟨h6, g6, d6, t6, o6⟩ := s6
    have ho6 : o6 = s4.os := ho6
    subst ho6
    exact I0
  have I2 : Inv (mkY X s4 H2 cenv fp B (wipe σ (own.map (·.2))) ge it a g Sx C F).Xg ((mkY X s4 H2 cenv fp B (wipe σ (own.map (·.2))) ge it a g Sx C F).pn s6) (wipe σ (own.map (·.2))) H2 (s6.setGen g .running) := by
    refine I1.pins_of fun p hp => ?_
    have hp : p ∈ pinsAt (a :: Sx) s6.heap := hp
    obtain ⟨hb, e⟩ := of_pinsAt hp
    have h1 := O.new _ hb
    refine ⟨e, M.inv.hok.fresh (Nat.le_of_lt h1), fun z => ?_, fun z => ?_, ?_⟩
    · have z : p.1 = cenv.locals := z
      rw [z, show cenv.locals = _ from O.loc] at h1
      exact Nat.lt_irrefl _ h1
    · obtain ⟨_, ob, hob, _⟩ := I1.ok.funs.mem z
      exact absurd (Nat.lt_trans h1 (Heap.lt_size hob)) (Nat.lt_irrefl _)
    · rcases List.mem_cons.mp hb with z | z
      · obtain ⟨oa, ea, da⟩ := agn
        rw [z, ea] at e
        cases e
        exact da
      · obtain ⟨ob, eb, db⟩ := A6.own _ z
        rw [e] at eb
        cases eb
        exact db
  have st6 := M.turn.keep _ _ _ M.at0 fun b hb o e => kp b o e
  have stY : tn 0 (s6.setGen g .running).heap := st6
  exact gen_first (Y := mkY X s4 H2 cenv fp B (wipe σ (own.map (·.2))) ge it a g Sx C F) hge M.turn (s6.setGen g .running) stY (turns O R s6 (s6.setGen g .running) there agn I2 stY fun b hb => (M.fps b hb).1.1)
theorem gen_rdy {elt tg iter : Expr} {ifs : List Expr} {scope : Scope} {own : List (Str × Nat)} {gpos : Pos} {J : It} {cenv : Env} {fp : List Addr} {it a g : Addr} {tn : Nat → Heap → Prop} {B : Around} {k : Nat} {gt : TG} {tt : TT} {te : TE} {W : Nat → Nat → List V → Hp → Prop} {C : Eats} {F : List V → Hp → Prop} {Sx : List Addr}
    (hr : Room (k + 1) X.A) (hB : NearA B X.A) (G : GScp scope) (ok : BlkOk X.N X.env.scope scope own) (hN : X.N.Nodup) (M : Made X pins σ (.GeneratorExp elt [⟨tg, iter, ifs, 0⟩] scope gpos) tg scope J H2 s4 cenv fp it tn a g s5)
    (hg : ∀ A, Room k A → PG (gcx X s4 H2 cenv fp A) tg gt) (ht : ∀ A, Room k A → PTs (gcx X s4 H2 cenv fp A) ifs tt) (he : ∀ A, Room k A → PE (gcx X s4 H2 cenv fp A) elt te)
    (hS : ∀ b ∈ Sx, a < b) (hC : EatsMono C) (st : GStep W J gt tt te (own.map (·.2)) (wipe σ (own.map (·.2))) C F) (m : Nat) (w0 : W 0 m [] H2) :
    (mkY X s4 H2 cenv fp B (wipe σ (own.map (·.2))) (.GeneratorExp elt [⟨tg, iter, ifs, 0⟩] scope gpos) it a g Sx C F).Ok ∧
    (mkY X s4 H2 cenv fp B (wipe σ (own.map (·.2))) (.GeneratorExp elt [⟨tg, iter, ifs, 0⟩] scope gpos) it a g Sx C F).Rdy m [] H2 (.fresh (.compStart (.GeneratorExp elt [⟨tg, iter, ifs, 0⟩] scope gpos) 0 (.ref it) .none cenv)) s5 :=
  gen_rdy0 rfl hr hB G ok hN M hS m fun O R s0 s th ag I stt fr =>
    gen_turns (Y := mkY X s4 H2 cenv fp B (wipe σ (own.map (·.2))) (.GeneratorExp elt [⟨tg, iter, ifs, 0⟩] scope gpos) it a g Sx C F) rfl O M.turn (hg _ R) (ht _ R) (he _ R) hC st m m 0 [] H2 s0 s (Nat.le_refl _) th ag I stt fr w0
theorem gen_rdy2 {elt tg iter tg1 iter1 : Expr} {ifs ifs1 : List Expr} {scope : Scope} {own : List (Str × Nat)} {vs1 : List Nat} {gpos : Pos} {J : It} {cenv : Env} {fp : List Addr} {it a g : Addr} {tn : Nat → Heap → Prop} {B : Around} {k : Nat} {gt g1 : TG} {tt tt1 : TT} {te : TE} {wi1 : TI} {W : Nat → Nat → List V → Hp → Prop} {C : Eats} {F : List V → Hp → Prop} {Sx : List Addr}
    (hr : Room (k + 1) X.A) (hB : NearA B X.A) (G : GScp scope) (ok : BlkOk X.N X.env.scope scope own) (hN : X.N.Nodup) (hvs : ∀ v ∈ vs1, v ∈ own.map (·.2)) (M : Made X pins σ (.GeneratorExp elt [⟨tg, iter, ifs, 0⟩, ⟨tg1, iter1, ifs1, 0⟩] scope gpos) tg scope J H2 s4 cenv fp it tn a g s5)
    (hg : ∀ A, Room k A → PG (gcx X s4 H2 cenv fp A) tg gt) (ht : ∀ A, Room k A → PTs (gcx X s4 H2 cenv fp A) ifs tt) (hi1 : ∀ A, Room k A → PI (gcx X s4 H2 cenv fp A) tg1 iter1 wi1) (hs1 : ∀ x, foldedSetIterable iter1 cenv x = pure x) (hg1 : ∀ A, Room k A → PG (gcx X s4 H2 cenv fp A) tg1 g1) (ht1 : ∀ A, Room k A → PTs (gcx X s4 H2 cenv fp A) ifs1 tt1) (he : ∀ A, Room k A → PE (gcx X s4 H2 cenv fp A) elt te)
    (hS : ∀ b ∈ Sx, a < b) (hC : EatsMono C) (st : GStep2 W J gt tt wi1 g1 tt1 te (own.map (·.2)) vs1 (wipe σ (own.map (·.2))) C F) (m : Nat) (w0 : W 0 m [] H2) :
    (mkY X s4 H2 cenv fp B (wipe σ (own.map (·.2))) (.GeneratorExp elt [⟨tg, iter, ifs, 0⟩, ⟨tg1, iter1, ifs1, 0⟩] scope gpos) it a g Sx C F).Ok ∧
    (mkY X s4 H2 cenv fp B (wipe σ (own.map (·.2))) (.GeneratorExp elt [⟨tg, iter, ifs, 0⟩, ⟨tg1, iter1, ifs1, 0⟩] scope gpos) it a g Sx C F).Rdy m [] H2 (.fresh (.compStart (.GeneratorExp elt [⟨tg, iter, ifs, 0⟩, ⟨tg1, iter1, ifs1, 0⟩] scope gpos) 0 (.ref it) .none cenv)) s5 :=
  gen_rdy0 rfl hr hB G ok hN M hS m fun O R s0 s th ag I stt fr =>
    gen_turns2 (Y := mkY X s4 H2 cenv fp B (wipe σ (own.map (·.2))) (.GeneratorExp elt [⟨tg, iter, ifs, 0⟩, ⟨tg1, iter1, ifs1, 0⟩] scope gpos) it a g Sx C F) rfl O M.turn hvs (hg _ R) (ht _ R) (hi1 _ R) hs1 (hg1 _ R) (ht1 _ R) (he _ R) hC st m m 0 [] H2 s0 s (Nat.le_refl _) th ag I stt fr w0
end
/-- out of the generator's frame -/
theorem GEx.out {Y : GEx} {pins ps : List (Addr × Obj)} {σ σ' : L2.St} {H' : Hp} {s1 s2 : Shared} (I4 : Inv Y.X pins σ Y.H1 Y.s4) (hf : ∀ b ∈ Y.fp, FpOk Y.X pins Y.H1 b) (I : Inv Y.Xg ps σ' H' s1) (A : Aft [] s1 s2) : Inv Y.X pins σ H' s2 := by
  have k : ∀ b o, s1.heap.get? b = some o → s2.heap.get? b = some o := fun b o e => A.keep b o (by simp) e
  exact I4.call' (ch := Y.fp) (A.os.trans I.os) (I.base.trans (Un.kept k)) (I.hok.kept k) A.bare fun b hb => ⟨(hf b hb).2.2.2.1, (hf b hb).2.1, (hf b hb).2.2.2.2.1, (hf b hb).2.2.2.2.2⟩
/-- next(g) -/
theorem GEx.next {Y : GEx} {A : Around} {Q : Option Value → Shared → Prop} {E : Value → Shared → Prop} {n : Nat} {ys : List V} {H : Hp} {gs : GenState} {sp s : Shared} (O : Y.Ok) (hB : Y.B = A.in1) (hh : A.handled = none) (hroom : A.depth < recursionLimit) (nl : s.heap.NoLimit)
    (rd : Y.Rdy n ys H gs sp) (af : Aft Y.Sx sp s) (hg : s.heap.IsGen Y.a Y.g) (hgs : s.gens[Y.g]? = some gs) (hlt : Y.g < s.gens.size)
    (qN : ∀ σ' H' s1 s2, Inv Y.Xg (Y.pn s) σ' H' s1 → Y.F ys H' → Aft [] s1 s2 → Q none s2)
    (qS : ∀ v y σ' H' s1 gs', Inv Y.Xg (Y.pn s) σ' H' s1 → RelV y v → Y.C ys y H' (Y.Rp n (ys ++ [y]) H' gs' s1) → gs'.bare = true → s.gens.size ≤ s1.gens.size → Q (some v) (s1.setGen Y.g gs')) : wpAny Y.M A (pyNext (.ref Y.a)) Q E s := by
  have go := (GEx.rdy_iff Y n ys H gs sp).mp rd s af
  rw [hB] at go
  refine next1 hh nl hroom hg hgs go fun e s1 z hsz => ?_
  rcases z with ⟨rfl, σ', H', I, f⟩ | ⟨v, l, k, c, p, fs, y, σ', H', rfl, q, I, r, cc⟩
  · exact .inl ⟨rfl, fun h' kk => qN σ' H' s1 _ I f ⟨rfl, allBare_setGen I.bare rfl, fun b o _ e => kk b o e, fun b z => by cases z⟩⟩
  · exact .inr ⟨v, l, k, c, p, fs, rfl, q, qS v y σ' H' s1 _ I r cc (bare_of q) hsz⟩

/-! ### all, any -/
/-- stop at the first value that is e -/
def eTill (e : Bool) (Qd : Bool → Hp → Prop) : Eats := fun _ y H go => ∃ b, y = .bl b ∧ if b = e then Qd e H else go
theorem eTill_mono {e : Bool} {Qd : Bool → Hp → Prop} : EatsMono (eTill e Qd) := fun ys y H p q h ⟨b, hb, z⟩ => ⟨b, hb, by
  by_cases hbe : b = e
  · rw [if_pos hbe] at z ⊢; exact z
  · rw [if_neg hbe] at z ⊢; exact h z⟩
section
variable {Y : GEx} {Qd : Bool → Hp → Prop} {R : Result → Shared → Prop} {A : Around}
theorem all_loop1 (O : Y.Ok) (hB : Y.B = A.in1.in1) (hS : Y.Sx = []) (hC : Y.C = eTill false Qd) (hF : Y.F = fun _ H => Qd true H) (hh : A.handled = none) (hroom : A.depth < recursionLimit)
    (hR : ∀ k ps σ' H' s1 s2, Inv Y.Xg ps σ' H' s1 → Aft [] s1 s2 → Qd k H' → R (.ok (.ret (.bool k))) s2) : ∀ (n : Nat) (ys : List V) (H : Hp) (gs : GenState) (sp s : Shared), Y.Rdy n ys H gs sp → Aft Y.Sx sp s → s.heap.IsGen Y.a Y.g → s.gens[Y.g]? = some gs → s.heap.NoLimit →
      codeAny Y.M A (.builtin "all.loop" ⟨[.ref Y.a], []⟩) R s := by
  intro n
  induction n with
  | zero =>
    intro ys H gs sp s rd af hg hgs nl
    refine codeAny_builtin PySem.F.entry_all_loop ?_
    rw [Around.under_plainId PySem.F.plain_all_loop _]
    show wpAny _ A.in1 (pyNext (.ref Y.a) >>= _) _ _ s
    refine wpAny_bind (GEx.next O hB hh hroom nl rd af hg hgs (Array.getElem?_eq_some_iff.mp hgs).1 (fun σ' H' s1 s2 I f a => ?_) fun v y σ' H' s1 gs' I r c hb hsz => ?_)
    · rw [hF] at f
      exact wpAny_bind (wpAny_rule (wpAny_pure (hR true _ σ' H' s1 s2 I a f)))
    · rw [hC] at c
      obtain ⟨b, rfl, c⟩ := c
      obtain rfl : v = .bool b := r
      refine wpAny_bind (wpAny_holding (wpAny_truthy_bool ?_))
      refine wpAny_bind (wpAny_letGo ?_)
      cases b with
      | true => exact (show False from c).elim
      | false =>
        simp only [Bool.false_eq_true, if_false]
        exact wpAny_bind (wpAny_rule (wpAny_pure (hR false _ σ' H' s1 _ I ⟨rfl, allBare_setGen I.bare hb, fun _ _ _ e => e, fun b z => by cases z⟩ c)))
  | succ n ih =>
    intro ys H gs sp s rd af hg hgs nl
    refine codeAny_builtin PySem.F.entry_all_loop ?_
    rw [Around.under_plainId PySem.F.plain_all_loop _]
    show wpAny _ A.in1 (pyNext (.ref Y.a) >>= _) _ _ s
    refine wpAny_bind (GEx.next O hB hh hroom nl rd af hg hgs (Array.getElem?_eq_some_iff.mp hgs).1 (fun σ' H' s1 s2 I f a => ?_) fun v y σ' H' s1 gs' I r c hb hsz => ?_)
    · rw [hF] at f
      exact wpAny_bind (wpAny_rule (wpAny_pure (hR true _ σ' H' s1 s2 I a f)))
    · rw [hC] at c
      obtain ⟨b, rfl, c⟩ := c
      obtain rfl : v = .bool b := r
      refine wpAny_bind (wpAny_holding (wpAny_truthy_bool ?_))
      refine wpAny_bind (wpAny_letGo ?_)
      cases b with
      | true =>
        simp only [if_true]
        obtain ⟨o, n1, n2, e, r⟩ := hg
        refine wpAny_pure ⟨plainId_quiet PySem.F.plain_all_loop _, ih _ H' gs' s1 (s1.setGen Y.g gs') c (by rw [hS]; exact ⟨rfl, allBare_setGen I.bare hb, fun _ _ _ e => e, fun b z => by cases z⟩) ⟨o, n1, n2, (O.pinned I List.mem_cons_self e).1, r⟩ (setGen_at (Nat.lt_of_lt_of_le (Array.getElem?_eq_some_iff.mp hgs).1 hsz)) I.nolimit⟩
      | false =>
        simp only [Bool.false_eq_true, if_false]
        exact wpAny_bind (wpAny_rule (wpAny_pure (hR false _ σ' H' s1 _ I ⟨rfl, allBare_setGen I.bare hb, fun _ _ _ e => e, fun b z => by cases z⟩ c)))
theorem any_loop1 (O : Y.Ok) (hB : Y.B = A.in1.in1) (hS : Y.Sx = []) (hC : Y.C = eTill true Qd) (hF : Y.F = fun _ H => Qd false H) (hh : A.handled = none) (hroom : A.depth < recursionLimit)
    (hR : ∀ k ps σ' H' s1 s2, Inv Y.Xg ps σ' H' s1 → Aft [] s1 s2 → Qd k H' → R (.ok (.ret (.bool k))) s2) : ∀ (n : Nat) (ys : List V) (H : Hp) (gs : GenState) (sp s : Shared), Y.Rdy n ys H gs sp → Aft Y.Sx sp s → s.heap.IsGen Y.a Y.g → s.gens[Y.g]? = some gs → s.heap.NoLimit →
      codeAny Y.M A (.builtin "any.loop" ⟨[.ref Y.a], []⟩) R s := by
  intro n
  induction n with
  | zero =>
    intro ys H gs sp s rd af hg hgs nl
    refine codeAny_builtin PySem.F.entry_any_loop ?_
    rw [Around.under_plainId PySem.F.plain_any_loop _]
    show wpAny _ A.in1 (pyNext (.ref Y.a) >>= _) _ _ s
    refine wpAny_bind (GEx.next O hB hh hroom nl rd af hg hgs (Array.getElem?_eq_some_iff.mp hgs).1 (fun σ' H' s1 s2 I f a => ?_) fun v y σ' H' s1 gs' I r c hb hsz => ?_)
    · rw [hF] at f
      exact wpAny_bind (wpAny_rule (wpAny_pure (hR false _ σ' H' s1 s2 I a f)))
    · rw [hC] at c
      obtain ⟨b, rfl, c⟩ := c
      obtain rfl : v = .bool b := r
      refine wpAny_bind (wpAny_holding (wpAny_truthy_bool ?_))
      refine wpAny_bind (wpAny_letGo ?_)
      cases b with
      | false => exact (show False from c).elim
      | true =>
        simp only [if_true]
        exact wpAny_bind (wpAny_rule (wpAny_pure (hR true _ σ' H' s1 _ I ⟨rfl, allBare_setGen I.bare hb, fun _ _ _ e => e, fun b z => by cases z⟩ c)))
  | succ n ih =>
    intro ys H gs sp s rd af hg hgs nl
    refine codeAny_builtin PySem.F.entry_any_loop ?_
    rw [Around.under_plainId PySem.F.plain_any_loop _]
    show wpAny _ A.in1 (pyNext (.ref Y.a) >>= _) _ _ s
    refine wpAny_bind (GEx.next O hB hh hroom nl rd af hg hgs (Array.getElem?_eq_some_iff.mp hgs).1 (fun σ' H' s1 s2 I f a => ?_) fun v y σ' H' s1 gs' I r c hb hsz => ?_)
    · rw [hF] at f
      exact wpAny_bind (wpAny_rule (wpAny_pure (hR false _ σ' H' s1 s2 I a f)))
    · rw [hC] at c
      obtain ⟨b, rfl, c⟩ := c
      obtain rfl : v = .bool b := r
      refine wpAny_bind (wpAny_holding (wpAny_truthy_bool ?_))
      refine wpAny_bind (wpAny_letGo ?_)
      cases b with
      | false =>
        simp only [Bool.false_eq_true, if_false]
        obtain ⟨o, n1, n2, e, r⟩ := hg
        refine wpAny_pure ⟨plainId_quiet PySem.F.plain_any_loop _, ih _ H' gs' s1 (s1.setGen Y.g gs') c (by rw [hS]; exact ⟨rfl, allBare_setGen I.bare hb, fun _ _ _ e => e, fun b z => by cases z⟩) ⟨o, n1, n2, (O.pinned I List.mem_cons_self e).1, r⟩ (setGen_at (Nat.lt_of_lt_of_le (Array.getElem?_eq_some_iff.mp hgs).1 hsz)) I.nolimit⟩
      | true =>
        simp only [if_true]
        exact wpAny_bind (wpAny_rule (wpAny_pure (hR true _ σ' H' s1 _ I ⟨rfl, allBare_setGen I.bare hb, fun _ _ _ e => e, fun b z => by cases z⟩ c)))
end
section
variable {X : Cx}
/-- all (e = false), any (e = true) of elt for target in iter if ..; the running def's table at P may have grown -/
def tTill (e : Bool) (P : Addr) (wi : TI) (g : TG) (tt : TT) (te : TE) (vs : List Nat) : TE := fun σ H Q => wi σ H fun J H1 => TabG H1 P ∧ ∀ H2, Tabbed P H1 H2 →
  ∃ W : Nat → Nat → Hp → Prop, (∃ m, W 0 m H2) ∧ ∀ i m H, W i m H → (J.stop i H ∧ Q (.bl (!e)) H) ∨ (J.go i H ∧ ∃ Nx : Hp → Prop, (∀ H', Nx H' → ∃ m', m' < m ∧ W (i + 1) m' H') ∧
    ∀ x H', J.yld i H x H' → g x (wipe σ vs) H' fun σ2 H2 => wipe σ2 vs = wipe σ vs ∧ tt σ2 H2 fun b H3 => if b = true then te σ2 H3 fun y H4 => ∃ b, y = .bl b ∧ if b = e then Q (.bl e) H4 else Nx H4 else Nx H3)
abbrev RetQ (Q : Value → Shared → Prop) (E : Value → Shared → Prop) : Result → Shared → Prop := fun r s' => match r with | .ok (.ret v) => Q v s' | .ok _ => False | .error e => E e s'
theorem call_allP {P : Program} {w : World} {A : Around} {Q : Value → Shared → Prop} {E : Value → Shared → Prop} {s : Shared} {a g : Addr} (hg : s.heap.IsGen a g)
    (h : codeAny (model P w) A (.builtin "all.loop" ⟨[.ref a], []⟩) (RetQ Q E) s) : wpAny (model P w) A (call (.builtin "all") [.ref a]) Q E s := by
  refine call_function_tree PySem.F.kind_all PySem.F.plain_all PySem.F.entry_all (PySem.F.args_all1 _) ?_
  unfold Builtin.«all»
  refine wpAny_bind (wpAny_pure ?_)
  exact wpAny_bind (wpAny_pyIter_gen hg (wpAny_pure ⟨plainId_quiet PySem.F.plain_all_loop _, h⟩))
theorem call_anyP {P : Program} {w : World} {A : Around} {Q : Value → Shared → Prop} {E : Value → Shared → Prop} {s : Shared} {a g : Addr} (hg : s.heap.IsGen a g)
    (h : codeAny (model P w) A (.builtin "any.loop" ⟨[.ref a], []⟩) (RetQ Q E) s) : wpAny (model P w) A (call (.builtin "any") [.ref a]) Q E s := by
  refine call_function_tree PySem.F.kind_any PySem.F.plain_any PySem.F.entry_any (PySem.F.args_any1 _) ?_
  unfold Builtin.«any»
  refine wpAny_bind (wpAny_pure ?_)
  exact wpAny_bind (wpAny_pyIter_gen hg (wpAny_pure ⟨plainId_quiet PySem.F.plain_any_loop _, h⟩))
/-- the places where the generator's frame may stand -/
abbrev GPG (X : Cx) (k : Nat) (scope : Scope) (tg : Expr) (g : TG) : Prop := ∀ (s : Shared) (H : Hp) (C : Addr) (cl : List (Str × Addr)) (code : Value) (fp : List Addr) (A : Around), Room k A → PG (gcx X s H (genEnv scope cl C code builtinsNs X.env) fp A) tg g
abbrev GPT (X : Cx) (k : Nat) (scope : Scope) (ifs : List Expr) (t : TT) : Prop := ∀ (s : Shared) (H : Hp) (C : Addr) (cl : List (Str × Addr)) (code : Value) (fp : List Addr) (A : Around), Room k A → PTs (gcx X s H (genEnv scope cl C code builtinsNs X.env) fp A) ifs t
abbrev GPE (X : Cx) (k : Nat) (scope : Scope) (e : Expr) (t : TE) : Prop := ∀ (s : Shared) (H : Hp) (C : Addr) (cl : List (Str × Addr)) (code : Value) (fp : List Addr) (A : Around), Room k A → PE (gcx X s H (genEnv scope cl C code builtinsNs X.env) fp A) e t
theorem tTill_step {e : Bool} {J : It} {g : TG} {tt : TT} {te : TE} {vs : List Nat} {σ : L2.St} {Q : VK} {W : Nat → Nat → Hp → Prop}
    (h : ∀ i m H, W i m H → (J.stop i H ∧ Q (.bl (!e)) H) ∨ (J.go i H ∧ ∃ Nx : Hp → Prop, (∀ H', Nx H' → ∃ m', m' < m ∧ W (i + 1) m' H') ∧
      ∀ x H', J.yld i H x H' → g x (wipe σ vs) H' fun σ2 H2 => wipe σ2 vs = wipe σ vs ∧ tt σ2 H2 fun b H3 => if b = true then te σ2 H3 fun y H4 => ∃ b, y = .bl b ∧ if b = e then Q (.bl e) H4 else Nx H4 else Nx H3)) :
    GStep (fun i m _ H => W i m H) J g tt te vs (wipe σ vs) (eTill e fun b H => Q (.bl b) H) (fun _ H => Q (.bl (!e)) H) := fun i m ys H w => by
  rcases h i m H w with z | ⟨go, Nx, hN, st⟩
  · exact .inl z
  · exact .inr ⟨go, fun _ H => Nx H, fun _ H' nx => hN H' nx, st⟩
section
variable {c P : Addr} {elt tg iter : Expr} {ifs : List Expr} {scope : Scope} {own : List (Str × Nat)} {p pos gpos : Pos} {wi : TI} {g : TG} {tt : TT} {te : TE} {k : Nat}
theorem pe_allG (hr : Room (k + 1) X.A) (hn : X.N.Nodup) (hgl : Gl X "all") (hm : X.mg "all" = none) (TB : LamX.TabB X.base X.mg c P) (hcode : X.env.code = .ref c) (G : GScp scope) (ok : BlkOk X.N X.env.scope scope own) (hi : PI X tg iter wi)
    (hg : GPG X k scope tg g) (ht : GPT X k scope ifs tt) (he : GPE X k scope elt te) (hb : bootBuiltins "all" = some (.builtin "all") := by first | rfl | decide +kernel) (hs : ∀ v, genFold iter X.env v = pure v := by intro _; rfl)
    (hst : starEach [.GeneratorExp elt [⟨tg, iter, ifs, 0⟩] scope gpos] X.env = (false, eval (.GeneratorExp elt [⟨tg, iter, ifs, 0⟩] scope gpos) X.env) :: starEach [] X.env := by rfl) :
    PE X (.Call (.Name "all" p) [.GeneratorExp elt [⟨tg, iter, ifs, 0⟩] scope gpos] [] pos) (tTill false P wi g tt te (own.map (·.2))) := by
  refine ⟨fun pins s σ H Q I h => ?_⟩
  refine wpAny_Call_Name_kw (ld_blt I hgl hm hb ?_)
  refine PyProof.Rows.callWith_builtin1 ?_ hst (by rfl)
  rw [hst]
  show wpAny _ _ (spliced ((false, eval (.GeneratorExp elt [⟨tg, iter, ifs, 0⟩] scope gpos) X.env) :: backTo pos (starEach [] X.env))) _ _ s
  refine Calls.spliced_cons (gen_made (R := fun J H1 => _) hr TB hcode G ok hi hs I h fun J H1 H2 s4 cenv fp it tn a gn s5 q tb M => ?_)
  refine Calls.spliced_nil (call_allP M.isg ?_)
  obtain ⟨W, ⟨m, w0⟩, st⟩ := q H2 tb
  obtain ⟨code, hce⟩ := M.env
  subst hce
  obtain ⟨O, rd⟩ := gen_rdy (B := X.A.in1.in1) (Sx := []) hr (nearA2 _) G ok hn M (fun A r => hg _ _ _ _ _ _ A r) (fun A r => ht _ _ _ _ _ _ A r) (fun A r => he _ _ _ _ _ _ A r) (fun b z => by cases z) eTill_mono (tTill_step st) m w0
  refine all_loop1 (Qd := fun b H => Q (.bl b) H) (Y := mkY X s4 H2 _ fp X.A.in1.in1 (wipe σ (own.map (·.2))) (.GeneratorExp elt [⟨tg, iter, ifs, 0⟩] scope gpos) it a gn [] (eTill false fun b H => Q (.bl b) H) (fun _ H => Q (.bl (!false)) H)) O rfl rfl rfl rfl hr.hd hr.depth (fun k ps σ' H' s1 s2 I' af q => ?_) m [] H2 _ s5 s5 rd (Aft.refl ?_) M.isg ?_ ?_
  · exact ⟨.bl k, H', GEx.out (Y := mkY X s4 H2 _ fp X.A.in1.in1 (wipe σ (own.map (·.2))) (.GeneratorExp elt [⟨tg, iter, ifs, 0⟩] scope gpos) it a gn [] (eTill false fun b H => Q (.bl b) H) (fun _ H => Q (.bl (!false)) H)) M.inv (fun b hb => (M.fps b hb).1) I' af, rfl, q⟩
  · rw [M.gens]
    exact M.inv.bare.push rfl
  · show s5.gens[gn]? = _
    rw [M.gens, M.num]
    simp
  · exact M.inv.nolimit.keeps M.keep
theorem pe_anyG (hr : Room (k + 1) X.A) (hn : X.N.Nodup) (hgl : Gl X "any") (hm : X.mg "any" = none) (TB : LamX.TabB X.base X.mg c P) (hcode : X.env.code = .ref c) (G : GScp scope) (ok : BlkOk X.N X.env.scope scope own) (hi : PI X tg iter wi)
    (hg : GPG X k scope tg g) (ht : GPT X k scope ifs tt) (he : GPE X k scope elt te) (hb : bootBuiltins "any" = some (.builtin "any") := by first | rfl | decide +kernel) (hs : ∀ v, genFold iter X.env v = pure v := by intro _; rfl)
    (hst : starEach [.GeneratorExp elt [⟨tg, iter, ifs, 0⟩] scope gpos] X.env = (false, eval (.GeneratorExp elt [⟨tg, iter, ifs, 0⟩] scope gpos) X.env) :: starEach [] X.env := by rfl) :
    PE X (.Call (.Name "any" p) [.GeneratorExp elt [⟨tg, iter, ifs, 0⟩] scope gpos] [] pos) (tTill true P wi g tt te (own.map (·.2))) := by
  refine ⟨fun pins s σ H Q I h => ?_⟩
  refine wpAny_Call_Name_kw (ld_blt I hgl hm hb ?_)
  refine PyProof.Rows.callWith_builtin1 ?_ hst (by rfl)
  rw [hst]
  show wpAny _ _ (spliced ((false, eval (.GeneratorExp elt [⟨tg, iter, ifs, 0⟩] scope gpos) X.env) :: backTo pos (starEach [] X.env))) _ _ s
  refine Calls.spliced_cons (gen_made (R := fun J H1 => _) hr TB hcode G ok hi hs I h fun J H1 H2 s4 cenv fp it tn a gn s5 q tb M => ?_)
  refine Calls.spliced_nil (call_anyP M.isg ?_)
  obtain ⟨W, ⟨m, w0⟩, st⟩ := q H2 tb
  obtain ⟨code, hce⟩ := M.env
  subst hce
  obtain ⟨O, rd⟩ := gen_rdy (B := X.A.in1.in1) (Sx := []) hr (nearA2 _) G ok hn M (fun A r => hg _ _ _ _ _ _ A r) (fun A r => ht _ _ _ _ _ _ A r) (fun A r => he _ _ _ _ _ _ A r) (fun b z => by cases z) eTill_mono (tTill_step st) m w0
  refine any_loop1 (Qd := fun b H => Q (.bl b) H) (Y := mkY X s4 H2 _ fp X.A.in1.in1 (wipe σ (own.map (·.2))) (.GeneratorExp elt [⟨tg, iter, ifs, 0⟩] scope gpos) it a gn [] (eTill true fun b H => Q (.bl b) H) (fun _ H => Q (.bl (!true)) H)) O rfl rfl rfl rfl hr.hd hr.depth (fun k ps σ' H' s1 s2 I' af q => ?_) m [] H2 _ s5 s5 rd (Aft.refl ?_) M.isg ?_ ?_
  · exact ⟨.bl k, H', GEx.out (Y := mkY X s4 H2 _ fp X.A.in1.in1 (wipe σ (own.map (·.2))) (.GeneratorExp elt [⟨tg, iter, ifs, 0⟩] scope gpos) it a gn [] (eTill true fun b H => Q (.bl b) H) (fun _ H => Q (.bl (!true)) H)) M.inv (fun b hb => (M.fps b hb).1) I' af, rfl, q⟩
  · rw [M.gens]
    exact M.inv.bare.push rfl
  · show s5.gens[gn]? = _
    rw [M.gens, M.num]
    simp
  · exact M.inv.nolimit.keeps M.keep
end
/-- .. of two clauses -/
def tTill2 (e : Bool) (P : Addr) (wi : TI) (g : TG) (tt : TT) (wi1 : TI) (g1 : TG) (tt1 : TT) (te : TE) (vs vs1 : List Nat) : TE := fun σ H Q => wi σ H fun J H1 => TabG H1 P ∧ ∀ H2, Tabbed P H1 H2 →
  ∃ W : Nat → Nat → Hp → Prop, (∃ m, W 0 m H2) ∧ ∀ i m H, W i m H → (J.stop i H ∧ Q (.bl (!e)) H) ∨ (J.go i H ∧ ∀ x H', J.yld i H x H' → g x (wipe σ vs) H' fun σ2 H2 => wipe σ2 vs = wipe σ vs ∧ tt σ2 H2 fun b H3 => if b = true then wi1 σ2 H3 fun J1 H4 =>
      ∃ W1 : Nat → Nat → Hp → Prop, (∃ m1, m1 < m ∧ W1 0 m1 H4) ∧ ∀ i1 m1 H, W1 i1 m1 H → (J1.stop i1 H ∧ ∃ m', m' ≤ m1 ∧ m' < m ∧ W (i + 1) m' H) ∨ (J1.go i1 H ∧ ∃ N1 : Hp → Prop, (∀ H', N1 H' → ∃ m', m' < m1 ∧ W1 (i1 + 1) m' H') ∧
        ∀ x1 H', J1.yld i1 H x1 H' → g1 x1 (wipe σ2 vs1) H' fun σ3 H5 => wipe σ3 vs1 = wipe σ2 vs1 ∧ tt1 σ3 H5 fun b1 H6 => if b1 = true then te σ3 H6 fun y H7 => ∃ b, y = .bl b ∧ if b = e then Q (.bl e) H7 else N1 H7 else N1 H6)
    else ∃ m', m' < m ∧ W (i + 1) m' H3)
theorem tTill2_step {e : Bool} {J : It} {wi1 : TI} {g g1 : TG} {tt tt1 : TT} {te : TE} {vs vs1 : List Nat} {σ : L2.St} {Q : VK} {W : Nat → Nat → Hp → Prop}
    (h : ∀ i m H, W i m H → (J.stop i H ∧ Q (.bl (!e)) H) ∨ (J.go i H ∧ ∀ x H', J.yld i H x H' → g x (wipe σ vs) H' fun σ2 H2 => wipe σ2 vs = wipe σ vs ∧ tt σ2 H2 fun b H3 => if b = true then wi1 σ2 H3 fun J1 H4 =>
      ∃ W1 : Nat → Nat → Hp → Prop, (∃ m1, m1 < m ∧ W1 0 m1 H4) ∧ ∀ i1 m1 H, W1 i1 m1 H → (J1.stop i1 H ∧ ∃ m', m' ≤ m1 ∧ m' < m ∧ W (i + 1) m' H) ∨ (J1.go i1 H ∧ ∃ N1 : Hp → Prop, (∀ H', N1 H' → ∃ m', m' < m1 ∧ W1 (i1 + 1) m' H') ∧
        ∀ x1 H', J1.yld i1 H x1 H' → g1 x1 (wipe σ2 vs1) H' fun σ3 H5 => wipe σ3 vs1 = wipe σ2 vs1 ∧ tt1 σ3 H5 fun b1 H6 => if b1 = true then te σ3 H6 fun y H7 => ∃ b, y = .bl b ∧ if b = e then Q (.bl e) H7 else N1 H7 else N1 H6)
    else ∃ m', m' < m ∧ W (i + 1) m' H3)) (hmono : ∀ σ2 H3 (R R' : It → Hp → Prop), (∀ J H, R J H → R' J H) → wi1 σ2 H3 R → wi1 σ2 H3 R')
    (gm : ∀ v σ H (R R' : L2.St → Hp → Prop), (∀ σ H, R σ H → R' σ H) → g v σ H R → g v σ H R') (tm : ∀ σ H (R R' : Bool → Hp → Prop), (∀ b H, R b H → R' b H) → tt σ H R → tt σ H R') :
    GStep2 (fun i m _ H => W i m H) J g tt wi1 g1 tt1 te vs vs1 (wipe σ vs) (eTill e fun b H => Q (.bl b) H) (fun _ H => Q (.bl (!e)) H) := fun i m ys H w => by
  rcases h i m H w with z | ⟨go, st⟩
  · exact .inl z
  · refine .inr ⟨go, fun x H' y => gm _ _ _ _ _ (fun σ2 H2 q => ⟨q.1, tm _ _ _ _ (fun b H3 q2 => ?_) q.2⟩) (st x H' y)⟩
    cases b with
    | false => exact q2
    | true =>
      refine hmono _ _ _ _ (fun J1 H4 q3 => ?_) q2
      obtain ⟨W1, ⟨m1, h1, w1⟩, st1⟩ := q3
      refine ⟨fun i m _ H => W1 i m H, ⟨m1, h1, w1⟩, fun i1 m2 ys2 H5 w2 => ?_⟩
      rcases st1 i1 m2 H5 w2 with z | ⟨go1, N1, hN, s1⟩
      · exact .inl z
      · exact .inr ⟨go1, fun _ H => N1 H, fun _ H' n => hN H' n, s1⟩
section
variable {c P : Addr} {elt tg iter tg1 iter1 : Expr} {ifs ifs1 : List Expr} {scope : Scope} {own : List (Str × Nat)} {vs1 : List Nat} {p pos gpos : Pos} {wi wi1 : TI} {g g1 : TG} {tt tt1 : TT} {te : TE} {k : Nat}
/-- the places where the second clause's iterator is made -/
abbrev GPI (X : Cx) (k : Nat) (scope : Scope) (tg e : Expr) (t : TI) : Prop := ∀ (s : Shared) (H : Hp) (C : Addr) (cl : List (Str × Addr)) (code : Value) (fp : List Addr) (A : Around), Room k A → PI (gcx X s H (genEnv scope cl C code builtinsNs X.env) fp A) tg e t
theorem pe_anyG2 (hr : Room (k + 1) X.A) (hn : X.N.Nodup) (hgl : Gl X "any") (hm : X.mg "any" = none) (TB : LamX.TabB X.base X.mg c P) (hcode : X.env.code = .ref c) (G : GScp scope) (ok : BlkOk X.N X.env.scope scope own) (hvs : ∀ v ∈ vs1, v ∈ own.map (·.2)) (hi : PI X tg iter wi)
    (hg : GPG X k scope tg g) (ht : GPT X k scope ifs tt) (hi1 : GPI X k scope tg1 iter1 wi1) (hg1 : GPG X k scope tg1 g1) (ht1 : GPT X k scope ifs1 tt1) (he : GPE X k scope elt te)
    (hmono : ∀ σ2 H3 (R R' : It → Hp → Prop), (∀ J H, R J H → R' J H) → wi1 σ2 H3 R → wi1 σ2 H3 R') (gm : ∀ v σ H (R R' : L2.St → Hp → Prop), (∀ σ H, R σ H → R' σ H) → g v σ H R → g v σ H R') (tm : ∀ σ H (R R' : Bool → Hp → Prop), (∀ b H, R b H → R' b H) → tt σ H R → tt σ H R')
    (hb : bootBuiltins "any" = some (.builtin "any") := by first | rfl | decide +kernel) (hs : ∀ v, genFold iter X.env v = pure v := by intro _; rfl) (hs1 : ∀ (C : Addr) (cl : List (Str × Addr)) (code : Value) x, foldedSetIterable iter1 (genEnv scope cl C code builtinsNs X.env) x = pure x := by intro _ _ _ _; rfl)
    (hst : starEach [.GeneratorExp elt [⟨tg, iter, ifs, 0⟩, ⟨tg1, iter1, ifs1, 0⟩] scope gpos] X.env = (false, eval (.GeneratorExp elt [⟨tg, iter, ifs, 0⟩, ⟨tg1, iter1, ifs1, 0⟩] scope gpos) X.env) :: starEach [] X.env := by rfl) :
    PE X (.Call (.Name "any" p) [.GeneratorExp elt [⟨tg, iter, ifs, 0⟩, ⟨tg1, iter1, ifs1, 0⟩] scope gpos] [] pos) (tTill2 true P wi g tt wi1 g1 tt1 te (own.map (·.2)) vs1) := by
  refine ⟨fun pins s σ H Q I h => ?_⟩
  refine wpAny_Call_Name_kw (ld_blt I hgl hm hb ?_)
  refine PyProof.Rows.callWith_builtin1 ?_ hst (by rfl)
  rw [hst]
  show wpAny _ _ (spliced ((false, eval (.GeneratorExp elt [⟨tg, iter, ifs, 0⟩, ⟨tg1, iter1, ifs1, 0⟩] scope gpos) X.env) :: backTo pos (starEach [] X.env))) _ _ s
  refine Calls.spliced_cons (gen_made (R := fun J H1 => _) hr TB hcode G ok hi hs I h fun J H1 H2 s4 cenv fp it tn a gn s5 q tb M => ?_)
  refine Calls.spliced_nil (call_anyP M.isg ?_)
  obtain ⟨W, ⟨m, w0⟩, st⟩ := q H2 tb
  obtain ⟨code, hce⟩ := M.env
  subst hce
  obtain ⟨O, rd⟩ := gen_rdy2 (B := X.A.in1.in1) (Sx := []) hr (nearA2 _) G ok hn hvs M (fun A r => hg _ _ _ _ _ _ A r) (fun A r => ht _ _ _ _ _ _ A r) (fun A r => hi1 _ _ _ _ _ _ A r) (hs1 _ _ _) (fun A r => hg1 _ _ _ _ _ _ A r) (fun A r => ht1 _ _ _ _ _ _ A r) (fun A r => he _ _ _ _ _ _ A r) (fun b z => by cases z) eTill_mono (tTill2_step st hmono gm tm) m w0
  refine any_loop1 (Qd := fun b H => Q (.bl b) H) (Y := mkY X s4 H2 _ fp X.A.in1.in1 (wipe σ (own.map (·.2))) (.GeneratorExp elt [⟨tg, iter, ifs, 0⟩, ⟨tg1, iter1, ifs1, 0⟩] scope gpos) it a gn [] (eTill true fun b H => Q (.bl b) H) (fun _ H => Q (.bl (!true)) H)) O rfl rfl rfl rfl hr.hd hr.depth (fun k ps σ' H' s1 s2 I' af q => ?_) m [] H2 _ s5 s5 rd (Aft.refl ?_) M.isg ?_ ?_
  · exact ⟨.bl k, H', GEx.out (Y := mkY X s4 H2 _ fp X.A.in1.in1 (wipe σ (own.map (·.2))) (.GeneratorExp elt [⟨tg, iter, ifs, 0⟩, ⟨tg1, iter1, ifs1, 0⟩] scope gpos) it a gn [] (eTill true fun b H => Q (.bl b) H) (fun _ H => Q (.bl (!true)) H)) M.inv (fun b hb => (M.fps b hb).1) I' af, rfl, q⟩
  · rw [M.gens]
    exact M.inv.bare.push rfl
  · show s5.gens[gn]? = _
    rw [M.gens, M.num]
    simp
  · exact M.inv.nolimit.keeps M.keep
end
end

/-! ### the forms one uses -/
def gscpB (sc : Scope) : Bool := !sc.isCoroutine && decide (sc.kind = .function) && (sc.names.all fun y => !decide (y.2 = .cell)) && decide (sc.names.lookup (".0" : Str) = some NameKind.local)
theorem gscp_by {sc : Scope} (h : gscpB sc = true) : GScp sc := by
  unfold gscpB at h
  simp only [Bool.and_eq_true, Bool.not_eq_true', decide_eq_true_eq, List.all_eq_true, decide_eq_false_iff_not] at h
  obtain ⟨⟨⟨h1, h2⟩, h3⟩, h4⟩ := h
  exact ⟨h1, h2, h3, h4⟩
section
variable {e : Bool} {K : PySem.W.Frag} {a : Addr} {xs : List V} {g : TG} {tt : TT} {te : TE} {vs : List Nat} {σ : L2.St} {H2 : Hp} {Q : VK}
/-- over a list that the element leaves as it is -/
theorem till_list (Pv : Nat → Hp → Prop) (h0 : Pv 0 H2) (hl : ∀ i H, i ≤ xs.length → Pv i H → SqL K H a xs)
    (hs : ∀ i x H, xs[i]? = some x → Pv i H → g x (wipe σ vs) H fun σ2 H2 => wipe σ2 vs = wipe σ vs ∧ tt σ2 H2 fun b H3 => if b = true then te σ2 H3 fun y H4 => ∃ b, y = .bl b ∧ if b = e then Q (.bl e) H4 else Pv (i + 1) H4 else Pv (i + 1) H3) (hd : ∀ H, Pv xs.length H → Q (.bl (!e)) H) :
    ∃ W : Nat → Nat → Hp → Prop, (∃ m, W 0 m H2) ∧ ∀ i m H, W i m H → ((Itl K a).stop i H ∧ Q (.bl (!e)) H) ∨ ((Itl K a).go i H ∧ ∃ Nx : Hp → Prop, (∀ H', Nx H' → ∃ m', m' < m ∧ W (i + 1) m' H') ∧
      ∀ x H', (Itl K a).yld i H x H' → g x (wipe σ vs) H' fun σ2 H2 => wipe σ2 vs = wipe σ vs ∧ tt σ2 H2 fun b H3 => if b = true then te σ2 H3 fun y H4 => ∃ b, y = .bl b ∧ if b = e then Q (.bl e) H4 else Nx H4 else Nx H3) := by
  refine ⟨fun i m H => m = xs.length - i ∧ i ≤ xs.length ∧ Pv i H, ⟨xs.length, by simp, Nat.zero_le _, h0⟩, fun i m H w => ?_⟩
  obtain ⟨hm, hi, p⟩ := w
  have q := hl i H hi p
  rcases Nat.lt_or_ge i xs.length with z | z
  · refine .inr ⟨⟨xs, xs[i], q, by simp [z]⟩, Pv (i + 1), fun H' p' => ⟨xs.length - (i + 1), by omega, rfl, z, p'⟩, fun x H' y => ?_⟩
    obtain ⟨rfl, y⟩ := y
    exact hs i x _ (y xs q) p
  · obtain rfl : i = xs.length := by omega
    exact .inl ⟨⟨xs, q, Nat.le_refl _⟩, hd H p⟩
/-- over a tuple -/
theorem till_tup (Pv : Nat → Hp → Prop) (h0 : Pv 0 H2) (hl : ∀ i H, i ≤ xs.length → Pv i H → SqT K H a xs)
    (hs : ∀ i x H, xs[i]? = some x → Pv i H → g x (wipe σ vs) H fun σ2 H2 => wipe σ2 vs = wipe σ vs ∧ tt σ2 H2 fun b H3 => if b = true then te σ2 H3 fun y H4 => ∃ b, y = .bl b ∧ if b = e then Q (.bl e) H4 else Pv (i + 1) H4 else Pv (i + 1) H3) (hd : ∀ H, Pv xs.length H → Q (.bl (!e)) H) :
    ∃ W : Nat → Nat → Hp → Prop, (∃ m, W 0 m H2) ∧ ∀ i m H, W i m H → ((Itt K a).stop i H ∧ Q (.bl (!e)) H) ∨ ((Itt K a).go i H ∧ ∃ Nx : Hp → Prop, (∀ H', Nx H' → ∃ m', m' < m ∧ W (i + 1) m' H') ∧
      ∀ x H', (Itt K a).yld i H x H' → g x (wipe σ vs) H' fun σ2 H2 => wipe σ2 vs = wipe σ vs ∧ tt σ2 H2 fun b H3 => if b = true then te σ2 H3 fun y H4 => ∃ b, y = .bl b ∧ if b = e then Q (.bl e) H4 else Nx H4 else Nx H3) := by
  refine ⟨fun i m H => m = xs.length - i ∧ i ≤ xs.length ∧ Pv i H, ⟨xs.length, by simp, Nat.zero_le _, h0⟩, fun i m H w => ?_⟩
  obtain ⟨hm, hi, p⟩ := w
  have q := hl i H hi p
  rcases Nat.lt_or_ge i xs.length with z | z
  · refine .inr ⟨⟨xs, xs[i], q, by simp [z]⟩, Pv (i + 1), fun H' p' => ⟨xs.length - (i + 1), by omega, rfl, z, p'⟩, fun x H' y => ?_⟩
    obtain ⟨rfl, y⟩ := y
    exact hs i x _ (y xs q) p
  · obtain rfl : i = xs.length := by omega
    exact .inl ⟨⟨xs, q, Nat.le_refl _⟩, hd H p⟩
/-- two clauses, both over lists: the outer one -/
def W2 (n ny : Nat) (Pv : Nat → Hp → Prop) (i m : Nat) (H : Hp) : Prop := i ≤ n ∧ m = (n - i) * (ny + 2) ∧ Pv i H
variable {wi1 : TI} {g1 : TG} {tt1 : TT} {vs1 : List Nat} {ny : Nat}
theorem till2_list (ny : Nat) (Pv : Nat → Hp → Prop) (h0 : Pv 0 H2) (hl : ∀ i H, i ≤ xs.length → Pv i H → SqL K H a xs)
    (hs : ∀ i x H, i < xs.length → xs[i]? = some x → Pv i H → g x (wipe σ vs) H fun σ2 H2 => wipe σ2 vs = wipe σ vs ∧ tt σ2 H2 fun b H3 => if b = true then wi1 σ2 H3 fun J1 H4 =>
      ∃ W1 : Nat → Nat → Hp → Prop, (∃ m1, m1 < (xs.length - i) * (ny + 2) ∧ W1 0 m1 H4) ∧ ∀ i1 m1 H, W1 i1 m1 H → (J1.stop i1 H ∧ ∃ m', m' ≤ m1 ∧ m' < (xs.length - i) * (ny + 2) ∧ W2 xs.length ny Pv (i + 1) m' H) ∨ (J1.go i1 H ∧ ∃ N1 : Hp → Prop, (∀ H', N1 H' → ∃ m', m' < m1 ∧ W1 (i1 + 1) m' H') ∧
        ∀ x1 H', J1.yld i1 H x1 H' → g1 x1 (wipe σ2 vs1) H' fun σ3 H5 => wipe σ3 vs1 = wipe σ2 vs1 ∧ tt1 σ3 H5 fun b1 H6 => if b1 = true then te σ3 H6 fun y H7 => ∃ b, y = .bl b ∧ if b = e then Q (.bl e) H7 else N1 H7 else N1 H6)
      else ∃ m', m' < (xs.length - i) * (ny + 2) ∧ W2 xs.length ny Pv (i + 1) m' H3) (hd : ∀ H, Pv xs.length H → Q (.bl (!e)) H) :
    ∃ W : Nat → Nat → Hp → Prop, (∃ m, W 0 m H2) ∧ ∀ i m H, W i m H → ((Itl K a).stop i H ∧ Q (.bl (!e)) H) ∨ ((Itl K a).go i H ∧ ∀ x H', (Itl K a).yld i H x H' → g x (wipe σ vs) H' fun σ2 H2 => wipe σ2 vs = wipe σ vs ∧ tt σ2 H2 fun b H3 => if b = true then wi1 σ2 H3 fun J1 H4 =>
      ∃ W1 : Nat → Nat → Hp → Prop, (∃ m1, m1 < m ∧ W1 0 m1 H4) ∧ ∀ i1 m1 H, W1 i1 m1 H → (J1.stop i1 H ∧ ∃ m', m' ≤ m1 ∧ m' < m ∧ W (i + 1) m' H) ∨ (J1.go i1 H ∧ ∃ N1 : Hp → Prop, (∀ H', N1 H' → ∃ m', m' < m1 ∧ W1 (i1 + 1) m' H') ∧
        ∀ x1 H', J1.yld i1 H x1 H' → g1 x1 (wipe σ2 vs1) H' fun σ3 H5 => wipe σ3 vs1 = wipe σ2 vs1 ∧ tt1 σ3 H5 fun b1 H6 => if b1 = true then te σ3 H6 fun y H7 => ∃ b, y = .bl b ∧ if b = e then Q (.bl e) H7 else N1 H7 else N1 H6)
    else ∃ m', m' < m ∧ W (i + 1) m' H3) := by
  refine ⟨W2 xs.length ny Pv, ⟨_, Nat.zero_le _, rfl, h0⟩, fun i m H w => ?_⟩
  obtain ⟨hi, hm, p⟩ := w
  subst hm
  have q := hl i H hi p
  rcases Nat.lt_or_ge i xs.length with z | z
  · refine .inr ⟨⟨xs, xs[i], q, by simp [z]⟩, fun x H' y => ?_⟩
    obtain ⟨rfl, y⟩ := y
    exact hs i x _ z (y xs q) p
  · obtain rfl : i = xs.length := by omega
    exact .inl ⟨⟨xs, q, Nat.le_refl _⟩, hd H p⟩
/-- .. the inner one -/
theorem till2_in {n i : Nat} {b : Addr} {ys : List V} {σ2 : L2.St} {H4 : Hp} {Pv : Nat → Hp → Prop} (hi : i < n) (Pw : Nat → Hp → Prop) (h0 : Pw 0 H4) (hl : ∀ j H, j ≤ ys.length → Pw j H → SqL K H b ys)
    (hs : ∀ j x H, ys[j]? = some x → Pw j H → g1 x (wipe σ2 vs1) H fun σ3 H5 => wipe σ3 vs1 = wipe σ2 vs1 ∧ tt1 σ3 H5 fun b1 H6 => if b1 = true then te σ3 H6 fun y H7 => ∃ b, y = .bl b ∧ if b = e then Q (.bl e) H7 else Pw (j + 1) H7 else Pw (j + 1) H6) (hd : ∀ H, Pw ys.length H → Pv (i + 1) H) :
    ∃ W1 : Nat → Nat → Hp → Prop, (∃ m1, m1 < (n - i) * (ys.length + 2) ∧ W1 0 m1 H4) ∧ ∀ i1 m1 H, W1 i1 m1 H → ((Itl K b).stop i1 H ∧ ∃ m', m' ≤ m1 ∧ m' < (n - i) * (ys.length + 2) ∧ W2 n ys.length Pv (i + 1) m' H) ∨ ((Itl K b).go i1 H ∧ ∃ N1 : Hp → Prop, (∀ H', N1 H' → ∃ m', m' < m1 ∧ W1 (i1 + 1) m' H') ∧
        ∀ x1 H', (Itl K b).yld i1 H x1 H' → g1 x1 (wipe σ2 vs1) H' fun σ3 H5 => wipe σ3 vs1 = wipe σ2 vs1 ∧ tt1 σ3 H5 fun b1 H6 => if b1 = true then te σ3 H6 fun y H7 => ∃ b, y = .bl b ∧ if b = e then Q (.bl e) H7 else N1 H7 else N1 H6) := by
  have e1 : (n - i) * (ys.length + 2) = (n - (i + 1)) * (ys.length + 2) + (ys.length + 2) := by
    rw [show n - i = (n - (i + 1)) + 1 by omega, Nat.add_mul, Nat.one_mul]
  refine ⟨fun j m1 H => j ≤ ys.length ∧ m1 = (n - (i + 1)) * (ys.length + 2) + (ys.length - j) + 1 ∧ Pw j H, ⟨_, ?_, Nat.zero_le _, rfl, h0⟩, fun j m1 H w => ?_⟩
  · rw [e1]; omega
  · obtain ⟨hj, hm, p⟩ := w
    have q := hl j H hj p
    rcases Nat.lt_or_ge j ys.length with z | z
    · refine .inr ⟨⟨ys, ys[j], q, by simp [z]⟩, Pw (j + 1), fun H' p' => ⟨_, ?_, z, rfl, p'⟩, fun x H' y => ?_⟩
      · rw [hm]; omega
      · obtain ⟨rfl, y⟩ := y
        exact hs j x _ (y ys q) p
    · obtain rfl : j = ys.length := by omega
      exact .inl ⟨⟨ys, q, Nat.le_refl _⟩, (n - (i + 1)) * (ys.length + 2), by omega, by rw [e1]; omega, hi, rfl, hd H p⟩
end
theorem tYes_mono : ∀ (σ : L2.St) (H : Hp) (R R' : Bool → Hp → Prop), (∀ b H, R b H → R' b H) → tYes σ H R → tYes σ H R' := fun _ _ _ _ h q => h _ _ q
theorem gName_mono {i : Nat} : ∀ (v : V) (σ : L2.St) (H : Hp) (R R' : L2.St → Hp → Prop), (∀ σ H, R σ H → R' σ H) → gName i v σ H R → gName i v σ H R' := fun _ _ _ _ _ h q => h _ _ q
theorem iListV_mono {K : PySem.W.Frag} {i : Nat} : ∀ (σ : L2.St) (H : Hp) (R R' : It → Hp → Prop), (∀ J H, R J H → R' J H) → iList K (tVar i) σ H R → iList K (tVar i) σ H R' := fun _ _ _ _ h ⟨v, e, a, ea, s, q⟩ => ⟨v, e, a, ea, s, h _ _ q⟩
theorem yes_if {σ : L2.St} {H : Hp} {A B : Hp → Prop} (h : A H) : tYes σ H (fun b H3 => if b = true then A H3 else B H3) := by
  show (if true = true then A H else B H)
  exact (if_pos rfl).mpr h
end Sk

set_option Elab.async false
set_option linter.all false
set_option maxRecDepth 100000
set_option maxHeartbeats 4000000
namespace Sk
open PySem PySem.Spec PyProof.Rows L2 GenW GxR
/-! min over a generator expression whose element may call own defs -/
/-- the least of some -/
def mins : List Int → Int
  | [] => 0
  | z :: zs => zs.foldl (fun b z => if z < b then z else b) z
theorem mins_app {zs : List Int} {z : Int} (h : zs ≠ []) : mins (zs ++ [z]) = if z < mins zs then z else mins zs := by
  cases zs with
  | nil => exact absurd rfl h
  | cons y ys =>
    show (ys ++ [z]).foldl _ y = _
    rw [List.foldl_append]
    rfl
theorem mins_spec : ∀ {zs : List Int}, zs ≠ [] → mins zs ∈ zs ∧ ∀ z ∈ zs, mins zs ≤ z := by
  have go : ∀ (ys : List Int) (y : Int), ((ys.foldl (fun b z => if z < b then z else b) y) = y ∨ (ys.foldl (fun b z => if z < b then z else b) y) ∈ ys) ∧ (ys.foldl (fun b z => if z < b then z else b) y) ≤ y ∧ ∀ z ∈ ys, (ys.foldl (fun b z => if z < b then z else b) y) ≤ z := by
    intro ys
    induction ys with
    | nil => intro y; exact ⟨.inl rfl, Int.le_refl _, fun _ h => nomatch h⟩
    | cons x ys ih =>
      intro y
      obtain ⟨a, b, c⟩ := ih (if x < y then x else y)
      show (ys.foldl _ (if x < y then x else y) = y ∨ ys.foldl _ (if x < y then x else y) ∈ x :: ys) ∧ ys.foldl _ (if x < y then x else y) ≤ y ∧ _
      refine ⟨?_, Int.le_trans b (by split <;> omega), fun z hz => ?_⟩
      · rcases a with a | a
        · rw [a]
          split
          · exact .inr List.mem_cons_self
          · exact .inl rfl
        · exact .inr (List.mem_cons_of_mem _ a)
      · rcases List.mem_cons.mp hz with rfl | hz
        · exact Int.le_trans b (by split <;> omega)
        · exact c z hz
  intro zs h
  cases zs with
  | nil => exact absurd rfl h
  | cons y ys =>
    obtain ⟨a, b, c⟩ := go ys y
    refine ⟨?_, fun z hz => ?_⟩
    · rcases a with a | a
      · show ys.foldl _ y ∈ _
        rw [a]; exact List.mem_cons_self
      · exact List.mem_cons_of_mem _ a
    · rcases List.mem_cons.mp hz with rfl | hz
      · exact b
      · exact c z hz
/-- every value is a number -/
def eInt : Eats := fun _ y _ go => (∃ z, y = .int z) ∧ go
theorem eInt_mono : EatsMono eInt := fun _ _ _ _ _ f h => ⟨h.1, f h.2⟩
theorem int_inj {xs ys : List Int} (h : xs.map V.int = ys.map V.int) : xs = ys := (List.map_inj_right (fun a b e => V.int.inj e)).mp h
section
variable {Y : GEx} {σ : L2.St} {H : Hp} {s s0 s1 : Shared}
/-- the frame's state goes past what the consumer did -/
theorem GEx.Ok.past (O : Y.Ok) (I : Inv Y.Xg (Y.pn s0) σ H s) (there : ∀ b ∈ Y.a :: Y.Sx, ∃ o, s0.heap.get? b = some o) (A : Aft Y.Sx s s1) : Inv Y.Xg [] σ H s1 := by
  have hT : ∀ b ∈ Y.a :: Y.Sx, H b = none := fun b hb => by
    obtain ⟨o, e⟩ := there b hb
    exact (O.pinned I hb e).2
  have I0 : Inv Y.Xg [] σ H s := I.pins_of fun p hp => absurd (show p ∈ ([] : List (Addr × Obj)) ++ [] from hp) (by simp)
  have nt : ∀ b u, H b = some u → b ∉ Y.Sx := fun b u q hb => by rw [hT b (List.mem_cons_of_mem _ hb)] at q; cases q
  obtain ⟨z1, z2, z3, z4⟩ := A
  obtain ⟨hh, g', d, t, o⟩ := s1
  have ho : o = s.os := z1
  subst ho
  refine I0.step (h' := hh) (g' := g') (t' := t) (d' := d) (ch := Y.Sx) (fun b hb => ?_) (fun b ob _ _ hc q _ => z3 b ob hc q) (fun b ob _ _ hc q _ => ⟨ob.slots, z3 b ob hc q⟩)
      (fun _ _ _ _ n => n) (fun b ob hc q => ⟨ob, z3 b ob hc q⟩) (fun _ _ q => q) (fun _ _ _ q => q) (fun b ps q => ⟨#[], by rw [q]; simp⟩) (fun m hm => ?_) (fun b u q => ?_) z2
  · have h1 := O.new b (List.mem_cons_of_mem _ hb)
    refine ⟨.inr (Nat.le_of_lt h1), fun z => ?_, fun y c e z => ?_, fun p hp => absurd (show p ∈ ([] : List (Addr × Obj)) ++ [] from hp) (by simp)⟩
    · have z : b = Y.cenv.locals := z
      rw [z, O.loc] at h1
      exact Nat.lt_irrefl _ h1
    · have h2 := O.cel y c e
      rw [z] at h2
      exact Nat.lt_irrefl _ (Nat.lt_trans h1 h2)
  · obtain ⟨ob, es, ep, ho, r⟩ := hm
    refine ⟨ob, es, ep, z3 _ ob (fun hb => ?_) ho, r⟩
    have h1 := O.new _ (List.mem_cons_of_mem _ hb)
    have h1 : Y.s4.heap.objs.size < Y.cenv.locals := h1
    rw [O.loc] at h1
    exact Nat.lt_irrefl _ h1
  · refine (I0.hok b u q).stay (fun c v hc y => z3 c v ?_ y) (fun _ y => y) fun _ _ y => y
    rcases hc with y | y
    · rw [y]; exact nt b u q
    · exact nt c _ y
end
abbrev bestL (vs : Array Value) (c : Nat) : Obj := { cls := .type "list", dict := none, data := .seq vs c, slots := #[] }
section
variable {Y : GEx} {A : Around} {R : Result → Shared → Prop} {Qd : Int → Hp → Prop} {S : Addr}
theorem aft_put {s1 s2 : Shared} {x y : Array Value} {c : Nat} (hos : s2.os = s1.os) (hb : AllBare s2.gens) (e : s1.heap.get? S = some (bestL x c)) (hh : s2.heap = s1.heap.update S (Obj.mapSeq fun _ => y)) : Aft [S] s1 s2 := by
  refine ⟨hos, hb, fun b o n e' => ?_, fun b hb => ?_⟩
  · rw [hh]
    exact (Heap.get?_update_other _ _ (fun h : S = b => n (by rw [h]; exact List.mem_singleton.mpr rfl))).trans e'
  · rw [List.mem_singleton.mp hb, hh, Heap.get?_update_self _ e rfl]
    exact ⟨_, rfl, fun v z => by cases z⟩
theorem aft_id {s1 s2 : Shared} {x : Array Value} {c : Nat} (hos : s2.os = s1.os) (hb : AllBare s2.gens) (e : s1.heap.get? S = some (bestL x c)) (hh : s2.heap = s1.heap) : Aft [S] s1 s2 := by
  refine ⟨hos, hb, fun b o n e' => by rw [hh]; exact e', fun b hb => ?_⟩
  rw [List.mem_singleton.mp hb, hh, e]
  exact ⟨_, rfl, fun v z => by cases z⟩
theorem min_loop1 (O : Y.Ok) (hB : Y.B = A.in1.in1) (hS : Y.Sx = [S]) (hC : Y.C = eInt) (hF : Y.F = fun ys H => ∃ zs, ys = zs.map V.int ∧ zs ≠ [] ∧ Qd (mins zs) H) (hh : A.handled = none) (hroom : A.depth < recursionLimit)
    (hR : ∀ k t σ' H' s1, Inv Y.Xg [] σ' H' s1 → Qd k H' → R (.ok (.ret (.int k t))) s1) : ∀ (n : Nat) (zs : List Int) (H : Hp) (gs : GenState) (sp s : Shared) (t : Tok) (c : Nat), zs ≠ [] → Y.Rdy n (zs.map V.int) H gs sp → Aft Y.Sx sp s → s.heap.IsGen Y.a Y.g → s.gens[Y.g]? = some gs → s.heap.NoLimit →
      s.heap.get? S = some (bestL #[.int (mins zs) t, .int (mins zs) t] c) → codeAny Y.M A (.builtin "min.loop" ⟨[.ref Y.a, .none, .ref S], []⟩) R s := by
  have hname : (toString "min" ++ toString ".loop" : String) = "min.loop" := by decide
  have hSm : S ∈ Y.a :: Y.Sx := by rw [hS]; simp
  have main : ∀ (n : Nat) (zs : List Int) (H : Hp) (gs : GenState) (sp s : Shared) (t : Tok) (c : Nat), zs ≠ [] → Y.Rdy n (zs.map V.int) H gs sp → Aft Y.Sx sp s → s.heap.IsGen Y.a Y.g → s.gens[Y.g]? = some gs → s.heap.NoLimit →
      s.heap.get? S = some (bestL #[.int (mins zs) t, .int (mins zs) t] c) →
      (∀ (zs' : List Int) (H' : Hp) (gs' : GenState) (sp' s' : Shared) (t' : Tok) (c' : Nat), zs' ≠ [] → Y.Rp n (zs'.map V.int) H' gs' sp' → Aft Y.Sx sp' s' → s'.heap.IsGen Y.a Y.g → s'.gens[Y.g]? = some gs' → s'.heap.NoLimit →
        s'.heap.get? S = some (bestL #[.int (mins zs') t', .int (mins zs') t'] c') → codeAny Y.M A (.builtin "min.loop" ⟨[.ref Y.a, .none, .ref S], []⟩) R s') → codeAny Y.M A (.builtin "min.loop" ⟨[.ref Y.a, .none, .ref S], []⟩) R s := by
    intro n zs H gs sp s t c hne rd af hg hgs nl hSo ih
    have there : ∀ b ∈ Y.a :: Y.Sx, ∃ o, s.heap.get? b = some o := fun b hb => by
      rcases List.mem_cons.mp hb with z | z
      · obtain ⟨o, n1, n2, e, r⟩ := hg
        exact ⟨o, by rw [z]; exact e⟩
      · rw [hS] at z
        exact ⟨_, by rw [List.mem_singleton.mp z]; exact hSo⟩
    refine codeAny_builtin F.entry_min_loop ?_
    rw [Around.under_plainId F.plain_min_loop _]
    show wpAny _ A.in1 (seqItems? (.ref S) >>= _) _ _ s
    refine wpAny_bind (wpAny_seqItems hSo rfl ?_)
    show wpAny _ A.in1 (tryCatch (pyNext (.ref Y.a)) _ >>= _) _ _ s
    refine wpAny_bind (wpAny_tryCatch (GEx.next O hB hh hroom nl rd af hg hgs (Array.getElem?_eq_some_iff.mp hgs).1 (fun σ' H' s1 s2 I f a => ?_) fun v y σ' H' s1 gs' I r cc hb hsz => ?_))
    · rw [hF] at f
      obtain ⟨zs', ez, _, f⟩ := f
      obtain rfl := int_inj ez
      have e1 := (O.pinned I hSm hSo).1
      have e2 := a.keep _ _ (by simp) e1
      show wpAny _ A.in1 (updateSeq S (fun _ => #[]) >>= _) _ _ _
      refine wpAny_bind ?_
      refine wpAny_updateSeq e2 rfl (wpAny_bind (wpAny_letGo (wpAny_pure ?_)))
      refine hR _ t σ' H' _ (O.past I there ?_) f
      rw [hS]
      refine ⟨a.os, a.bare, fun b o n e' => ?_, fun b hb => ?_⟩
      · exact (Heap.get?_update_other _ _ (fun h : S = b => n (by rw [h]; exact List.mem_singleton.mpr rfl))).trans (a.keep _ _ (by simp) e')
      · rw [List.mem_singleton.mp hb]
        exact ⟨_, Heap.get?_update_self _ e2 rfl, fun v z => by cases z⟩
    · rw [hC] at cc
      obtain ⟨⟨z, rfl⟩, cc⟩ := cc
      obtain ⟨t', rfl⟩ : ∃ t', v = .int z t' := r
      have e1 := (O.pinned I hSm hSo).1
      have e2 : (s1.setGen Y.g gs').heap.get? S = _ := e1
      rw [show zs.map V.int ++ [V.int z] = (zs ++ [z]).map V.int by rw [List.map_append]; rfl] at cc
      have hg1 : (s1.setGen Y.g gs').heap.IsGen Y.a Y.g := by
        obtain ⟨o, n1, n2, e, r⟩ := hg
        exact ⟨o, n1, n2, (O.pinned I List.mem_cons_self e).1, r⟩
      have hgs1 := setGen_at (x := gs') (Nat.lt_of_lt_of_le (Array.getElem?_eq_some_iff.mp hgs).1 hsz)
      have hna : S ≠ Y.a := fun z => O.aS (by rw [← z, hS]; simp)
      show wpAny _ A.in1 (tryCatch (holding [.int z t', .int z t'] (richCompare .Lt (.int z t') (.int (mins zs) t) >>= _)) _ >>= _) _ _ _
      refine wpAny_bind (wpAny_tryCatch (wpAny_holding (wpAny_bind (CmpOf.ints_lt (P := fun j v => ∃ t, v = .int (if j = 0 then z else mins zs) t) (fun j => if j = 0 then z else mins zs) (fun j v h => h) 0 1 _ _ _ _ _ ⟨t', rfl⟩ ⟨t, rfl⟩ ?_))))
      refine wpAny_bind (wpAny_holding (wpAny_truthy_bool ?_))
      refine wpAny_bind (wpAny_letGo (wpAny_pure ?_))
      have em := mins_app (z := z) hne
      show wpAny _ A.in1 (if decide (z < mins zs) = true then _ else _) _ _ _
      by_cases hlt : z < mins zs
      · rw [if_pos (decide_eq_true hlt)]
        rw [if_pos hlt] at em
        refine wpAny_bind ?_
        refine wpAny_updateSeq e2 rfl (wpAny_bind (wpAny_letGo ?_))
        rw [hname]
        refine wpAny_pure ⟨plainId_quiet F.plain_min_loop _, ih (zs ++ [z]) H' gs' s1 _ t' c (by simp) cc ?_ ?_ hgs1 ?_ ?_⟩
        · rw [hS]
          exact aft_put (s2 := { (s1.setGen Y.g gs') with heap := s1.heap.update S (Obj.mapSeq fun _ => #[Value.int z t', Value.int z t']) }) rfl (allBare_setGen I.bare hb) e1 rfl
        · obtain ⟨o, n1, n2, e, r⟩ := hg1
          exact ⟨o, n1, n2, (Heap.get?_update_other _ _ hna).trans e, r⟩
        · exact (O.past (s1 := { (s1.setGen Y.g gs') with heap := s1.heap.update S (Obj.mapSeq fun _ => #[Value.int z t', Value.int z t']) }) I there (by rw [hS]; exact aft_put rfl (allBare_setGen I.bare hb) e1 rfl)).nolimit
        · rw [em]
          exact Heap.get?_update_self _ e2 rfl
      · rw [if_neg (by rw [decide_eq_false hlt]; exact Bool.false_ne_true)]
        rw [if_neg hlt] at em
        refine wpAny_bind (wpAny_letGo ?_)
        rw [hname]
        refine wpAny_pure ⟨plainId_quiet F.plain_min_loop _, ih (zs ++ [z]) H' gs' s1 _ t c (by simp) cc ?_ hg1 hgs1 I.nolimit ?_⟩
        · rw [hS]
          exact aft_id rfl (allBare_setGen I.bare hb) e1 rfl
        · rw [em]
          exact e2
  intro n
  induction n with
  | zero =>
    intro zs H gs sp s t c hne rd af hg hgs nl hSo
    exact main 0 zs H gs sp s t c hne rd af hg hgs nl hSo fun _ _ _ _ _ _ _ _ q => (show False from q).elim
  | succ n ih =>
    intro zs H gs sp s t c hne rd af hg hgs nl hSo
    exact main (n + 1) zs H gs sp s t c hne rd af hg hgs nl hSo fun zs' H' gs' sp' s' t' c' a1 a2 a3 a4 a5 a6 a7 => ih zs' H' gs' sp' s' t' c' a1 a2 a3 a4 a5 a6 a7
/-- .. from the start -/
theorem min_first (O : Y.Ok) (hB : Y.B = A.in1.in1) (hS : Y.Sx = [S]) (hC : Y.C = eInt) (hF : Y.F = fun ys H => ∃ zs, ys = zs.map V.int ∧ zs ≠ [] ∧ Qd (mins zs) H) (hh : A.handled = none) (hroom : A.depth < recursionLimit)
    (hR : ∀ k t σ' H' s1, Inv Y.Xg [] σ' H' s1 → Qd k H' → R (.ok (.ret (.int k t))) s1) (n : Nat) (H : Hp) (gs : GenState) (sp s : Shared) (c : Nat) (rd : Y.Rdy n [] H gs sp) (af : Aft Y.Sx sp s) (hg : s.heap.IsGen Y.a Y.g) (hgs : s.gens[Y.g]? = some gs) (nl : s.heap.NoLimit)
    (hSo : s.heap.get? S = some (bestL #[] c)) : codeAny Y.M A (.builtin "min.loop" ⟨[.ref Y.a, .none, .ref S], []⟩) R s := by
  have hname : (toString "min" ++ toString ".loop" : String) = "min.loop" := by decide
  have hSm : S ∈ Y.a :: Y.Sx := by rw [hS]; simp
  have there : ∀ b ∈ Y.a :: Y.Sx, ∃ o, s.heap.get? b = some o := fun b hb => by
    rcases List.mem_cons.mp hb with z | z
    · obtain ⟨o, n1, n2, e, r⟩ := hg
      exact ⟨o, by rw [z]; exact e⟩
    · rw [hS] at z
      exact ⟨_, by rw [List.mem_singleton.mp z]; exact hSo⟩
  refine codeAny_builtin F.entry_min_loop ?_
  rw [Around.under_plainId F.plain_min_loop _]
  show wpAny _ A.in1 (seqItems? (.ref S) >>= _) _ _ s
  refine wpAny_bind (wpAny_seqItems hSo rfl ?_)
  show wpAny _ A.in1 (tryCatch (pyNext (.ref Y.a)) _ >>= _) _ _ s
  refine wpAny_bind (wpAny_tryCatch (GEx.next O hB hh hroom nl rd af hg hgs (Array.getElem?_eq_some_iff.mp hgs).1 (fun σ' H' s1 s2 I f a => ?_) fun v y σ' H' s1 gs' I r cc hb hsz => ?_))
  · rw [hF] at f
    obtain ⟨zs', ez, ne, f⟩ := f
    cases zs' with
    | nil => exact absurd rfl ne
    | cons u us => cases ez
  · rw [hC] at cc
    obtain ⟨⟨z, rfl⟩, cc⟩ := cc
    obtain ⟨t', rfl⟩ : ∃ t', v = .int z t' := r
    have e1 := (O.pinned I hSm hSo).1
    have e2 : (s1.setGen Y.g gs').heap.get? S = _ := e1
    have hg1 : (s1.setGen Y.g gs').heap.IsGen Y.a Y.g := by
      obtain ⟨o, n1, n2, e, r⟩ := hg
      exact ⟨o, n1, n2, (O.pinned I List.mem_cons_self e).1, r⟩
    have hgs1 := setGen_at (x := gs') (Nat.lt_of_lt_of_le (Array.getElem?_eq_some_iff.mp hgs).1 hsz)
    have hna : S ≠ Y.a := fun z => O.aS (by rw [← z, hS]; simp)
    have put : Aft [S] s1 { (s1.setGen Y.g gs') with heap := s1.heap.update S (Obj.mapSeq fun _ => #[Value.int z t', Value.int z t']) } := aft_put rfl (allBare_setGen I.bare hb) e1 rfl
    show wpAny _ A.in1 (updateSeq S (fun _ => #[.int z t', .int z t']) >>= _) _ _ _
    refine wpAny_bind ?_
    refine wpAny_updateSeq e2 rfl ?_
    rw [hname]
    cases n with
    | zero => exact (show False from cc).elim
    | succ n =>
      refine wpAny_pure ⟨plainId_quiet F.plain_min_loop _, min_loop1 O hB hS hC hF hh hroom hR n [z] H' gs' s1 _ t' (c + 1) (by simp) cc (by rw [hS]; exact put) ?_ hgs1 (O.past I there (by rw [hS]; exact put)).nolimit ?_⟩
      · obtain ⟨o, n1, n2, e, r⟩ := hg1
        exact ⟨o, n1, n2, (Heap.get?_update_other _ _ hna).trans e, r⟩
      · have e3 := Heap.get?_update_self (Obj.mapSeq fun _ => #[Value.int z t', Value.int z t']) e2 rfl
        exact e3
end
section
variable {X : Cx}
theorem call_minP {P : Program} {w : World} {A : Around} {Q : Value → Shared → Prop} {E : Value → Shared → Prop} {s : Shared} {a g : Addr} (hg : s.heap.IsGen a g)
    (h : codeAny (model P w) A (.builtin "min.loop" ⟨[.ref a, .none, .ref s.heap.objs.size], []⟩) (RetQ Q E) { s with heap := s.heap.push (bestL #[] 0) }) : wpAny (model P w) A (call (.builtin "min") [.ref a]) Q E s := by
  have hname : (toString "min" ++ toString ".loop" : String) = "min.loop" := by decide
  refine call_function_tree F.kind_min F.plain_min F.entry_min (F.args_min1 _) ?_
  show wpAny _ A.in1 (Builtin.Builtins.bindParams "min" ["key", "default"] 0 ⟨[], []⟩ >>= _) _ _ s
  refine wpAny_bind (wpAny_of_eq (show Builtin.Builtins.bindParams "min" ["key", "default"] 0 ⟨[], []⟩ = pure [none, none] from rfl) ?_)
  refine wpAny_bind (wpAny_pure ?_)
  refine wpAny_bind (wpAny_pyIter_gen hg ?_)
  refine wpAny_bind (wpAny_newObj_type ?_)
  rw [hname]
  exact wpAny_pure ⟨plainId_quiet F.plain_min_loop _, h⟩
/-- one more value is out -/
def MN (Nx : List Int → Hp → Prop) (zs : List Int) (y : V) (H : Hp) : Prop := (∃ z, y = .int z) ∧ ∃ zs', zs.map V.int ++ [y] = zs'.map V.int ∧ Nx zs' H
theorem MN.of {Nx : List Int → Hp → Prop} {zs : List Int} {z : Int} {H : Hp} (h : Nx (zs ++ [z]) H) : MN Nx zs (.int z) H := ⟨⟨z, rfl⟩, zs ++ [z], by rw [List.map_append]; rfl, h⟩
def MZ (Nx : List Int → Hp → Prop) (zs : List Int) (H : Hp) : Prop := ∃ zs', zs.map V.int = zs'.map V.int ∧ Nx zs' H
/-- min of elt for target in iter if ..; W carries what is out so far -/
def tMinG (P : Addr) (wi : TI) (g : TG) (tt : TT) (te : TE) (vs : List Nat) : TE := fun σ H Q => wi σ H fun J H1 => TabG H1 P ∧ ∀ H2, Tabbed P H1 H2 →
  ∃ W : Nat → Nat → List Int → Hp → Prop, (∃ m, W 0 m [] H2) ∧ ∀ i m zs H, W i m zs H → (J.stop i H ∧ zs ≠ [] ∧ Q (.int (mins zs)) H) ∨ (J.go i H ∧ ∃ Nx : List Int → Hp → Prop, (∀ zs' H', Nx zs' H' → ∃ m', m' < m ∧ W (i + 1) m' zs' H') ∧
    ∀ x H', J.yld i H x H' → g x (wipe σ vs) H' fun σ2 H2 => wipe σ2 vs = wipe σ vs ∧ tt σ2 H2 fun b H3 => if b = true then te σ2 H3 fun y H4 => MN Nx zs y H4 else MZ Nx zs H3)
theorem tMinG_step {J : It} {g : TG} {tt : TT} {te : TE} {vs : List Nat} {σ : L2.St} {Q : VK} {W : Nat → Nat → List Int → Hp → Prop}
    (h : ∀ i m zs H, W i m zs H → (J.stop i H ∧ zs ≠ [] ∧ Q (.int (mins zs)) H) ∨ (J.go i H ∧ ∃ Nx : List Int → Hp → Prop, (∀ zs' H', Nx zs' H' → ∃ m', m' < m ∧ W (i + 1) m' zs' H') ∧
      ∀ x H', J.yld i H x H' → g x (wipe σ vs) H' fun σ2 H2 => wipe σ2 vs = wipe σ vs ∧ tt σ2 H2 fun b H3 => if b = true then te σ2 H3 fun y H4 => MN Nx zs y H4 else MZ Nx zs H3)) :
    GStep (fun i m ys H => ∃ zs, ys = zs.map V.int ∧ W i m zs H) J g tt te vs (wipe σ vs) eInt (fun ys H => ∃ zs, ys = zs.map V.int ∧ zs ≠ [] ∧ Q (.int (mins zs)) H) := fun i m ys H ⟨zs, ey, w⟩ => by
  subst ey
  rcases h i m zs H w with ⟨z1, z2, z3⟩ | ⟨go, Nx, hN, st⟩
  · exact .inl ⟨z1, zs, rfl, z2, z3⟩
  · exact .inr ⟨go, fun ys H => ∃ zs, ys = zs.map V.int ∧ Nx zs H, fun ys' H' ⟨zs', e', nx⟩ => by
      obtain ⟨m', h1, h2⟩ := hN zs' H' nx
      exact ⟨m', h1, zs', e', h2⟩, st⟩
section
variable {c P : Addr} {elt tg iter : Expr} {ifs : List Expr} {scope : Scope} {own : List (Str × Nat)} {p pos gpos : Pos} {wi : TI} {g : TG} {tt : TT} {te : TE} {k : Nat}
theorem pe_minG (hr : Room (k + 1) X.A) (hn : X.N.Nodup) (hgl : Gl X "min") (hm : X.mg "min" = none) (TB : LamX.TabB X.base X.mg c P) (hcode : X.env.code = .ref c) (G : GScp scope) (ok : BlkOk X.N X.env.scope scope own) (hi : PI X tg iter wi)
    (hg : GPG X k scope tg g) (ht : GPT X k scope ifs tt) (he : GPE X k scope elt te)
    (hb : bootBuiltins "min" = some (.builtin "min") := by first | rfl | decide +kernel) (hs : ∀ v, genFold iter X.env v = pure v := by intro _; rfl)
    (hst : starEach [.GeneratorExp elt [⟨tg, iter, ifs, 0⟩] scope gpos] X.env = (false, eval (.GeneratorExp elt [⟨tg, iter, ifs, 0⟩] scope gpos) X.env) :: starEach [] X.env := by rfl) :
    PE X (.Call (.Name "min" p) [.GeneratorExp elt [⟨tg, iter, ifs, 0⟩] scope gpos] [] pos) (tMinG P wi g tt te (own.map (·.2))) := by
  refine ⟨fun pins s σ H Q I h => ?_⟩
  refine wpAny_Call_Name_kw (ld_blt I hgl hm hb ?_)
  refine PyProof.Rows.callWith_builtin1 ?_ hst (by rfl)
  rw [hst]
  show wpAny _ _ (spliced ((false, eval (.GeneratorExp elt [⟨tg, iter, ifs, 0⟩] scope gpos) X.env) :: backTo pos (starEach [] X.env))) _ _ s
  refine Calls.spliced_cons (gen_made (R := fun J H1 => _) hr TB hcode G ok hi hs I h fun J H1 H2 s4 cenv fp it tn a gn s5 q tb M => ?_)
  refine Calls.spliced_nil (call_minP M.isg ?_)
  obtain ⟨W, ⟨m, w0⟩, st⟩ := q H2 tb
  obtain ⟨code, hce⟩ := M.env
  subst hce
  have hlt : a < s5.heap.objs.size := by rw [M.lt]; exact Nat.lt_succ_self a
  obtain ⟨O, rd⟩ := gen_rdy (B := X.A.in1.in1) (Sx := [s5.heap.objs.size]) hr (nearA2 _) G ok hn M (fun A r => hg _ _ _ _ _ _ A r) (fun A r => ht _ _ _ _ _ _ A r) (fun A r => he _ _ _ _ _ _ A r) (fun b z => by rw [List.mem_singleton.mp z]; exact hlt) eInt_mono (tMinG_step st) m ⟨[], rfl, w0⟩
  have hpush : ∀ b o, s5.heap.get? b = some o → (s5.heap.push (bestL #[] 0)).get? b = some o := fun b o e => Heap.get?_push_of_some _ e
  refine min_first (Qd := fun k H => Q (.int k) H) (S := s5.heap.objs.size) (Y := mkY X s4 H2 _ fp X.A.in1.in1 (wipe σ (own.map (·.2))) (.GeneratorExp elt [⟨tg, iter, ifs, 0⟩] scope gpos) it a gn [s5.heap.objs.size] eInt (fun ys H => ∃ zs, ys = zs.map V.int ∧ zs ≠ [] ∧ Q (.int (mins zs)) H)) O rfl rfl rfl rfl hr.hd hr.depth (fun k t σ' H' s1 I' q => ?_) m H2 _ s5 _ 0 rd ?_ ?_ ?_ ?_ (Heap.get?_push_size _ rfl)
  · exact ⟨.int k, H', GEx.out (Y := mkY X s4 H2 _ fp X.A.in1.in1 (wipe σ (own.map (·.2))) (.GeneratorExp elt [⟨tg, iter, ifs, 0⟩] scope gpos) it a gn [s5.heap.objs.size] eInt (fun ys H => ∃ zs, ys = zs.map V.int ∧ zs ≠ [] ∧ Q (.int (mins zs)) H)) M.inv (fun b hb => (M.fps b hb).1) I' (Aft.refl I'.bare), ⟨t, rfl⟩, q⟩
  · refine ⟨rfl, ?_, fun b o _ e => hpush b o e, fun b hb => ?_⟩
    · show AllBare s5.gens
      rw [M.gens]
      exact M.inv.bare.push rfl
    · rw [List.mem_singleton.mp hb]
      exact ⟨_, Heap.get?_push_size _ rfl, fun v z => by cases z⟩
  · obtain ⟨o, n1, n2, e, r⟩ := M.isg
    exact ⟨o, n1, n2, hpush _ _ e, r⟩
  · show s5.gens[gn]? = _
    rw [M.gens, M.num]
    simp
  · exact (M.inv.nolimit.keeps M.keep).push _
end
end
section
variable {K : PySem.W.Frag} {a : Addr} {xs : List V} {g : TG} {tt : TT} {te : TE} {vs : List Nat} {σ : L2.St} {H2 : Hp} {Q : VK}
/-- over a list that the element leaves as it is -/
theorem min_list (Pv : Nat → List Int → Hp → Prop) (h0 : Pv 0 [] H2) (hl : ∀ i zs H, i ≤ xs.length → Pv i zs H → SqL K H a xs)
    (hs : ∀ i zs x H, xs[i]? = some x → Pv i zs H → g x (wipe σ vs) H fun σ2 H2 => wipe σ2 vs = wipe σ vs ∧ tt σ2 H2 fun b H3 => if b = true then te σ2 H3 fun y H4 => MN (Pv (i + 1)) zs y H4 else MZ (Pv (i + 1)) zs H3) (hd : ∀ zs H, Pv xs.length zs H → zs ≠ [] ∧ Q (.int (mins zs)) H) :
    ∃ W : Nat → Nat → List Int → Hp → Prop, (∃ m, W 0 m [] H2) ∧ ∀ i m zs H, W i m zs H → ((Itl K a).stop i H ∧ zs ≠ [] ∧ Q (.int (mins zs)) H) ∨ ((Itl K a).go i H ∧ ∃ Nx : List Int → Hp → Prop, (∀ zs' H', Nx zs' H' → ∃ m', m' < m ∧ W (i + 1) m' zs' H') ∧
      ∀ x H', (Itl K a).yld i H x H' → g x (wipe σ vs) H' fun σ2 H2 => wipe σ2 vs = wipe σ vs ∧ tt σ2 H2 fun b H3 => if b = true then te σ2 H3 fun y H4 => MN Nx zs y H4 else MZ Nx zs H3) := by
  refine ⟨fun i m zs H => m = xs.length - i ∧ i ≤ xs.length ∧ Pv i zs H, ⟨xs.length, by simp, Nat.zero_le _, h0⟩, fun i m zs H w => ?_⟩
  obtain ⟨hm, hi, p⟩ := w
  have q := hl i zs H hi p
  rcases Nat.lt_or_ge i xs.length with z | z
  · refine .inr ⟨⟨xs, xs[i], q, by simp [z]⟩, Pv (i + 1), fun zs' H' p' => ⟨xs.length - (i + 1), by omega, rfl, z, p'⟩, fun x H' y => ?_⟩
    obtain ⟨rfl, y⟩ := y
    exact hs i zs x _ (y xs q) p
  · obtain rfl : i = xs.length := by omega
    exact .inl ⟨⟨xs, q, Nat.le_refl _⟩, hd zs H p⟩
end
end Sk

set_option Elab.async false
set_option linter.all false
set_option maxRecDepth 100000
set_option maxHeartbeats 4000000
namespace Sk
open PySem PySem.Spec PyProof.Rows L2
/-! min of a list of whole numbers, with default= -/
def minD (zs : List Int) (y : V) : V := if zs = [] then y else .int (mins zs)
def rMinD (K : PySem.W.Frag) : List V → List V → Hp → VK → Prop := fun xs ys H Q => ∃ (a : Addr) (zs : List Int) (y : V), xs = [.ref a] ∧ ys = [y] ∧ SqL K H a (zs.map V.int) ∧ Q (minD zs y) H
theorem vals_at : ∀ {zs : List Int} {vs : List Value}, Vals (zs.map V.int) vs → vs.length = zs.length ∧ ∀ (j : Nat) (z : Int), zs[j]? = some z → ∃ t, vs[j]? = some (PySem.Value.int z t)
  | [], vs, h => by
    cases h
    exact ⟨rfl, fun j z e => by simp at e⟩
  | z :: zs, vs, h => by
    cases h with
    | cons rv rn =>
      obtain ⟨h1, h2⟩ := vals_at rn
      refine ⟨by rw [List.length_cons, List.length_cons, h1], fun j x e => ?_⟩
      cases j with
      | zero =>
        have : z = x := Option.some.inj e
        subst this
        obtain ⟨t, rfl⟩ : ∃ t, _ = Value.int z t := rv
        exact ⟨t, rfl⟩
      | succ j => exact h2 j x e
section
variable {P : Program} {w : World} {A : Around} {R : Result → Shared → Prop} {s0 : Shared} {l I S : Addr} {vs : List Value} {zs : List Int} {d : Value}
theorem mind_loop (hh : A.handled = none) (hl : s0.heap.IsList l vs.toArray) (hv : Vals (zs.map V.int) vs) (hI : s0.heap.objs.size ≤ I) (hS : s0.heap.objs.size ≤ S) (hIS : S ≠ I)
    (hR : ∀ h tk v, (∀ b o, s0.heap.get? b = some o → h.get? b = some o) → (zs = [] → v = d) → (zs ≠ [] → ∃ t, v = .int (mins zs) t) → R (.ok (.ret v)) { s0 with heap := h, toks := tk }) :
    ∀ (r j : Nat) (h : Heap) (tk : Nat) (arr : Array Value) (c : Nat), zs.length - j = r → j ≤ zs.length → (∀ b o, s0.heap.get? b = some o → h.get? b = some o) → h.IsListIter I l j → h.get? S = some (bestL arr c) →
      ((j = 0 ∧ arr = #[]) ∨ (0 < j ∧ ∃ t, arr = #[.int (mins (zs.take j)) t, .int (mins (zs.take j)) t])) →
      codeAny (model P w) A (.builtin "min.loop" ⟨[.ref I, .none, .ref S], [(Str.ofString "default", d)]⟩) R { s0 with heap := h, toks := tk } := by
  have hname : (toString "min" ++ toString ".loop" : String) = "min.loop" := by decide
  obtain ⟨vl, vat⟩ := vals_at hv
  have old : ∀ {b : Addr} {o : Obj}, s0.heap.get? b = some o → b < s0.heap.objs.size := fun e => Heap.lt_size e
  have nS : ∀ {b : Addr} {o : Obj}, s0.heap.get? b = some o → S ≠ b := fun e z => absurd (old e) (Nat.not_lt.mpr (by rw [← z]; exact hS))
  have nI : ∀ {b : Addr} {o : Obj}, s0.heap.get? b = some o → b ≠ I := fun e z => absurd (old e) (Nat.not_lt.mpr (by rw [z]; exact hI))
  intro r
  induction r with
  | zero =>
    intro j h tk arr c hr hj kp hi hSo ha
    have hjz : j = zs.length := by omega
    have hl' : h.IsList l vs.toArray := by
      obtain ⟨o, e, q⟩ := hl
      exact ⟨o, kp _ _ e, q⟩
    refine codeAny_builtin F.entry_min_loop ?_
    rw [Around.under_plainId F.plain_min_loop _]
    show wpAny _ A.in1 (seqItems? (.ref S) >>= _) _ _ _
    refine wpAny_bind (wpAny_seqItems hSo rfl ?_)
    show wpAny _ A.in1 (tryCatch (pyNext (.ref I)) _ >>= _) _ _ _
    refine wpAny_bind (wpAny_tryCatch (wpAny_pyNext_list_end hh hi hl' (by rw [List.getElem?_toArray]; exact List.getElem?_eq_none (by omega)) fun h' ext => ?_))
    have kp' : ∀ b o, s0.heap.get? b = some o → h'.get? b = some o := fun b o e => ext b o (nI e) (kp b o e)
    rcases ha with ⟨j0, rfl⟩ | ⟨j0, t, rfl⟩
    · have z0 : zs = [] := List.eq_nil_of_length_eq_zero (by omega)
      refine wpAny_bind (wpAny_rule ?_)
      exact wpAny_pure (hR _ _ _ kp' (fun _ => rfl) (fun n => absurd z0 n))
    · have hS2 : h'.get? S = some (bestL #[.int (mins (zs.take j)) t, .int (mins (zs.take j)) t] c) := ext _ _ hIS hSo
      show wpAny _ A.in1 (updateSeq S (fun _ => #[]) >>= _) _ _ _
      refine wpAny_bind ?_
      refine wpAny_updateSeq hS2 rfl (wpAny_bind (wpAny_letGo (wpAny_pure ?_)))
      have hz : zs ≠ [] := fun z => by rw [z] at hjz; have : j = 0 := hjz; omega
      refine hR _ _ _ (fun b o e => (Heap.get?_update_other _ _ (nS e)).trans (kp' b o e)) (fun n => absurd n hz) fun _ => ⟨t, ?_⟩
      rw [hjz, List.take_length]
  | succ r ih =>
    intro j h tk arr c hr hj kp hi hSo ha
    have hl' : h.IsList l vs.toArray := by
      obtain ⟨o, e, q⟩ := hl
      exact ⟨o, kp _ _ e, q⟩
    have hjl : j < zs.length := by omega
    obtain ⟨t', hvt⟩ := vat j zs[j] (List.getElem?_eq_getElem hjl)
    have htk : zs.take (j + 1) = zs.take j ++ [zs[j]] := by rw [List.take_add_one, List.getElem?_eq_getElem hjl]; rfl
    generalize zs[j] = z at hvt htk
    refine codeAny_builtin F.entry_min_loop ?_
    rw [Around.under_plainId F.plain_min_loop _]
    show wpAny _ A.in1 (seqItems? (.ref S) >>= _) _ _ _
    refine wpAny_bind (wpAny_seqItems hSo rfl ?_)
    show wpAny _ A.in1 (tryCatch (pyNext (.ref I)) _ >>= _) _ _ _
    refine wpAny_bind (wpAny_tryCatch (wpAny_pyNext_list_item hi hl' (x := .int z t') (by rw [List.getElem?_toArray]; exact hvt) fun h' hi' sb => ?_))
    have kp' : ∀ b o, s0.heap.get? b = some o → h'.get? b = some o := fun b o e => (sb.2 b (nI e)).trans (kp b o e)
    have hS2 : h'.get? S = some (bestL arr c) := (sb.2 S hIS).trans hSo
    have put : ∀ arr', (∀ b o, s0.heap.get? b = some o → (h'.update S (Obj.mapSeq fun _ => arr')).get? b = some o) ∧ (h'.update S (Obj.mapSeq fun _ => arr')).IsListIter I l (j + 1) ∧ ∃ c', (h'.update S (Obj.mapSeq fun _ => arr')).get? S = some (bestL arr' c') := fun arr' => by
      refine ⟨fun b o e => (Heap.get?_update_other _ _ (nS e)).trans (kp' b o e), ?_, ⟨_, Heap.get?_update_self (Obj.mapSeq fun _ => arr') hS2 rfl⟩⟩
      obtain ⟨o, e, q⟩ := hi'
      exact ⟨o, (Heap.get?_update_other _ _ hIS).trans e, q⟩
    rcases ha with ⟨j0, rfl⟩ | ⟨j0, t, rfl⟩
    · show wpAny _ A.in1 (updateSeq S (fun _ => #[.int z t', .int z t']) >>= _) _ _ _
      refine wpAny_bind ?_
      refine wpAny_updateSeq hS2 rfl ?_
      rw [hname]
      obtain ⟨p1, p2, c', p3⟩ := put #[.int z t', .int z t']
      refine wpAny_pure ⟨plainId_quiet F.plain_min_loop _, ih (j + 1) _ _ _ c' (by omega) (by omega) p1 p2 p3 (.inr ⟨by omega, t', ?_⟩)⟩
      rw [htk, j0]
      rfl
    · have hne : zs.take j ≠ [] := fun e => by
        have := congrArg List.length e
        rw [List.length_take] at this
        have : min j zs.length = 0 := this
        omega
      have em := mins_app (z := z) hne
      rw [← htk] at em
      show wpAny _ A.in1 (tryCatch (holding [.int z t', .int z t'] (richCompare .Lt (.int z t') (.int (mins (zs.take j)) t) >>= _)) _ >>= _) _ _ _
      refine wpAny_bind (wpAny_tryCatch (wpAny_holding (wpAny_bind (CmpOf.ints_lt (P := fun k v => ∃ t, v = .int (if k = 0 then z else mins (zs.take j)) t) (fun k => if k = 0 then z else mins (zs.take j)) (fun k v h => h) 0 1 _ _ _ _ _ ⟨t', rfl⟩ ⟨t, rfl⟩ ?_))))
      refine wpAny_bind (wpAny_holding (wpAny_truthy_bool ?_))
      refine wpAny_bind (wpAny_letGo (wpAny_pure ?_))
      show wpAny _ A.in1 (if decide (z < mins (zs.take j)) = true then _ else _) _ _ _
      by_cases hlt : z < mins (zs.take j)
      · rw [if_pos (decide_eq_true hlt)]
        rw [if_pos hlt] at em
        refine wpAny_bind ?_
        refine wpAny_updateSeq hS2 rfl (wpAny_bind (wpAny_letGo ?_))
        rw [hname]
        obtain ⟨p1, p2, c', p3⟩ := put #[.int z t', .int z t']
        refine wpAny_pure ⟨plainId_quiet F.plain_min_loop _, ih (j + 1) _ _ _ c' (by omega) (by omega) p1 p2 p3 (.inr ⟨by omega, t', ?_⟩)⟩
        rw [em]
      · rw [if_neg (by rw [decide_eq_false hlt]; exact Bool.false_ne_true)]
        rw [if_neg hlt] at em
        refine wpAny_bind (wpAny_letGo ?_)
        rw [hname]
        refine wpAny_pure ⟨plainId_quiet F.plain_min_loop _, ih (j + 1) _ _ _ c (by omega) (by omega) kp' hi' hS2 (.inr ⟨by omega, t, ?_⟩)⟩
        rw [em]
end
theorem cr_minD {X : Cx} (hc : X.calm = true) : CallRK X (.builtin "min") ["default"] (rMinD X.K) := by
  intro pins s σ H xs ys us ws Q I rx ry h
  obtain ⟨a, zs, y, rfl, rfl, hq, k⟩ := h
  cases rx with
  | cons rv rn =>
  cases rn
  rename_i u
  obtain rfl : u = Value.ref a := rv
  cases ry with
  | cons rv2 rn2 =>
  cases rn2
  rename_i d
  obtain ⟨vs, hv, pl, _⟩ := I.list hq
  have hl : s.heap.IsList a vs.toArray := pl.isList
  have hname : (toString "min" ++ toString ".loop" : String) = "min.loop" := by decide
  show wpAny _ _ (call (.builtin "min") [.ref a] [(Str.ofString "default", d)]) _ _ _
  refine kmk_tree F.kind_min F.plain_min F.entry_min (by rfl) ?_
  show wpAny _ X.A.in1 (Builtin.Builtins.bindParams "min" ["key", "default"] 0 ⟨[], [(Str.ofString "default", d)]⟩ >>= _) _ _ s
  refine wpAny_bind (wpAny_of_eq (show Builtin.Builtins.bindParams "min" ["key", "default"] 0 ⟨[], [(Str.ofString "default", d)]⟩ = pure [none, some d] from rfl) ?_)
  refine wpAny_bind (wpAny_pure ?_)
  refine wpAny_bind (wpAny_pyIter_list hl ?_)
  refine wpAny_bind (wpAny_newObj_type ?_)
  rw [hname]
  have p1 : ∀ b o, s.heap.get? b = some o → ((s.heap.push { cls := .type "list_iterator", data := .fields #[.ref a, .int 0 0] }).push (bestL #[] 0)).get? b = some o := fun b o e => Heap.get?_push_of_some _ (Heap.get?_push_of_some _ e)
  refine wpAny_pure ⟨plainId_quiet F.plain_min_loop _, mind_loop (P := X.prog) (w := X.w) (d := d) (R := RetQ (EP X pins σ Q) X.xe) (s0 := s) (I := s.heap.objs.size) (S := (s.heap.push { cls := .type "list_iterator", data := .fields #[.ref a, .int 0 0] }).objs.size) (I.ok.hd hc) hl hv (Nat.le_refl _) (by rw [Heap.size_push]; exact Nat.le_succ _) (by rw [Heap.size_push]; exact Nat.succ_ne_self _) (fun h tk v kp v0 v1 => ?_) zs.length 0 _ s.toks #[] 0 rfl (Nat.zero_le _) p1 ?_ ?_ (.inl ⟨rfl, rfl⟩)⟩
  · refine ⟨minD zs y, H, I.turnedL (ch := []) (fun b o _ e => kp b o e) (fun _ h => nomatch h), ?_, k⟩
    unfold minD
    by_cases z : zs = []
    · rw [if_pos z, v0 z]
      exact rv2
    · rw [if_neg z]
      obtain ⟨t, e⟩ := v1 z
      exact ⟨t, e⟩
  · exact ⟨_, Heap.get?_push_of_some _ (Heap.get?_push_size _ rfl), rfl, rfl⟩
  · exact Heap.get?_push_size _ rfl
end Sk

set_option Elab.async false
set_option linter.all false
set_option maxRecDepth 100000
set_option maxHeartbeats 4000000
namespace Sk
open PySem PySem.Spec PyProof.Rows L2 FbM
/-! max(d, key=x.m): d a dict, m a method of the text that reads only and gives whole numbers -/
/-- k is one of the greatest keys of these entries -/
def IsMx (rk : Key → Int) (kvs : List (Key × V)) (k : Key) : Prop := (∃ v, (k, v) ∈ kvs) ∧ ∀ k' v, (k', v) ∈ kvs → rk k' ≤ rk k
theorem IsMx.one {rk : Key → Int} {k : Key} {v : V} : IsMx rk [(k, v)] k := ⟨⟨v, by simp⟩, fun k' v' h => by
  simp only [List.mem_cons, List.not_mem_nil, or_false, Prod.mk.injEq] at h
  rw [h.1]; exact Int.le_refl _⟩
theorem IsMx.snoc {rk : Key → Int} {kvs : List (Key × V)} {k b : Key} {v : V} (h : IsMx rk kvs b) : IsMx rk (kvs ++ [(k, v)]) (if rk k > rk b then k else b) := by
  obtain ⟨⟨w, h1⟩, h2⟩ := h
  by_cases e : rk k > rk b
  · rw [if_pos e]
    refine ⟨⟨v, by simp⟩, fun k' v' h => ?_⟩
    rcases List.mem_append.mp h with h | h
    · have := h2 _ _ h; omega
    · simp only [List.mem_cons, List.not_mem_nil, or_false, Prod.mk.injEq] at h
      rw [h.1]; exact Int.le_refl _
  · rw [if_neg e]
    refine ⟨⟨w, List.mem_append_left _ h1⟩, fun k' v' h => ?_⟩
    rcases List.mem_append.mp h with h | h
    · exact h2 _ _ h
    · simp only [List.mem_cons, List.not_mem_nil, or_false, Prod.mk.injEq] at h
      rw [h.1]; omega
section
variable {X : Cx} {pins : List (Addr × Obj)} {σ : L2.St} {HL : Hp} {kk ep : Nat} {q g x d I S : Addr} {sp : Sp} {kvs : List (Key × V)} {od : Obj} {es : Array DictEntry} {rk : Key → Int} {R : Result → Shared → Prop}
theorem maxk_loop (hh : X.A.handled = none) (hr : Room kk X.A.in1) (F : FnR X.prog X.w X.K X.mg X.base CX0 kk g sp) (hd : HL d = some (.frz od (.dK kvs))) (hod : od.data = .dict es ep) (hm : HL q = some (.met g x))
    (call1 : ∀ k v, (k, v) ∈ kvs → sp [.ref x, kV k] HL (fun u H' => H' = HL ∧ u = .int (rk k)) E0) (rI : Rec X pins I) (rS : Rec X pins S) (nI : HL I = none) (nS : HL S = none) (IS : S ≠ I) (dI : d ≠ I) (dS : d ≠ S) (ne : 0 < kvs.length)
    (hR : ∀ s' kb vb, Inv X pins σ HL s' → IsMx rk kvs kb → RelV (kV kb) vb → R (.ok (.ret vb)) s') :
    ∀ (r i : Nat) (s : Shared) (arr : Array Value) (c : Nat), kvs.length - i = r → i ≤ kvs.length → Inv X pins σ HL s → s.heap.IsKeyIter I d i kvs.length ep → s.heap.get? S = some (bestL arr c) →
      ((i = 0 ∧ arr = #[]) ∨ (0 < i ∧ ∃ kb vb t, RelV (kV kb) vb ∧ arr = #[vb, .int (rk kb) t] ∧ IsMx rk (kvs.take i) kb)) →
      codeAny (model X.prog X.w) X.A (.builtin "max.loop" ⟨[.ref I, .ref q, .ref S], []⟩) R s := by
  have hname : (toString "max" ++ toString ".loop" : String) = "max.loop" := by decide
  intro r
  induction r with
  | zero =>
    intro i s arr c hr' hi IV hit hSo ha
    have hil : i = kvs.length := by omega
    rcases ha with ⟨j0, _⟩ | ⟨j0, kb, vb, t, rb, rfl, hb⟩
    · omega
    rw [hil, List.take_length] at hb
    obtain ⟨hs, hgd, hx, es', ep', vs, hdt, hsz, kv, hmd⟩ := IV.frzK hd
    obtain ⟨rfl, rfl⟩ := dict_ep hod hdt
    refine codeAny_builtin PySem.F.entry_max_loop ?_
    rw [Around.under_plainId PySem.F.plain_max_loop _]
    show wpAny _ X.A.in1 (seqItems? (.ref S) >>= _) _ _ _
    refine wpAny_bind (wpAny_seqItems hSo rfl ?_)
    show wpAny _ X.A.in1 (tryCatch (pyNext (.ref I)) _ >>= _) _ _ _
    refine wpAny_bind (wpAny_tryCatch (next_key_end (show X.A.in1.handled = none from hh) hit hgd hdt hsz (by omega) fun h' eb => ?_))
    have I1 : Inv X pins σ HL { s with heap := h' } := rI.turn (t' := s.toks) IV nI fun c o hc e => eb c o hc e
    have hS1 : h'.get? S = some (bestL #[vb, .int (rk kb) t] c) := eb _ _ IS hSo
    show wpAny _ X.A.in1 (updateSeq S (fun _ => #[]) >>= _) _ _ _
    refine wpAny_bind ?_
    refine wpAny_updateSeq hS1 rfl (wpAny_bind (wpAny_letGo (wpAny_pure ?_)))
    refine hR _ kb vb ?_ hb rb
    exact rS.turn (s := { s with heap := h' }) (t' := s.toks) I1 nS fun c o hc e => (Heap.get?_update_other _ _ (Ne.symm hc)).trans e
  | succ r ih =>
    intro i s arr c hr' hi IV hit hSo ha
    have hil : i < kvs.length := by omega
    obtain ⟨hs, hgd, hx, es', ep', vs, hdt, hsz, kv, hmd⟩ := IV.frzK hd
    obtain ⟨rfl, rfl⟩ := dict_ep hod hdt
    obtain ⟨⟨k, v⟩, hkv⟩ : ∃ p, kvs[i]? = some p := ⟨kvs[i], List.getElem?_eq_getElem hil⟩
    obtain ⟨u, hu, ru⟩ := kv_get kv hkv
    have hl : kvs.length = vs.length := Paired.length kv
    have htk : kvs.take (i + 1) = kvs.take i ++ [(k, v)] := by rw [List.take_add_one, hkv]; rfl
    rw [hl] at hit
    refine codeAny_builtin PySem.F.entry_max_loop ?_
    rw [Around.under_plainId PySem.F.plain_max_loop _]
    show wpAny _ X.A.in1 (seqItems? (.ref S) >>= _) _ _ _
    refine wpAny_bind (wpAny_seqItems hSo rfl ?_)
    show wpAny _ X.A.in1 (tryCatch (pyNext (.ref I)) _ >>= _) _ _ _
    refine wpAny_bind (wpAny_tryCatch (wpAny_pyNext_dict_item hit hmd hu fun key h' hkey st' sb => ?_))
    have rkey : RelV (kV k) key := relV_key (show keyIs k key = true from hkey)
    have I1 : Inv X pins σ HL { s with heap := h' } := rI.turn (t' := s.toks) IV nI fun c o hc e => (sb.2 c hc).trans e
    have hS1 : h'.get? S = some (bestL arr c) := (sb.2 S IS).trans hSo
    have e0 := I1.env0
    have e1 : Env0 X.prog X.w X.K X.mg X.base X.A.in1 X.stack { s with heap := h' } HL := e0.in1
    show wpAny _ X.A.in1 (tryCatch (holding [key] (call (.ref q) [key])) _ >>= _) _ _ _
    refine wpAny_bind (wpAny_tryCatch (wpAny_holding ?_))
    refine wpAny_call (PySem.W.method_call (I1.hok q _ hm) (codeAny_mono (F X.A.in1 X.stack _ HL [.ref x, key] [.ref x, kV k] _ E0 hr e1 (.cons rfl (.cons rkey .nil)) (call1 k v (List.mem_of_getElem? hkv))) fun rr s2 hrr => ?_))
    cases rr with
    | error e => exact False.elim hrr
    | ok fl =>
      cases fl with
      | next => exact False.elim hrr
      | brk => exact False.elim hrr
      | cont => exact False.elim hrr
      | ret v' =>
        obtain ⟨v'', H', os, bare, un, hok, rv', eH, ev⟩ := (show CE X.stack X.prog X.w HL _ _ v' s2 from hrr)
        subst ev
        obtain ⟨t', rfl⟩ := rv'
        have I2 : Inv X pins σ HL s2 := by
          have z := I1.call' os un hok bare (fun b y => absurd y List.not_mem_nil)
          rw [eH] at z
          exact z
        have keep : ∀ {b : Addr} {o : Obj}, Rec X pins b → HL b = none → h'.get? b = some o → s2.heap.get? b = some o := fun rb ub eb => un.keep _ _ eb ub rb.fr List.not_mem_nil
        have hS2 : s2.heap.get? S = some (bestL arr c) := keep rS nS hS1
        have hit2 : s2.heap.IsKeyIter I d (i + 1) kvs.length ep' := by
          obtain ⟨o, ho, hc, hdt'⟩ := st'
          rw [hl]
          exact ⟨o, keep rI nI ho, hc, hdt'⟩
        have put : ∀ arr', Inv X pins σ HL { s2 with heap := s2.heap.update S (Obj.mapSeq fun _ => arr') } ∧ (s2.heap.update S (Obj.mapSeq fun _ => arr')).IsKeyIter I d (i + 1) kvs.length ep' ∧ ∃ c', (s2.heap.update S (Obj.mapSeq fun _ => arr')).get? S = some (bestL arr' c') := fun arr' => by
          refine ⟨rS.turn (t' := s2.toks) I2 nS fun c o hc e => (Heap.get?_update_other _ _ (Ne.symm hc)).trans e, ?_, ⟨_, Heap.get?_update_self (Obj.mapSeq fun _ => arr') hS2 rfl⟩⟩
          obtain ⟨o, e, z⟩ := hit2
          exact ⟨o, (Heap.get?_update_other _ _ IS).trans e, z⟩
        rcases ha with ⟨j0, rfl⟩ | ⟨j0, kb, vb, t, rb, rfl, hb⟩
        · show wpAny _ X.A.in1 (updateSeq S (fun _ => #[key, .int (rk k) t']) >>= _) _ _ _
          refine wpAny_bind ?_
          refine wpAny_updateSeq hS2 rfl ?_
          rw [hname]
          obtain ⟨p1, p2, c', p3⟩ := put #[key, .int (rk k) t']
          refine wpAny_pure ⟨plainId_quiet PySem.F.plain_max_loop _, ih (i + 1) _ _ c' (by omega) (by omega) p1 p2 p3 (.inr ⟨by omega, k, key, t', rkey, rfl, ?_⟩)⟩
          rw [htk, j0]
          exact IsMx.one
        · have em := hb.snoc (k := k) (v := v)
          rw [← htk] at em
          show wpAny _ X.A.in1 (tryCatch (holding [key, .int (rk k) t'] (richCompare .Gt (.int (rk k) t') (.int (rk kb) t) >>= _)) _ >>= _) _ _ _
          refine wpAny_bind (wpAny_tryCatch (wpAny_holding (wpAny_bind (CmpOf.ints_gt (P := fun j v => ∃ t, v = .int (if j = 0 then rk k else rk kb) t) (fun j => if j = 0 then rk k else rk kb) (fun j v h => h) 0 1 _ _ _ _ _ ⟨t', rfl⟩ ⟨t, rfl⟩ ?_))))
          refine wpAny_bind (wpAny_holding (wpAny_truthy_bool ?_))
          refine wpAny_bind (wpAny_letGo (wpAny_pure ?_))
          show wpAny _ X.A.in1 (if decide (rk k > rk kb) = true then _ else _) _ _ _
          by_cases hlt : rk k > rk kb
          · rw [if_pos (decide_eq_true hlt)]
            rw [if_pos hlt] at em
            refine wpAny_bind ?_
            refine wpAny_updateSeq hS2 rfl (wpAny_bind (wpAny_letGo ?_))
            rw [hname]
            obtain ⟨p1, p2, c', p3⟩ := put #[key, .int (rk k) t']
            exact wpAny_pure ⟨plainId_quiet PySem.F.plain_max_loop _, ih (i + 1) _ _ c' (by omega) (by omega) p1 p2 p3 (.inr ⟨by omega, k, key, t', rkey, rfl, em⟩)⟩
          · rw [if_neg (by rw [decide_eq_false hlt]; exact Bool.false_ne_true)]
            rw [if_neg hlt] at em
            refine wpAny_bind (wpAny_letGo ?_)
            rw [hname]
            exact wpAny_pure ⟨plainId_quiet PySem.F.plain_max_loop _, ih (i + 1) _ _ c (by omega) (by omega) I2 hit2 hS2 (.inr ⟨by omega, kb, vb, t, rb, rfl, em⟩)⟩
end
/-- xs: the dict; ys: the bound method -/
def rMaxK (g : Addr) (sp : Sp) : List V → List V → Hp → VK → Prop := fun xs ys H Q => ∃ (d q x : Addr) (kvs : List (Key × V)) (rk : Key → Int), xs = [.ref d] ∧ ys = [.ref q] ∧ H d = some (.dK kvs) ∧ H q = some (.met g x) ∧ 0 < kvs.length ∧
  (∀ od k v, (k, v) ∈ kvs → sp [.ref x, kV k] (upd H d (.frz od (.dK kvs))) (fun u H' => H' = upd H d (.frz od (.dK kvs)) ∧ u = .int (rk k)) E0) ∧ ∀ k, IsMx rk kvs k → Q (kV k) H
theorem cr_maxK {X : Cx} {kk : Nat} {g : Addr} {sp : Sp} (hr : Room (kk + 1) X.A) (F : FnR X.prog X.w X.K X.mg X.base CX0 kk g sp) : CallRK X (.builtin "max") ["key"] (rMaxK g sp) := by
  intro pins s σ H xs ys us ws Q I0 rx ry h
  obtain ⟨d, q, x, kvs, rk, rfl, rfl, hd0, hq0, ne, hcall, k⟩ := h
  cases rx with
  | cons rv rn =>
  cases rn
  rename_i u
  obtain rfl : u = Value.ref d := rv
  cases ry with
  | cons rv2 rn2 =>
  cases rn2
  rename_i uq
  obtain rfl : uq = Value.ref q := rv2
  obtain ⟨od, I⟩ := I0.lock hd0 trivial
  have hdq : d ≠ q := fun z => by rw [z, hq0] at hd0; cases hd0
  have hd : (upd H d (.frz od (.dK kvs))) d = some (.frz od (.dK kvs)) := upd_same
  have hq : (upd H d (.frz od (.dK kvs))) q = some (.met g x) := by rw [upd_ne (Ne.symm hdq)]; exact hq0
  have back : upd (upd H d (.frz od (.dK kvs))) d (.dK kvs) = H := by
    funext b
    by_cases e : b = d
    · rw [e, upd_same, hd0]
    · rw [upd_ne e, upd_ne e]
  have hcall := hcall od
  generalize hHL : upd H d (.frz od (.dK kvs)) = HL at *
  obtain ⟨hs, hgd, hx, es, ep, vs, hdt, hsz, kv, hmd⟩ := I.frzK hd
  have hname : (toString "max" ++ toString ".loop" : String) = "max.loop" := by decide
  show wpAny _ _ (call (.builtin "max") [.ref d] [(Str.ofString "key", .ref q)]) _ _ _
  refine kmk_tree PySem.F.kind_max PySem.F.plain_max PySem.F.entry_max (kmk_max_key _ _) ?_
  show wpAny _ X.A.in1 (Builtin.Builtins.bindParams "max" ["key", "default"] 0 ⟨[], [(Str.ofString "key", .ref q)]⟩ >>= _) _ _ s
  refine wpAny_bind (wpAny_of_eq (show Builtin.Builtins.bindParams "max" ["key", "default"] 0 ⟨[], [(Str.ofString "key", .ref q)]⟩ = pure [some (.ref q), none] from rfl) ?_)
  refine wpAny_bind (wpAny_pure ?_)
  refine wpAny_bind (iter_keys hs hgd hx hdt ?_)
  refine wpAny_bind (wpAny_newObj_type ?_)
  rw [hname]
  have dlt : d < s.heap.objs.size := Heap.lt_size hgd
  generalize hoi : ({ cls := .type "dict_keyiterator", data := .fields #[.ref d, .int 0 0, .int es.size 0, .int ep 0] } : Obj) = oi
  have szS : (s.heap.push oi).objs.size = s.heap.objs.size + 1 := Heap.size_push ..
  have kp : ∀ b o, s.heap.get? b = some o → ((s.heap.push oi).push (bestL #[] 0)).get? b = some o := fun b o e => Heap.get?_push_of_some _ (Heap.get?_push_of_some _ e)
  refine wpAny_pure ⟨plainId_quiet PySem.F.plain_max_loop _, maxk_loop (q := q) (g := g) (x := x) (pins := pins) (σ := σ) (HL := HL) (I := s.heap.objs.size) (S := (s.heap.push oi).objs.size) (rk := rk) (hr.hd) hr.in1 F hd hdt hq hcall (rec_new I (Nat.le_refl _)) (rec_new I (by rw [szS]; exact Nat.le_succ _)) (I.hok.fresh (Nat.le_refl _)) (I.hok.fresh (by rw [szS]; exact Nat.le_succ _)) (by rw [szS]; exact Nat.succ_ne_self _) (Nat.ne_of_lt dlt) (by rw [szS]; exact Nat.ne_of_lt (Nat.lt_succ_of_lt dlt)) ne (fun s' kb vb I' hb rb => ?_) kvs.length 0 _ #[] 0 rfl (Nat.zero_le _) (I.kept (t' := s.toks) kp) ?_ ?_ (.inl ⟨rfl, rfl⟩)⟩
  · refine ⟨kV kb, H, ?_, rb, k kb hb⟩
    have z := I'.unlock hd (I0.nofrz hd0 trivial)
    rw [back] at z
    exact z
  · refine ⟨oi, Heap.get?_push_of_some _ (Heap.get?_push_size _ (by rw [← hoi]; rfl)), by rw [← hoi], by rw [← hoi, hsz]; rfl⟩
  · exact Heap.get?_push_size _ rfl
/-- x.m as a value, in an expression -/
structure BDef (P : Program) (w : World) (K : PySem.W.Frag) (mg : Str → Option Value) (base : Heap) (k : Nat) (C : Addr) (m : Str) (ps : List Str) (sp : Sp) (g : Addr) : Prop where
  b : BMeth K C m g
  ex : ∃ (fd : FuncData), FnOk P w K mg base CX0 k g fd ps sp ∧ Binds K fd ps []
theorem BDef.r {P : Program} {w : World} {K : PySem.W.Frag} {mg : Str → Option Value} {base : Heap} {k : Nat} {C : Addr} {m : Str} {ps : List Str} {sp : Sp} {g : Addr} (D : BDef P w K mg base k C m ps sp g) : FnR P w K mg base CX0 k g sp := by
  obtain ⟨fd, F, b⟩ := D.ex
  have z := F.raw b (dvs := []) .nil
  intro A outer s H us vs Q E hr e0 r hs
  exact z A outer s H us vs Q E hr e0 r (by show sp (vs ++ []) H Q E; rw [List.append_nil]; exact hs)
def tBound (C : Addr) (m : Str) (g : Addr) (ta : TE) : TE := fun σ H Q => ta σ H fun x H1 => ∃ a dx fs, x = .ref a ∧ H1 a = some (.ins C dx fs) ∧ fs.lookup m = none ∧ ∀ q, H1 q = none → Q (.ref q) (upd H1 q (.met g a))
theorem pe_bound {X : Cx} {C : Addr} {m : Str} {g : Addr} {e : Expr} {ta : TE} {pos : Pos} (cl : Cls X.K C) (b : BMeth X.K C m g) (he : PE X e ta) (hb : attributeBase e m X.env (eval e X.env) = eval e X.env := by rfl) : PE X (.Attribute e m pos) (tBound C m g ta) := by
  refine ⟨fun pins s σ H Q I h => ?_⟩
  refine attr_of hb (thn (he.run pins s σ H _ I h) fun u s1 ⟨x, H1, I1, rx, a, dx, fs, ex, ea, l, q⟩ => ?_)
  subst ex
  exact op_getbound I1 ea cl b l rx q
end Sk

set_option Elab.async false
set_option linter.all false
set_option maxRecDepth 100000
set_option maxHeartbeats 4000000
namespace Sk
open PySem PySem.Spec PyProof.Rows L2 NdefX
/-! own error classes over ValueError, or over an own class over it, whose __init__ begins with super().__init__(e) -/
/-- what super() in the __init__ of C wants -/
structure SupOk (P : Program) (K : PySem.W.Frag) (C cc cda : Addr) : Prop where
  cell : ∃ cl cld csl, K.lookup cc = some ⟨cl, cld, .cell (some (.ref C)), csl⟩
  code : ∃ ccl cdd vs ccs file tf, K.lookup cda = some ⟨ccl, cdd, .fields vs, ccs⟩ ∧ vs[2]? = some (.str file tf) ∧ ((P.main.file : Str) == file) = true
  top : (P.main.scope.names.lookup ("super" : Str)).isSome = false
  sub : PySem.W.mroIn K C (.ref C) = some true
  init : PySem.W.ks_superIn K C C "__init__" = some (some (.builtin "ValueError.__init__"))
  noq : PySem.W.nsIn K cStatics "thirdparty.any" = some none
  ve : PySem.W.subIn K (.ref C) (.type "ValueError") = some true
section
variable {P : Program} {w : World} {K : PySem.W.Frag} {mg : Str → Option Value} {base : Heap} {f cc cda C : Addr} {name qual : Str} {params : Arguments} {body rest : List Stmt} {scope : Scope} {kV doc pm ct oc : Value} {an od : Option Addr} {osl : Array (Option Value)} {N ps : List Str} {sp : Sp} {k : Nat}
abbrev errNF (name qual : Str) (params : Arguments) (body : List Stmt) (scope : Scope) (cc cda : Addr) : NF := ⟨name, qual, params, body, scope, [("__class__", cc)], cda⟩
/-- the wrapper at u, bound to the error at a, called -/
theorem call_mw {X : Cx} {σ : L2.St} {H : Hp} {s : Shared} {a u : Addr} {us : List Value} {Q : Value → Shared → Prop} {pins : List (Addr × Obj)} {A : Around} {E : Value → Shared → Prop} (T : OexC X.K C) (I : Inv X pins σ H s) (e : H a = some (exo a C none))
    (hu : s.heap.get? u = some (PySem.W.kxs_mw "ValueError.__init__" a)) (hl : us.length ≤ sizeLine) (h : ∀ s', Inv X pins σ H s' → Q .none s') : wpAny (model X.prog X.w) A (call (.ref u) us) Q E s := by
  obtain ⟨nm, q, N, bs, bm, sn, sub, ab, col, dd, k0, k1, k2, k3, k5, hC, hbm⟩ := T.cls
  obtain ⟨t1, ho⟩ := exo_at I.hok e
  have hC' := I.kIn _ _ hC
  obtain ⟨hp, g, d, t, os⟩ := s
  have fin : ∀ h', (∀ b o, b ≠ a → hp.get? b = some o → h'.get? b = some o) → (∃ t2 : Addr, h'.get? a = some ({ cls := .ref C, dict := none, data := .fields #[.ref t2, .none, .none, .none, .bool false, .none] } : Obj)) → Q .none ⟨h', g, d, t, os⟩ := fun h' k ⟨t2, hx⟩ => by
    have J := I.write (t' := t) (x := a) (e := a) (o := exo a C none) (by rw [e]; exact True.intro) (.inl rfl) k ⟨_, hx⟩ (exo_ok hx)
    have eu : upd H a (exo a C none) = H := by
      funext b
      by_cases hb : b = a
      · rw [hb, upd_same, e]
      · rw [upd_ne hb]
    rw [eu] at J
    exact h _ J
  refine wpAny_call (codeAny_of_tree ?_)
  show wpAny _ A.in1 (callAny (.ref u) ⟨us, []⟩) _ _ _
  simp only [callAny]
  refine wpAny_bind (wpAny_load hu ?_)
  simp only [PySem.W.kxs_mw, show (Value.type "method-wrapper" == Value.type "method" || Value.type "method-wrapper" == Value.type "builtin_function_or_method" || Value.type "method-wrapper" == Value.type "method-wrapper") = true by decide, if_true]
  refine PySem.W.KFB.if_so (by decide) ?_
  refine wpAny_bind (PySem.W.check_bound_init F.excBase_ValueError.toExcCallFacts hC' ho rfl ?_)
  refine wpAny_bind (wpAny_pure (wpAny_pure ?_))
  refine ⟨plainId_quiet F.excBase_ValueError.init.plain _, codeAny_builtin F.excBase_ValueError.initEntry ?_⟩
  exact PySem.W.exc_init_tree (cls := .ref C) (t0 := t1) (dv := none) (c2 := .none) (c3 := .none) (b4 := .bool false) ho hl fun h' k hx _ => fin h' k ⟨_, hx⟩
/-- THE RULE: an own error's __init__ -/
theorem fn_err {CX : CXT} {e : Expr} {pl : Sem Bool} {p0 p1 p2 p3 p4 : Pos} {ar : Arg} (hbd : body = .Expr (.Call (.Attribute (.Call (.Name "super" p0) [] [] p1) "__init__" p2) [e] [] p3) p4 :: rest)
    (lk : K.lookup f = some ⟨oc, od, .func (PySem.W.ksFn name qual params body scope .none kV doc pm an (.ref cda) ct cc), osl⟩) (hcd : PySem.W.codeIn K (.ref cda) qual = true) (S : NScope N ps ["__class__"] scope)
    (hp : (params.posonlyargs ++ params.args).head? = some ar) (har : ps[0]? = some ar.arg) (U : SupOk P K C cc cda) (T : OexC K C) (msup : mg "super" = none)
    (hks : scope.names.lookup ("super" : Str) = some .globalImplicit) (len : ∀ vs H Q E, sp vs H Q E → vs.length = ps.length)
    (he : ∀ env : Env, starEach [e] env = (false, eval e env) :: starEach [] env)
    (hev : ∀ env : Env, eval (.Call (.Attribute (.Call (.Name "super" p0) [] [] p1) "__init__" p2) [e] [] p3) env = (do
      let ov ← attributeBase (.Call (.Name "super" p0) [] [] p1) "__init__" env (eval (.Call (.Name "super" p0) [] [] p1) env)
      standAt p2.atName
      let (f, first) ← holding [ov] (getMethod ov "__init__" pl)
      callWith p3 f first (backTo p3 (starEach [e] env)) []))
    (hbody : ∀ (A : Around) (outer : List Env) (s : Shared) (H : Hp) (vs : List V) (Q : VK) (E : XK), Room k (A.deeper (envF (errNF name qual params body scope cc cda) f s.heap.objs.size)) → sp vs H Q E →
      ∃ (a : Addr) (vs' : List V) (te : TE) (t : TS), vs = .ref a :: vs' ∧ H a = some (exo a C none) ∧ PE (ncx CX P w K mg base N (errNF name qual params body scope cc cda) f A outer s H E) e te ∧ PSs (ncx CX P w K mg base N (errNF name qual params body scope cc cda) f A outer s H E) rest t ∧
        te (startF N vs [some (.ref C)]) H fun v H1 => [v].length ≤ 1000 ∧ H1 a = some (exo a C none) ∧ t { nx := fun _ H' => Q .non H', rt := Q } (startF N vs [some (.ref C)]) H1) :
    FnOk P w K mg base CX (k + 1) f (PySem.W.ksFn name qual params body scope .none kV doc pm an (.ref cda) ct cc) ps sp := by
  refine ⟨len, fun A outer s H args us vs Q E hr e0 hbn r hsp => ?_⟩
  have hl := len _ _ _ _ hsp
  have KX : K.In s.heap := e0.mod.kin.keeps fun b o e => (e0.bs b o e).1
  have lim : s.heap.NoLimit := e0.mod.nolimit.keeps fun b o e => (e0.bs b o e).1
  obtain ⟨cl, cld, csl, hcell⟩ := U.cell
  obtain ⟨ccl, cdd, vsc, ccs, file, tf, hcode, hvs, hfile⟩ := U.code
  obtain ⟨a, vs', te, t, rfl, ea, pe, pss, hq⟩ := hbody A outer s H vs Q E (hr.deeper _) hsp
  have hloc : ∀ y ∈ ps.zip us, scope.names.lookup y.1 = some .local := fun ⟨n, v⟩ hy => S.par n (List.of_mem_zip hy).1
  refine ks_codeAny_call_defAt (fd := PySem.W.ksFn name qual params body scope .none kV doc pm an (.ref cda) ct cc) (body := body) (binds := ps.zip us) hr.depth (KX _ _ lk) rfl lim (PySem.W.codeRec_of KX hcd) rfl hbn S.nocell hloc (fun h₁ hns kp => ?_) S.co S.gen S.kind
  have Ce : CellsAt [("__class__", cc)] ["__class__"] [some (V.ref C)] s.heap H := ⟨rfl, fun y c h => by
      have hc : c = cc := by
        by_cases z : y = "__class__"
        · subst z; simp [List.lookup] at h; exact h.symm
        · have : (y == ("__class__" : Str)) = false := by simpa using z
          simp [List.lookup, this] at h
      subst hc
      exact ⟨(e0.bs _ _ (e0.mod.kin _ _ hcell)).2, _, _, (e0.bs _ _ (e0.mod.kin _ _ hcell)).1, rfl⟩, fun x y c hx hy => by
      have one : ∀ z : Str, ([("__class__", cc)] : List (Str × Addr)).lookup z = some c → z = "__class__" := fun z h => by
        by_cases q : z = "__class__"
        · exact q
        · have : (z == ("__class__" : Str)) = false := by simpa using q
          simp [List.lookup, this] at h
      rw [one x hx, one y hy], fun i y hi => by
      have hy : i = 0 ∧ y = "__class__" := by
        match i, hi with
        | 0, h => exact ⟨rfl, (Option.some.inj h).symm⟩
        | i + 1, h => simp at h
      obtain ⟨rfl, rfl⟩ := hy
      refine ⟨cc, by simp [List.lookup], fun v hv => ?_⟩
      cases hv
      exact ⟨.ref C, rfl, _, (e0.bs _ _ (e0.mod.kin _ _ hcell)).1, rfl⟩⟩
  have I : Inv (ncx CX P w K mg base N (errNF name qual params body scope cc cda) f A outer s H E) [] (startF N (.ref a :: vs') [some (.ref C)]) H { s with heap := h₁, toks := s.toks + (ps.zip us).length } := inv_startN (F := errNF name qual params body scope cc cda) S hr.hd e0 hl r Ce hns kp
  obtain ⟨nm, q, Nn, bs, bm, sn, sub, ab, col, dd, k0, k1, k2, k3, k5, hC, hbm⟩ := T.cls
  have hcl : PySem.W.clsIn K C = some { name := nm, bases := bs, mro := .ref C :: bm, ns := Nn, qualname := q, hasDict := true, slotNames := sn, subclasses := sub, abstract := ab, collection := col, hasDel := false } := by unfold PySem.W.clsIn; rw [hC] <;> rfl
  obtain ⟨t1, ho⟩ := exo_at I.hok ea
  have XI := I.kIn
  have KI : K.In h₁ := XI
  obtain ⟨m, hn, hm⟩ := I.loc
  have hself : m ar.arg = some (.ref a) := by
    have hN : N[0]? = some ar.arg := by
      have h0 : ps.length ≠ 0 := fun z => by rw [List.getElem?_eq_none (by omega)] at har; cases har
      have q : (N.take (ps.length + (["__class__"] : List Str).length))[0]? = (ps ++ (["__class__"] : List Str))[0]? := by rw [S.pre]
      rw [List.getElem?_take_of_lt (by omega), List.getElem?_append_left (by omega), har] at q
      exact q
    have hz := S.par ar.arg (List.mem_of_getElem? har)
    obtain ⟨u, ru, lk2⟩ := hm 0 ar.arg (.ref a) hN rfl (.inl hz)
    have eu : u = .ref a := ru
    subst eu
    rcases lk2 with ⟨_, e⟩ | ⟨h, _⟩
    · exact e
    · rcases h with h | h
      · have := hz.symm.trans h; cases this
      · have := hz.symm.trans h; cases this
  have hza : scope.names.lookup ar.arg = some .local := S.par ar.arg (List.mem_of_getElem? har)
  have hzc : scope.names.lookup ("__class__" : Str) = some .free := S.frk _ (List.mem_singleton.mpr rfl)
  obtain ⟨mb, hb1, hb2⟩ := e0.mod.blt
  subst hbd
  refine ks_wpAt_execs_cons (ks_wpAt_Expr_any (ks_wpAt_MethodCall (pl := pl) ?_ (hev _)) I.quiet)
  refine ks_wpAt_super_base (cc := cda) (f := f) (env := PySem.W.ksEnv qual scope s.heap.objs.size f (.ref cda) cc) hks hzc rfl rfl (KI _ _ lk) rfl hp rfl (KI _ _ hcode) rfl hvs hfile U.top ?_
  refine PySem.W.ks_loadName_global S.kind hks (Calls.loadGlobal_builtin (e0.mod.glob.keeps fun b o e => kp b o (e0.bs b o e).1) msup (hb1.keeps fun b o e => kp b o (e0.bs b o e).1) ((hb2 _ (by decide)).trans (by decide +kernel)) ⟨rfl, ?_⟩)
  refine wpAny_loadName_free S.kind hzc rfl ⟨_, KI _ _ hcell, rfl⟩ ?_
  refine wpAny_loadName_local S.kind hza hn hself ?_
  refine ks_wpAny_isType_cls (KI _ _ hC) rfl ⟨rfl, ?_⟩
  refine ks_wpAny_call_super (KI _ _ hC) rfl ho rfl (fun c e => by cases e) (PySem.W.looks_mroIn KI U.sub) (fun h2 e2 k2 => ?_)
  have KI2 : K.In h2 := KI.keeps k2
  have ho2 := k2 _ _ ho
  have hi := U.init
  unfold PySem.W.ks_superIn at hi
  rw [hcl, Option.bind_some] at hi
  have II : PySem.W.InstAt h2 a ({ cls := .ref C, dict := none, data := .fields #[.ref t1, .none, .none, .none, .bool false, .none] } : Obj) C none := ⟨ho2, rfl, rfl, trivial⟩
  refine PySem.W.kxs_getMethod PySem.W.kxs_ValueError e2 (PySem.W.looks_opaque KI2 U.noq) (l₀ := .ref C :: bm) ?_ rfl KI2 hi (II.type.andThen (PySem.W.looks_subIn KI2 U.ve)) (PySem.W.ks_ne KI2 II hcl) rfl ?_
  · exact fun A Q E s k q => wpAny_bind ((PySem.W.looks_clsIn KI2 hcl) A _ E s k (wpAny_pure q))
  -- the super object and the wrapper stand beside what is told
  have k3 : ∀ b o, h₁.get? b = some o → (h2.push (PySem.W.kxs_mw "ValueError.__init__" a)).get? b = some o := fun b o e => Heap.get?_push_of_some _ (k2 _ _ e)
  have hu3 : (h2.push (PySem.W.kxs_mw "ValueError.__init__" a)).get? h2.objs.size = some (PySem.W.kxs_mw "ValueError.__init__" a) := Heap.get?_push_at rfl rfl
  have hsz : h₁.objs.size ≤ h2.objs.size := Nat.le_of_lt (Heap.lt_size e2)
  have I3 := (I.kept (t' := s.toks + (ps.zip us).length + 1) k3).pins_of (pins' := [(h2.objs.size, PySem.W.kxs_mw "ValueError.__init__" a)]) fun p hp => by
    rw [List.mem_singleton.mp hp]
    refine ⟨hu3, I.hok.fresh hsz, fun z => ?_, fun z => I.nofs hsz z, fun v z => by cases z⟩
    have y := I.lt
    have z' : h2.objs.size = s.heap.objs.size := z
    have y' : s.heap.objs.size < h₁.objs.size := y
    omega
  show wpAny _ _ (callWith p3 (.ref h2.objs.size) [] (backTo p3 (starEach [e] _)) []) _ _ _
  rw [he]
  refine PySem.W.kxs_callWith (i := "ValueError.__init__") (x := a) rfl (Calls.evalArgs_plain (rest := []) ?_)
  have run := (pa_cons pe pa_nil (he _)).run p3 [(h2.objs.size, PySem.W.kxs_mw "ValueError.__init__" a)] _ _ H (fun vs H1 => vs.length ≤ 1000 ∧ H1 a = some (exo a C none) ∧ t { nx := fun _ H' => Q .non H', rt := Q } (startF N (.ref a :: vs') [some (.ref C)]) H1) I3 hq
  rw [he] at run
  refine wpAny_mono run (fun us2 s4 hs4 => ?_) fun _ _ x => x
  obtain ⟨vs4, H4, I4, r4, hl4, ea4, q4⟩ := hs4
  have hu4 := (I4.pin (h2.objs.size, PySem.W.kxs_mw "ValueError.__init__" a) (by simp)).1
  refine ⟨hu4, call_mw T I4 ea4 hu4 (by show us2.length ≤ _; rw [← Paired.length r4, sizeLine_eq]; omega) fun s5 I5 => ?_⟩
  refine wpAt_of_wpAny (wpAny_mono (pss.run _ s5 _ H4 _ I5 q4) (fun fl s' hs => ?_) fun e s' hs => hs)
  cases fl with
  | ret u =>
    obtain ⟨v, σ', H', J, rv, q⟩ := hs
    exact ⟨v, H', J.os, J.bare, J.base, J.hok, rv, q⟩
  | next =>
    obtain ⟨σ', H', J, q⟩ := hs
    exact ⟨V.non, H', J.os, J.bare, J.base, J.hok, rfl, q⟩
  | brk =>
    obtain ⟨_, _, _, q⟩ := hs
    exact False.elim q
  | cont =>
    obtain ⟨_, _, _, q⟩ := hs
    exact False.elim q
end
end Sk

set_option Elab.async false
set_option linter.all false
set_option maxRecDepth 100000
set_option maxHeartbeats 4000000
namespace Sk
open PySem PySem.Spec PyProof.Rows L2 GenW GxR
/-! tables of code objects, and the end of a law with several of them -/
def Tabs (T : List Addr) (H : Hp) : Prop := ∀ P ∈ T, TabG H P
/-- all that stood stands, but the tables may have grown -/
structure SameT (T : List Addr) (H H' : Hp) : Prop where
  keep : ∀ b o, H b = some o → b ∉ T → H' b = some o
  tabs : Tabs T H → Tabs T H'
theorem SameT.refl (T : List Addr) (H : Hp) : SameT T H H := ⟨fun _ _ e _ => e, id⟩
theorem SameT.trans {T : List Addr} {H H1 H2 : Hp} (a : SameT T H H1) (b : SameT T H1 H2) : SameT T H H2 := ⟨fun c o e n => b.keep c o (a.keep c o e n) n, fun t => b.tabs (a.tabs t)⟩
theorem SameT.of {T : List Addr} {H H' : Hp} (s : Same H H') : SameT T H H' := ⟨fun c o e _ => s c o e, fun t P hP => by
  obtain ⟨ps, e, r⟩ := t P hP
  exact ⟨ps, s _ _ e, r⟩⟩
theorem SameT.tabbed {T : List Addr} {P : Addr} {H H' : Hp} (hP : P ∈ T) (t : Tabbed P H H') : SameT T H H' := ⟨fun c o e n => by
    rw [t.2 c fun z => n (by rw [z]; exact hP)]
    exact e, fun s Q hQ => by
    by_cases z : Q = P
    · rw [z]; exact t.1
    · obtain ⟨ps, e, r⟩ := s Q hQ
      exact ⟨ps, by rw [t.2 Q z]; exact e, r⟩⟩
theorem tabs_out {T : List Addr} {H : Hp} {a : Addr} {o : HO} (t : Tabs T H) (e : H a = some o) (n : ∀ ps, o ≠ .tbl ps) : a ∉ T := fun h => by
  obtain ⟨ps, e', _⟩ := t a h
  rw [e] at e'
  exact n ps (Option.some.inj e')
section
variable {T : List Addr} {H H' : Hp} {a : Addr}
theorem SameT.t {xs : List V} (s : SameT T H H') (t : Tabs T H) (e : H a = some (.tup xs)) : H' a = some (.tup xs) := s.keep a _ e (tabs_out t e fun ps z => by cases z)
theorem SameT.l {xs : List V} (s : SameT T H H') (t : Tabs T H) (e : H a = some (.lst xs)) : H' a = some (.lst xs) := s.keep a _ e (tabs_out t e fun ps z => by cases z)
theorem SameT.d {kvs : List (Key × V)} (s : SameT T H H') (t : Tabs T H) (e : H a = some (.dK kvs)) : H' a = some (.dK kvs) := s.keep a _ e (tabs_out t e fun ps z => by cases z)
theorem SameT.i {C d : Addr} {fs : List (Str × V)} (s : SameT T H H') (t : Tabs T H) (e : H a = some (.ins C d fs)) : H' a = some (.ins C d fs) := s.keep a _ e (tabs_out t e fun ps z => by cases z)
theorem Same.tabs (s : Same H H') (t : Tabs T H) : Tabs T H' := (SameT.of s).tabs t
theorem Keep.tabs {d : Addr} {kvs : List (Key × V)} (k : Keep d H H') (hd : H d = some (.dK kvs)) (t : Tabs T H) : Tabs T H' := fun P hP => by
  obtain ⟨ps, e, r⟩ := t P hP
  exact ⟨ps, k _ _ e (ne_of e hd (by intro z; cases z)), r⟩
theorem Tabs.new {p : Addr} {o : HO} (t : Tabs T H) (h : H p = none) : Tabs T (upd H p o) := Same.tabs (same_new h) t
theorem SameT.st1 {K : PySem.W.Frag} {d c : Addr} (s : SameT T H H') (t : Tabs T H) (S : St1 K H d c) : St1 K H' d c := by
  obtain ⟨ns, i, l, m, S⟩ := S
  exact ⟨ns, i, l, m, s.d t S.dc, s.l t S.cs, S.nn, S.i0, S.l0, S.m0, S.m1⟩
end
/-- a def whose code object is known -/
theorem okT {P : Program} {w : World} {K : PySem.W.Frag} {mg : Str → Option Value} {base : Heap} {x qual : Str} {st : Stmt} {f c : Addr} {fd : FuncData} {N ps : List Str} {k : Nat} {sp : Sp} (F : Fun K x qual st f fd) (hc : fd.code = .ref c) (S : FnScope N ps (defScope st)) (len : ∀ vs H Q E, sp vs H Q E → vs.length = ps.length)
    (hbody : ∀ (A : Around) (outer : List Env) (s : Shared) (H : Hp) (vs : List V) (Q : VK) (E : XK), Room k (A.deeper (envOfC qual (defScope st) s.heap.objs.size f (.ref c))) → sp vs H Q E →
      ∃ t, PSs (cxOf CX0 P w K mg base N qual (defScope st) f (.ref c) A outer s H E).nox (defBody st) t ∧ t { nx := fun _ H' => Q .non H', rt := Q } (start N vs) H) : FnOk P w K mg base CX0 (k + 1) f fd ps sp := by
  obtain ⟨oc, od, kV, doc, pm, an, cdv, ct, osl, rfl, lk, hcd⟩ := F.ex
  have e : cdv = .ref c := hc
  subst e
  refine fn_of lk hcd S len fun A outer s H vs Q E hr hsp => ?_
  obtain ⟨t, h, q⟩ := hbody A outer s H vs Q E hr hsp
  exact ⟨t, h.nox, q⟩
theorem walk_tabs {l : PySem.W.OpenLaw} {n k : Nat} {q : Program} {loose : List Str} {XP : (Str → Option Value) → Heap → Prop} {YP : World → Heap → Prop} {d : DefRec} {K : Params → PySem.W.Frag} {CX : World → CXT} {x : Str}
    (hn : l.most = some n) (hn2 : n ≤ sizeLine) (hdf : d.params.defaults = []) (hr : Room k callerA) (hY : ∀ (w : World) (h : Heap), YP w h → (K w.params).In h)
    (F : ∀ (w : World) (mg : Str → Option Value) (fa : Addr) (h : Heap), (K w.params).In h → h.Ns mainGlobals mg → mg d.name = some (.ref fa) →
      (∀ (y : Str) (e : DefRec) (c P : Addr), (recsOf q).find? (fun e => e.name == y) = some e → PySem.W.tabIn (K w.params) y = some (c, P) → PySem.W.CodeHd h c P ∧ h.get? P = some { cls := .none, data := .fields #[] }) → LamX.LawAtS l w (K w.params) (CX w) k n x mg fa h)
    (hCX : ∀ (w : World) (H : Hp) (s : Shared) (e : Value) (s' : Shared), CX w [] H s (fun _ _ _ => False) e s' → False) :
    PySem.W.WalkO q loose XP YP l.row.toRowW d [] (fun f vs => PySem.call f vs) := by
  refine Att.attach_callB hn hdf fun w s₀ s₁ mg mb fa o pm cd doc a vs ns G Y ho hd hcd hmg hobj hints hlen hbits hg => ?_
  have KX := hY w _ Y
  obtain ⟨fd, cs, sp, hT, nT, C, hb, hsp, hF⟩ := F w mg fa _ KX G.T.g hmg fun y e c P hf ht => PySem.W.tab_of G.T KX hf ht
  exact LamX.law_callTs KX G.T.g G.T.b G.T.builtins G.T.nolimit hg hT nT C G.T.bmain hobj hints (Nat.le_trans hlen hn2) hr hF hb (fun H hH hS => hsp H a ns hlen hbits hH hS) fun H e s' => hCX w H s₁ e s'
end Sk

set_option Elab.async false
set_option linter.all false
set_option maxRecDepth 100000
set_option maxHeartbeats 4000000
namespace Sk
open PySem PySem.Spec PyProof.Rows L2 NdefX
/-! own errors, raised and caught; defs that may raise -/
/-- an own error class, ready to be made by its name -/
structure ErrD (P : Program) (w : World) (K : PySem.W.Frag) (mg : Str → Option Value) (base : Heap) (k : Nat) (x : Str) (C : Addr) (ps : List Str) (sp : Sp) : Prop where
  ex : ∃ (f : Addr) (fd : FuncData), FnOk P w K mg base CX0 k f fd ps sp ∧ Binds K fd ps [] ∧ PySem.W.findIn K (.ref C) "__init__" = some (some (.ref f)) ∧ PySem.W.typeIn K (.ref f) = some (.type "function")
  gC : mg x = some (.ref C)
  T : OexC K C
  te : PySem.W.exmOne K (.ref C) (.ref C) = some true
/-- code and tick, as the error's own dict tells them -/
def ctK (s : Str) (t : Int) : List (Str × V) := [("tick", .int t), ("code", .str s)]
def spCErr (C : Addr) : Sp := fun vs H Q _ => ∃ (a : Addr) (s : Str) (t : Int), vs = [.ref a, .str s, .int t] ∧ H a = some (exo a C none) ∧ s.length ≤ 1000 ∧ t.natAbs < 2 ^ 250 ∧
  ∀ dx, H dx = none → dx ≠ a → Q .non (upd (upd (upd H dx (exd dx [("code", .str s)])) a (exo a C (some dx))) dx (exd dx (ctK s t)))
theorem err_heap {H : Hp} {a dx C : Addr} {s : Str} {t : Int} (ha : H a = none) (hd : H dx = none) (n : dx ≠ a) :
    upd (del (upd (upd (upd (upd H a (exo a C none)) dx (exd dx [("code", .str s)])) a (exo a C (some dx))) dx (exd dx (ctK s t))) a) dx (.xd (ctK s t)) = upd H dx (.xd (ctK s t)) := by
  funext b
  by_cases h1 : b = dx
  · rw [h1, upd_same, upd_same]
  · rw [upd_ne h1, upd_ne h1]
    by_cases h2 : b = a
    · rw [h2, del_same, ha]
    · rw [del_ne h2, upd_ne h1, upd_ne h2, upd_ne h1, upd_ne h2]
section
variable {X : Cx} {k : Nat} {x : Str} {C : Addr} {p pos pos2 : Pos} {e1 e2 : Expr} {ta : TA} {W : WX}
/-- raise C(code, tick) -/
def tRaiseC (C : Addr) (W : WX) (ta : TA) : TS := fun _ σ H => ta σ H fun vs H1 => ∃ (s : Str) (t : Int), vs = [.str s, .int t] ∧ s.length ≤ 1000 ∧ t.natAbs < 2 ^ 250 ∧ ∀ d, H1 d = none → W (.ref C) (some d) σ (upd H1 d (.xd (ctK s t)))
theorem pmk_err {ps : List Str} {sp : Sp} (D : ErrD X.prog X.w X.K X.mg X.base k x C ps sp) (hr : Room (k + 1) X.A) (hg : Gl X x) (ha : PA X (e1 :: [e2]) ta) (hdb : (x == ("__debug__" : Str)) = false := by decide)
    (he : starEach (e1 :: [e2]) X.env = (false, eval e1 X.env) :: starEach [e2] X.env := by rfl) (hpl : (backTo pos (starEach [e2] X.env)).any (·.1) = false := by rfl) : PMk X (.Call (.Name x p) (e1 :: [e2]) [] pos) (tMkO C sp [] ta) := by
  obtain ⟨f, fd, F1, b, iC, tI⟩ := D.ex
  exact pmk_oex D.T iC tI F1 hr b .nil pass0 hg D.gC ha hdb he hpl
theorem tMk_of {σ : L2.St} {H : Hp} {Q : XK} (mono : ∀ σ H (R R' : List V → Hp → Prop), (∀ vs H, R vs H → R' vs H) → ta σ H R → ta σ H R') (h : ta σ H fun vs H1 => ∃ (s : Str) (t : Int), vs = [.str s, .int t] ∧ s.length ≤ 1000 ∧ t.natAbs < 2 ^ 250 ∧ ∀ d, H1 d = none → Q (.ref C) (some d) (upd H1 d (.xd (ctK s t)))) : tMkO C (spCErr C) [] ta σ H Q := by
  refine mono _ _ _ _ (fun vs H1 ⟨s, t, ev, hs, ht, q⟩ => ?_) h
  subst ev
  refine ⟨(by show 2 ≤ 1000; decide), fun a ha => ⟨a, s, t, rfl, upd_same, hs, ht, fun dx hdx n => ?_⟩⟩
  have hd1 : H1 dx = none := by rw [upd_ne n] at hdx; exact hdx
  refine ⟨rfl, dx, ctK s t, ?_, upd_same, hd1, ?_⟩
  · rw [upd_ne (Ne.symm n), upd_same]
  · rw [err_heap ha hd1 n]
    exact q dx hd1
/-- raise C(code, tick), both told by expressions -/
theorem ps_raiseC {te1 te2 : TE} (hc : X.calm = true) (D : ErrD X.prog X.w X.K X.mg X.base k x C ["self", "code", "tick"] (spCErr C)) (hr : Room (k + 1) X.A) (tk : Takes X W) (hg : Gl X x) (h1 : PE X e1 te1) (h2 : PE X e2 te2)
    (m1 : ∀ σ H (R R' : VK), (∀ v H, R v H → R' v H) → te1 σ H R → te1 σ H R') (m2 : ∀ σ H (R R' : VK), (∀ v H, R v H → R' v H) → te2 σ H R → te2 σ H R') (hdb : (x == ("__debug__" : Str)) = false := by decide)
    (he : starEach (e1 :: [e2]) X.env = (false, eval e1 X.env) :: starEach [e2] X.env := by rfl) (he2 : starEach (e2 :: []) X.env = (false, eval e2 X.env) :: starEach [] X.env := by rfl) (hpl : (backTo pos (starEach [e2] X.env)).any (·.1) = false := by rfl) :
    PS X (.Raise (some (.Call (.Name x p) (e1 :: [e2]) [] pos)) none pos2) (tRaiseC C W (tCons te1 (tCons te2 tNil))) := by
  have q := ps_raise (pos := pos2) hc tk (pmk_err (p := p) (pos := pos) D hr hg (pa_cons h1 (pa_cons h2 pa_nil he2) he) hdb he hpl)
  refine ⟨fun pins s σ H Dn I h => q.run pins s σ H Dn I ?_⟩
  exact tMk_of (fun σ H R R' im z => m1 _ _ _ _ (fun v H1 z => m2 _ _ _ _ (fun v2 H2 z => im _ _ z) z) z) h
end
/-- a def of the text that may raise, ready to be called by its name -/
structure DefX (P : Program) (w : World) (K : PySem.W.Frag) (mg : Str → Option Value) (base : Heap) (k : Nat) (x : Str) (ps : List Str) (sp : Sp) : Prop where
  ex : ∃ (f : Addr) (fd : FuncData), FnOk P w K mg base (L2.CX P w) k f fd ps sp ∧ mg x = some (.ref f) ∧ PySem.W.keepIn K (.ref f) = true ∧ Binds K fd ps []
theorem DefX.mk' {P : Program} {w : World} {K : PySem.W.Frag} {mg : Str → Option Value} {base : Heap} {k : Nat} {x qual : Str} {st : Stmt} {f : Addr} {fd : FuncData} {ps : List Str} {sp : Sp}
    (F : Fun K x qual st f fd) (b : Binds K fd ps []) (m : mg x = some (.ref f)) (G : FnOk P w K mg base (L2.CX P w) k f fd ps sp) : DefX P w K mg base k x ps sp := ⟨f, fd, G, m, F.kp, b⟩
theorem pe_defX {X : Cx} {W : WX} {k : Nat} {x : Str} {ps : List Str} {sp : Sp} {p pos : Pos} {e : Expr} {es : List Expr} {t : TA} (D : DefX X.prog X.w X.K X.mg X.base k x ps sp) (hr : Room k X.A) (hg : Gl X x) (tk : Takes X W)
    (ha : PA X (e :: es) t) (hdb : (x == ("__debug__" : Str)) = false := by decide) (he : starEach (e :: es) X.env = (false, eval e X.env) :: starEach es X.env := by rfl) (hpl : (backTo pos (starEach es X.env)).any (·.1) = false := by rfl) :
    PE X (.Call (.Name x p) (e :: es) [] pos) (tCallS sp (WE W) t) := by
  obtain ⟨f, fd, F, m, kp, b⟩ := D.ex
  exact pe_callS F hr hg m kp b (fun σ => passAt tk σ) ha hdb he hpl
/-- a def that may raise, whose code object is known -/
theorem okTX {P : Program} {w : World} {K : PySem.W.Frag} {mg : Str → Option Value} {base : Heap} {x qual : Str} {st : Stmt} {f c : Addr} {fd : FuncData} {N ps : List Str} {k : Nat} {sp : Sp} (F : Fun K x qual st f fd) (hc : fd.code = .ref c) (S : FnScope N ps (defScope st)) (len : ∀ vs H Q E, sp vs H Q E → vs.length = ps.length)
    (hbody : ∀ (A : Around) (outer : List Env) (s : Shared) (H : Hp) (vs : List V) (Q : VK) (E : XK), Room k (A.deeper (envOfC qual (defScope st) s.heap.objs.size f (.ref c))) → sp vs H Q E →
      ∃ t, PSs (cxOf (L2.CX P w) P w K mg base N qual (defScope st) f (.ref c) A outer s H E) (defBody st) t ∧ t { nx := fun _ H' => Q .non H', rt := Q } (start N vs) H) : FnOk P w K mg base (L2.CX P w) (k + 1) f fd ps sp := by
  obtain ⟨oc, od, kV, doc, pm, an, cdv, ct, osl, rfl, lk, hcd⟩ := F.ex
  have e : cdv = .ref c := hc
  subst e
  exact fn_of lk hcd S len fun A outer s H vs Q E hr hsp => hbody A outer s H vs Q E hr hsp
/-- a def that raises in one way and else promises as before -/
theorem natAbs_log {t : Int} (h : t.natAbs < 2 ^ 250) : t.natAbs.log2 < 1920 := by
  by_cases z : t.natAbs = 0
  · rw [z]; decide
  · exact (Nat.log2_lt z).mpr (Nat.lt_of_lt_of_le h (Nat.pow_le_pow_right (by decide) (by decide)))
end Sk

set_option Elab.async false
set_option linter.all false
set_option maxRecDepth 100000
set_option maxHeartbeats 4000000
namespace Sk
open PySem PySem.Spec PyProof.Rows L2 NdefX
/-! own errors with one field, code -/
def cdK (s : Str) : List (Str × V) := [("code", .str s)]
def spCErr1 (C : Addr) : Sp := fun vs H Q _ => ∃ (a : Addr) (s : Str), vs = [.ref a, .str s] ∧ H a = some (exo a C none) ∧ s.length ≤ 1000 ∧
  ∀ dx, H dx = none → dx ≠ a → Q .non (upd (upd H dx (exd dx (cdK s))) a (exo a C (some dx)))
theorem err_heap1 {H : Hp} {a dx C : Addr} {s : Str} (ha : H a = none) (hd : H dx = none) (n : dx ≠ a) :
    upd (del (upd (upd (upd H a (exo a C none)) dx (exd dx (cdK s))) a (exo a C (some dx))) a) dx (.xd (cdK s)) = upd H dx (.xd (cdK s)) := by
  funext b
  by_cases h1 : b = dx
  · rw [h1, upd_same, upd_same]
  · rw [upd_ne h1, upd_ne h1]
    by_cases h2 : b = a
    · rw [h2, del_same, ha]
    · rw [del_ne h2, upd_ne h2, upd_ne h1, upd_ne h2]
section
variable {X : Cx} {k : Nat} {x : Str} {C : Addr} {p pos pos2 : Pos} {e1 : Expr} {ta : TA} {W : WX}
/-- raise C(code) -/
def tRaiseC1 (C : Addr) (W : WX) (ta : TA) : TS := fun _ σ H => ta σ H fun vs H1 => ∃ (s : Str), vs = [.str s] ∧ s.length ≤ 1000 ∧ ∀ d, H1 d = none → W (.ref C) (some d) σ (upd H1 d (.xd (cdK s)))
theorem pmk_err1 {ps : List Str} {sp : Sp} (D : ErrD X.prog X.w X.K X.mg X.base k x C ps sp) (hr : Room (k + 1) X.A) (hg : Gl X x) (ha : PA X (e1 :: []) ta) (hdb : (x == ("__debug__" : Str)) = false := by decide)
    (he : starEach (e1 :: []) X.env = (false, eval e1 X.env) :: starEach [] X.env := by rfl) (hpl : (backTo pos (starEach [] X.env)).any (·.1) = false := by rfl) : PMk X (.Call (.Name x p) (e1 :: []) [] pos) (tMkO C sp [] ta) := by
  obtain ⟨f, fd, F1, b, iC, tI⟩ := D.ex
  exact pmk_oex D.T iC tI F1 hr b .nil pass0 hg D.gC ha hdb he hpl
theorem tMk_of1 {σ : L2.St} {H : Hp} {Q : XK} (mono : ∀ σ H (R R' : List V → Hp → Prop), (∀ vs H, R vs H → R' vs H) → ta σ H R → ta σ H R') (h : ta σ H fun vs H1 => ∃ (s : Str), vs = [.str s] ∧ s.length ≤ 1000 ∧ ∀ d, H1 d = none → Q (.ref C) (some d) (upd H1 d (.xd (cdK s)))) : tMkO C (spCErr1 C) [] ta σ H Q := by
  refine mono _ _ _ _ (fun vs H1 ⟨s, ev, hs, q⟩ => ?_) h
  subst ev
  refine ⟨(by show 1 ≤ 1000; decide), fun a ha => ⟨a, s, rfl, upd_same, hs, fun dx hdx n => ?_⟩⟩
  have hd1 : H1 dx = none := by rw [upd_ne n] at hdx; exact hdx
  refine ⟨rfl, dx, cdK s, ?_, ?_, hd1, ?_⟩
  · rw [upd_same]
  · rw [upd_ne n, upd_same]
  · rw [err_heap1 ha hd1 n]
    exact q dx hd1
theorem ps_raiseC1 {te1 : TE} (hc : X.calm = true) (D : ErrD X.prog X.w X.K X.mg X.base k x C ["self", "code"] (spCErr1 C)) (hr : Room (k + 1) X.A) (tk : Takes X W) (hg : Gl X x) (h1 : PE X e1 te1)
    (m1 : ∀ σ H (R R' : VK), (∀ v H, R v H → R' v H) → te1 σ H R → te1 σ H R') (hdb : (x == ("__debug__" : Str)) = false := by decide)
    (he : starEach (e1 :: []) X.env = (false, eval e1 X.env) :: starEach [] X.env := by rfl) (hpl : (backTo pos (starEach [] X.env)).any (·.1) = false := by rfl) :
    PS X (.Raise (some (.Call (.Name x p) (e1 :: []) [] pos)) none pos2) (tRaiseC1 C W (tCons te1 tNil)) := by
  have q := ps_raise (pos := pos2) hc tk (pmk_err1 (p := p) (pos := pos) D hr hg (pa_cons h1 pa_nil he) hdb he hpl)
  refine ⟨fun pins s σ H Dn I h => q.run pins s σ H Dn I ?_⟩
  exact tMk_of1 (fun σ H R R' im z => m1 _ _ _ _ (fun v H1 z => im _ _ z) z) h
end
end Sk

set_option Elab.async false
set_option linter.all false
set_option maxRecDepth 100000
set_option maxHeartbeats 4000000
namespace Sk
open PySem PySem.Spec PyProof.Rows L2 NdefX
/-! the fields of a caught error -/
structure ErrF (K : PySem.W.Frag) (C : Addr) (n m : Str) : Prop where
  xf : XfC K C
  a : PySem.W.findIn K (.ref C) n = some none
  b : PySem.W.findIn K (.ref C) m = some none
/-! methods that may raise -/
structure MDefX (P : Program) (w : World) (K : PySem.W.Frag) (mg : Str → Option Value) (base : Heap) (k : Nat) (C : Addr) (m : Str) (ps : List Str) (sp : Sp) : Prop where
  ex : ∃ (f : Addr) (fd : FuncData), FnOk P w K mg base (L2.CX P w) k f fd ps sp ∧ Meth K C m f ∧ Binds K fd ps []
def tMethX (C : Addr) (m : Str) (sp : Sp) (E : L2.St → XK) (ta : TE) (t : TA) : TE := fun σ H Q => ta σ H fun x H1 => ∃ a dx fs, x = .ref a ∧ H1 a = some (.ins C dx fs) ∧ fs.lookup m = none ∧ t σ H1 fun vs H2 => sp (x :: vs) H2 Q (E σ)
theorem pe_mdefX {X : Cx} {W : WX} {k : Nat} {C : Addr} {m : Str} {ps : List Str} {sp : Sp} {pos apos : Pos} {o e : Expr} {es : List Expr} {ta : TE} {t : TA} {pl : Sem Bool} (D : MDefX X.prog X.w X.K X.mg X.base k C m ps sp) (cl : Cls X.K C) (hr : Room k X.A) (tk : Takes X W) (ho : PE X o ta)
    (ha : PA X (e :: es) t) (hst : starEach (e :: es) X.env = (false, eval e X.env) :: starEach es X.env := by rfl) (hpl : (backTo pos (starEach es X.env)).any (·.1) = false := by rfl)
    (ht : eval (.Call (.Attribute o m apos) (e :: es) [] pos) X.env = (do
      let ov ← eval o X.env
      standAt apos.atName
      let (f, first) ← holding [ov] (getMethod ov m pl)
      callWith pos f first (backTo pos (starEach (e :: es) X.env)) (backToKw pos (keywordEach [] X.env))) := by rfl) :
    PE X (.Call (.Attribute o m apos) (e :: es) [] pos) (tMethX C m sp (WE W) ta t) := by
  obtain ⟨f, fd, F, M, b⟩ := D.ex
  refine ⟨fun pins s σ H Q I h => ?_⟩
  refine PySem.W.methodCall_KW (pl := pl) (thn (ho.run pins s σ H _ I h) fun u s1 ⟨x, H1, I1, rx, a, dx, fs, ex, ea, l, q⟩ => ?_) ht
  subst ex
  obtain rfl : u = Value.ref a := rx
  refine getmeth_ok I1 ea cl M l ?_
  refine PySem.W.callWith_K (first := [.ref a]) (h₀ := X.base) I.ok.mod.kin M.kp (thn (ha.run pos pins s1 σ H1 _ I1 q) fun us s2 ⟨vs, H2, I2, r, q2⟩ => ⟨I2.kIn, ?_⟩) hst hpl
  exact run_fnS (us := .ref a :: us) (vs := .ref a :: vs) F hr b (passAt tk σ) I2 (.cons rfl r) q2
end Sk

set_option Elab.async false
set_option linter.all false
set_option maxRecDepth 100000
set_option maxHeartbeats 4000000
namespace Sk
open PySem PySem.Spec PyProof.Rows L2
/-! the responsibility of sectors: abstract state and steps -/
structure RS where
  cn : Str → Int
  st : Str → Str
  rc : Str → Str
def su {α : Type} (f : Str → α) (k : Str) (v : α) : Str → α := fun x => if x = k then v else f x
theorem su_self {α : Type} {f : Str → α} {k : Str} {v : α} : su f k v k = v := if_pos rfl
theorem su_ne {α : Type} {f : Str → α} {k x : Str} {v : α} (h : x ≠ k) : su f k v x = f x := if_neg h
inductive An
  | er (c : Str)
  | ms (k : Str) (n : Int) (a b : Str)
  | no
def okS (ns : List Str) (a b : Str) : Prop := a ∈ ns ∧ b ∈ ns ∧ a ≠ b
instance (ns : List Str) (a b : Str) : Decidable (okS ns a b) := inferInstanceAs (Decidable (_ ∧ _ ∧ _))
def giveA (ns : List Str) (s : RS) (b t : Str) : RS × An :=
  if ¬ okS ns b t then (s, .er "sector") else if s.st b ≠ "holds" then (s, .er "state") else ({ s with st := su s.st b "gives", rc := su s.rc b t }, .ms "give" (s.cn b + 1) b t)
def repA (ns : List Str) (s : RS) (b : Str) : RS × An :=
  if b ∉ ns then (s, .er "sector") else if s.st b ≠ "gives" then (s, .er "state") else (s, .ms "give" (s.cn b + 1) b (s.rc b))
def hrA (ns : List Str) (s : RS) (k : Str) (n : Int) (a b : Str) : RS × An :=
  if ¬ okS ns a b then (s, .er "sector") else if k = "give" then (if n > s.cn b then { s with cn := su s.cn b n, st := su s.st b "holds" } else s, .ms "took" n b a)
  else if s.st b = "gives" ∧ n = s.cn b + 1 then ({ s with cn := su s.cn b n, st := su s.st b "rests" }, .no) else (s, .no)
def rkA (s : RS) (x : Str) : Int := if s.st x = "rests" then 2 * s.cn x else 2 * s.cn x + 1
def iniA (f : Str) : RS := ⟨fun _ => 0, fun x => if x = f then "holds" else "rests", fun _ => ""⟩
structure Mg where
  k : Str
  n : Int
  a : Str
  b : Str
/-- what is always true: c holds or gives, with the greatest count; the others are behind -/
structure Rv (ns : List Str) (s : RS) (ms : List Mg) (c : Str) : Prop where
  ci : c ∈ ns
  cs : s.st c = "holds" ∨ (s.st c = "gives" ∧ s.rc c ∈ ns ∧ c ≠ s.rc c)
  ot : ∀ x ∈ ns, x ≠ c → s.cn x ≤ s.cn c ∧ (s.st x = "rests" ∨ (s.st x = "gives" ∧ s.cn x < s.cn c ∧ s.rc x ∈ ns ∧ x ≠ s.rc x ∧ s.cn x + 1 ≤ s.cn (s.rc x)))
  mo : ∀ g ∈ ms, okS ns g.a g.b ∧ ((g.k = "give" ∧ (g.n ≤ s.cn g.b ∨ (g.n = s.cn c + 1 ∧ g.a = c ∧ g.b = s.rc c ∧ s.st c = "gives"))) ∨ (g.k = "took" ∧ g.n ≤ s.cn c))
def An.l : An → List Mg
  | .ms k n a b => [⟨k, n, a, b⟩]
  | _ => []
theorem hg : ("holds" : Str) ≠ "gives" := by decide +kernel
theorem hr_ : ("holds" : Str) ≠ "rests" := by decide +kernel
theorem gr_ : ("gives" : Str) ≠ "rests" := by decide +kernel
theorem gt_ : ("took" : Str) ≠ "give" := by decide +kernel
section
variable {ns : List Str} {s : RS} {ms : List Mg} {c b t x : Str}
theorem Rv.ini (h : c ∈ ns) : Rv ns (iniA c) [] c := ⟨h, .inl (if_pos rfl), fun x hx n => ⟨Int.le_refl _, .inl (if_neg n)⟩, fun g hg => nomatch hg⟩
theorem Rv.le (h : Rv ns s ms c) (hx : x ∈ ns) : s.cn x ≤ s.cn c := by
  by_cases e : x = c
  · rw [e]; exact Int.le_refl _
  · exact (h.ot x hx e).1
theorem Rv.add (h : Rv ns s ms c) {l : List Mg} (k : ∀ g ∈ l, okS ns g.a g.b ∧ ((g.k = "give" ∧ (g.n ≤ s.cn g.b ∨ (g.n = s.cn c + 1 ∧ g.a = c ∧ g.b = s.rc c ∧ s.st c = "gives"))) ∨ (g.k = "took" ∧ g.n ≤ s.cn c))) : Rv ns s (ms ++ l) c :=
  ⟨h.ci, h.cs, h.ot, fun g hg => (List.mem_append.mp hg).elim (h.mo g) (k g)⟩
theorem Rv.give (h : Rv ns s ms c) : Rv ns (giveA ns s b t).1 (ms ++ (giveA ns s b t).2.l) c := by
  unfold giveA
  by_cases h1 : okS ns b t
  rotate_left
  · rw [if_pos h1]; show Rv ns s (ms ++ []) c; rw [List.append_nil]; exact h
  rw [if_neg (fun z => z h1)]
  by_cases h2 : s.st b = "holds"
  rotate_left
  · rw [if_pos h2]; show Rv ns s (ms ++ []) c; rw [List.append_nil]; exact h
  rw [if_neg (fun z => z h2)]
  have eb : b = c := by
    by_cases e : b = c
    · exact e
    · rcases (h.ot b h1.1 e).2 with z | ⟨z, _⟩
      · exact absurd (h2.symm.trans z) hr_
      · exact absurd (h2.symm.trans z) hg
  subst eb
  refine ⟨h.ci, .inr ⟨su_self, by show su s.rc b t b ∈ ns; rw [su_self]; exact h1.2.1, by show b ≠ su s.rc b t b; rw [su_self]; exact h1.2.2⟩, fun x hx e => ?_, fun g hgm => ?_⟩
  · show s.cn x ≤ s.cn b ∧ (su s.st b "gives" x = "rests" ∨ (su s.st b "gives" x = "gives" ∧ s.cn x < s.cn b ∧ su s.rc b t x ∈ ns ∧ x ≠ su s.rc b t x ∧ s.cn x + 1 ≤ s.cn (su s.rc b t x)))
    rw [su_ne e, su_ne e]
    exact h.ot x hx e
  · rcases List.mem_append.mp hgm with hgm | hgm
    · obtain ⟨o, w⟩ := h.mo g hgm
      refine ⟨o, ?_⟩
      rcases w with ⟨w1, w2 | ⟨_, _, _, w5⟩⟩ | w
      · exact .inl ⟨w1, .inl w2⟩
      · exact absurd (h2.symm.trans w5) hg
      · exact .inr w
    · rw [List.mem_singleton.mp hgm]
      exact ⟨h1, .inl ⟨rfl, .inr ⟨rfl, rfl, su_self.symm, su_self⟩⟩⟩
theorem Rv.rep (h : Rv ns s ms c) : Rv ns (repA ns s b).1 (ms ++ (repA ns s b).2.l) c := by
  unfold repA
  by_cases h1 : b ∈ ns
  rotate_left
  · rw [if_pos h1]; show Rv ns s (ms ++ []) c; rw [List.append_nil]; exact h
  rw [if_neg (fun z => z h1)]
  by_cases h2 : s.st b = "gives"
  rotate_left
  · rw [if_pos h2]; show Rv ns s (ms ++ []) c; rw [List.append_nil]; exact h
  rw [if_neg (fun z => z h2)]
  refine h.add fun g hgm => ?_
  rw [List.mem_singleton.mp hgm]
  by_cases e : b = c
  · subst e
    rcases h.cs with z | ⟨_, z1, z2⟩
    · exact absurd (z.symm.trans h2) hg
    · exact ⟨⟨h1, z1, z2⟩, .inl ⟨rfl, .inr ⟨rfl, rfl, rfl, h2⟩⟩⟩
  · rcases (h.ot b h1 e).2 with z | ⟨_, _, z1, z2, z3⟩
    · exact absurd (h2.symm.trans z) gr_
    · exact ⟨⟨h1, z1, z2⟩, .inl ⟨rfl, .inl z3⟩⟩
theorem Rv.hear (h : Rv ns s ms c) {g : Mg} (hm : g ∈ ms) : ∃ c', Rv ns (hrA ns s g.k g.n g.a g.b).1 (ms ++ (hrA ns s g.k g.n g.a g.b).2.l) c' := by
  obtain ⟨o, w⟩ := h.mo g hm
  unfold hrA
  rw [if_neg (fun z => z o)]
  rcases w with ⟨ek, w⟩ | ⟨ek, w⟩
  · rw [if_pos ek]
    by_cases h1 : g.n > s.cn g.b
    · rw [if_pos h1]
      rcases w with w | ⟨w1, w2, w3, w4⟩
      · omega
      have nc : g.b ≠ c := fun e => o.2.2 (w2.trans e.symm)
      have hcn : ∀ x, x ∈ ns → s.cn x ≤ su s.cn g.b g.n x := fun x hx => by
        by_cases e : x = g.b
        · rw [e, su_self]; omega
        · rw [su_ne e]; exact Int.le_refl _
      refine ⟨g.b, o.2.1, .inl su_self, fun x hx e => ?_, fun y hy => ?_⟩
      · show su s.cn g.b g.n x ≤ su s.cn g.b g.n g.b ∧ (su s.st g.b "holds" x = "rests" ∨ (su s.st g.b "holds" x = "gives" ∧ su s.cn g.b g.n x < su s.cn g.b g.n g.b ∧ s.rc x ∈ ns ∧ x ≠ s.rc x ∧ su s.cn g.b g.n x + 1 ≤ su s.cn g.b g.n (s.rc x)))
        rw [su_self, su_ne e, su_ne e]
        have hle := h.le hx
        refine ⟨by omega, ?_⟩
        by_cases ec : x = c
        · subst ec
          refine .inr ⟨w4, by omega, by rw [← w3]; exact o.2.1, by rw [← w3]; exact Ne.symm nc, ?_⟩
          rw [← w3, su_self]
          omega
        · rcases (h.ot x hx ec).2 with z | ⟨z1, z2, z3, z4, z5⟩
          · exact .inl z
          · have := hcn _ z3
            exact .inr ⟨z1, by omega, z3, z4, by omega⟩
      · rcases List.mem_append.mp hy with hy | hy
        · obtain ⟨o', v⟩ := h.mo y hy
          refine ⟨o', ?_⟩
          show (y.k = "give" ∧ (y.n ≤ su s.cn g.b g.n y.b ∨ _)) ∨ (y.k = "took" ∧ y.n ≤ su s.cn g.b g.n g.b)
          rw [su_self]
          rcases v with ⟨v1, v2 | ⟨v2, v3, v4, v5⟩⟩ | ⟨v1, v2⟩
          · have := hcn _ o'.2.1
            exact .inl ⟨v1, .inl (by omega)⟩
          · refine .inl ⟨v1, .inl ?_⟩
            rw [v4, ← w3, su_self]; omega
          · exact .inr ⟨v1, by omega⟩
        · rw [List.mem_singleton.mp hy]
          refine ⟨⟨o.2.1, o.1, Ne.symm o.2.2⟩, .inr ⟨rfl, ?_⟩⟩
          show g.n ≤ su s.cn g.b g.n g.b
          rw [su_self]; exact Int.le_refl _
    · rw [if_neg h1]
      refine ⟨c, h.add fun y hy => ?_⟩
      rw [List.mem_singleton.mp hy]
      have := h.le o.2.1
      exact ⟨⟨o.2.1, o.1, Ne.symm o.2.2⟩, .inr ⟨rfl, by show g.n ≤ s.cn c; omega⟩⟩
  · rw [if_neg (fun z => gt_ (ek.symm.trans z))]
    by_cases h1 : s.st g.b = "gives" ∧ g.n = s.cn g.b + 1
    · rw [if_pos h1]
      have nc : g.b ≠ c := fun e => by have := h1.2; rw [e] at this; omega
      have hcn : ∀ x, x ∈ ns → s.cn x ≤ su s.cn g.b g.n x := fun x hx => by
        by_cases e : x = g.b
        · rw [e, su_self]; omega
        · rw [su_ne e]; exact Int.le_refl _
      have ecc : su s.cn g.b g.n c = s.cn c := su_ne (Ne.symm nc)
      have esc : su s.st g.b "rests" c = s.st c := su_ne (Ne.symm nc)
      refine ⟨c, h.ci, ?_, fun x hx e => ?_, fun y hy => ?_⟩
      · show su s.st g.b "rests" c = "holds" ∨ (su s.st g.b "rests" c = "gives" ∧ s.rc c ∈ ns ∧ c ≠ s.rc c)
        rw [esc]; exact h.cs
      · show su s.cn g.b g.n x ≤ su s.cn g.b g.n c ∧ (su s.st g.b "rests" x = "rests" ∨ (su s.st g.b "rests" x = "gives" ∧ su s.cn g.b g.n x < su s.cn g.b g.n c ∧ s.rc x ∈ ns ∧ x ≠ s.rc x ∧ su s.cn g.b g.n x + 1 ≤ su s.cn g.b g.n (s.rc x)))
        rw [ecc]
        by_cases eb : x = g.b
        · rw [eb, su_self, su_self]; exact ⟨w, .inl rfl⟩
        · rw [su_ne eb, su_ne eb]
          refine ⟨h.le hx, ?_⟩
          rcases (h.ot x hx e).2 with z | ⟨z1, z2, z3, z4, z5⟩
          · exact .inl z
          · have := hcn _ z3
            exact .inr ⟨z1, z2, z3, z4, by omega⟩
      · have hy : y ∈ ms := by
          rcases List.mem_append.mp hy with hy | hy
          · exact hy
          · exact nomatch hy
        obtain ⟨o', v⟩ := h.mo y hy
        refine ⟨o', ?_⟩
        show (y.k = "give" ∧ (y.n ≤ su s.cn g.b g.n y.b ∨ (y.n = su s.cn g.b g.n c + 1 ∧ y.a = c ∧ y.b = s.rc c ∧ su s.st g.b "rests" c = "gives"))) ∨ (y.k = "took" ∧ y.n ≤ su s.cn g.b g.n c)
        rw [ecc, esc]
        rcases v with ⟨v1, v2 | v2⟩ | v
        · have := hcn _ o'.2.1
          exact .inl ⟨v1, .inl (by omega)⟩
        · exact .inl ⟨v1, .inr v2⟩
        · exact .inr v
    · rw [if_neg h1]
      refine ⟨c, ?_⟩
      show Rv ns s (ms ++ []) c
      rw [List.append_nil]; exact h
/-- c alone has the greatest rank -/
theorem Rv.rank (h : Rv ns s ms c) (hx : x ∈ ns) (n : x ≠ c) : rkA s x < rkA s c := by
  have hc : rkA s c = 2 * s.cn c + 1 := if_neg (by rcases h.cs with z | ⟨z, _⟩ <;> rw [z]; exact hr_; exact gr_)
  rw [hc]
  unfold rkA
  obtain ⟨a, z | ⟨z, z2, _⟩⟩ := h.ot x hx n
  · rw [if_pos z]; omega
  · rw [if_neg (by rw [z]; exact gr_)]; omega
theorem Rv.holds (h : Rv ns s ms c) (hx : x ∈ ns) (e : s.st x = "holds") : x = c := by
  by_cases n : x = c
  · exact n
  · rcases (h.ot x hx n).2 with z | ⟨z, _⟩
    · exact absurd (e.symm.trans z) hr_
    · exact absurd (e.symm.trans z) hg
end
end Sk

set_option Elab.async false
set_option linter.all false
set_option maxRecDepth 100000
set_option maxHeartbeats 4000000
namespace Sk
open PySem PySem.Spec PyProof.Rows L2
/-! dicts by names -/
def mK (ns : List Str) (f : Str → V) : List (Key × V) := ns.map fun n => (.inr n, f n)
section
variable {ns : List Str} {f : Str → V} {x : Str} {v : V}
theorem mK_length : (mK ns f).length = ns.length := List.length_map ..
theorem mK_mem {k : Key} (h : (k, v) ∈ mK ns f) : ∃ n ∈ ns, k = .inr n ∧ v = f n := by
  obtain ⟨n, hn, e⟩ := List.mem_map.mp h
  cases e
  exact ⟨n, hn, rfl, rfl⟩
theorem valV_mK (h : x ∈ ns) : valV (mK ns f) (.inr x) = some (f x) := by
  induction ns with
  | nil => cases h
  | cons n ns ih =>
    by_cases e : n = x
    · subst e
      exact valV_pos rfl
    · rw [show mK (n :: ns) f = (.inr n, f n) :: mK ns f from rfl, valV_neg (fun z => e (Sum.inr.inj z))]
      exact ih ((List.mem_cons.mp h).resolve_left fun z => e z.symm)
theorem valV_mK_no (h : x ∉ ns) : valV (mK ns f) (.inr x) = none := by
  induction ns with
  | nil => rfl
  | cons n ns ih =>
    rw [show mK (n :: ns) f = (.inr n, f n) :: mK ns f from rfl, valV_neg (fun z => h (by rw [Sum.inr.inj z]; exact List.mem_cons_self))]
    exact ih fun z => h (List.mem_cons_of_mem _ z)
theorem valV_mK_some : (valV (mK ns f) (.inr x)).isSome = decide (x ∈ ns) := by
  by_cases h : x ∈ ns
  · rw [valV_mK h, decide_eq_true h]; rfl
  · rw [valV_mK_no h, decide_eq_false h]; rfl
theorem putK_mK (h : x ∈ ns) : putK (mK ns f) (.inr x) v = mK ns (su f x v) := by
  have e : ((mK ns f).any fun kv => decide (kv.1 = .inr x)) = true := by rw [valV_any, valV_mK h]; rfl
  unfold putK
  rw [if_pos e]
  unfold mK
  rw [List.map_map]
  refine List.map_congr_left fun n _ => ?_
  show (if (Sum.inr n : Key) = .inr x then _ else _) = _
  by_cases z : n = x
  · subst z
    rw [if_pos rfl, su_self]
  · rw [if_neg (fun w => z (Sum.inr.inj w)), su_ne z]
theorem putK_mK_new (h : x ∉ ns) : putK (mK ns f) (.inr x) (f x) = mK (ns ++ [x]) f := by
  have e : ((mK ns f).any fun kv => decide (kv.1 = .inr x)) = false := by rw [valV_any, valV_mK_no h]; rfl
  unfold putK
  rw [if_neg (by rw [e]; decide)]
  unfold mK
  rw [List.map_append]
  rfl
theorem su_v {α : Type} {g : Str → α} {F : α → V} {a : α} : su (fun n => F (g n)) x (F a) = fun n => F (su g x a n) := by
  funext n
  by_cases z : n = x
  · rw [z, su_self, su_self]
  · rw [su_ne z, su_ne z]
end
/-! the object -/
structure RA where
  p : Addr
  c : Addr
  t : Addr
  r : Addr
def RA.l (A : RA) : List Addr := [A.p, A.c, A.t, A.r]
def rFl (A : RA) : List (Str × V) := [("_counts", .ref A.c), ("_states", .ref A.t), ("_receivers", .ref A.r)]
structure RsAt (C : Addr) (H : Hp) (A : RA) (mx : Nat) (ns : List Str) (s : RS) : Prop where
  o : ∃ dx, H A.p = some (.ins C dx (rFl A))
  c : H A.c = some (.dK (mK ns fun n => .int (s.cn n)))
  t : H A.t = some (.dK (mK ns fun n => .str (s.st n)))
  r : ∃ kr, H A.r = some (.dK kr) ∧ kr.length ≤ mx ∧ ∀ n ∈ ns, s.st n = "gives" → valV kr (.inr n) = some (.str (s.rc n))
  nd : A.l.Nodup
  len : ns.length ≤ 5
def AnAt (H : Hp) (v : V) : An → Prop
  | .er c => ∃ q, v = .ref q ∧ H q = some (.tup [.str "error", .str c])
  | .ms k n a b => ∃ q, v = .ref q ∧ H q = some (.tup [.str k, .int n, .str a, .str b])
  | .no => v = .non
section
variable {C : Addr} {H H' : Hp} {A : RA} {mx : Nat} {ns : List Str} {s : RS} {v : V} {x : Str}
theorem RsAt.stay (h : RsAt C H A mx ns s) (k : ∀ b o, H b = some o → b ∈ A.l → H' b = some o) : RsAt C H' A mx ns s := by
  obtain ⟨dx, o⟩ := h.o
  obtain ⟨kr, r, r2⟩ := h.r
  exact ⟨⟨dx, k _ _ o (by simp [RA.l])⟩, k _ _ h.c (by simp [RA.l]), k _ _ h.t (by simp [RA.l]), ⟨kr, k _ _ r (by simp [RA.l]), r2⟩, h.nd, h.len⟩
theorem RsAt.same (h : RsAt C H A mx ns s) (k : Same H H') : RsAt C H' A mx ns s := h.stay fun b o e _ => k b o e
theorem RsAt.mono {mx' : Nat} (h : RsAt C H A mx ns s) (l : mx ≤ mx') : RsAt C H A mx' ns s := by
  obtain ⟨kr, r, r2, r3⟩ := h.r
  exact ⟨h.o, h.c, h.t, ⟨kr, r, by omega, r3⟩, h.nd, h.len⟩
theorem AnAt.tk {a : An} (h : AnAt H v a) (k : TK H H') : AnAt H' v a := by
  match a, h with
  | .er c, ⟨q, e, h⟩ => exact ⟨q, e, k _ _ h⟩
  | .ms _ _ _ _, ⟨q, e, h⟩ => exact ⟨q, e, k _ _ h⟩
  | .no, h => exact h
theorem RsAt.nds (h : RsAt C H A mx ns s) : A.p ≠ A.c ∧ A.p ≠ A.t ∧ A.p ≠ A.r ∧ A.c ≠ A.t ∧ A.c ≠ A.r ∧ A.t ≠ A.r := by
  have nd := h.nd
  simp only [RA.l, List.nodup_cons, List.mem_cons, List.not_mem_nil, or_false, not_or] at nd
  exact ⟨nd.1.1, nd.1.2.1, nd.1.2.2, nd.2.1.1, nd.2.1.2, nd.2.2.1⟩
/-- a state is stored -/
theorem RsAt.putT (h : RsAt C H A mx ns s) (hx : x ∈ ns) {w : Str} (hw : w ≠ "gives") : RsAt C (upd H A.t (.dK (putK (mK ns fun n => .str (s.st n)) (.inr x) (.str w)))) A mx ns { s with st := su s.st x w } := by
  obtain ⟨n1, n2, n3, n4, n5, n6⟩ := h.nds
  obtain ⟨dx, o⟩ := h.o
  obtain ⟨kr, r, r2, r3⟩ := h.r
  refine ⟨⟨dx, by rw [upd_ne n2]; exact o⟩, by rw [upd_ne n4]; exact h.c, ?_, ⟨kr, by rw [upd_ne (Ne.symm n6)]; exact r, r2, fun n hn e => ?_⟩, h.nd, h.len⟩
  · rw [upd_same, putK_mK hx, su_v (F := V.str)]
  · have nx : n ≠ x := fun z => by rw [z] at e; exact hw (su_self.symm.trans e)
    exact r3 n hn ((su_ne nx).symm.trans e)
theorem RsAt.putC (h : RsAt C H A mx ns s) (hx : x ∈ ns) {w : Int} : RsAt C (upd H A.c (.dK (putK (mK ns fun n => .int (s.cn n)) (.inr x) (.int w)))) A mx ns { s with cn := su s.cn x w } := by
  obtain ⟨n1, n2, n3, n4, n5, n6⟩ := h.nds
  obtain ⟨dx, o⟩ := h.o
  obtain ⟨kr, r, r2, r3⟩ := h.r
  refine ⟨⟨dx, by rw [upd_ne n1]; exact o⟩, ?_, by rw [upd_ne (Ne.symm n4)]; exact h.t, ⟨kr, by rw [upd_ne (Ne.symm n5)]; exact r, r2, r3⟩, h.nd, h.len⟩
  rw [upd_same, putK_mK hx, su_v (F := V.int)]
theorem RsAt.dc (h : RsAt C H A mx ns s) (hx : x ∈ ns) : DGet H A.c (.str x) (some (.int (s.cn x))) := (valV_mK (f := fun n => V.int (s.cn n)) hx) ▸ DGet.k (k := .inr x) h.c
theorem RsAt.dt (h : RsAt C H A mx ns s) (hx : x ∈ ns) : DGet H A.t (.str x) (some (.str (s.st x))) := (valV_mK (f := fun n => V.str (s.st n)) hx) ▸ DGet.k (k := .inr x) h.t
theorem RsAt.szC (h : RsAt C H A mx ns s) : (mK ns fun n => V.int (s.cn n)).length < sizeLine := small1000 (by rw [mK_length]; have := h.len; omega)
theorem RsAt.szT (h : RsAt C H A mx ns s) : (mK ns fun n => V.str (s.st n)).length < sizeLine := small1000 (by rw [mK_length]; have := h.len; omega)
/-- gives to t: state and receiver are stored -/
theorem RsAt.putG (h : RsAt C H A mx ns s) (hx : x ∈ ns) (hm : mx < 1000) {t : Str} : ∃ kr, (upd H A.t (.dK (putK (mK ns fun n => .str (s.st n)) (.inr x) (.str "gives")))) A.r = some (.dK kr) ∧ kr.length < sizeLine ∧
    RsAt C (upd (upd H A.t (.dK (putK (mK ns fun n => .str (s.st n)) (.inr x) (.str "gives")))) A.r (.dK (putK kr (.inr x) (.str t)))) A (mx + 1) ns { s with st := su s.st x "gives", rc := su s.rc x t } := by
  obtain ⟨n1, n2, n3, n4, n5, n6⟩ := h.nds
  obtain ⟨dx, o⟩ := h.o
  obtain ⟨kr, r, r2, r3⟩ := h.r
  refine ⟨kr, by rw [upd_ne (Ne.symm n6)]; exact r, small1000 (by omega), ⟨dx, by rw [upd_ne n3, upd_ne n2]; exact o⟩, by rw [upd_ne n5, upd_ne n4]; exact h.c, ?_, ⟨_, upd_same, Nat.le_trans (length_putK _ _ _) (by omega), fun n hn e => ?_⟩, h.nd, h.len⟩
  · rw [upd_ne n6, upd_same, putK_mK hx, su_v (F := V.str)]
  · rw [valV_put]
    by_cases z : n = x
    · rw [z, if_pos rfl]
      show some (V.str t) = some (.str (su s.rc x t x))
      rw [su_self]
    · rw [if_neg (fun w => z (Sum.inr.inj w))]
      show _ = some (V.str (su s.rc x t n))
      rw [su_ne z]
      exact r3 n hn ((su_ne z).symm.trans e)
theorem RsAt.oth {a : Addr} {o : HO} (h : RsAt C H A mx ns s) (m : a ∈ A.l) : Oth A.l H (upd H a o) := Oth.put m
theorem tk_putK {a : Addr} {kv : List (Key × V)} {o : HO} (h : H a = some (.dK kv)) : TK H (upd H a o) := tk_put h (fun xs z => nomatch z)
end
/-! promises -/
def Rsl (C CE : Addr) (H : Hp) (A : RA) (mx : Nat) (ns : List Str) (r : RS × An) (Q : VK) (E : XK) : Prop :=
  (∀ v H', AnAt H' v r.2 → (∀ c, r.2 ≠ .er c) → RsAt C H' A mx ns r.1 → Oth A.l H H' → TK H H' → Q v H') ∧ ∀ c d, r.2 = .er c → H d = none → E (.ref CE) (some d) (upd H d (.xd (cdK c)))
def spCheckS (C CE : Addr) : Sp := fun vs H Q E => ∃ (A : RA) (mx : Nat) (ns : List Str) (s : RS) (a b : Str), vs = [.ref A.p, .str a, .str b] ∧ RsAt C H A mx ns s ∧ (okS ns a b → Q .non H) ∧ (¬ okS ns a b → ∀ d, H d = none → E (.ref CE) (some d) (upd H d (.xd (cdK "sector"))))
def spMsgR (C : Addr) : Sp := fun vs H Q _ => ∃ (A : RA) (mx : Nat) (ns : List Str) (s : RS) (b : Str), vs = [.ref A.p, .str b] ∧ RsAt C H A mx ns s ∧ b ∈ ns ∧ s.st b = "gives" ∧ ∀ q, H q = none → Q (.ref q) (upd H q (.tup [.str "give", .int (s.cn b + 1), .str b, .str (s.rc b)]))
def spGiveR (C CE : Addr) : Sp := fun vs H Q E => ∃ (A : RA) (mx : Nat) (ns : List Str) (s : RS) (b t : Str), vs = [.ref A.p, .str b, .str t] ∧ RsAt C H A mx ns s ∧ mx < 1000 ∧ Rsl C CE H A (mx + 1) ns (giveA ns s b t) Q E
def spRepR (C CE : Addr) : Sp := fun vs H Q E => ∃ (A : RA) (mx : Nat) (ns : List Str) (s : RS) (b : Str), vs = [.ref A.p, .str b] ∧ RsAt C H A mx ns s ∧ Rsl C CE H A mx ns (repA ns s b) Q E
def spHgR (C : Addr) : Sp := fun vs H Q _ => ∃ (A : RA) (mx : Nat) (ns : List Str) (s : RS) (n : Int) (a b : Str), vs = [.ref A.p, .int n, .str a, .str b] ∧ RsAt C H A mx ns s ∧ b ∈ ns ∧
  ∀ v H', AnAt H' v (.ms "took" n b a) → RsAt C H' A mx ns (if n > s.cn b then { s with cn := su s.cn b n, st := su s.st b "holds" } else s) → Oth A.l H H' → TK H H' → Q v H'
def spHrR (C CE : Addr) : Sp := fun vs H Q E => ∃ (A : RA) (mx : Nat) (ns : List Str) (s : RS) (q : Addr) (k : Str) (n : Int) (a b : Str), vs = [.ref A.p, .ref q] ∧ RsAt C H A mx ns s ∧ H q = some (.tup [.str k, .int n, .str a, .str b]) ∧ (k = "give" ∨ k = "took") ∧ Rsl C CE H A mx ns (hrA ns s k n a b) Q E
def spActs (C : Addr) : Sp := fun vs H Q _ => ∃ (A : RA) (mx : Nat) (ns : List Str) (s : RS) (x : Str), vs = [.ref A.p, .str x] ∧ RsAt C H A mx ns s ∧ Q (.bl (decide (x ∈ ns) && decide (s.st x = "holds"))) H
def spRankR (C : Addr) : Sp := fun vs H Q _ => ∃ (A : RA) (ns : List Str) (s : RS) (x : Str), vs = [.ref A.p, .str x] ∧ (∃ dx, H A.p = some (.ins C dx (rFl A))) ∧ Rd H A.c (.dK (mK ns fun n => .int (s.cn n))) ∧ Rd H A.t (.dK (mK ns fun n => .str (s.st n))) ∧ x ∈ ns ∧ Q (.int (rkA s x)) H
def spResp (C : Addr) : Sp := fun vs H Q _ => ∃ (A : RA) (mx : Nat) (ns : List Str) (s : RS), vs = [.ref A.p] ∧ RsAt C H A mx ns s ∧ ns ≠ [] ∧ ∀ x H', x ∈ ns → (∀ y ∈ ns, rkA s y ≤ rkA s x) → Same H H' → Q (.str x) H'
def spNewR (C : Addr) : Sp := fun vs H Q _ => ∃ (p dx l : Addr) (f : Str) (ns : List Str), vs = [.ref p, .ref l, .str f] ∧ H p = some (.ins C dx []) ∧ H l = some (.lst (ns.map V.str)) ∧ ns.Nodup ∧ ns.length ≤ 5 ∧ f ∈ ns ∧
  ∀ c t r H', H c = none → H t = none → H r = none → RsAt C H' ⟨p, c, t, r⟩ 0 ns (iniA f) → Oth [p] H H' → Q .non H'
/-! the law's own -/
structure SsAt (H : Hp) (sd : Addr) (ad : Str → Addr) (ns : List Str) (s : RS) : Prop where
  d : H sd = some (.dK (mK ns fun n => .ref (ad n)))
  l : ∀ n ∈ ns, H (ad n) = some (.lst [.int (s.cn n), .str (s.st n), .str (s.rc n)])
  inj : ∀ m ∈ ns, ∀ n ∈ ns, ad m = ad n → m = n
section
variable {H H' : Hp} {sd : Addr} {ad : Str → Addr} {ns : List Str} {s s' : RS} {x : Str}
theorem SsAt.stay (h : SsAt H sd ad ns s) (k : ∀ b o, H b = some o → b ∈ sd :: ns.map ad → H' b = some o) : SsAt H' sd ad ns s :=
  ⟨k _ _ h.d List.mem_cons_self, fun n hn => k _ _ (h.l n hn) (List.mem_cons_of_mem _ (List.mem_map.mpr ⟨n, hn, rfl⟩)), h.inj⟩
theorem SsAt.same (h : SsAt H sd ad ns s) (k : Same H H') : SsAt H' sd ad ns s := h.stay fun b o e _ => k b o e
theorem SsAt.nsd (h : SsAt H sd ad ns s) (hx : x ∈ ns) : sd ≠ ad x := ne_of h.d (h.l x hx) (by intro z; cases z)
theorem SsAt.dg (h : SsAt H sd ad ns s) (hx : x ∈ ns) : DGet H sd (.str x) (some (.ref (ad x))) := (valV_mK (f := fun n => V.ref (ad n)) hx) ▸ DGet.k (k := .inr x) h.d
theorem SsAt.put (h : SsAt H sd ad ns s) (hx : x ∈ ns) {o : HO} (e1 : ∀ n, n ≠ x → s'.cn n = s.cn n ∧ s'.st n = s.st n ∧ s'.rc n = s.rc n) (e2 : o = .lst [.int (s'.cn x), .str (s'.st x), .str (s'.rc x)]) : SsAt (upd H (ad x) o) sd ad ns s' := by
  refine ⟨by rw [upd_ne (h.nsd hx)]; exact h.d, fun n hn => ?_, h.inj⟩
  by_cases z : n = x
  · rw [z, upd_same, e2]
  · rw [upd_ne (fun w => z (h.inj n hn x hx w)), (e1 n z).1, (e1 n z).2.1, (e1 n z).2.2]
    exact h.l n hn
theorem SsAt.oth (h : SsAt H sd ad ns s) (hx : x ∈ ns) {o : HO} : Oth (ns.map ad) H (upd H (ad x) o) ∧ TK H (upd H (ad x) o) := ⟨Oth.put (List.mem_map.mpr ⟨x, hx, rfl⟩), tk_put (h.l x hx) (fun xs z => nomatch z)⟩
end
def Lsl (H : Hp) (sd : Addr) (ad : Str → Addr) (ns : List Str) (r : RS × An) (Q : VK) : Prop := ∀ v H', AnAt H' v r.2 → SsAt H' sd ad ns r.1 → Oth (ns.map ad) H H' → TK H H' → Q v H'
def spLGiv : Sp := fun vs H Q _ => ∃ (sd : Addr) (ad : Str → Addr) (ns : List Str) (s : RS) (b t : Str), vs = [.ref sd, .str b, .str t] ∧ SsAt H sd ad ns s ∧ Lsl H sd ad ns (giveA ns s b t) Q
def spLRep : Sp := fun vs H Q _ => ∃ (sd : Addr) (ad : Str → Addr) (ns : List Str) (s : RS) (b : Str), vs = [.ref sd, .str b] ∧ SsAt H sd ad ns s ∧ Lsl H sd ad ns (repA ns s b) Q
def spLHr : Sp := fun vs H Q _ => ∃ (sd : Addr) (ad : Str → Addr) (ns : List Str) (s : RS) (q : Addr) (k : Str) (n : Int) (a b : Str), vs = [.ref sd, .ref q] ∧ SsAt H sd ad ns s ∧ H q = some (.tup [.str k, .int n, .str a, .str b]) ∧ Lsl H sd ad ns (hrA ns s k n a b) Q
def spLSides (K : PySem.W.Frag) : Sp := fun vs H Q _ => ∃ (l : Addr) (f : Str) (ns : List Str), vs = [.ref l, .str f] ∧ H l = some (.lst (ns.map V.str)) ∧ ns.Nodup ∧ ns.length ≤ 5 ∧ ∀ sd ad H', H sd = none → (∀ n ∈ ns, H (ad n) = none) → SsAt H' sd ad ns (iniA f) → Same H H' → Q (.ref sd) H'
inductive Op
  | gv (b t : Str)
  | rp (b : Str)
  | hr (q : Addr) (g : Mg)
def opA (ns : List Str) (s : RS) : Op → RS × An
  | .gv b t => giveA ns s b t
  | .rp b => repA ns s b
  | .hr _ g => hrA ns s g.k g.n g.a g.b
def OpAt (H : Hp) (kind : Int) (x y : V) : Op → Prop
  | .gv b t => kind = 0 ∧ x = .str b ∧ y = .str t
  | .rp b => kind = 1 ∧ x = .str b
  | .hr q g => kind = 2 ∧ x = .ref q ∧ H q = some (.tup [.str g.k, .int g.n, .str g.a, .str g.b]) ∧ (g.k = "give" ∨ g.k = "took")
def spAsked (C : Addr) : Sp := fun vs H Q _ => ∃ (A : RA) (mx : Nat) (ns : List Str) (s : RS) (op : Op) (kind : Int) (x y : V), vs = [.ref A.p, .int kind, x, y] ∧ RsAt C H A mx ns s ∧ mx < 1000 ∧ OpAt H kind x y op ∧
  ∀ v H', AnAt H' v (opA ns s op).2 → RsAt C H' A (mx + 1) ns (opA ns s op).1 → Oth A.l H H' → TK H H' → Q v H'
def spRight (C : Addr) : Sp := fun vs H Q _ => ∃ (A : RA) (mx : Nat) (ns : List Str) (s : RS) (sd l : Addr) (ad : Str → Addr) (ms : List Mg) (c : Str), vs = [.ref A.p, .ref sd, .ref l] ∧ RsAt C H A mx ns s ∧ SsAt H sd ad ns s ∧ H l = some (.lst (ns.map V.str)) ∧ ns.Nodup ∧ (∀ n ∈ ns, sOk n) ∧ ("NONE" : Str) ∉ ns ∧ Rv ns s ms c ∧ ∀ H', Same H H' → Q (.bl true) H'
theorem upd2 {H : Hp} {a : Addr} {x y : HO} : upd (upd H a x) a y = upd H a y := by
  funext b
  by_cases e : b = a
  · rw [e, upd_same, upd_same]
  · rw [upd_ne e, upd_ne e, upd_ne e]
theorem nd_take {α : Type} {ns : List α} {x : α} {i : Nat} (nd : ns.Nodup) (e : ns.take (i + 1) = ns.take i ++ [x]) : x ∉ ns.take i := fun h => by
  have z := nd.sublist (List.take_sublist (i + 1) ns)
  rw [e] at z
  exact (List.nodup_append.mp z).2.2 x h x List.mem_cons_self rfl
/-- over a list that stays -/
theorem dc_list {K : PySem.W.Frag} {a : Addr} {xs : List V} {g : TG} {tt : TT} {tk tv : TE} {vs : List Nat} {σ : L2.St} {H1 : Hp} {D : Addr} {Qd : Hp → Prop} (Pv : Nat → Hp → Prop) (h0 : Pv 0 (upd H1 D (.dK []))) (hl : ∀ i H, i ≤ xs.length → Pv i H → SqL K H a xs)
    (hs : ∀ i x H, xs[i]? = some x → Pv i H → g x (wipe σ vs) H fun σ2 H2 => wipe σ2 vs = wipe σ vs ∧ tt σ2 H2 fun b H3 =>
      if b = true then tk σ2 H3 fun y H4 => tv σ2 H4 fun z H5 => ∃ kvs k, y = kV k ∧ H5 D = some (.dK kvs) ∧ kvs.length < sizeLine ∧ Pv (i + 1) (upd H5 D (.dK (putK kvs k z))) else Pv (i + 1) H3) (hd : ∀ H, Pv xs.length H → Qd H) :
    ∃ W : Nat → Nat → Hp → Prop, (∃ m, W 0 m (upd H1 D (.dK []))) ∧ ∀ i m H, W i m H →
      ((Itl K a).stop i H ∧ Qd H) ∨ ((Itl K a).go i H ∧ ∃ Nx : Hp → Prop, (∀ H', Nx H' → ∃ m', m' < m ∧ W (i + 1) m' H') ∧ ∀ x H', (Itl K a).yld i H x H' → g x (wipe σ vs) H' fun σ2 H2 => wipe σ2 vs = wipe σ vs ∧ tt σ2 H2 fun b H3 =>
        if b = true then tk σ2 H3 fun y H4 => tv σ2 H4 fun z H5 => ∃ kvs k, y = kV k ∧ H5 D = some (.dK kvs) ∧ kvs.length < sizeLine ∧ Nx (upd H5 D (.dK (putK kvs k z))) else Nx H3) := by
  refine ⟨fun i m H => m = xs.length - i ∧ i ≤ xs.length ∧ Pv i H, ⟨xs.length, by simp, Nat.zero_le _, h0⟩, ?_⟩
  rintro i m H ⟨rfl, hi, p⟩
  have q := hl i H hi p
  by_cases hlt : i < xs.length
  · refine .inr ⟨⟨xs, xs[i], q, by simp [hlt]⟩, Pv (i + 1), fun H' p' => ⟨xs.length - (i + 1), by omega, rfl, hlt, p'⟩, fun x H' y => ?_⟩
    obtain ⟨e, y⟩ := y
    subst e
    exact hs i x _ (y xs q) p
  · have e : i = xs.length := by omega
    subst e
    exact .inl ⟨⟨xs, q, Nat.le_refl _⟩, hd H p⟩
def rkK (s : RS) : Key → Int
  | .inr x => rkA s x
  | .inl _ => 0
theorem er_giveA {ns : List Str} {s : RS} {b t c : Str} (h : (giveA ns s b t).2 = .er c) : (giveA ns s b t).1 = s := by
  unfold giveA at *
  split
  · rfl
  · split
    · rfl
    · rename_i h1 h2
      rw [if_neg h1, if_neg h2] at h
      cases h
theorem er_repA {ns : List Str} {s : RS} {b c : Str} (h : (repA ns s b).2 = .er c) : (repA ns s b).1 = s := by
  unfold repA at *
  split
  · rfl
  · split <;> rfl
theorem er_hrA {ns : List Str} {s : RS} {k a b c : Str} {n : Int} (h : (hrA ns s k n a b).2 = .er c) : (hrA ns s k n a b).1 = s := by
  unfold hrA at *
  split
  · rfl
  · rename_i h1
    rw [if_neg h1] at h
    split
    · rename_i h2
      rw [if_pos h2] at h
      cases h
    · rename_i h2
      rw [if_neg h2] at h
      split
      · rename_i h3
        rw [if_pos h3] at h
        cases h
      · rfl
theorem rk_eq {s : RS} {x : Str} : 2 * s.cn x + (if (!decide (V.str (s.st x) = V.str "rests")) = true then 1 else 0) = rkA s x := by
  unfold rkA
  by_cases e : s.st x = "rests"
  · rw [if_pos e, e]
    simp
  · rw [if_neg e, decide_eq_false (fun z => e (V.str.inj z))]
    simp
theorem flt_pos {α : Type} {p : α → Bool} {xs : List α} {n : α} (h : p n = true) : (xs ++ [n]).filter p = xs.filter p ++ [n] := by
  rw [List.filter_append, List.filter_cons_of_pos h]
  rfl
theorem flt_neg {α : Type} {p : α → Bool} {xs : List α} {n : α} (h : p n = false) : (xs ++ [n]).filter p = xs.filter p := by
  rw [List.filter_append, List.filter_cons_of_neg (by rw [h]; decide), List.filter_nil, List.append_nil]
theorem filter_one {ns : List Str} {c : Str} (nd : ns.Nodup) (h : c ∈ ns) {p : Str → Bool} (hp : ∀ n ∈ ns, p n = true ↔ n = c) : ns.filter p = [c] := by
  induction ns with
  | nil => cases h
  | cons n ns ih =>
    obtain ⟨n1, n2⟩ := List.nodup_cons.mp nd
    by_cases e : n = c
    · subst e
      rw [List.filter_cons_of_pos ((hp _ List.mem_cons_self).mpr rfl)]
      have : ns.filter p = [] := List.filter_eq_nil_iff.mpr fun x hx hpx => by
        rw [(hp x (List.mem_cons_of_mem _ hx)).mp hpx] at hx
        exact n1 hx
      rw [this]
    · rw [List.filter_cons_of_neg (fun z => e ((hp _ List.mem_cons_self).mp z))]
      exact ih n2 ((List.mem_cons.mp h).resolve_left fun z => e z.symm) fun x hx => hp x (List.mem_cons_of_mem _ hx)
/-! the class -/
structure RspY (K : PySem.W.Frag) (mg : Str → Option Value) (C : Addr) : Prop where
  cl : Cls K C
  n1 : NoAttr K C "_counts"
  n2 : NoAttr K C "_states"
  n3 : NoAttr K C "_receivers"
end Sk

set_option Elab.async false
set_option linter.all false
set_option maxRecDepth 100000
set_option maxHeartbeats 4000000
namespace Sk
open PySem PySem.Spec PyProof.Rows L2
/-! two flights and what belongs to them -/
structure FB where
  A : RA
  sd : Addr
  ad : Str → Addr
  mm : Addr
def FB.l (B : FB) (ns : List Str) : List Addr := (B.A.l ++ (B.sd :: ns.map B.ad)) ++ [B.mm]
def mgT (g : Mg) : HO := .tup [.str g.k, .int g.n, .str g.a, .str g.b]
structure PR (C : Addr) (G : Hp) (B : FB) (ns : List Str) (s : RS) (mx : Nat) (ms : List (Addr × Mg)) : Prop where
  R : RsAt C G B.A mx ns s
  S : SsAt G B.sd B.ad ns s
  M : G B.mm = some (.lst (ms.map fun x => V.ref x.1))
  mt : ∀ x ∈ ms, G x.1 = some (mgT x.2)
section
variable {C : Addr} {G G1 G2 : Hp} {B : FB} {ns : List Str} {s s' : RS} {mx mx' : Nat} {ms : List (Addr × Mg)}
theorem FB.nds (nd : (B.l ns).Nodup) : (∀ x ∈ B.A.l, x ≠ B.sd ∧ x ∉ ns.map B.ad ∧ x ≠ B.mm) ∧ B.sd ∉ ns.map B.ad ∧ B.sd ≠ B.mm ∧ B.mm ∉ ns.map B.ad := by
  unfold FB.l at nd
  obtain ⟨n1, n2, x1⟩ := List.nodup_append.mp nd
  obtain ⟨n3, n4, x2⟩ := List.nodup_append.mp n1
  refine ⟨fun x hx => ⟨fun e => x2 x hx _ List.mem_cons_self e, fun w => x2 x hx x (List.mem_cons_of_mem _ w) rfl, fun e => x1 x (List.mem_append_left _ hx) _ List.mem_cons_self e⟩, (List.nodup_cons.mp n4).1, fun e => x1 B.sd (by simp) _ List.mem_cons_self e, fun w => x1 B.mm (List.mem_append_right _ (List.mem_cons_of_mem _ w)) _ List.mem_cons_self rfl⟩
theorem PR.stay (h : PR C G B ns s mx ms) (k : ∀ b o, G b = some o → b ∈ B.l ns → G1 b = some o) (t : TK G G1) : PR C G1 B ns s mx ms :=
  ⟨h.R.stay fun b o e w => k b o e (by unfold FB.l; simp [w]), h.S.stay fun b o e w => k b o e (by unfold FB.l; exact List.mem_append_left _ (List.mem_append_right _ w)), k _ _ h.M (by simp [FB.l]), fun x hx => t _ _ (h.mt x hx)⟩
theorem PR.mid (h : PR C G B ns s mx ms) (nd : (B.l ns).Nodup) (O : Oth (ns.map B.ad) G G1) : RsAt C G1 B.A mx ns s := by
  obtain ⟨a, _⟩ := FB.nds nd
  exact h.R.stay fun b o e w => O b o e (a b w).2.1
theorem PR.next (h : PR C G B ns s mx ms) (nd : (B.l ns).Nodup) (S1 : SsAt G1 B.sd B.ad ns s') (O1 : Oth (ns.map B.ad) G G1) (t1 : TK G G1) (R2 : RsAt C G2 B.A mx' ns s') (O2 : Oth B.A.l G1 G2) (t2 : TK G1 G2) : PR C G2 B ns s' mx' ms ∧ Oth (B.l ns) G G2 := by
  obtain ⟨a, b, c, d⟩ := FB.nds nd
  have nA : ∀ x, x ∈ B.sd :: ns.map B.ad → x ∉ B.A.l := fun x hx w => by
    rcases List.mem_cons.mp hx with e | hx
    · exact (a x w).1 e
    · exact (a x w).2.1 hx
  have mA : B.mm ∉ B.A.l := fun w => (a _ w).2.2 rfl
  refine ⟨⟨R2, S1.stay fun b o e w => O2 b o e (nA b w), O2 _ _ (O1 _ _ h.M d) mA, fun x hx => t2 _ _ (t1 _ _ (h.mt x hx))⟩, (O1.sub fun x hx => ?_).trans (O2.sub fun x hx => ?_)⟩
  · unfold FB.l
    exact List.mem_append_left _ (List.mem_append_right _ (List.mem_cons_of_mem _ hx))
  · unfold FB.l
    exact List.mem_append_left _ (List.mem_append_left _ hx)
theorem PR.put (h : PR C G B ns s mx ms) (nd : (B.l ns).Nodup) {q : Addr} {g : Mg} (hq : G q = some (mgT g)) : PR C (upd G B.mm (.lst ((ms.map fun x => V.ref x.1) ++ [.ref q]))) B ns s mx (ms ++ [(q, g)]) ∧ Oth (B.l ns) G (upd G B.mm (.lst ((ms.map fun x => V.ref x.1) ++ [.ref q]))) ∧ TK G (upd G B.mm (.lst ((ms.map fun x => V.ref x.1) ++ [.ref q]))) := by
  obtain ⟨a, b, c, d⟩ := FB.nds nd
  have t := tk_put (o' := .lst ((ms.map fun x => V.ref x.1) ++ [.ref q])) h.M (fun xs z => nomatch z)
  refine ⟨⟨h.R.stay fun b o e w => by rw [upd_ne (a b w).2.2]; exact e, h.S.stay fun b o e w => ?_, by rw [upd_same, List.map_append]; rfl, fun x hx => ?_⟩, Oth.put (by simp [FB.l]), t⟩
  · rw [upd_ne (fun z => by
      rcases List.mem_cons.mp w with w | w
      · exact c (w.symm.trans z)
      · exact d (z ▸ w))]
    exact e
  · rcases List.mem_append.mp hx with hx | hx
    · exact t _ _ (h.mt x hx)
    · rw [List.mem_singleton.mp hx]; exact t _ _ hq
end
/-! all of it -/
structure DR (B : Nat → FB) (ns : List Str) (d c : Addr) (os : List (Addr × HO)) : Prop where
  nd : ∀ j, j < 2 → ((B j).l ns).Nodup
  dj : ∀ i j, i < 2 → j < 2 → i ≠ j → ∀ x ∈ (B i).l ns, x ∉ (B j).l ns
  dc : ∀ j, j < 2 → ∀ x ∈ (B j).l ns, x ≠ d ∧ x ≠ c ∧ ∀ y ∈ os, x ≠ y.1
  od : ∀ y ∈ os, y.1 ≠ d
structure WR (K : PySem.W.Frag) (C : Addr) (B : Nat → FB) (ns : List Str) (d c : Addr) (os : List (Addr × HO)) (G : Hp) (n : Nat) : Prop where
  S : St1 K G d c
  o : ∀ y ∈ os, G y.1 = some y.2
  J : ∀ j, j < 2 → ∃ s mx ms cc, PR C G (B j) ns s mx ms ∧ Rv ns s (ms.map fun x => x.2) cc ∧ ms.length ≤ n ∧ mx ≤ n
section
variable {K : PySem.W.Frag} {C d c : Addr} {B : Nat → FB} {ns : List Str} {os : List (Addr × HO)} {G G' : Hp} {n n' : Nat}
theorem WR.draw (h : WR K C B ns d c os G n) (D : DR B ns d c os) (S : St1 K G' d c) (k : Keep d G G') : WR K C B ns d c os G' n := by
  have t := kp_tk k h.S
  refine ⟨S, fun y hy => k _ _ (h.o y hy) (D.od y hy), fun j hj => ?_⟩
  obtain ⟨s, mx, ms, cc, P, r⟩ := h.J j hj
  exact ⟨s, mx, ms, cc, P.stay (fun b o e hb => k b o e (D.dc j hj b hb).1) t, r⟩
theorem WR.same (h : WR K C B ns d c os G n) (D : DR B ns d c os) (k : Same G G') : WR K C B ns d c os G' n := h.draw D (h.S.same k) (Keep.of k)
theorem WR.mono (h : WR K C B ns d c os G n) (l : n ≤ n') : WR K C B ns d c os G n' := by
  refine ⟨h.S, h.o, fun j hj => ?_⟩
  obtain ⟨s, mx, ms, cc, P, V, a, b⟩ := h.J j hj
  exact ⟨s, mx, ms, cc, P, V, by omega, by omega⟩
theorem WR.step (h : WR K C B ns d c os G n) (D : DR B ns d c os) {j : Nat} (hj : j < 2) (O : Oth ((B j).l ns) G G') (t : TK G G') (l : n ≤ n') (J : ∃ s mx ms cc, PR C G' (B j) ns s mx ms ∧ Rv ns s (ms.map fun x => x.2) cc ∧ ms.length ≤ n' ∧ mx ≤ n') : WR K C B ns d c os G' n' := by
  have nd : d ∉ (B j).l ns := fun w => (D.dc j hj d w).1 rfl
  have nc : c ∉ (B j).l ns := fun w => (D.dc j hj c w).2.1 rfl
  refine ⟨?_, fun y hy => O _ _ (h.o y hy) (fun w => (D.dc j hj y.1 w).2.2 y hy rfl), fun i hi => ?_⟩
  · have S := h.S
    obtain ⟨ns', i, l, m, S'⟩ := id S
    exact S.of ((O _ _ S'.dc nd).trans S'.dc.symm) ((O _ _ S'.cs nc).trans S'.cs.symm)
  · by_cases e : i = j
    · rw [e]; exact J
    · obtain ⟨s, mx, ms, cc, P, V, a, b⟩ := h.J i hi
      exact ⟨s, mx, ms, cc, P.stay (fun b o e'' hb => O b o e'' (D.dj i j hi hj e b hb)) t, V, by omega, by omega⟩
end
theorem PR.same29 {C : Addr} {G G1 : Hp} {B : FB} {ns : List Str} {s : RS} {mx : Nat} {ms : List (Addr × Mg)} (h : PR C G B ns s mx ms) (k : Same G G1) : PR C G1 B ns s mx ms := h.stay (fun b o e _ => k b o e) (Same.tk k)
theorem PR.draw29 {K : PySem.W.Frag} {C d c : Addr} {G G1 : Hp} {B : Nat → FB} {j : Nat} {os : List (Addr × HO)} {ns : List Str} {s : RS} {mx : Nat} {ms : List (Addr × Mg)} (h : PR C G (B j) ns s mx ms) (D : DR B ns d c os) (hj : j < 2) (S : St1 K G d c) (k : Keep d G G1) : PR C G1 (B j) ns s mx ms := h.stay (fun b o e hb => k b o e (D.dc j hj b hb).1) (kp_tk k S)
/-! that all objects differ -/
section
variable {G G' : Hp} {X0 X1 OU L : List Addr} {a : Addr}
theorem Al.n0L (h : Al G X0 X1 OU) (f : ∀ a ∈ L, G a = none) (nl : L.Nodup) (d : Dm G G') (e : ∀ a ∈ L, G' a ≠ none) : Al G' (X0 ++ L) X1 OU := by
  have p : (X0 ++ L ++ (X1 ++ OU)).Perm (L ++ (X0 ++ (X1 ++ OU))) := by
    rw [List.append_assoc, ← List.append_assoc]
    exact (List.perm_append_comm.append_right _).trans (by rw [List.append_assoc])
  refine ⟨p.nodup_iff.mpr (List.nodup_append.mpr ⟨nl, h.nd, fun x hx y hy z => h.n y hy (z ▸ f x hx)⟩), fun x hx => ?_⟩
  rcases List.mem_append.mp (p.mem_iff.mp hx) with w | w
  · exact e x w
  · exact d x (h.n x w)
theorem Al.n1L (h : Al G X0 X1 OU) (f : ∀ a ∈ L, G a = none) (nl : L.Nodup) (d : Dm G G') (e : ∀ a ∈ L, G' a ≠ none) : Al G' X0 (X1 ++ L) OU := by
  have p : (X0 ++ (X1 ++ L ++ OU)).Perm (L ++ (X0 ++ (X1 ++ OU))) := by
    rw [show X0 ++ (X1 ++ L ++ OU) = (X0 ++ X1) ++ (L ++ OU) by simp, show L ++ (X0 ++ (X1 ++ OU)) = L ++ ((X0 ++ X1) ++ OU) by simp, ← List.append_assoc, ← List.append_assoc]
    exact List.perm_append_comm.append_right _
  refine ⟨p.nodup_iff.mpr (List.nodup_append.mpr ⟨nl, h.nd, fun x hx y hy z => h.n y hy (z ▸ f x hx)⟩), fun x hx => ?_⟩
  rcases List.mem_append.mp (p.mem_iff.mp hx) with w | w
  · exact e x w
  · exact d x (h.n x w)
theorem nodup_map_on {α β : Type} {f : α → β} : ∀ {l : List α}, (∀ x ∈ l, ∀ y ∈ l, f x = f y → x = y) → l.Nodup → (l.map f).Nodup
  | [], _, _ => List.nodup_nil
  | x :: l, h, nd => by
    obtain ⟨n1, n2⟩ := List.nodup_cons.mp nd
    refine List.nodup_cons.mpr ⟨fun w => ?_, nodup_map_on (fun a ha b hb => h a (List.mem_cons_of_mem _ ha) b (List.mem_cons_of_mem _ hb)) n2⟩
    obtain ⟨y, hy, e⟩ := List.mem_map.mp w
    exact n1 (h y (List.mem_cons_of_mem _ hy) x List.mem_cons_self e ▸ hy)
end
theorem Al.dr {G : Hp} {B : Nat → FB} {ns : List Str} {d c : Addr} {os : List (Addr × HO)} (h : Al G ((B 0).l ns) ((B 1).l ns) ([d, c] ++ (os.map fun y => y.1))) : DR B ns d c os := by
  obtain ⟨n0, n1, x01⟩ := List.nodup_append.mp h.nd
  obtain ⟨n2, n3, x12⟩ := List.nodup_append.mp n1
  have all : ∀ j, j < 2 → ∀ x ∈ (B j).l ns, x ∉ [d, c] ++ (os.map fun y => y.1) := by
    intro j hj x hx w
    rcases (by omega : j = 0 ∨ j = 1) with rfl | rfl
    · exact x01 x hx x (List.mem_append_right _ w) rfl
    · exact x12 x hx x w rfl
  refine ⟨fun j hj => ?_, fun i j hi hj e x hx w => ?_, fun j hj x hx => ?_, ?_⟩
  · rcases (by omega : j = 0 ∨ j = 1) with rfl | rfl
    · exact n0
    · exact n2
  · rcases (by omega : i = 0 ∧ j = 1 ∨ i = 1 ∧ j = 0) with ⟨rfl, rfl⟩ | ⟨rfl, rfl⟩
    · exact x01 x hx x (List.mem_append_left _ w) rfl
    · exact x01 x w x (List.mem_append_left _ hx) rfl
  · have w := all j hj x hx
    refine ⟨fun e => w (by simp [e]), fun e => w (by simp [e]), fun y hy e => w ?_⟩
    rw [e]
    simp only [List.mem_append, List.mem_map]
    exact .inr ⟨y, hy, rfl⟩
  · obtain ⟨q, _, r⟩ := List.nodup_append.mp n3
    exact fun y hy e => r d (by simp) y.1 (List.mem_map.mpr ⟨y, hy, rfl⟩) e.symm
/-! the names -/
def nms5 : List Str := ["N", "SOUTH", "E1", "ABCDE", "W"]
def secs (x m : Nat) : List Str := (List.range m).map fun k => nms5.getD ((k + x) % 5) ""
theorem secs_ok : ∀ x : Nat, x < 5 → ∀ m : Nat, m < 6 → (secs x m).Nodup ∧ (∀ n ∈ secs x m, PySem.PyData.strOk n = true) ∧ ("NONE" : Str) ∉ secs x m := by decide +kernel
theorem secs_len {x m : Nat} : (secs x m).length = m := by unfold secs; rw [List.length_map, List.length_range]
theorem secs_succ {x m : Nat} : secs x (m + 1) = secs x m ++ [nms5.getD ((m + x) % 5) ""] := by
  unfold secs
  rw [List.range_succ, List.map_append]
  rfl
/-! what is compared -/
def anD : An → PyData
  | .er c => .tuple [.str "error", .str c]
  | .ms k n a b => .tuple [.str k, .int n, .str a, .str b]
  | .no => .none
def AnOk (ns : List Str) : An → Prop
  | .er c => c = "sector" ∨ c = "state"
  | .ms k _ a b => a ∈ ns ∧ b ∈ ns ∧ (k = "give" ∨ k = "took")
  | .no => True
theorem AnAt.dp {K : PySem.W.Frag} {H : Hp} {v : V} {a : An} (h : AnAt H v a) : Dp K H v (anD a) := by
  match a, h with
  | .er c, ⟨q, e, h⟩ => rw [e]; exact .tup (.inl (.inl h)) (.cons (.str _) (.cons (.str _) .nil))
  | .ms k n a b, ⟨q, e, h⟩ => rw [e]; exact .tup (.inl (.inl h)) (.cons (.str _) (.cons (.int _) (.cons (.str _) (.cons (.str _) .nil))))
  | .no, h => rw [show v = .non from h]; exact .non
theorem anD_can {ns : List Str} {a : An} (ok : ∀ n ∈ ns, sOk n) (h : AnOk ns a) : (anD a).canLay0 = true := by
  match a, h with
  | .er c, h =>
    show PyData.canLayAll0 _ = true
    refine cla fun x hx => ?_
    simp only [List.mem_cons, List.not_mem_nil, or_false] at hx
    rcases hx with rfl | rfl
    · exact (by decide +kernel : sOk "error")
    · rcases h with rfl | rfl
      · exact (by decide +kernel : sOk "sector")
      · exact (by decide +kernel : sOk "state")
  | .ms k n a b, ⟨h1, h2, h3⟩ =>
    show PyData.canLayAll0 _ = true
    refine cla fun x hx => ?_
    simp only [List.mem_cons, List.not_mem_nil, or_false] at hx
    rcases hx with rfl | rfl | rfl | rfl
    · rcases h3 with rfl | rfl
      · exact (by decide +kernel : sOk "give")
      · exact (by decide +kernel : sOk "took")
    · rfl
    · exact ok _ h1
    · exact ok _ h2
  | .no, _ => rfl
theorem anD_sh {ns : List Str} {a : An} (ok : ∀ n ∈ ns, sOk n) (h : AnOk ns a) : SeqAt.shaped (anD a) = true := by
  refine sh_of (anD_can ok h) ?_
  match a with
  | .er c =>
    show PyData.depthAll _ + 1 ≤ 64
    have : PyData.depthAll [.str "error", .str c] ≤ 10 := dpa fun x hx => by
      simp only [List.mem_cons, List.not_mem_nil, or_false] at hx
      rcases hx with rfl | rfl <;> exact Nat.zero_le _
    omega
  | .ms k n a b =>
    show PyData.depthAll _ + 1 ≤ 64
    have : PyData.depthAll [.str k, .int n, .str a, .str b] ≤ 10 := dpa fun x hx => by
      simp only [List.mem_cons, List.not_mem_nil, or_false] at hx
      rcases hx with rfl | rfl | rfl | rfl <;> exact Nat.zero_le _
    omega
  | .no => exact Nat.zero_le _
theorem er_code {ns : List Str} {s : RS} {op : Op} {c : Str} (h : (opA ns s op).2 = .er c) : c = "sector" ∨ c = "state" := by
  cases op with
  | gv b t =>
    simp only [opA, giveA] at h
    split at h
    · cases h; exact .inl rfl
    · split at h
      · cases h; exact .inr rfl
      · cases h
  | rp b =>
    simp only [opA, repA] at h
    split at h
    · cases h; exact .inl rfl
    · split at h
      · cases h; exact .inr rfl
      · cases h
  | hr q g =>
    simp only [opA, hrA] at h
    split at h
    · cases h; exact .inl rfl
    · split at h
      · cases h
      · split at h <;> cases h
/-- all is right behind a step -/
theorem Rv.op {ns : List Str} {s : RS} {ms : List (Addr × Mg)} {cc : Str} (h : Rv ns s (ms.map fun x => x.2) cc) {op : Op} (hr : ∀ q g, op = .hr q g → (q, g) ∈ ms) :
    (∃ c', Rv ns (opA ns s op).1 ((ms.map fun x => x.2) ++ (opA ns s op).2.l) c') ∧ AnOk ns (opA ns s op).2 := by
  have a : ∃ c', Rv ns (opA ns s op).1 ((ms.map fun x => x.2) ++ (opA ns s op).2.l) c' := by
    cases op with
    | gv b t => exact ⟨cc, h.give⟩
    | rp b => exact ⟨cc, h.rep⟩
    | hr q g => exact h.hear (List.mem_map.mpr ⟨_, hr q g rfl, rfl⟩)
  refine ⟨a, ?_⟩
  obtain ⟨c', a⟩ := a
  cases e : (opA ns s op).2 with
  | er c => exact er_code e
  | no => exact True.intro
  | ms k n x y =>
    rw [e] at a
    obtain ⟨o, w⟩ := a.mo ⟨k, n, x, y⟩ (List.mem_append_right _ List.mem_cons_self)
    refine ⟨o.1, o.2.1, ?_⟩
    rcases w with ⟨w, _⟩ | ⟨w, _⟩
    · exact .inl w
    · exact .inr w
end Sk

set_option Elab.async false
set_option linter.all false
namespace Sk
open PySem PySem.Spec PyProof.Rows L2
def spIs : Sp := fun vs H Q _ => ∃ a b : Bool, vs = [.bl a, .bl b] ∧ Q (.bl (decide (a = b))) H
end Sk

set_option Elab.async false
set_option linter.all false
set_option maxRecDepth 100000
set_option maxHeartbeats 4000000
namespace Sk
open PySem PySem.Spec PyProof.Rows L2
def top (i : Nat) : Stmt := PySem.Challenge.pw_skyapart_k29_whole_responsibility.main.body.getD i (.Pass ⟨0, 0, 0, 0⟩)
abbrev s_law_start : Stmt := top 6
abbrev s_law_draw : Stmt := top 7
abbrev s_law_pick : Stmt := top 8
abbrev s_law_is_number : Stmt := top 9
section
variable {P : Program} {w : World} {K : PySem.W.Frag} {mg : Str → Option Value} {base : Heap}
theorem sc_law_start : FnScope ["script", "cell"] ["script"] (defScope s_law_start) := ⟨rfl, rfl, rfl, by decide +kernel, rfl, by decide +kernel, by decide +kernel⟩
theorem ok_law_start {f : Addr} {fd : FuncData} (F : Fun K "_law_start" "_law_start" s_law_start f fd) (T : Txt0 mg) : FnOk P w K mg base CX0 1 f fd ["script"] (spStart K) := by
  refine F.ok sc_law_start (fun vs H Q E h => ?_) (fun cdv A outer s H vs Q E hr h => ?_)
  · obtain ⟨a, ns, rfl, _⟩ := h
    rfl
  · obtain ⟨a, ns, rfl, hS, hl, k⟩ := h
    refine ⟨_, (pss_one (ps_ret (pe_disp (pps_cons pe_str (pe_lc (own := [("cell", 1)]) (g := gName 1) (by rfl) sc_law_start.nd (pi_list (pv 0)) (blkOk_by (own := [("cell", 1)]) (N := ["script", "cell"]) (sc := defScope s_law_start) (by decide +kernel)) (fun _ _ _ _ _ => (pg_name (i := 1) sc_law_start.nd rfl (Or.inl rfl))) (fun _ _ _ _ _ => pts_nil) (fun _ _ _ _ _ => (pe_callB call_abs (by rfl) T.abs boot_abs (pa_cons (pe_callTy call_int1 (by rfl) T.int boot_int (pa_cons (pv 1) pa_nil)) pa_nil)))) (pps_cons pe_str pe_int (pps_cons pe_str pe_int (pps_cons pe_str (pe_op op_add pe_int (pe_callB call_len_seq (by rfl) T.len boot_len (pa_cons (pv 0) pa_nil))) pps_nil)))) (by rfl) (by rfl) (fun z => by cases z) (by decide)))), ?_⟩
    -- the dict
    intro d hd
    have s0 : Same H (upd H d (.dK [])) := same_new hd
    refine ⟨_, rfl, a, rfl, ⟨_, s0.seq hS⟩, fun D hD => ?_⟩
    have nDd : d ≠ D := fun z => by rw [← z, upd_same] at hD; cases hD
    refine lc_list (K := K) (a := a) (xs := ns.map V.int) (fun i H' => ∃ cs : List Int, H' D = some (.lst (cs.map V.int)) ∧ cs.length = i ∧ (∀ x ∈ cs, 0 ≤ x) ∧ Same H H' ∧ H' d = some (.dK []))
      ⟨[], upd_same, rfl, (fun _ h => nomatch h), fun b o e => (same_new hD) b o (s0 b o e), by rw [upd_ne nDd, upd_same]⟩ (fun i H' _ ⟨_, _, _, _, s2, _⟩ => s2.seq hS) ?_ ?_
    · rintro i x H' hx ⟨cs, hc, hi, hn, s2, h2⟩
      obtain ⟨z, rfl⟩ : ∃ z, x = V.int z := by
        rw [List.getElem?_map] at hx
        cases e : ns[i]? with
        | none => rw [e] at hx; cases hx
        | some z => rw [e] at hx; exact ⟨z, (Option.some.inj hx).symm⟩
      have hil : i < (ns.map V.int).length := (List.getElem?_eq_some_iff.mp hx).1
      rw [List.length_map] at hil
      refine ⟨rfl, ?_⟩
      refine ⟨_, rfl, .inl ⟨_, rfl, _, rfl, _, hc, ?_, cs ++ [if z < 0 then -z else z], ?_, ?_, ?_, ?_, ?_⟩⟩
      · rw [List.length_map]; exact small1000 (by omega)
      · rw [upd_same, List.map_append]; rfl
      · rw [List.length_append, hi]; rfl
      · intro y hy
        rcases List.mem_append.mp hy with hy | hy
        · exact hn y hy
        · rw [List.mem_singleton.mp hy]; split <;> omega
      · intro b o e
        rw [upd_ne (ne_of_none e (s0.free hD))]
        exact s2 b o e
      · rw [upd_ne nDd]; exact h2
    · rintro H' ⟨cs, hc, hi, hn, s2, h2⟩
      refine ⟨_, rfl, a, _, rfl, .inl (s2.seq hS), _, _, rfl, rfl, h2, stK D 0 0 (7 + ((ns.map V.int).length : Int)), rfl, (by show 4 ≤ 15; decide), ?_⟩
      rw [merge_st]
      have hDd : D ≠ d := fun z => nDd z.symm
      refine k d D _ hd (s0.free hD) ⟨cs, 0, 0, _, upd_same, (by rw [upd_ne hDd]; exact hc), hn, by omega, by omega, ?_, ?_⟩ fun b o e => ?_
      · omega
      · rw [List.length_map]; omega
      · rw [upd_ne (ne_of_none e hd)]
        exact s2 b o e
theorem sc_law_draw : FnScope ["state", "bound", "cell", "number"] ["state", "bound"] (defScope s_law_draw) := ⟨rfl, rfl, rfl, by decide +kernel, rfl, by decide +kernel, by decide +kernel⟩
theorem ok_law_draw {f : Addr} {fd : FuncData} (F : Fun K "_law_draw" "_law_draw" s_law_draw f fd) (T : Txt0 mg) : FnOk P w K mg base CX0 1 f fd ["state", "bound"] (spDraw K) := by
  refine F.ok sc_law_draw (fun vs H Q E h => ?_) (fun cdv A outer s H vs Q E hr h => ?_)
  · obtain ⟨d, c, b, rfl, _⟩ := h
    rfl
  · obtain ⟨d, c, b, rfl, S1, b0, b1, k⟩ := h
    have hu := hu_of hr
    have hm : ∀ x : Int, 0 ≤ x % b ∧ x % b < b := fun x => ⟨Int.emod_nonneg x (by omega), Int.emod_lt_of_pos x b0⟩
    have hmx : ∀ x : Int, 0 ≤ x % 2147483647 ∧ x % 2147483647 < 2147483648 := fun x => by omega
    refine ⟨_, (pss_cons (ps_if (PW.pt (pw_and (pt_cmpR op_eq (pe_dget hu (pv 0) pe_str (fun _ _ => rfl)) pe_int (nomark _)) (pw_and1 (pt_cmpR op_lt (pe_dget hu (pv 0) pe_str (fun _ _ => rfl)) (pe_callB call_len_seq (by rfl) T.len boot_len (pa_cons (pe_dget hu (pv 0) pe_str (fun _ _ => rfl)) pa_nil)) (nomark _))))) (pss_cons (ps_set (i := 2) sc_law_draw.nd rfl (Or.inl rfl) (pe_ix ix_list (pe_dget hu (pv 0) pe_str (fun _ _ => rfl)) (pe_dget hu (pv 0) pe_str (fun _ _ => rfl)) (fun _ _ => rfl)))
    (pss_cons (ps_dput hu (pv 0) pe_str (pe_op op_add (pe_dget hu (pv 0) pe_str (fun _ _ => rfl)) pe_int) rfl)
    (pss_cons (ps_dput hu (pv 0) pe_str (pe_op op_mod (pe_callTy call_int1 (by rfl) T.int boot_int (pa_cons (pe_op op_add (pe_op op_add (pe_op op_mul (pe_dget hu (pv 0) pe_str (fun _ _ => rfl)) pe_int) (pv 2)) pe_int) pa_nil)) pe_int) rfl)
    (pss_cons (ps_if (pt_cmpR op_lt (pv 2) (pe_op op_pow pe_int pe_int) (nomark _)) (pss_one (ps_ret (pe_op op_mod (pe_callTy call_int1 (by rfl) T.int boot_int (pa_cons (pv 2) pa_nil)) (pv 1))))
      pss_nil)
    (pss_one (ps_dput hu (pv 0) pe_str (pv 2) rfl))))))
      pss_nil)
    (pss_cons (ps_if (pt_cmpR op_gt (pe_dget hu (pv 0) pe_str (fun _ _ => rfl)) pe_int (nomark _)) (pss_cons (ps_set (i := 3) sc_law_draw.nd rfl (Or.inl rfl) (pe_op op_mod (pe_callTy call_int1 (by rfl) T.int boot_int (pa_cons (pe_dget hu (pv 0) pe_str (fun _ _ => rfl)) pa_nil)) (pv 1)))
    (pss_cons (ps_dput hu (pv 0) pe_str (pe_op op_fdivW (pe_dget hu (pv 0) pe_str (fun _ _ => rfl)) (pv 1)) rfl)
    (pss_one (ps_ret (pv 3)))))
      pss_nil)
    (pss_cons (ps_dput hu (pv 0) pe_str (pe_op op_mod (pe_callTy call_int1 (by rfl) T.int boot_int (pa_cons (pe_op op_add (pe_op op_mul (pe_dget hu (pv 0) pe_str (fun _ _ => rfl)) pe_int) pe_int) pa_nil)) pe_int) rfl)
    (pss_one (ps_ret (pe_op op_mod (pe_callTy call_int1 (by rfl) T.int boot_int (pa_cons (pe_op op_mod (pe_callTy call_int1 (by rfl) T.int boot_int (pa_cons (pe_op op_add (pe_op op_mul (pe_dget hu (pv 0) pe_str (fun _ _ => rfl)) pe_int) pe_int) pa_nil)) pe_int) pa_nil)) (pv 1))))))), ?_⟩
    refine cut (fun σ' H' => ∃ v2 v3, σ' = [some (.ref d), some (.int b), v2, v3] ∧ St1 K H' d c ∧ Keep d H H') ?_ (fun rest => ?_)
    · -- the rest: from a number that is left, or from the mix
      rintro σ' H' ⟨v2, v3, rfl, ⟨ns, i, l, m, S⟩, kp⟩
      refine ⟨_, rfl, _, _, rfl, dg_left S.dc, _, _, rfl, rfl, _, rfl, ite2 (fun e => ?_) (fun e => ?_)⟩
      · refine ⟨_, rfl, _, _, rfl, dg_left S.dc, .inl ⟨_, rfl, _, rfl, _, _, rfl, rfl, b0, ?_⟩⟩
        refine ⟨_, rfl, _, _, rfl, dg_left S.dc, _, rfl, _, _, rfl, rfl, log_of b0 b1, _, rfl, _, _, rfl, dp_left S.dc, ?_⟩
        refine ⟨_, rfl, ?_⟩
        exact k _ _ (hm l).1 (hm l).2 ⟨_, _, _, _, S.put S.i0 (Int.ediv_nonneg S.l0 (by omega)) S.m0 S.m1⟩ (kp.trans (Keep.upd _ _ _))
      · refine ⟨_, rfl, _, _, rfl, dg_mix S.dc, _, _, rfl, rfl, .inr ⟨by decide, by decide⟩, _, _, rfl, rfl, .inl ⟨_, rfl, _, _, rfl, rfl, (by show (0:Int) < 2147483647; decide), _, rfl, _, _, rfl, dp_mix S.dc, ?_⟩⟩
        have S2 := S.put (i' := i) (l' := l) S.i0 S.l0 (hmx (m * 48271 + 11)).1 (hmx (m * 48271 + 11)).2
        refine ⟨_, rfl, _, _, rfl, dg_mix S2.dc, _, _, rfl, rfl, .inr ⟨by decide, by decide⟩, _, _, rfl, rfl, .inl ⟨_, rfl, _, _, rfl, rfl, (by show (0:Int) < 2147483629; decide), .inl ⟨_, rfl, _, rfl, _, _, rfl, rfl, b0, ?_⟩⟩⟩
        exact k _ _ (hm _).1 (hm _).2 ⟨_, _, _, _, S2⟩ (kp.trans (Keep.upd _ _ _))
    · -- the first if
      obtain ⟨ns, i, l, m, S⟩ := id S1
      refine ⟨_, rfl, _, _, rfl, dg_left S.dc, rfl, _, rfl, ite2 (fun e => ?_) (fun e => ?_)⟩
      · refine ⟨_, rfl, _, _, rfl, dg_at S.dc, _, rfl, _, _, rfl, dg_cells S.dc, _, _, rfl, .inl (.inl (.inl S.cs)), _, _, rfl, rfl, _, rfl, ite2 (fun e => ?_) (fun e => ?_)⟩
        · have hi : i < (ns.length : Int) := by
            have := of_decide_eq_true e
            rw [List.length_map] at this
            exact this
          obtain ⟨j, rfl⟩ : ∃ j : Nat, i = (j : Int) := ⟨i.toNat, by have := S.i0; omega⟩
          have hj : j < ns.length := by omega
          refine ⟨_, rfl, _, _, rfl, dg_cells S.dc, _, rfl, _, _, rfl, dg_at S.dc, _, _, _, _, rfl, rfl, .inl (.inl S.cs), atI_nat (j := j) (v := .int ns[j]) (by simp [hj]), ?_⟩
          have S2 := S.put (i' := (j : Int) + 1) (l' := l) (m' := m) (by omega) S.l0 S.m0 S.m1
          refine ⟨_, rfl, _, _, rfl, dg_at S.dc, _, _, rfl, rfl, _, rfl, _, _, rfl, dp_at S.dc, ?_⟩
          refine ⟨_, rfl, _, _, rfl, dg_mix S2.dc, _, _, rfl, rfl, .inr ⟨by decide, by decide⟩, _, rfl, _, _, rfl, rfl, _, _, rfl, rfl, .inl ⟨_, rfl, _, _, rfl, rfl, (by show (0:Int) < 2147483647; decide), _, rfl, _, _, rfl, dp_mix S2.dc, ?_⟩⟩
          have S3 := S2.put (i' := (j : Int) + 1) (l' := l) S2.i0 S.l0 (hmx (m * 48271 + ns[j] + 11)).1 (hmx (m * 48271 + ns[j] + 11)).2
          refine ⟨_, rfl, _, _, rfl, rfl, ⟨by decide, by decide, by decide⟩, _, _, rfl, rfl, _, rfl, ite2 (fun e => ?_) (fun e => ?_)⟩
          · refine ⟨_, rfl, .inl ⟨_, rfl, _, rfl, _, _, rfl, rfl, b0, ?_⟩⟩
            exact k _ _ (hm _).1 (hm _).2 ⟨_, _, _, _, S3⟩ ((Keep.upd _ _ _).trans (Keep.upd _ _ _))
          · refine ⟨_, rfl, _, rfl, _, _, rfl, dp_left S3.dc, ?_⟩
            have S4 := S3.put (i' := (j : Int) + 1) (l' := ns[j]) S2.i0 (S.nn _ (List.getElem_mem hj)) S3.m0 S3.m1
            exact rest _ _ ⟨_, _, rfl, ⟨_, _, _, _, S4⟩, ((Keep.upd _ _ _).trans (Keep.upd _ _ _)).trans (Keep.upd _ _ _)⟩
        · exact rest _ _ ⟨_, _, rfl, S1, Keep.refl _ _⟩
      · refine iteF ?_
        exact rest _ _ ⟨_, _, rfl, S1, Keep.refl _ _⟩
theorem sc_law_pick : FnScope ["state", "things"] ["state", "things"] (defScope s_law_pick) := ⟨rfl, rfl, rfl, by decide +kernel, rfl, by decide +kernel, by decide +kernel⟩
theorem ok_law_pick {f : Addr} {fd : FuncData} (F : Fun K "_law_pick" "_law_pick" s_law_pick f fd) (T : Txt0 mg) (D_law_draw : Def P w K mg base 1 "_law_draw" ["state", "bound"] (spDraw K)) : FnOk P w K mg base CX0 2 f fd ["state", "things"] (spPick K) := by
  refine F.ok sc_law_pick (fun vs H Q E h => ?_) (fun cdv A outer s H vs Q E hr h => ?_)
  · obtain ⟨d, c, l, xs, rfl, _⟩ := h
    rfl
  · obtain ⟨d, c, l, xs, rfl, S, hl, hn, hz, k⟩ := h
    refine ⟨_, (pss_one (ps_ret (pe_ix ix_list (pv 1) (pe_def D_law_draw (hr.mono (by decide)) (by rfl) (pa_cons (pv 0) (pa_cons (pe_callB call_len_seq (by rfl) T.len boot_len (pa_cons (pv 1) pa_nil)) pa_nil))) (fun _ _ => rfl)))), ?_⟩
    have hp : 0 < xs.length := List.length_pos_iff.mpr hn
    refine ⟨_, rfl, _, rfl, _, rfl, _, _, rfl, .inl hl, d, c, _, rfl, S, by omega, by omega, fun n H' n0 n1 S' kp => ?_⟩
    obtain ⟨kvs, hd⟩ := S.dk
    obtain ⟨j, rfl⟩ : ∃ j : Nat, n = (j : Int) := ⟨n.toNat, by omega⟩
    have hj : j < xs.length := by omega
    refine ⟨_, _, _, _, rfl, rfl, kp.seq hd hl, atI_nat (j := j) (v := xs[j]) (by simp [hj]), ?_⟩
    exact k _ _ (List.getElem_mem hj) S' kp
theorem sc_law_is_number : FnScope ["thing"] ["thing"] (defScope s_law_is_number) := ⟨rfl, rfl, rfl, by decide +kernel, rfl, by decide +kernel, by decide +kernel⟩
theorem ok_law_is_number {f : Addr} {fd : FuncData} (F : Fun K "_law_is_number" "_law_is_number" s_law_is_number f fd) (T : Txt0 mg) : FnOk P w K mg base CX0 1 f fd ["thing"] spIsNum := by
  refine F.ok sc_law_is_number (fun vs H Q E h => ?_) (fun cdv A outer s H vs Q E hr h => ?_)
  · obtain ⟨n, rfl, _⟩ := h
    rfl
  · obtain ⟨n, rfl, k⟩ := h
    refine ⟨_, (pss_one (ps_ret (pe_and (pe_callB call_isi (by rfl) T.isinstance boot_isinstance (pa_cons (pv 0) (pa_cons (pe_bltn (v := .ty "int") (by rfl) T.int boot_int rfl) pa_nil))) (pe_one (pe_not (pe_callB call_isi (by rfl) T.isinstance boot_isinstance (pa_cons (pv 0) (pa_cons (pe_bltn (v := .ty "bool") (by rfl) T.bool boot_bool rfl) pa_nil)))))))), ?_⟩
    refine ⟨_, rfl, _, _, _, _, true, rfl, ClsV.ty _, .base (.int n), kit_ty (by decide +kernel), true, rfl, ?_⟩
    refine iteT ?_
    refine ⟨_, rfl, _, _, _, _, false, rfl, ClsV.ty _, .base (.int n), kit_ty (by decide +kernel), false, rfl, ?_⟩
    exact k
end
end Sk

set_option Elab.async false
set_option linter.all false
set_option maxRecDepth 100000
set_option maxHeartbeats 4000000
namespace Sk
open PySem PySem.Spec PyProof.Rows L2 NdefX
section
variable {P : Program} {w : World} {K : PySem.W.Frag} {mg : Str → Option Value} {base : Heap}
abbrev s_HandoverError___init__ : Stmt := inClass (top 2) 0
theorem ok_HandoverError___init__ {f cc cda C : Addr} {oc kV doc pm ct : Value} {od an : Option Addr} {osl : Array (Option Value)}
    (lk : K.lookup f = some ⟨oc, od, .func (PySem.W.ksFn "__init__" "HandoverError.__init__" (defArgs s_HandoverError___init__) (defBody s_HandoverError___init__) (defScope s_HandoverError___init__) .none kV doc pm an (.ref cda) ct cc), osl⟩)
    (hcd : PySem.W.codeIn K (.ref cda) "HandoverError.__init__" = true) (U : SupOk P K C cc cda) (T : OexC K C) (msup : mg "super" = none) (n1 : PySem.W.findIn K (.ref C) "code" = some none) :
    FnOk P w K mg base CX0 1 f (PySem.W.ksFn "__init__" "HandoverError.__init__" (defArgs s_HandoverError___init__) (defBody s_HandoverError___init__) (defScope s_HandoverError___init__) .none kV doc pm an (.ref cda) ct cc) ["self", "code"] (spCErr1 C) := by
  refine fn_err (N := ["self", "code", "__class__"]) rfl lk hcd (nscope_by (by decide +kernel)) rfl rfl U T msup rfl (fun vs H Q E h => ?_) (fun env => rfl) (fun env => rfl) fun A outer s H vs Q E hr h => ?_
  · obtain ⟨_, _, rfl, _⟩ := h
    rfl
  · obtain ⟨a, s, rfl, ha, hs, k⟩ := h
    have nd : (["self", "code", "__class__"] : List Str).Nodup := by decide +kernel
    have h1000 : (1000 : Nat) ≤ sizeLine := by decide
    refine ⟨a, [.str s], _, _, rfl, ha, pe_joined (.cons pe_str (.cons (pe_fmt (pv 1)) .nil)), pss_one (ps_ost (pv 0) (pv 1)), ?_⟩
    rw [show startF ["self", "code", "__class__"] [V.ref a, .str s] [some (.ref C)] = [some (.ref a), some (.str s), some (.ref C)] from rfl]
    have e0 : (Str.empty ++ ("handover: " : Str)).length ≤ 100 := by decide +kernel
    have z : sizeLine = 16777216 := sizeLine_eq
    refine ⟨_, rfl, by omega, _, rfl, .inl ⟨s, rfl, by omega, _, rfl, by rw [Str.length_append]; omega, (by show 1 ≤ 1000; decide), ha, ?_⟩⟩
    refine ⟨_, rfl, _, rfl, a, C, rfl, T, n1, .inl ⟨ha, fun dx hdx n => ?_⟩⟩
    exact k dx hdx n
end
end Sk

set_option Elab.async false
set_option linter.all false
set_option maxRecDepth 100000
set_option maxHeartbeats 4000000
namespace Sk
open PySem PySem.Spec PyProof.Rows L2
theorem ifNotY {c A B : Prop} [Decidable c] (h : c) (q : B) : if (!decide c) = true then A else B := by
  rw [decide_eq_true h]
  exact iteF q
theorem ifNotN {c A B : Prop} [Decidable c] (h : ¬ c) (q : A) : if (!decide c) = true then A else B := by
  rw [decide_eq_false h]
  exact iteT q
theorem nxQ {D : Ends} {σ : L2.St} {H : Hp} (h : D.nx σ H) : tNext D σ H := h
theorem c1000 : ("sector" : Str).length ≤ 1000 ∧ ("state" : Str).length ≤ 1000 := by decide +kernel
section
variable {P : Program} {w : World} {K : PySem.W.Frag} {mg : Str → Option Value} {base : Heap}
abbrev s_Responsibility__check_sectors : Stmt := inClass (top 4) 10
theorem sc_Responsibility__check_sectors : FnScope ["self", "one", "other"] ["self", "one", "other"] (defScope s_Responsibility__check_sectors) := ⟨rfl, rfl, rfl, by decide +kernel, rfl, by decide +kernel, by decide +kernel⟩
theorem ok_Responsibility__check_sectors {f : Addr} {fd : FuncData} {C CE : Addr} (F : Fun K "_check_sectors" "Responsibility._check_sectors" s_Responsibility__check_sectors f fd) (T : TxtA mg) (Y : RspY K mg C)
    (D_HandoverError : ErrD P w K mg base 1 "HandoverError" CE ["self", "code"] (spCErr1 CE)) : FnOk P w K mg base (L2.CX P w) 3 f fd ["self", "one", "other"] (spCheckS C CE) := by
  refine F.okX sc_Responsibility__check_sectors (fun vs H Q E h => ?_) (fun cdv A outer s H vs Q E hr h => ?_)
  · obtain ⟨_, _, _, _, _, _, rfl, _⟩ := h
    rfl
  · obtain ⟨A, mx, ns, s, a, b, rfl, R, k1, k2⟩ := h
    have hu := hu_of hr
    refine ⟨_, (pss_one (ps_if (PW.pt (pw_or (pt_cmp (pc_dnotin hu (pv 1) (pe_fld (pv 0) rfl))) (pw_or (pt_cmp (pc_dnotin hu (pv 2) (pe_fld (pv 0) rfl))) (pw_or1 (pt_cmpR op_eq (pv 1) (pv 2) (nomark _)))))) (pss_one (ps_raiseC1 rfl D_HandoverError (hr.mono (by decide)) (takes_of rfl rfl rfl rfl) (by rfl) pe_str (fun _ _ _ _ im z => im _ _ z)))
      pss_nil)), ?_⟩
    rw [show L2.start ["self", "one", "other"] [V.ref A.p, V.str a, V.str b] = [some (V.ref A.p), some (V.str a), some (V.str b)] from rfl]
    obtain ⟨dx, ho⟩ := R.o
    refine ⟨_, rfl, _, rfl, _, _, _, _, _, rfl, ho, Y.cl, Y.n2, rfl, _, _, rfl, DGet.k (k := .inr a) R.t, _, rfl, ?_⟩
    rw [valV_mK_some]
    by_cases h1 : a ∈ ns
    rotate_left
    · exact ifNotN h1 ⟨"sector", rfl, c1000.1, fun d hd => k2 (fun z => h1 z.1) d hd⟩
    refine ifNotY h1 ?_
    refine ⟨_, rfl, _, rfl, _, _, _, _, _, rfl, ho, Y.cl, Y.n2, rfl, _, _, rfl, DGet.k (k := .inr b) R.t, _, rfl, ?_⟩
    rw [valV_mK_some]
    by_cases h2 : b ∈ ns
    rotate_left
    · exact ifNotN h2 ⟨"sector", rfl, c1000.1, fun d hd => k2 (fun z => h2 z.2.1) d hd⟩
    refine ifNotY h2 ?_
    refine ⟨_, rfl, _, rfl, rfl, _, rfl, ?_⟩
    by_cases h3 : a = b
    · exact ifY (congrArg V.str h3) ⟨"sector", rfl, c1000.1, fun d hd => k2 (fun z => z.2.2 h3) d hd⟩
    · refine ifN (fun z => h3 (V.str.inj z)) ?_
      exact k1 ⟨h1, h2, h3⟩
abbrev s_Responsibility__message : Stmt := inClass (top 4) 9
theorem sc_Responsibility__message : FnScope ["self", "by"] ["self", "by"] (defScope s_Responsibility__message) := ⟨rfl, rfl, rfl, by decide +kernel, rfl, by decide +kernel, by decide +kernel⟩
theorem ok_Responsibility__message {f : Addr} {fd : FuncData} {C : Addr} (F : Fun K "_message" "Responsibility._message" s_Responsibility__message f fd) (T : TxtA mg) (Y : RspY K mg C) : FnOk P w K mg base CX0 1 f fd ["self", "by"] (spMsgR C) := by
  refine F.ok sc_Responsibility__message (fun vs H Q E h => ?_) (fun cdv A outer s H vs Q E hr h => ?_)
  · obtain ⟨_, _, _, _, _, rfl, _⟩ := h
    rfl
  · obtain ⟨A, mx, ns, s, b, rfl, R, hb, hg, k⟩ := h
    have hu := hu_of hr
    refine ⟨_, (pss_one (ps_ret (pe_tup (pa_cons pe_str (pa_cons (pe_op op_add (pe_dget hu (pe_fld (pv 0) rfl) (pv 1) (fun _ _ => rfl)) pe_int) (pa_cons (pv 1) (pa_cons (pe_dget hu (pe_fld (pv 0) rfl) (pv 1) (fun _ _ => rfl)) pa_nil))))))), ?_⟩
    rw [show L2.start ["self", "by"] [V.ref A.p, V.str b] = [some (V.ref A.p), some (V.str b)] from rfl]
    obtain ⟨dx, ho⟩ := R.o
    obtain ⟨kr, r1, r2, r3⟩ := R.r
    refine ⟨_, rfl, _, _, _, _, _, rfl, ho, Y.cl, Y.n1, rfl, _, rfl, _, _, rfl, (valV_mK (f := fun n => V.int (s.cn n)) hb) ▸ DGet.k (k := .inr b) R.c, _, _, rfl, rfl, _, rfl, _, rfl, _, _, _, _, _, rfl, ho, Y.cl, Y.n3, rfl, _, rfl, _, _, rfl, (r3 b hb hg) ▸ DGet.k (k := .inr b) r1, szOk rfl, fun q hq => ?_⟩
    exact k q hq
abbrev s_Responsibility_give : Stmt := inClass (top 4) 1
theorem sc_Responsibility_give : FnScope ["self", "by", "to"] ["self", "by", "to"] (defScope s_Responsibility_give) := ⟨rfl, rfl, rfl, by decide +kernel, rfl, by decide +kernel, by decide +kernel⟩
theorem ok_Responsibility_give {f : Addr} {fd : FuncData} {C CE : Addr} (F : Fun K "give" "Responsibility.give" s_Responsibility_give f fd) (T : TxtA mg) (Y : RspY K mg C)
    (D_HandoverError : ErrD P w K mg base 1 "HandoverError" CE ["self", "code"] (spCErr1 CE))
    (M_check_sectors : MDefX P w K mg base 3 C "_check_sectors" ["self", "one", "other"] (spCheckS C CE))
    (M_message : MDef P w K mg base 1 C "_message" ["self", "by"] (spMsgR C)) : FnOk P w K mg base (L2.CX P w) 4 f fd ["self", "by", "to"] (spGiveR C CE) := by
  refine F.okX sc_Responsibility_give (fun vs H Q E h => ?_) (fun cdv A outer s H vs Q E hr h => ?_)
  · obtain ⟨_, _, _, _, _, _, rfl, _⟩ := h
    rfl
  · obtain ⟨A, mx, ns, s, b, t, rfl, R, hm, kk⟩ := h
    have hu := hu_of hr
    refine ⟨_, (pss_cons (ps_expr (pe_mdefX M_check_sectors Y.cl (hr.mono (by decide)) (takes_of rfl rfl rfl rfl) (pv 0) (pa_cons (pv 1) (pa_cons (pv 2) pa_nil))))
    (pss_cons (ps_if (pt_cmpR op_ne (pe_dget hu (pe_fld (pv 0) rfl) (pv 1) (fun _ _ => rfl)) pe_str (nomark _)) (pss_one (ps_raiseC1 rfl D_HandoverError (hr.mono (by decide)) (takes_of rfl rfl rfl rfl) (by rfl) pe_str (fun _ _ _ _ im z => im _ _ z)))
      pss_nil)
    (pss_cons (ps_dput hu (pe_fld (pv 0) rfl) (pv 1) pe_str rfl)
    (pss_cons (ps_dput hu (pe_fld (pv 0) rfl) (pv 1) (pv 2) rfl)
    (pss_one (ps_ret (pe_mdef M_message Y.cl (hr.mono (by decide)) (pv 0) (pa_cons (pv 1) pa_nil)))))))), ?_⟩
    rw [show L2.start ["self", "by", "to"] [V.ref A.p, V.str b, V.str t] = [some (V.ref A.p), some (V.str b), some (V.str t)] from rfl]
    obtain ⟨dx, ho⟩ := R.o
    obtain ⟨k1, k2⟩ := kk
    by_cases h1 : okS ns b t
    rotate_left
    · have e : giveA ns s b t = (s, .er "sector") := if_pos h1
      exact ⟨_, rfl, _, _, _, rfl, ho, rfl, _, rfl, _, rfl, A, mx, ns, s, b, t, rfl, R, fun z => absurd z h1, fun _ d hd => k2 "sector" d (by rw [e]) hd⟩
    refine ⟨_, rfl, _, _, _, rfl, ho, rfl, _, rfl, _, rfl, A, mx, ns, s, b, t, rfl, R, fun _ => ?_, fun z => absurd h1 z⟩
    refine ⟨_, rfl, _, _, _, _, _, rfl, ho, Y.cl, Y.n2, rfl, _, rfl, _, _, rfl, R.dt h1.1, rfl, _, rfl, ?_⟩
    by_cases h2 : s.st b = "holds"
    rotate_left
    · have e : giveA ns s b t = (s, .er "state") := (if_neg (fun z => z h1)).trans (if_pos h2)
      exact ifNotN (fun z => h2 (V.str.inj z)) ⟨"state", rfl, c1000.2, fun d hd => k2 "state" d (by rw [e]) hd⟩
    have e : giveA ns s b t = ({ s with st := su s.st b "gives", rc := su s.rc b t }, .ms "give" (s.cn b + 1) b t) := (if_neg (fun z => z h1)).trans (if_neg (fun z => z h2))
    rw [e] at k1
    refine ifNotY (congrArg V.str h2) ?_
    refine nxQ ?_
    dsimp only
    obtain ⟨kr, r1, r2, R1⟩ := R.putG (t := t) h1.1 hm
    have O1 := R.oth (a := A.t) (o := .dK (putK (mK ns fun n => .str (s.st n)) (.inr b) (.str "gives"))) (by simp [RA.l])
    have T1 := tk_putK (o := .dK (putK (mK ns fun n => .str (s.st n)) (.inr b) (.str "gives"))) R.t
    refine ⟨_, rfl, _, _, _, _, _, rfl, ho, Y.cl, Y.n2, rfl, _, rfl, _, _, rfl, DPut.k (k := .inr _) R.t R.szT, ?_⟩
    have ho1 : (upd H A.t (.dK (putK (mK ns fun n => .str (s.st n)) (.inr b) (.str "gives")))) A.p = some (.ins C dx (rFl A)) := by rw [upd_ne R.nds.2.1]; exact ho
    generalize upd H A.t (.dK (putK (mK ns fun n => .str (s.st n)) (.inr b) (.str "gives"))) = G1 at r1 R1 O1 T1 ho1 ⊢
    have O2 := Oth.put (T := A.l) (H := G1) (a := A.r) (o := .dK (putK kr (.inr b) (.str t))) (by simp [RA.l])
    have T2 := tk_putK (o := .dK (putK kr (.inr b) (.str t))) r1
    refine ⟨_, rfl, _, rfl, _, _, _, _, _, rfl, ho1, Y.cl, Y.n3, rfl, _, rfl, _, _, rfl, DPut.k (k := .inr _) r1 r2, ?_⟩
    obtain ⟨dx2, ho2⟩ := R1.o
    generalize upd G1 A.r (.dK (putK kr (.inr b) (.str t))) = G2 at R1 O2 T2 ho2 ⊢
    refine ⟨_, rfl, _, _, _, rfl, ho2, rfl, _, rfl, A, _, ns, _, b, rfl, R1, h1.1, su_self, fun q hq => ?_⟩
    have s3 := same_new (o := .tup [.str "give", .int (s.cn b + 1), .str b, .str (su s.rc b t b)]) hq
    refine k1 (.ref q) _ ⟨q, rfl, ?_⟩ (fun c z => nomatch z) (R1.same s3) ((O1.trans O2).trans (Oth.of s3)) ((T1.trans T2).trans (Same.tk s3))
    rw [upd_same]
    show some (HO.tup [.str "give", .int (s.cn b + 1), .str b, .str (su s.rc b t b)]) = _
    rw [su_self]
abbrev s_Responsibility_repeat : Stmt := inClass (top 4) 2
theorem sc_Responsibility_repeat : FnScope ["self", "by"] ["self", "by"] (defScope s_Responsibility_repeat) := ⟨rfl, rfl, rfl, by decide +kernel, rfl, by decide +kernel, by decide +kernel⟩
theorem ok_Responsibility_repeat {f : Addr} {fd : FuncData} {C CE : Addr} (F : Fun K "repeat" "Responsibility.repeat" s_Responsibility_repeat f fd) (T : TxtA mg) (Y : RspY K mg C)
    (D_HandoverError : ErrD P w K mg base 1 "HandoverError" CE ["self", "code"] (spCErr1 CE))
    (M_message : MDef P w K mg base 1 C "_message" ["self", "by"] (spMsgR C)) : FnOk P w K mg base (L2.CX P w) 3 f fd ["self", "by"] (spRepR C CE) := by
  refine F.okX sc_Responsibility_repeat (fun vs H Q E h => ?_) (fun cdv A outer s H vs Q E hr h => ?_)
  · obtain ⟨_, _, _, _, _, rfl, _⟩ := h
    rfl
  · obtain ⟨A, mx, ns, s, b, rfl, R, kk⟩ := h
    have hu := hu_of hr
    refine ⟨_, (pss_cons (ps_if (pt_cmp (pc_dnotin hu (pv 1) (pe_fld (pv 0) rfl))) (pss_one (ps_raiseC1 rfl D_HandoverError (hr.mono (by decide)) (takes_of rfl rfl rfl rfl) (by rfl) pe_str (fun _ _ _ _ im z => im _ _ z)))
      pss_nil)
    (pss_cons (ps_if (pt_cmpR op_ne (pe_dget hu (pe_fld (pv 0) rfl) (pv 1) (fun _ _ => rfl)) pe_str (nomark _)) (pss_one (ps_raiseC1 rfl D_HandoverError (hr.mono (by decide)) (takes_of rfl rfl rfl rfl) (by rfl) pe_str (fun _ _ _ _ im z => im _ _ z)))
      pss_nil)
    (pss_one (ps_ret (pe_mdef M_message Y.cl (hr.mono (by decide)) (pv 0) (pa_cons (pv 1) pa_nil)))))), ?_⟩
    rw [show L2.start ["self", "by"] [V.ref A.p, V.str b] = [some (V.ref A.p), some (V.str b)] from rfl]
    obtain ⟨dx, ho⟩ := R.o
    obtain ⟨k1, k2⟩ := kk
    refine ⟨_, rfl, _, rfl, _, _, _, _, _, rfl, ho, Y.cl, Y.n2, rfl, _, _, rfl, DGet.k (k := .inr b) R.t, _, rfl, ?_⟩
    rw [valV_mK_some]
    by_cases h1 : b ∈ ns
    rotate_left
    · have e : repA ns s b = (s, .er "sector") := if_pos h1
      exact ifNotN h1 ⟨"sector", rfl, c1000.1, fun d hd => k2 "sector" d (by rw [e]) hd⟩
    refine ifNotY h1 ?_
    refine nxQ ?_
    dsimp only
    refine ⟨_, rfl, _, _, _, _, _, rfl, ho, Y.cl, Y.n2, rfl, _, rfl, _, _, rfl, R.dt h1, rfl, _, rfl, ?_⟩
    by_cases h2 : s.st b = "gives"
    rotate_left
    · have e : repA ns s b = (s, .er "state") := (if_neg (fun z => z h1)).trans (if_pos h2)
      exact ifNotN (fun z => h2 (V.str.inj z)) ⟨"state", rfl, c1000.2, fun d hd => k2 "state" d (by rw [e]) hd⟩
    have e : repA ns s b = (s, .ms "give" (s.cn b + 1) b (s.rc b)) := (if_neg (fun z => z h1)).trans (if_neg (fun z => z h2))
    rw [e] at k1
    refine ifNotY (congrArg V.str h2) ?_
    refine nxQ ?_
    dsimp only
    refine ⟨_, rfl, _, _, _, rfl, ho, rfl, _, rfl, A, _, ns, _, b, rfl, R, h1, h2, fun q hq => ?_⟩
    have s3 := same_new (o := .tup [.str "give", .int (s.cn b + 1), .str b, .str (s.rc b)]) hq
    exact k1 (.ref q) _ ⟨q, rfl, upd_same⟩ (fun c z => nomatch z) (R.same s3) (Oth.of s3) (Same.tk s3)
abbrev s_Responsibility__hear_give : Stmt := inClass (top 4) 8
theorem sc_Responsibility__hear_give : FnScope ["self", "number", "by", "to"] ["self", "number", "by", "to"] (defScope s_Responsibility__hear_give) := ⟨rfl, rfl, rfl, by decide +kernel, rfl, by decide +kernel, by decide +kernel⟩
theorem ok_Responsibility__hear_give {f : Addr} {fd : FuncData} {C : Addr} (F : Fun K "_hear_give" "Responsibility._hear_give" s_Responsibility__hear_give f fd) (T : TxtA mg) (Y : RspY K mg C) : FnOk P w K mg base CX0 1 f fd ["self", "number", "by", "to"] (spHgR C) := by
  refine F.ok sc_Responsibility__hear_give (fun vs H Q E h => ?_) (fun cdv A outer s H vs Q E hr h => ?_)
  · obtain ⟨_, _, _, _, _, _, _, rfl, _⟩ := h
    rfl
  · obtain ⟨A, mx, ns, s, n, a, b, rfl, R, hb, k⟩ := h
    have hu := hu_of hr
    refine ⟨_, (pss_cons (ps_if (pt_cmpR op_gt (pv 1) (pe_dget hu (pe_fld (pv 0) rfl) (pv 3) (fun _ _ => rfl)) (nomark _)) (pss_cons (ps_dput hu (pe_fld (pv 0) rfl) (pv 3) (pv 1) rfl)
    (pss_one (ps_dput hu (pe_fld (pv 0) rfl) (pv 3) pe_str rfl)))
      pss_nil)
    (pss_one (ps_ret (pe_tup (pa_cons pe_str (pa_cons (pv 1) (pa_cons (pv 3) (pa_cons (pv 2) pa_nil)))))))), ?_⟩
    rw [show L2.start ["self", "number", "by", "to"] [V.ref A.p, V.int n, V.str a, V.str b] = [some (V.ref A.p), some (V.int n), some (V.str a), some (V.str b)] from rfl]
    obtain ⟨dx, ho⟩ := R.o
    refine cut (t := tIfS _ _ _) (fun σ' G => σ' = [some (.ref A.p), some (.int n), some (.str a), some (.str b)] ∧ RsAt C G A mx ns (if n > s.cn b then { s with cn := su s.cn b n, st := su s.st b "holds" } else s) ∧ Oth A.l H G ∧ TK H G) ?_ (fun rest => ?_)
    · rintro σ' G ⟨rfl, R1, O1, T1⟩
      refine ⟨_, rfl, _, rfl, _, rfl, szOk rfl, fun q hq => ?_⟩
      have s3 := same_new (o := .tup [.str "took", .int n, .str b, .str a]) hq
      exact k (.ref q) _ ⟨q, rfl, upd_same⟩ (R1.same s3) (O1.trans (Oth.of s3)) (T1.trans (Same.tk s3))
    refine ⟨_, rfl, _, rfl, _, _, _, _, _, rfl, ho, Y.cl, Y.n1, rfl, _, rfl, _, _, rfl, R.dc hb, _, _, rfl, rfl, _, rfl, ite2 (fun h1 => ?_) (fun h1 => ?_)⟩
    rotate_left
    · exact rest _ _ ⟨rfl, by rw [if_neg (fun z => h1 (decide_eq_true z))]; exact R, Oth.refl _ _, TK.refl _⟩
    rw [if_pos (of_decide_eq_true h1)] at rest
    have R1 := R.putC (w := n) hb
    have O1 := R.oth (a := A.c) (o := .dK (putK (mK ns fun n => .int (s.cn n)) (.inr b) (.int n))) (by simp [RA.l])
    have T1 := tk_putK (o := .dK (putK (mK ns fun n => .int (s.cn n)) (.inr b) (.int n))) R.c
    refine ⟨_, rfl, _, rfl, _, _, _, _, _, rfl, ho, Y.cl, Y.n1, rfl, _, rfl, _, _, rfl, DPut.k (k := .inr _) R.c R.szC, ?_⟩
    generalize upd H A.c (.dK (putK (mK ns fun n => .int (s.cn n)) (.inr b) (.int n))) = G1 at R1 O1 T1 ⊢
    obtain ⟨dx1, ho1⟩ := R1.o
    have R2 := R1.putT (w := "holds") hb hg
    have O2 := R1.oth (a := A.t) (o := .dK (putK (mK ns fun n => .str (s.st n)) (.inr b) (.str "holds"))) (by simp [RA.l])
    have T2 := tk_putK (o := .dK (putK (mK ns fun n => .str (s.st n)) (.inr b) (.str "holds"))) R1.t
    refine ⟨_, rfl, _, _, _, _, _, rfl, ho1, Y.cl, Y.n2, rfl, _, rfl, _, _, rfl, DPut.k (k := .inr _) R1.t R1.szT, ?_⟩
    exact rest _ _ ⟨rfl, R2, O1.trans O2, T1.trans T2⟩
abbrev s_Responsibility_hear : Stmt := inClass (top 4) 3
theorem sc_Responsibility_hear : FnScope ["self", "message", "what", "number", "sender", "hearer"] ["self", "message"] (defScope s_Responsibility_hear) := ⟨rfl, rfl, rfl, by decide +kernel, rfl, by decide +kernel, by decide +kernel⟩
theorem ok_Responsibility_hear {f : Addr} {fd : FuncData} {C CE : Addr} (F : Fun K "hear" "Responsibility.hear" s_Responsibility_hear f fd) (T : TxtA mg) (Y : RspY K mg C)
    (M_check_sectors : MDefX P w K mg base 3 C "_check_sectors" ["self", "one", "other"] (spCheckS C CE))
    (M_hear_give : MDef P w K mg base 1 C "_hear_give" ["self", "number", "by", "to"] (spHgR C)) : FnOk P w K mg base (L2.CX P w) 4 f fd ["self", "message"] (spHrR C CE) := by
  refine F.okX sc_Responsibility_hear (fun vs H Q E h => ?_) (fun cdv A outer s H vs Q E hr h => ?_)
  · obtain ⟨_, _, _, _, _, _, _, _, _, rfl, _⟩ := h
    rfl
  · obtain ⟨A, mx, ns, s, q, ky, n, a, b, rfl, R, hq, hk, kk⟩ := h
    have hu := hu_of hr
    refine ⟨_, (pss_cons (ps_asg (pv 1) (pg_tup (by rfl) (pgs_cons (pg_name (i := 2) sc_Responsibility_hear.nd rfl (Or.inl rfl)) (pgs_cons (pg_name (i := 3) sc_Responsibility_hear.nd rfl (Or.inl rfl)) (pgs_cons (pg_name (i := 4) sc_Responsibility_hear.nd rfl (Or.inl rfl)) (pgs_cons (pg_name (i := 5) sc_Responsibility_hear.nd rfl (Or.inl rfl)) pgs_nil))))))
    (pss_cons (ps_expr (pe_mdefX M_check_sectors Y.cl (hr.mono (by decide)) (takes_of rfl rfl rfl rfl) (pv 0) (pa_cons (pv 4) (pa_cons (pv 5) pa_nil))))
    (pss_cons (ps_if (pt_cmpR op_eq (pv 2) pe_str (nomark _)) (pss_one (ps_ret (pe_mdef M_hear_give Y.cl (hr.mono (by decide)) (pv 0) (pa_cons (pv 3) (pa_cons (pv 4) (pa_cons (pv 5) pa_nil))))))
      pss_nil)
    (pss_cons (ps_if (PW.pt (pw_and (pt_cmpR op_eq (pv 2) pe_str (nomark _)) (pw_and (pt_cmpR op_eq (pe_dget hu (pe_fld (pv 0) rfl) (pv 5) (fun _ _ => rfl)) pe_str (nomark _)) (pw_and1 (pt_cmpR op_eq (pv 3) (pe_op op_add (pe_dget hu (pe_fld (pv 0) rfl) (pv 5) (fun _ _ => rfl)) pe_int) (nomark _)))))) (pss_cons (ps_dput hu (pe_fld (pv 0) rfl) (pv 5) (pv 3) rfl)
    (pss_one (ps_dput hu (pe_fld (pv 0) rfl) (pv 5) pe_str rfl)))
      pss_nil)
    (pss_one (ps_ret pe_non)))))), ?_⟩
    rw [show L2.start ["self", "message", "what", "number", "sender", "hearer"] [V.ref A.p, V.ref q] = [some (V.ref A.p), some (V.ref q), none, none, none, none] from rfl]
    obtain ⟨dx, ho⟩ := R.o
    obtain ⟨k1, k2⟩ := kk
    refine ⟨_, rfl, _, _, rfl, .inl (.inl hq), rfl, _, _, rfl, _, _, rfl, _, _, rfl, _, _, rfl, rfl, ?_⟩
    dsimp only [List.set]
    by_cases h1 : okS ns a b
    rotate_left
    · have e : hrA ns s ky n a b = (s, .er "sector") := if_pos h1
      exact ⟨_, rfl, _, _, _, rfl, ho, rfl, _, rfl, _, rfl, A, mx, ns, s, a, b, rfl, R, fun z => absurd z h1, fun _ d hd => k2 "sector" d (by rw [e]) hd⟩
    refine ⟨_, rfl, _, _, _, rfl, ho, rfl, _, rfl, _, rfl, A, mx, ns, s, a, b, rfl, R, fun _ => ?_, fun z => absurd h1 z⟩
    refine ⟨_, rfl, rfl, _, rfl, ?_⟩
    by_cases h2 : ky = "give"
    · subst h2
      refine ifY rfl ?_
      have e : hrA ns s "give" n a b = (if n > s.cn b then { s with cn := su s.cn b n, st := su s.st b "holds" } else s, .ms "took" n b a) := (if_neg (fun z => z h1)).trans (if_pos rfl)
      rw [e] at k1
      exact ⟨_, rfl, _, _, _, rfl, ho, rfl, _, rfl, _, rfl, _, rfl, A, mx, ns, s, n, a, b, rfl, R, h1.2.1, fun v H' V R' O T => k1 v H' V (fun c z => nomatch z) R' O T⟩
    refine ifN (fun z => h2 (V.str.inj z)) ?_
    obtain rfl : ky = "took" := hk.resolve_left h2
    refine nxQ ?_
    dsimp only
    have e : hrA ns s "took" n a b = if s.st b = "gives" ∧ n = s.cn b + 1 then ({ s with cn := su s.cn b n, st := su s.st b "rests" }, .no) else (s, .no) := (if_neg (fun z => z h1)).trans (if_neg h2)
    rw [e] at k1
    have no_ : ¬ (s.st b = "gives" ∧ n = s.cn b + 1) → Q .non H := fun z => by
      rw [if_neg z] at k1
      exact k1 .non H rfl (fun c z => nomatch z) R (Oth.refl _ _) (TK.refl _)
    refine ⟨_, rfl, rfl, _, rfl, ifY rfl ?_⟩
    refine ⟨_, rfl, _, _, _, _, _, rfl, ho, Y.cl, Y.n2, rfl, _, rfl, _, _, rfl, R.dt h1.2.1, rfl, _, rfl, ?_⟩
    by_cases h3 : s.st b = "gives"
    rotate_left
    · exact ifN (fun z => h3 (V.str.inj z)) (no_ fun z => h3 z.1)
    refine ifY (congrArg V.str h3) ?_
    refine ⟨_, rfl, _, rfl, _, _, _, _, _, rfl, ho, Y.cl, Y.n1, rfl, _, rfl, _, _, rfl, R.dc h1.2.1, _, _, rfl, rfl, rfl, _, rfl, ?_⟩
    by_cases h4 : n = s.cn b + 1
    rotate_left
    · exact eqN h4 (no_ fun z => h4 z.2)
    refine eqY h4 ?_
    rw [if_pos ⟨h3, h4⟩] at k1
    have R1 := R.putC (w := n) h1.2.1
    have O1 := R.oth (a := A.c) (o := .dK (putK (mK ns fun n => .int (s.cn n)) (.inr b) (.int n))) (by simp [RA.l])
    have T1 := tk_putK (o := .dK (putK (mK ns fun n => .int (s.cn n)) (.inr b) (.int n))) R.c
    refine ⟨_, rfl, _, rfl, _, _, _, _, _, rfl, ho, Y.cl, Y.n1, rfl, _, rfl, _, _, rfl, DPut.k (k := .inr _) R.c R.szC, ?_⟩
    generalize upd H A.c (.dK (putK (mK ns fun n => .int (s.cn n)) (.inr b) (.int n))) = G1 at R1 O1 T1 ⊢
    obtain ⟨dx1, ho1⟩ := R1.o
    have R2 := R1.putT (w := "rests") h1.2.1 (Ne.symm gr_)
    have O2 := R1.oth (a := A.t) (o := .dK (putK (mK ns fun n => .str (s.st n)) (.inr b) (.str "rests"))) (by simp [RA.l])
    have T2 := tk_putK (o := .dK (putK (mK ns fun n => .str (s.st n)) (.inr b) (.str "rests"))) R1.t
    refine ⟨_, rfl, _, _, _, _, _, rfl, ho1, Y.cl, Y.n2, rfl, _, rfl, _, _, rfl, DPut.k (k := .inr _) R1.t R1.szT, ?_⟩
    exact k1 .non _ rfl (fun c z => nomatch z) R2 (O1.trans O2) (T1.trans T2)
abbrev s_Responsibility_acts : Stmt := inClass (top 4) 4
theorem sc_Responsibility_acts : FnScope ["self", "sector"] ["self", "sector"] (defScope s_Responsibility_acts) := ⟨rfl, rfl, rfl, by decide +kernel, rfl, by decide +kernel, by decide +kernel⟩
theorem ok_Responsibility_acts {f : Addr} {fd : FuncData} {C : Addr} (F : Fun K "acts" "Responsibility.acts" s_Responsibility_acts f fd) (T : TxtA mg) (Y : RspY K mg C) : FnOk P w K mg base CX0 1 f fd ["self", "sector"] (spActs C) := by
  refine F.ok sc_Responsibility_acts (fun vs H Q E h => ?_) (fun cdv A outer s H vs Q E hr h => ?_)
  · obtain ⟨_, _, _, _, _, rfl, _⟩ := h
    rfl
  · obtain ⟨A, mx, ns, s, x, rfl, R, k⟩ := h
    have hu := hu_of hr
    refine ⟨_, (pss_one (ps_ret (pe_and (pe_cmp (pc_din hu (pv 1) (pe_fld (pv 0) rfl))) (pe_one (pe_cmpR op_eq (pe_dget hu (pe_fld (pv 0) rfl) (pv 1) (fun _ _ => rfl)) pe_str (nomark _)))))), ?_⟩
    rw [show L2.start ["self", "sector"] [V.ref A.p, V.str x] = [some (V.ref A.p), some (V.str x)] from rfl]
    obtain ⟨dx, ho⟩ := R.o
    refine ⟨_, rfl, _, rfl, _, _, _, _, _, rfl, ho, Y.cl, Y.n2, rfl, _, _, rfl, DGet.k (k := .inr x) R.t, _, rfl, ?_⟩
    rw [valV_mK_some]
    by_cases h1 : x ∈ ns
    rotate_left
    · rw [decide_eq_false h1, Bool.false_and] at k
      exact ifN h1 (by first | exact k | (rw [decide_eq_false h1]; exact k))
    refine ifY h1 ?_
    refine ⟨_, rfl, _, _, _, _, _, rfl, ho, Y.cl, Y.n2, rfl, _, rfl, _, _, rfl, R.dt h1, rfl, ?_⟩
    rw [decide_eq_true h1, Bool.true_and] at k
    have e : decide (V.str (s.st x) = V.str "holds") = decide (s.st x = "holds") := decide_eq_decide.mpr ⟨fun z => V.str.inj z, fun z => congrArg V.str z⟩
    exact e ▸ k
abbrev s_Responsibility__rank : Stmt := inClass (top 4) 7
theorem sc_Responsibility__rank : FnScope ["self", "sector"] ["self", "sector"] (defScope s_Responsibility__rank) := ⟨rfl, rfl, rfl, by decide +kernel, rfl, by decide +kernel, by decide +kernel⟩
theorem ok_Responsibility__rank {f : Addr} {fd : FuncData} {C : Addr} (F : Fun K "_rank" "Responsibility._rank" s_Responsibility__rank f fd) (T : TxtA mg) (Y : RspY K mg C) : FnOk P w K mg base CX0 1 f fd ["self", "sector"] (spRankR C) := by
  refine F.ok sc_Responsibility__rank (fun vs H Q E h => ?_) (fun cdv A outer s H vs Q E hr h => ?_)
  · obtain ⟨_, _, _, _, rfl, _⟩ := h
    rfl
  · obtain ⟨A, ns, s, x, rfl, ⟨dx, ho⟩, Rc, Rt, hx, k⟩ := h
    have hu := hu_of hr
    refine ⟨_, (pss_cons (ps_if (pt_cmpR op_eq (pe_dget hu (pe_fld (pv 0) rfl) (pv 1) (fun _ _ => rfl)) pe_str (nomark _)) (pss_one (ps_ret (pe_op op_mul pe_int (pe_dget hu (pe_fld (pv 0) rfl) (pv 1) (fun _ _ => rfl)))))
      pss_nil)
    (pss_one (ps_ret (pe_op op_add (pe_op op_mul pe_int (pe_dget hu (pe_fld (pv 0) rfl) (pv 1) (fun _ _ => rfl))) pe_int)))), ?_⟩
    rw [show L2.start ["self", "sector"] [V.ref A.p, V.str x] = [some (V.ref A.p), some (V.str x)] from rfl]
    have dc : DGet H A.c (.str x) (some (.int (s.cn x))) := .inl ⟨_, .inr x, Rc, rfl, (valV_mK (f := fun n => V.int (s.cn n)) hx).symm⟩
    have dt : DGet H A.t (.str x) (some (.str (s.st x))) := .inl ⟨_, .inr x, Rt, rfl, (valV_mK (f := fun n => V.str (s.st n)) hx).symm⟩
    refine ⟨_, rfl, _, _, _, _, _, rfl, ho, Y.cl, Y.n2, rfl, _, rfl, _, _, rfl, dt, rfl, _, rfl, ?_⟩
    by_cases h1 : s.st x = "rests"
    · refine ifY (congrArg V.str h1) ?_
      rw [show rkA s x = 2 * s.cn x from if_pos h1] at k
      exact ⟨_, rfl, _, _, _, _, _, rfl, ho, Y.cl, Y.n1, rfl, _, rfl, _, _, rfl, dc, _, _, rfl, rfl, .inl ⟨by decide, by decide⟩, k⟩
    · refine ifN (fun z => h1 (V.str.inj z)) ?_
      rw [show rkA s x = 2 * s.cn x + 1 from if_neg h1] at k
      exact ⟨_, rfl, _, _, _, _, _, rfl, ho, Y.cl, Y.n1, rfl, _, rfl, _, _, rfl, dc, _, _, rfl, rfl, .inl ⟨by decide, by decide⟩, _, _, rfl, rfl, k⟩
abbrev s_Responsibility_responsible : Stmt := inClass (top 4) 6
theorem sc_Responsibility_responsible : FnScope ["self"] ["self"] (defScope s_Responsibility_responsible) := ⟨rfl, rfl, rfl, by decide +kernel, rfl, by decide +kernel, by decide +kernel⟩
theorem ok_Responsibility_responsible {f gR : Addr} {fd : FuncData} {C : Addr} (F : Fun K "responsible" "Responsibility.responsible" s_Responsibility_responsible f fd) (T : TxtA mg) (Y : RspY K mg C)
    (B_rank : BDef P w K mg base 1 C "_rank" ["self", "sector"] (spRankR C) gR) : FnOk P w K mg base CX0 3 f fd ["self"] (spResp C) := by
  refine F.ok sc_Responsibility_responsible (fun vs H Q E h => ?_) (fun cdv A outer s H vs Q E hr h => ?_)
  · obtain ⟨_, _, _, _, rfl, _⟩ := h
    rfl
  · obtain ⟨A, mx, ns, s, rfl, R, hn, k⟩ := h
    have hu := hu_of hr
    refine ⟨_, (pss_one (ps_ret (pe_callBK (cr_maxK (hr.mono (by decide)) B_rank.r) (by rfl) T.max boot_max (pa_cons (pe_fld (pv 0) rfl) pa_nil) (pk_cons (pe_bound Y.cl B_rank.b (pv 0)) pk_nil)))), ?_⟩
    rw [show L2.start ["self"] [V.ref A.p] = [some (V.ref A.p)] from rfl]
    obtain ⟨dx, ho⟩ := R.o
    obtain ⟨n1, n2, n3, n4, n5, n6⟩ := R.nds
    refine ⟨_, rfl, _, _, _, _, _, rfl, ho, Y.cl, Y.n2, rfl, _, rfl, _, _, _, rfl, ho, rfl, fun q hq => ?_⟩
    have s1 := same_new (o := .met gR A.p) hq
    refine ⟨A.t, q, A.p, _, rkK s, rfl, rfl, s1 _ _ R.t, upd_same, ?_, fun od ky v hm => ?_, fun ky hm => ?_⟩
    · rw [mK_length]; exact List.length_pos_iff.mpr hn
    · obtain ⟨n, hn, rfl, rfl⟩ := mK_mem hm
      exact ⟨A, ns, s, n, rfl, ⟨dx, by rw [upd_ne n2]; exact s1 _ _ ho⟩, .inl (by rw [upd_ne n4]; exact s1 _ _ R.c), .inr ⟨od, upd_same⟩, hn, rfl, rfl⟩
    · obtain ⟨⟨v, h1⟩, h2⟩ := hm
      obtain ⟨n, hn, rfl, rfl⟩ := mK_mem h1
      exact k n _ hn (fun y hy => h2 (.inr y) _ (List.mem_map.mpr ⟨y, hy, rfl⟩)) s1
abbrev s_Responsibility___init__ : Stmt := inClass (top 4) 0
theorem sc_Responsibility___init__ : FnScope ["self", "sectors", "first", "sector"] ["self", "sectors", "first"] (defScope s_Responsibility___init__) := ⟨rfl, rfl, rfl, by decide +kernel, rfl, by decide +kernel, by decide +kernel⟩
theorem ok_Responsibility___init__ {f : Addr} {fd : FuncData} {C : Addr} (F : Fun K "__init__" "Responsibility.__init__" s_Responsibility___init__ f fd) (T : TxtA mg) (Y : RspY K mg C) : FnOk P w K mg base CX0 1 f fd ["self", "sectors", "first"] (spNewR C) := by
  refine F.ok sc_Responsibility___init__ (fun vs H Q E h => ?_) (fun cdv A outer s H vs Q E hr h => ?_)
  · obtain ⟨_, _, _, _, _, rfl, _⟩ := h
    rfl
  · obtain ⟨p, dx, l, f, ns, rfl, hp, hl, nd, h5, hf, k⟩ := h
    have hu := hu_of hr
    refine ⟨_, (pss_cons (ps_fld (pv 0) (pe_dc (own := [("sector", 3)]) (g := gName 3) (by rfl) sc_Responsibility___init__.nd (pi_list (pv 1)) (blkOk_by (own := [("sector", 3)]) (N := ["self", "sectors", "first", "sector"]) (sc := defScope s_Responsibility___init__) (by decide +kernel)) (fun _ _ _ _ _ => (pg_name (i := 3) sc_Responsibility___init__.nd rfl (Or.inl rfl))) (fun _ _ _ _ _ => pts_nil) (fun _ _ _ _ _ => (pv 3)) (fun _ _ _ _ _ => pe_int)) rfl)
    (pss_cons (ps_fld (pv 0) (pe_dc (own := [("sector", 3)]) (g := gName 3) (by rfl) sc_Responsibility___init__.nd (pi_list (pv 1)) (blkOk_by (own := [("sector", 3)]) (N := ["self", "sectors", "first", "sector"]) (sc := defScope s_Responsibility___init__) (by decide +kernel)) (fun _ _ _ _ _ => (pg_name (i := 3) sc_Responsibility___init__.nd rfl (Or.inl rfl))) (fun _ _ _ _ _ => pts_nil) (fun _ _ _ _ _ => (pv 3)) (fun _ _ _ _ _ => pe_str)) rfl)
    (pss_cons (ps_dput hu (pe_fld (pv 0) rfl) (pv 2) pe_str rfl)
    (pss_one (ps_fld (pv 0) pe_dnewK rfl))))), ?_⟩
    rw [show L2.start ["self", "sectors", "first", "sector"] [V.ref p, V.ref l, V.str f] = [some (V.ref p), some (V.ref l), some (V.str f), none] from rfl]
    refine ⟨_, rfl, _, rfl, ⟨_, .inl (.inl hl)⟩, fun c hc => dc_list (K := K) (a := l) (xs := ns.map V.str) (fun i G => G = upd H c (.dK (mK (ns.take i) fun _ => V.int 0))) (by rfl) (fun i G _ e => by rw [e]; exact .inl (.inl (same_new hc _ _ hl))) ?_ ?_⟩
    · rintro i y G hi rfl
      obtain ⟨n, rfl, hn, hil, ht⟩ := getMap hi
      refine ⟨rfl, _, rfl, _, .inr n, rfl, upd_same, small1000 (by rw [mK_length, List.length_take]; omega), ?_⟩
      rw [upd2, show putK (mK (ns.take i) fun _ => V.int 0) (.inr n) (V.int 0) = mK (ns.take i ++ [n]) (fun _ => V.int 0) from putK_mK_new (f := fun _ => V.int 0) (nd_take nd ht), ← ht]
    rintro G rfl
    rw [List.length_map, List.take_length]
    have s1 := same_new (o := .dK (mK ns fun _ => V.int 0)) hc
    have c1 : (upd H c (.dK (mK ns fun _ => V.int 0))) c = some (.dK (mK ns fun _ => V.int 0)) := upd_same
    have pc : p ≠ c := ne_of_none hp hc
    refine ⟨_, rfl, _, _, _, _, rfl, s1 _ _ hp, Y.cl, Y.n1, (by show 0 < 1000; decide), ?_⟩
    rw [show putF "_counts" (V.ref c) [] = ([("_counts", V.ref c)] : List (Str × V)) from rfl]
    have lp : l ≠ p := ne_of hl hp (by intro z; cases z)
    obtain ⟨H1, eH1⟩ : ∃ H1, H1 = upd (upd H c (.dK (mK ns fun _ => V.int 0))) p (.ins C dx [("_counts", V.ref c)]) := ⟨_, rfl⟩
    rw [← eH1]
    have hl1 : H1 l = some (.lst (ns.map V.str)) := by rw [eH1, upd_ne lp]; exact s1 _ _ hl
    have hp1 : H1 p = some (.ins C dx [("_counts", V.ref c)]) := by rw [eH1, upd_same]
    have hc1 : H1 c = some (.dK (mK ns fun _ => V.int 0)) := by rw [eH1, upd_ne (Ne.symm pc)]; exact c1
    have fr1 : ∀ b, H1 b = none → H b = none := fun b hb => by
      rw [eH1] at hb
      by_cases z : b = p
      · rw [z, upd_same] at hb; cases hb
      · rw [upd_ne z] at hb; exact s1.free hb
    have O1 : Oth [p] H H1 := fun b o e n => by
      rw [eH1, upd_ne (fun z => n (by rw [z]; simp))]
      exact s1 _ _ e
    clear eH1 c1
    refine ⟨_, rfl, _, rfl, ⟨_, .inl (.inl hl1)⟩, fun t ht => dc_list (K := K) (a := l) (xs := ns.map V.str) (fun i G => G = upd H1 t (.dK (mK (ns.take i) fun _ => V.str "rests"))) (by rfl) (fun i G _ e => by rw [e]; exact .inl (.inl (same_new ht _ _ hl1))) ?_ ?_⟩
    · rintro i y G hi rfl
      obtain ⟨n, rfl, hn, hil, ht⟩ := getMap hi
      refine ⟨rfl, _, rfl, _, .inr n, rfl, upd_same, small1000 (by rw [mK_length, List.length_take]; omega), ?_⟩
      rw [upd2, show putK (mK (ns.take i) fun _ => V.str "rests") (.inr n) (V.str "rests") = mK (ns.take i ++ [n]) (fun _ => V.str "rests") from putK_mK_new (f := fun _ => V.str "rests") (nd_take nd ht), ← ht]
    rintro G rfl
    rw [List.length_map, List.take_length]
    have s2 := same_new (o := .dK (mK ns fun _ => V.str "rests")) ht
    have t1 : (upd H1 t (.dK (mK ns fun _ => V.str "rests"))) t = some (.dK (mK ns fun _ => V.str "rests")) := upd_same
    have pt : p ≠ t := ne_of_none hp1 ht
    have ct : c ≠ t := ne_of_none hc1 ht
    have hp2 := s2 _ _ hp1
    have hc2 := s2 _ _ hc1
    have fr2 : ∀ b, (upd H1 t (.dK (mK ns fun _ => V.str "rests"))) b = none → H b = none := fun b hb => fr1 b (s2.free hb)
    have O2 := O1.trans (Oth.of s2)
    generalize upd H1 t (.dK (mK ns fun _ => V.str "rests")) = H2 at s2 t1 hp2 hc2 fr2 O2 ⊢
    refine ⟨_, rfl, _, _, _, _, rfl, hp2, Y.cl, Y.n2, (by show 1 < 1000; decide), ?_⟩
    rw [show putF "_states" (V.ref t) [("_counts", V.ref c)] = ([("_counts", V.ref c), ("_states", V.ref t)] : List (Str × V)) from rfl]
    have hp3 : (upd H2 p (.ins C dx [("_counts", V.ref c), ("_states", V.ref t)])) p = some (.ins C dx [("_counts", V.ref c), ("_states", V.ref t)]) := upd_same
    have hc3 : (upd H2 p (.ins C dx [("_counts", V.ref c), ("_states", V.ref t)])) c = some (.dK (mK ns fun _ => V.int 0)) := by rw [upd_ne (Ne.symm pc)]; exact hc2
    have ht3 : (upd H2 p (.ins C dx [("_counts", V.ref c), ("_states", V.ref t)])) t = some (.dK (mK ns fun _ => V.str "rests")) := by rw [upd_ne (Ne.symm pt)]; exact t1
    have fr3 : ∀ b, (upd H2 p (.ins C dx [("_counts", V.ref c), ("_states", V.ref t)])) b = none → H b = none := fun b hb => by
      by_cases z : b = p
      · rw [z, upd_same] at hb; cases hb
      · rw [upd_ne z] at hb; exact fr2 b hb
    have O3 : Oth [p] H (upd H2 p (.ins C dx [("_counts", V.ref c), ("_states", V.ref t)])) := O2.trans (Oth.put (by simp))
    generalize upd H2 p (.ins C dx [("_counts", V.ref c), ("_states", V.ref t)]) = H3 at hp3 hc3 ht3 fr3 O3 ⊢
    refine ⟨_, rfl, _, _, _, _, _, rfl, hp3, Y.cl, Y.n2, rfl, _, rfl, _, _, rfl, DPut.k (k := .inr f) ht3 (small1000 (by rw [mK_length]; omega)), ?_⟩
    rw [show putK (mK ns fun _ => V.str "rests") (.inr f) (V.str "holds") = mK ns (fun n => V.str ((iniA f).st n)) by
      rw [putK_mK hf]
      exact congrArg (mK ns) (funext fun n => by
        show su _ f _ n = V.str (if n = f then "holds" else "rests")
        by_cases z : n = f
        · rw [z, su_self, if_pos rfl]
        · rw [su_ne z, if_neg z])]
    have hp4 : (upd H3 t (.dK (mK ns fun n => V.str ((iniA f).st n)))) p = _ := (upd_ne pt).trans hp3
    have hc4 : (upd H3 t (.dK (mK ns fun n => V.str ((iniA f).st n)))) c = _ := (upd_ne ct).trans hc3
    have ht4 : (upd H3 t (.dK (mK ns fun n => V.str ((iniA f).st n)))) t = some (.dK (mK ns fun n => V.str ((iniA f).st n))) := upd_same
    have fr4 : ∀ b, (upd H3 t (.dK (mK ns fun n => V.str ((iniA f).st n)))) b = none → H b = none := fun b hb => by
      by_cases z : b = t
      · rw [z, upd_same] at hb; cases hb
      · rw [upd_ne z] at hb; exact fr3 b hb
    have O4 : Oth [p] H (upd H3 t (.dK (mK ns fun n => V.str ((iniA f).st n)))) := fun b o e n => by
      rw [upd_ne (fun z => by rw [z, fr1 t ht] at e; cases e)]
      exact O3 b o e n
    generalize upd H3 t (.dK (mK ns fun n => V.str ((iniA f).st n))) = H4 at hp4 hc4 ht4 fr4 O4 ⊢
    refine fun r hr => ?_
    have s5 := same_new (o := .dK []) hr
    have pr : p ≠ r := ne_of_none hp4 hr
    have cr : c ≠ r := ne_of_none hc4 hr
    have tr : t ≠ r := ne_of_none ht4 hr
    have r5 : (upd H4 r (.dK [])) r = some (.dK []) := upd_same
    have hp5 := s5 _ _ hp4
    have hc5 := s5 _ _ hc4
    have ht5 := s5 _ _ ht4
    have O5 := O4.trans (Oth.of s5)
    generalize upd H4 r (.dK []) = H5 at s5 r5 hp5 hc5 ht5 O5 ⊢
    refine ⟨_, rfl, _, _, _, _, rfl, hp5, Y.cl, Y.n3, (by show 2 < 1000; decide), ?_⟩
    rw [show putF "_receivers" (V.ref r) [("_counts", V.ref c), ("_states", V.ref t)] = rFl ⟨p, c, t, r⟩ from rfl]
    exact k c t r _ hc (fr1 t ht) (fr4 r hr) ⟨⟨dx, upd_same⟩, (upd_ne (Ne.symm pc)).trans hc5, (upd_ne (Ne.symm pt)).trans ht5, ⟨[], (upd_ne (Ne.symm pr)).trans r5, Nat.le_refl _, fun n hn e => by
      have e : (if n = f then ("holds" : Str) else "rests") = "gives" := e
      split at e
      · exact absurd e hg
      · exact absurd e.symm gr_⟩, by simp [RA.l, pc, pt, pr, ct, cr, tr], h5⟩ (O5.trans (Oth.put (by simp)))
end
end Sk

set_option Elab.async false
set_option linter.all false
set_option maxRecDepth 100000
set_option maxHeartbeats 4000000
namespace Sk
open PySem PySem.Spec PyProof.Rows L2
section
variable {P : Program} {w : World} {K : PySem.W.Frag} {mg : Str → Option Value} {base : Heap}
abbrev s_law_sides : Stmt := top 11
theorem sc_law_sides : FnScope ["sectors", "first", "sides", "sector"] ["sectors", "first"] (defScope s_law_sides) := ⟨rfl, rfl, rfl, by decide +kernel, rfl, by decide +kernel, by decide +kernel⟩
theorem ok_law_sides {f : Addr} {fd : FuncData} (F : Fun K "_law_sides" "_law_sides" s_law_sides f fd) (T : TxtA mg) : FnOk P w K mg base CX0 1 f fd ["sectors", "first"] (spLSides K) := by
  refine F.ok sc_law_sides (fun vs H Q E h => ?_) (fun cdv A outer s H vs Q E hr h => ?_)
  · obtain ⟨_, _, _, rfl, _⟩ := h
    rfl
  · obtain ⟨l, f, ns, rfl, hl, nd, h5, k⟩ := h
    have hu := hu_of hr
    refine ⟨_, (pss_cons (ps_set (i := 2) sc_law_sides.nd rfl (Or.inl rfl) pe_dnewK)
    (pss_cons (ps_for PassesOwn.never rfl (pi_list (pv 0)) (pg_name (i := 3) sc_law_sides.nd rfl (Or.inl rfl))
      (pss_one (ps_dput hu (pv 2) (pv 3) (pe_lst (pa_cons pe_int (pa_cons (pe_ifExp (pt_cmpR op_eq (pv 3) (pv 1) (nomark _)) pe_str pe_str) (pa_cons pe_str pa_nil)))) rfl)))
    (pss_one (ps_ret (pv 2))))), ?_⟩
    rw [show L2.start ["sectors", "first", "sides", "sector"] [V.ref l, V.str f] = [some (V.ref l), some (V.str f), none, none] from rfl]
    intro sd hsd
    have s0 := same_new (o := .dK []) hsd
    have e0 : (upd H sd (.dK [])) sd = some (.dK []) := upd_same
    generalize upd H sd (.dK []) = H0 at s0 e0 ⊢
    refine nm ?_
    dsimp only [List.set]
    refine ⟨_, rfl, _, rfl, ⟨_, .inl (.inl (s0 _ _ hl))⟩, for_list (K := K) (a := l) (xs := ns.map V.str) (fun i σ G => ∃ (v3 : Option V) (ad : Str → Addr), σ = [some (.ref l), some (.str f), some (.ref sd), v3] ∧ Same H G ∧ SsAt G sd ad (ns.take i) (iniA f) ∧ ∀ n ∈ ns.take i, H (ad n) = none)
      ⟨none, fun _ => sd, rfl, s0, ⟨e0, (fun n hn => nomatch hn), (fun n hn => nomatch hn)⟩, fun n hn => nomatch hn⟩ (fun i σ G _ ⟨_, _, _, s, _⟩ => .inl (.inl (s _ _ hl))) ?_ ?_⟩
    · rintro i y σ G hi ⟨v3, ad, rfl, sm, S, fr⟩
      obtain ⟨n, rfl, hn, hil, ht⟩ := getMap hi
      refine nm ?_
      dsimp only [List.set]
      have nn := nd_take nd ht
      have fin : ∀ (st : Str), st = (iniA f).st n → ∀ q, G q = none → ∃ v3 ad', [some (V.ref l), some (V.str f), some (V.ref sd), some (V.str n)] = [some (V.ref l), some (V.str f), some (V.ref sd), v3] ∧ Same H (upd (upd G q (.lst [.int 0, .str st, .str ""])) sd (.dK (putK (mK (ns.take i) fun n => .ref (ad n)) (.inr n) (.ref q)))) ∧
          SsAt (upd (upd G q (.lst [.int 0, .str st, .str ""])) sd (.dK (putK (mK (ns.take i) fun n => .ref (ad n)) (.inr n) (.ref q)))) sd ad' (ns.take (i + 1)) (iniA f) ∧ ∀ n ∈ ns.take (i + 1), H (ad' n) = none := by
        intro st est q hq
        have qsd : q ≠ sd := fun z => by rw [z, S.d] at hq; cases hq
        have adq : ∀ m ∈ ns.take i, ad m ≠ q := fun m hm z => by have := S.l m hm; rw [z, hq] at this; cases this
        have mn : ∀ m ∈ ns.take i, m ≠ n := fun m hm z => nn (z ▸ hm)
        refine ⟨_, su ad n q, rfl, fun b o e => ?_, ⟨?_, fun m hm => ?_, fun x hx y hy e => ?_⟩, fun m hm => ?_⟩
        · rw [upd_ne (ne_of_none e hsd), upd_ne (ne_of_none (sm _ _ e) hq)]
          exact sm _ _ e
        · rw [upd_same, ht]
          have e1 : mK (ns.take i) (fun n => V.ref (ad n)) = mK (ns.take i) (fun m => V.ref (su ad n q m)) := List.map_congr_left fun m hm => by show (Sum.inr m, V.ref (ad m)) = (Sum.inr m, V.ref (su ad n q m)); rw [su_ne (mn m hm)]
          rw [e1]
          have e2 := putK_mK_new (f := fun m => V.ref (su ad n q m)) nn
          rw [su_self] at e2
          rw [e2]
        · rw [ht] at hm
          rcases List.mem_append.mp hm with hm | hm
          · rw [su_ne (mn m hm), upd_ne (Ne.symm (S.nsd hm)), upd_ne (adq m hm)]
            exact S.l m hm
          · rw [List.mem_singleton.mp hm, su_self, upd_ne qsd, upd_same, est]
            rfl
        · rw [ht] at hx hy
          rcases List.mem_append.mp hx with hx | hx <;> rcases List.mem_append.mp hy with hy | hy
          · rw [su_ne (mn x hx), su_ne (mn y hy)] at e
            exact S.inj x hx y hy e
          · rw [List.mem_singleton.mp hy] at e ⊢
            rw [su_ne (mn x hx), su_self] at e
            exact absurd e (adq x hx)
          · rw [List.mem_singleton.mp hx] at e ⊢
            rw [su_ne (mn y hy), su_self] at e
            exact absurd e.symm (adq y hy)
          · rw [List.mem_singleton.mp hx, List.mem_singleton.mp hy]
        · rw [ht] at hm
          rcases List.mem_append.mp hm with hm | hm
          · rw [su_ne (mn m hm)]; exact fr m hm
          · rw [List.mem_singleton.mp hm, su_self]; exact sm.free hq
      have tail : ∀ (st : Str), st = (iniA f).st n → ∀ q, G q = none → DPut (upd G q (.lst [.int 0, .str st, .str ""])) sd (.str n) (.ref q) (upd (upd G q (.lst [.int 0, .str st, .str ""])) sd (.dK (putK (mK (ns.take i) fun n => .ref (ad n)) (.inr n) (.ref q)))) := fun st est q hq =>
        DPut.k (k := .inr n) (by rw [upd_ne (fun z => by rw [← z, S.d] at hq; cases hq)]; exact S.d) (small1000 (by rw [mK_length, List.length_take]; omega))
      refine ⟨_, rfl, _, rfl, rfl, _, rfl, ?_⟩
      by_cases h1 : n = f
      · refine ifY (congrArg V.str h1) ⟨szOk rfl, fun q hq => ?_⟩
        have est : ("holds" : Str) = (iniA f).st n := (if_pos h1).symm
        exact ⟨_, rfl, _, rfl, _, _, rfl, tail _ est q hq, fin _ est q hq⟩
      · refine ifN (fun z => h1 (V.str.inj z)) ⟨szOk rfl, fun q hq => ?_⟩
        have est : ("rests" : Str) = (iniA f).st n := (if_neg h1).symm
        exact ⟨_, rfl, _, rfl, _, _, rfl, tail _ est q hq, fin _ est q hq⟩
    rintro σ G ⟨v3, ad, rfl, sm, S, fr⟩
    rw [List.length_map, List.take_length] at S fr
    exact ⟨_, rfl, k sd ad G hsd fr S sm⟩
abbrev s_law_give : Stmt := top 12
theorem sc_law_give : FnScope ["sides", "by", "to", "side"] ["sides", "by", "to"] (defScope s_law_give) := ⟨rfl, rfl, rfl, by decide +kernel, rfl, by decide +kernel, by decide +kernel⟩
theorem ok_law_give {f : Addr} {fd : FuncData} (F : Fun K "_law_give" "_law_give" s_law_give f fd) (T : TxtA mg) : FnOk P w K mg base CX0 1 f fd ["sides", "by", "to"] (spLGiv) := by
  refine F.ok sc_law_give (fun vs H Q E h => ?_) (fun cdv A outer s H vs Q E hr h => ?_)
  · obtain ⟨_, _, _, _, _, _, rfl, _⟩ := h
    rfl
  · obtain ⟨sd, ad, ns, s, b, t, rfl, S, k⟩ := h
    have hu := hu_of hr
    refine ⟨_, (pss_cons (ps_if (PW.pt (pw_or (pt_cmp (pc_dnotin hu (pv 1) (pv 0))) (pw_or (pt_cmp (pc_dnotin hu (pv 2) (pv 0))) (pw_or1 (pt_cmpR op_eq (pv 1) (pv 2) (nomark _)))))) (pss_one (ps_ret (pe_tup (pa_cons pe_str (pa_cons pe_str pa_nil)))))
      pss_nil)
    (pss_cons (ps_if (pt_cmpR op_ne (pe_ix (r := rIxL K) ix_list (pe_dget hu (pv 0) (pv 1) (fun _ _ => rfl)) pe_int (fun _ _ => rfl)) pe_str (nomark _)) (pss_one (ps_ret (pe_tup (pa_cons pe_str (pa_cons pe_str pa_nil)))))
      pss_nil)
    (pss_cons (ps_set (i := 3) sc_law_give.nd rfl (Or.inl rfl) (pe_dget hu (pv 0) (pv 1) (fun _ _ => rfl)))
    (pss_cons (ps_asg pe_str (pg_sub (pv 3) pe_int set_list))
    (pss_cons (ps_asg (pv 2) (pg_sub (pv 3) pe_int set_list))
    (pss_one (ps_ret (pe_tup (pa_cons pe_str (pa_cons (pe_op op_add (pe_ix (r := rIxL K) ix_list (pv 3) pe_int (fun _ _ => rfl)) pe_int) (pa_cons (pv 1) (pa_cons (pv 2) pa_nil)))))))))))), ?_⟩
    rw [show L2.start ["sides", "by", "to", "side"] [V.ref sd, V.str b, V.str t] = [some (V.ref sd), some (V.str b), some (V.str t), none] from rfl]
    have er : ∀ c, giveA ns s b t = (s, .er c) → ∀ q, H q = none → Q (.ref q) (upd H q (.tup [.str "error", .str c])) := fun c e q hq => by
      have s1 := same_new (o := .tup [.str "error", .str c]) hq
      unfold Lsl at k
      rw [e] at k
      exact k (.ref q) _ ⟨q, rfl, upd_same⟩ (S.same s1) (Oth.of s1) (Same.tk s1)
    refine ⟨_, rfl, _, rfl, _, _, rfl, DGet.k (k := .inr b) S.d, _, rfl, ?_⟩
    rw [valV_mK_some]
    by_cases h1a : b ∈ ns
    rotate_left
    · exact ifNotN h1a ⟨szOk rfl, er "sector" (if_pos (fun z => h1a z.1))⟩
    refine ifNotY h1a ?_
    refine ⟨_, rfl, _, rfl, _, _, rfl, DGet.k (k := .inr t) S.d, _, rfl, ?_⟩
    rw [valV_mK_some]
    by_cases h1b : t ∈ ns
    rotate_left
    · exact ifNotN h1b ⟨szOk rfl, er "sector" (if_pos (fun z => h1b z.2.1))⟩
    refine ifNotY h1b ?_
    refine ⟨_, rfl, _, rfl, rfl, _, rfl, ?_⟩
    by_cases h1c : b = t
    · exact ifY (congrArg V.str h1c) ⟨szOk rfl, er "sector" (if_pos (fun z => z.2.2 h1c))⟩
    refine ifN (fun z => h1c (V.str.inj z)) ?_
    have h1 : okS ns b t := ⟨h1a, h1b, h1c⟩
    refine nxQ ?_
    dsimp only
    refine ⟨_, rfl, _, rfl, _, _, rfl, S.dg h1.1, _, _, _, _, rfl, rfl, .inl (.inl (S.l b h1.1)), rfl, rfl, _, rfl, ?_⟩
    by_cases h2 : s.st b = "holds"
    rotate_left
    · exact ifNotN (fun z => h2 (V.str.inj z)) ⟨szOk rfl, er "state" ((if_neg (fun z => z h1)).trans (if_pos h2))⟩
    refine ifNotY (congrArg V.str h2) ?_
    refine nxQ ?_
    dsimp only
    have e : giveA ns s b t = ({ s with st := su s.st b "gives", rc := su s.rc b t }, .ms "give" (s.cn b + 1) b t) := (if_neg (fun z => z h1)).trans (if_neg (fun z => z h2))
    unfold Lsl at k
    rw [e] at k
    refine ⟨_, rfl, _, rfl, _, _, rfl, S.dg h1.1, ?_⟩
    refine nm ?_
    dsimp only [List.set]
    refine ⟨_, rfl, _, _, _, _, rfl, rfl, S.l b h1.1, rfl, ?_⟩
    refine ⟨_, rfl, _, rfl, _, _, _, _, rfl, rfl, upd_same, rfl, ?_⟩
    rw [upd2]
    rw [show (([V.int (s.cn b), V.str (s.st b), V.str (s.rc b)].set (Int.toNat 1) (V.str "gives")).set (Int.toNat 2) (V.str t)) = [V.int (s.cn b), V.str "gives", V.str t] from rfl]
    have S1 := S.put (s' := { s with st := su s.st b "gives", rc := su s.rc b t }) h1.1 (o := .lst [.int (s.cn b), .str "gives", .str t]) (fun n hn => ⟨rfl, su_ne hn, su_ne hn⟩) (by show _ = HO.lst [.int (s.cn b), .str (su s.st b "gives" b), .str (su s.rc b t b)]; rw [su_self, su_self])
    obtain ⟨O1, T1⟩ := S.oth h1.1 (o := .lst [.int (s.cn b), .str "gives", .str t])
    have l1 : (upd H (ad b) (.lst [.int (s.cn b), .str "gives", .str t])) (ad b) = some (.lst [.int (s.cn b), .str "gives", .str t]) := upd_same
    generalize upd H (ad b) (.lst [.int (s.cn b), .str "gives", .str t]) = G at S1 O1 T1 l1 ⊢
    refine ⟨_, rfl, _, _, _, _, rfl, rfl, .inl (.inl l1), rfl, _, _, rfl, rfl, _, rfl, _, rfl, szOk rfl, fun q hq => ?_⟩
    have s1 := same_new (o := .tup [.str "give", .int (s.cn b + 1), .str b, .str t]) hq
    exact k (.ref q) _ ⟨q, rfl, upd_same⟩ (S1.same s1) (O1.trans (Oth.of s1)) (T1.trans (Same.tk s1))
abbrev s_law_repeat : Stmt := top 13
theorem sc_law_repeat : FnScope ["sides", "by"] ["sides", "by"] (defScope s_law_repeat) := ⟨rfl, rfl, rfl, by decide +kernel, rfl, by decide +kernel, by decide +kernel⟩
theorem ok_law_repeat {f : Addr} {fd : FuncData} (F : Fun K "_law_repeat" "_law_repeat" s_law_repeat f fd) (T : TxtA mg) : FnOk P w K mg base CX0 1 f fd ["sides", "by"] (spLRep) := by
  refine F.ok sc_law_repeat (fun vs H Q E h => ?_) (fun cdv A outer s H vs Q E hr h => ?_)
  · obtain ⟨_, _, _, _, _, rfl, _⟩ := h
    rfl
  · obtain ⟨sd, ad, ns, s, b, rfl, S, k⟩ := h
    have hu := hu_of hr
    refine ⟨_, (pss_cons (ps_if (pt_cmp (pc_dnotin hu (pv 1) (pv 0))) (pss_one (ps_ret (pe_tup (pa_cons pe_str (pa_cons pe_str pa_nil)))))
      pss_nil)
    (pss_cons (ps_if (pt_cmpR op_ne (pe_ix (r := rIxL K) ix_list (pe_dget hu (pv 0) (pv 1) (fun _ _ => rfl)) pe_int (fun _ _ => rfl)) pe_str (nomark _)) (pss_one (ps_ret (pe_tup (pa_cons pe_str (pa_cons pe_str pa_nil)))))
      pss_nil)
    (pss_one (ps_ret (pe_tup (pa_cons pe_str (pa_cons (pe_op op_add (pe_ix (r := rIxL K) ix_list (pe_dget hu (pv 0) (pv 1) (fun _ _ => rfl)) pe_int (fun _ _ => rfl)) pe_int) (pa_cons (pv 1) (pa_cons (pe_ix (r := rIxL K) ix_list (pe_dget hu (pv 0) (pv 1) (fun _ _ => rfl)) pe_int (fun _ _ => rfl)) pa_nil))))))))), ?_⟩
    rw [show L2.start ["sides", "by"] [V.ref sd, V.str b] = [some (V.ref sd), some (V.str b)] from rfl]
    have er : ∀ c, repA ns s b = (s, .er c) → ∀ q, H q = none → Q (.ref q) (upd H q (.tup [.str "error", .str c])) := fun c e q hq => by
      have s1 := same_new (o := .tup [.str "error", .str c]) hq
      unfold Lsl at k
      rw [e] at k
      exact k (.ref q) _ ⟨q, rfl, upd_same⟩ (S.same s1) (Oth.of s1) (Same.tk s1)
    refine ⟨_, rfl, _, rfl, _, _, rfl, DGet.k (k := .inr b) S.d, _, rfl, ?_⟩
    rw [valV_mK_some]
    by_cases h1 : b ∈ ns
    rotate_left
    · exact ifNotN h1 ⟨szOk rfl, er "sector" (if_pos h1)⟩
    refine ifNotY h1 ?_
    refine nxQ ?_
    dsimp only
    refine ⟨_, rfl, _, rfl, _, _, rfl, S.dg h1, _, _, _, _, rfl, rfl, .inl (.inl (S.l b h1)), rfl, rfl, _, rfl, ?_⟩
    by_cases h2 : s.st b = "gives"
    rotate_left
    · exact ifNotN (fun z => h2 (V.str.inj z)) ⟨szOk rfl, er "state" ((if_neg (fun z => z h1)).trans (if_pos h2))⟩
    refine ifNotY (congrArg V.str h2) ?_
    refine nxQ ?_
    dsimp only
    have e : repA ns s b = (s, .ms "give" (s.cn b + 1) b (s.rc b)) := (if_neg (fun z => z h1)).trans (if_neg (fun z => z h2))
    unfold Lsl at k
    rw [e] at k
    refine ⟨_, rfl, _, rfl, _, _, rfl, S.dg h1, _, _, _, _, rfl, rfl, .inl (.inl (S.l b h1)), rfl, _, _, rfl, rfl, _, rfl, _, rfl, _, rfl, _, _, rfl, S.dg h1, _, _, _, _, rfl, rfl, .inl (.inl (S.l b h1)), rfl, szOk rfl, fun q hq => ?_⟩
    have s1 := same_new (o := .tup [.str "give", .int (s.cn b + 1), .str b, .str (s.rc b)]) hq
    exact k (.ref q) _ ⟨q, rfl, upd_same⟩ (S.same s1) (Oth.of s1) (Same.tk s1)
abbrev s_law_hear : Stmt := top 14
theorem sc_law_hear : FnScope ["sides", "message", "kind", "number", "sender", "receiver", "side"] ["sides", "message"] (defScope s_law_hear) := ⟨rfl, rfl, rfl, by decide +kernel, rfl, by decide +kernel, by decide +kernel⟩
theorem ok_law_hear {f : Addr} {fd : FuncData} (F : Fun K "_law_hear" "_law_hear" s_law_hear f fd) (T : TxtA mg) : FnOk P w K mg base CX0 1 f fd ["sides", "message"] (spLHr) := by
  refine F.ok sc_law_hear (fun vs H Q E h => ?_) (fun cdv A outer s H vs Q E hr h => ?_)
  · obtain ⟨_, _, _, _, _, _, _, _, _, rfl, _⟩ := h
    rfl
  · obtain ⟨sd, ad, ns, s, q, ky, n, a, b, rfl, S, hq, k⟩ := h
    have hu := hu_of hr
    refine ⟨_, (pss_cons (ps_asg (pv 1) (pg_tup (by rfl) (pgs_cons (pg_name (i := 2) sc_law_hear.nd rfl (Or.inl rfl)) (pgs_cons (pg_name (i := 3) sc_law_hear.nd rfl (Or.inl rfl)) (pgs_cons (pg_name (i := 4) sc_law_hear.nd rfl (Or.inl rfl)) (pgs_cons (pg_name (i := 5) sc_law_hear.nd rfl (Or.inl rfl)) pgs_nil))))))
    (pss_cons (ps_if (PW.pt (pw_or (pt_cmp (pc_dnotin hu (pv 4) (pv 0))) (pw_or (pt_cmp (pc_dnotin hu (pv 5) (pv 0))) (pw_or1 (pt_cmpR op_eq (pv 4) (pv 5) (nomark _)))))) (pss_one (ps_ret (pe_tup (pa_cons pe_str (pa_cons pe_str pa_nil)))))
      pss_nil)
    (pss_cons (ps_set (i := 6) sc_law_hear.nd rfl (Or.inl rfl) (pe_dget hu (pv 0) (pv 5) (fun _ _ => rfl)))
    (pss_cons (ps_if (pt_cmpR op_eq (pv 2) pe_str (nomark _)) (pss_cons (ps_if (pt_cmpR op_gt (pv 3) (pe_ix (r := rIxL K) ix_list (pv 6) pe_int (fun _ _ => rfl)) (nomark _)) (pss_cons (ps_asg (pv 3) (pg_sub (pv 6) pe_int set_list))
    (pss_one (ps_asg pe_str (pg_sub (pv 6) pe_int set_list))))
      pss_nil)
    (pss_one (ps_ret (pe_tup (pa_cons pe_str (pa_cons (pv 3) (pa_cons (pv 5) (pa_cons (pv 4) pa_nil))))))))
      pss_nil)
    (pss_cons (ps_if (PW.pt (pw_and (pt_cmpR op_eq (pe_ix (r := rIxL K) ix_list (pv 6) pe_int (fun _ _ => rfl)) pe_str (nomark _)) (pw_and1 (pt_cmpR op_eq (pv 3) (pe_op op_add (pe_ix (r := rIxL K) ix_list (pv 6) pe_int (fun _ _ => rfl)) pe_int) (nomark _))))) (pss_cons (ps_asg (pv 3) (pg_sub (pv 6) pe_int set_list))
    (pss_one (ps_asg pe_str (pg_sub (pv 6) pe_int set_list))))
      pss_nil)
    (pss_one (ps_ret pe_non))))))), ?_⟩
    rw [show L2.start ["sides", "message", "kind", "number", "sender", "receiver", "side"] [V.ref sd, V.ref q] = [some (V.ref sd), some (V.ref q), none, none, none, none, none] from rfl]
    refine ⟨_, rfl, _, _, rfl, .inl (.inl hq), rfl, _, _, rfl, _, _, rfl, _, _, rfl, _, _, rfl, rfl, ?_⟩
    dsimp only [List.set]
    have er : ∀ c, hrA ns s ky n a b = (s, .er c) → ∀ q, H q = none → Q (.ref q) (upd H q (.tup [.str "error", .str c])) := fun c e q hq => by
      have s1 := same_new (o := .tup [.str "error", .str c]) hq
      unfold Lsl at k
      rw [e] at k
      exact k (.ref q) _ ⟨q, rfl, upd_same⟩ (S.same s1) (Oth.of s1) (Same.tk s1)
    refine ⟨_, rfl, _, rfl, _, _, rfl, DGet.k (k := .inr a) S.d, _, rfl, ?_⟩
    rw [valV_mK_some]
    by_cases h1a : a ∈ ns
    rotate_left
    · exact ifNotN h1a ⟨szOk rfl, er "sector" (if_pos (fun z => h1a z.1))⟩
    refine ifNotY h1a ?_
    refine ⟨_, rfl, _, rfl, _, _, rfl, DGet.k (k := .inr b) S.d, _, rfl, ?_⟩
    rw [valV_mK_some]
    by_cases h1b : b ∈ ns
    rotate_left
    · exact ifNotN h1b ⟨szOk rfl, er "sector" (if_pos (fun z => h1b z.2.1))⟩
    refine ifNotY h1b ?_
    refine ⟨_, rfl, _, rfl, rfl, _, rfl, ?_⟩
    by_cases h1c : a = b
    · exact ifY (congrArg V.str h1c) ⟨szOk rfl, er "sector" (if_pos (fun z => z.2.2 h1c))⟩
    refine ifN (fun z => h1c (V.str.inj z)) ?_
    have h1 : okS ns a b := ⟨h1a, h1b, h1c⟩
    refine nxQ ?_
    dsimp only
    refine ⟨_, rfl, _, rfl, _, _, rfl, S.dg h1.2.1, ?_⟩
    refine nm ?_
    dsimp only [List.set]
    refine ⟨_, rfl, rfl, _, rfl, ?_⟩
    unfold Lsl at k
    by_cases h2 : ky = "give"
    · refine ifY (congrArg V.str h2) ?_
      have e : hrA ns s ky n a b = (if n > s.cn b then { s with cn := su s.cn b n, st := su s.st b "holds" } else s, .ms "took" n b a) := (if_neg (fun z => z h1)).trans (if_pos h2)
      rw [e] at k
      refine cut (t := tIfS _ _ _) (fun σ' G => σ' = [some (.ref sd), some (.ref q), some (.str ky), some (.int n), some (.str a), some (.str b), some (.ref (ad b))] ∧ SsAt G sd ad ns (if n > s.cn b then { s with cn := su s.cn b n, st := su s.st b "holds" } else s) ∧ Oth (ns.map ad) H G ∧ TK H G) ?_ (fun rest => ?_)
      · rintro σ' G ⟨rfl, S1, O1, T1⟩
        refine ⟨_, rfl, _, rfl, _, rfl, szOk rfl, fun u hu' => ?_⟩
        have s1 := same_new (o := .tup [.str "took", .int n, .str b, .str a]) hu'
        exact k (.ref u) _ ⟨u, rfl, upd_same⟩ (S1.same s1) (O1.trans (Oth.of s1)) (T1.trans (Same.tk s1))
      refine ⟨_, rfl, _, rfl, _, _, _, _, rfl, rfl, .inl (.inl (S.l b h1.2.1)), rfl, _, _, rfl, rfl, _, rfl, ite2 (fun h3 => ?_) (fun h3 => ?_)⟩
      rotate_left
      · exact rest _ _ ⟨rfl, by rw [if_neg (fun z => h3 (decide_eq_true z))]; exact S, Oth.refl _ _, TK.refl _⟩
      rw [if_pos (of_decide_eq_true h3)] at rest
      refine ⟨_, rfl, _, rfl, _, _, _, _, rfl, rfl, S.l b h1.2.1, rfl, ?_⟩
      refine ⟨_, rfl, _, _, _, _, rfl, rfl, upd_same, rfl, ?_⟩
      rw [upd2]
      dsimp only [List.set]
      have S1 := S.put (s' := { s with cn := su s.cn b n, st := su s.st b "holds" }) h1.2.1 (o := .lst [.int n, .str "holds", .str (s.rc b)]) (fun n hn => ⟨su_ne hn, su_ne hn, rfl⟩) (by show _ = HO.lst [.int (su s.cn b n b), .str (su s.st b "holds" b), .str (s.rc b)]; rw [su_self, su_self])
      obtain ⟨O1, T1⟩ := S.oth h1.2.1 (o := .lst [.int n, .str "holds", .str (s.rc b)])
      exact rest _ _ ⟨rfl, S1, O1, T1⟩
    refine ifN (fun z => h2 (V.str.inj z)) ?_
    refine nxQ ?_
    dsimp only
    have e : hrA ns s ky n a b = if s.st b = "gives" ∧ n = s.cn b + 1 then ({ s with cn := su s.cn b n, st := su s.st b "rests" }, .no) else (s, .no) := (if_neg (fun z => z h1)).trans (if_neg h2)
    rw [e] at k
    have no_ : ¬ (s.st b = "gives" ∧ n = s.cn b + 1) → Q .non H := fun z => by
      rw [if_neg z] at k
      exact k .non H rfl S (Oth.refl _ _) (TK.refl _)
    refine ⟨_, rfl, _, _, _, _, rfl, rfl, .inl (.inl (S.l b h1.2.1)), rfl, rfl, _, rfl, ?_⟩
    by_cases h3 : s.st b = "gives"
    rotate_left
    · exact ifN (fun z => h3 (V.str.inj z)) (no_ fun z => h3 z.1)
    refine ifY (congrArg V.str h3) ?_
    refine ⟨_, rfl, _, rfl, _, _, _, _, rfl, rfl, .inl (.inl (S.l b h1.2.1)), rfl, _, _, rfl, rfl, rfl, _, rfl, ?_⟩
    by_cases h4 : n = s.cn b + 1
    · refine eqY h4 ?_
      rw [if_pos ⟨h3, h4⟩] at k
      refine ⟨_, rfl, _, rfl, _, _, _, _, rfl, rfl, S.l b h1.2.1, rfl, ?_⟩
      refine ⟨_, rfl, _, _, _, _, rfl, rfl, upd_same, rfl, ?_⟩
      rw [upd2]
      dsimp only [List.set]
      have S1 := S.put (s' := { s with cn := su s.cn b n, st := su s.st b "rests" }) h1.2.1 (o := .lst [.int n, .str "rests", .str (s.rc b)]) (fun n hn => ⟨su_ne hn, su_ne hn, rfl⟩) (by show _ = HO.lst [.int (su s.cn b n b), .str (su s.st b "rests" b), .str (s.rc b)]; rw [su_self, su_self])
      obtain ⟨O1, T1⟩ := S.oth h1.2.1 (o := .lst [.int n, .str "rests", .str (s.rc b)])
      exact k .non _ rfl S1 O1 T1
    · exact eqN h4 (no_ fun z => h4 z.2)
abbrev s_law_asked : Stmt := top 15
theorem sc_law_asked : FnScope ["found", "kind", "first", "second", "e"] ["found", "kind", "first", "second"] (defScope s_law_asked) := ⟨rfl, rfl, rfl, by decide +kernel, rfl, by decide +kernel, by decide +kernel⟩
theorem ok_law_asked {f : Addr} {fd : FuncData} {C CE : Addr} (F : Fun K "_law_asked" "_law_asked" s_law_asked f fd) (T : TxtA mg) (XF : ErrF K CE "code" "code") (Y : RspY K mg C)
    (D_HandoverError : ErrD P w K mg base 1 "HandoverError" CE ["self", "code"] (spCErr1 CE))
    (M_give : MDefX P w K mg base 4 C "give" ["self", "by", "to"] (spGiveR C CE))
    (M_repeat : MDefX P w K mg base 3 C "repeat" ["self", "by"] (spRepR C CE))
    (M_hear : MDefX P w K mg base 4 C "hear" ["self", "message"] (spHrR C CE)) : FnOk P w K mg base CX0 5 f fd ["found", "kind", "first", "second"] (spAsked C) := by
  refine F.ok sc_law_asked (fun vs H Q E h => ?_) (fun cdv A outer s H vs Q E hr h => ?_)
  · obtain ⟨_, _, _, _, _, _, _, _, rfl, _⟩ := h
    rfl
  · obtain ⟨A, mx, ns, s, op, kind, x, y, rfl, R, hm, hop, k⟩ := h
    have hu := hu_of hr
    refine ⟨_, (pss_one (ps_try_as (i := 4) rfl rfl sc_law_asked.nd rfl rfl ⟨by rfl, by decide, .inl D_HandoverError.gC⟩ takes0 (fun W pn xe tk ps => (pss_cons (ps_if (pt_cmpR op_eq (pv 1) pe_int (nomark _)) (pss_one (ps_ret (pe_mdefX M_give Y.cl (hr.mono (by decide)) tk (pv 0) (pa_cons (pv 2) (pa_cons (pv 3) pa_nil)))))
      pss_nil)
    (pss_cons (ps_if (pt_cmpR op_eq (pv 1) pe_int (nomark _)) (pss_one (ps_ret (pe_mdefX M_repeat Y.cl (hr.mono (by decide)) tk (pv 0) (pa_cons (pv 2) pa_nil))))
      pss_nil)
    (pss_one (ps_ret (pe_mdefX M_hear Y.cl (hr.mono (by decide)) tk (pv 0) (pa_cons (pv 2) pa_nil))))))) (fun a oe cls d pn hz hf => (pss_one (ps_ret (pe_tup (pa_cons pe_str (pa_cons (pe_xf XF.xf XF.a hz hf (pv 4)) pa_nil)))))))), ?_⟩
    rw [show L2.start ["found", "kind", "first", "second", "e"] [V.ref A.p, V.int kind, x, y] = [some (V.ref A.p), some (V.int kind), some (x), some (y), none] from rfl]
    obtain ⟨dx, ho⟩ := R.o
    match op, hop with
    | .gv b t, ⟨ek, ex, ey⟩ =>
      subst ek ex ey
      refine ⟨_, rfl, rfl, _, rfl, eqY rfl ?_⟩
      refine ⟨_, rfl, _, _, _, rfl, ho, rfl, _, rfl, _, rfl, A, mx, ns, s, b, t, rfl, R, hm, fun v H' V _ R' O T => k v H' V R' O T, fun c d e hd => ⟨true, D_HandoverError.te, fun _ a ha => ?_, fun z => Bool.noConfusion z⟩⟩
      dsimp only [List.set]
      have s1 := same_new (o := .xd (cdK c)) hd
      refine ⟨_, rfl, rfl, rfl, d, _, _, rfl, upd_same, rfl, szOk rfl, fun q hq => ?_⟩
      have s2 := s1.trans (same_new (o := .tup [.str "error", .str c]) hq)
      refine k (.ref q) _ ?_ ?_ (Oth.of s2) (Same.tk s2)
      · show AnAt _ _ (giveA ns s b t).2
        rw [e]
        exact ⟨q, rfl, upd_same⟩
      · show RsAt C _ A (mx + 1) ns (giveA ns s b t).1
        rw [er_giveA e]
        exact (R.same s2).mono (Nat.le_succ _)
    | .rp b, ⟨ek, ex⟩ =>
      subst ek ex
      refine ⟨_, rfl, rfl, _, rfl, eqN (by decide) ?_⟩
      refine nxQ ?_
      dsimp only
      refine ⟨_, rfl, rfl, _, rfl, eqY rfl ?_⟩
      refine ⟨_, rfl, _, _, _, rfl, ho, rfl, _, rfl, A, mx, ns, s, b, rfl, R, fun v H' V _ R' O T => k v H' V (R'.mono (Nat.le_succ _)) O T, fun c d e hd => ⟨true, D_HandoverError.te, fun _ a ha => ?_, fun z => Bool.noConfusion z⟩⟩
      dsimp only [List.set]
      have s1 := same_new (o := .xd (cdK c)) hd
      refine ⟨_, rfl, rfl, rfl, d, _, _, rfl, upd_same, rfl, szOk rfl, fun q hq => ?_⟩
      have s2 := s1.trans (same_new (o := .tup [.str "error", .str c]) hq)
      refine k (.ref q) _ ?_ ?_ (Oth.of s2) (Same.tk s2)
      · show AnAt _ _ (repA ns s b).2
        rw [e]
        exact ⟨q, rfl, upd_same⟩
      · show RsAt C _ A (mx + 1) ns (repA ns s b).1
        rw [er_repA e]
        exact (R.same s2).mono (Nat.le_succ _)
    | .hr q g, ⟨ek, ex, hq, hk⟩ =>
      subst ek ex
      refine ⟨_, rfl, rfl, _, rfl, eqN (by decide) ?_⟩
      refine nxQ ?_
      dsimp only
      refine ⟨_, rfl, rfl, _, rfl, eqN (by decide) ?_⟩
      refine nxQ ?_
      dsimp only
      refine ⟨_, rfl, _, _, _, rfl, ho, rfl, _, rfl, A, mx, ns, s, q, g.k, g.n, g.a, g.b, rfl, R, hq, hk, fun v H' V _ R' O T => k v H' V (R'.mono (Nat.le_succ _)) O T, fun c d e hd => ⟨true, D_HandoverError.te, fun _ a ha => ?_, fun z => Bool.noConfusion z⟩⟩
      dsimp only [List.set]
      have s1 := same_new (o := .xd (cdK c)) hd
      refine ⟨_, rfl, rfl, rfl, d, _, _, rfl, upd_same, rfl, szOk rfl, fun q hq => ?_⟩
      have s2 := s1.trans (same_new (o := .tup [.str "error", .str c]) hq)
      refine k (.ref q) _ ?_ ?_ (Oth.of s2) (Same.tk s2)
      · show AnAt _ _ (hrA ns s g.k g.n g.a g.b).2
        rw [e]
        exact ⟨q, rfl, upd_same⟩
      · show RsAt C _ A (mx + 1) ns (hrA ns s g.k g.n g.a g.b).1
        rw [er_hrA e]
        exact (R.same s2).mono (Nat.le_succ _)
end
end Sk

set_option Elab.async false
set_option linter.all false
set_option maxRecDepth 100000
set_option maxHeartbeats 4000000
namespace Sk
open PySem PySem.Spec PyProof.Rows L2
section
variable {P : Program} {w : World} {K : PySem.W.Frag} {mg : Str → Option Value} {base : Heap}
abbrev s_law_is : Stmt := top 10
theorem sc_law_is : FnScope ["actual", "due"] ["actual", "due"] (defScope s_law_is) := ⟨rfl, rfl, rfl, by decide +kernel, rfl, by decide +kernel, by decide +kernel⟩
theorem ok_law_is {f : Addr} {fd : FuncData} (F : Fun K "_law_is" "_law_is" s_law_is f fd) (T : TxtA mg) : FnOk P w K mg base CX0 1 f fd ["actual", "due"] (spIs) := by
  refine F.ok sc_law_is (fun vs H Q E h => ?_) (fun cdv A outer s H vs Q E hr h => ?_)
  · obtain ⟨_, _, rfl, _⟩ := h
    rfl
  · obtain ⟨a, b, rfl, k⟩ := h
    refine ⟨_, (pss_one (ps_ret (pe_and (pe_callB call_isi (by rfl) T.isinstance boot_isinstance (pa_cons (pv 0) (pa_cons (pe_bltn (v := .ty "bool") (by rfl) T.bool boot_bool rfl) pa_nil))) (pe_one (pe_cmpR op_eq (pv 0) (pv 1) (nomark _)))))), ?_⟩
    refine ⟨_, rfl, _, _, _, _, true, rfl, ClsV.ty _, .base (.bl a), kit_ty (by decide +kernel), true, rfl, ?_⟩
    refine iteT ?_
    refine ⟨_, rfl, _, rfl, rfl, ?_⟩
    have e : decide (V.bl a = V.bl b) = decide (a = b) := by
      by_cases h : a = b
      · rw [h]; simp
      · rw [decide_eq_false h, decide_eq_false fun z => h (V.bl.inj z)]
    show Q (.bl (decide (V.bl a = V.bl b))) H
    rw [e]
    exact k
abbrev s_law_right : Stmt := top 16
theorem sc_law_right : FnScope ["found", "sides", "sectors", "ranks", "best", "sector", "acting"] ["found", "sides", "sectors"] (defScope s_law_right) := ⟨rfl, rfl, rfl, by decide +kernel, rfl, by decide +kernel, by decide +kernel⟩
theorem ok_law_right {f : Addr} {fd : FuncData} {C : Addr} (F : Fun K "_law_right" "_law_right" s_law_right f fd) (T : TxtA mg) (Y : RspY K mg C)
    (M_responsible : MDef P w K mg base 3 C "responsible" ["self"] (spResp C))
    (M_acts : MDef P w K mg base 1 C "acts" ["self", "sector"] (spActs C))
    (D_law_is : Def P w K mg base 1 "_law_is" ["actual", "due"] (spIs)) : FnOk P w K mg base CX0 4 f fd ["found", "sides", "sectors"] (spRight C) := by
  refine F.ok sc_law_right (fun vs H Q E h => ?_) (fun cdv A outer s H vs Q E hr h => ?_)
  · obtain ⟨_, _, _, _, _, _, _, _, _, rfl, _⟩ := h
    rfl
  · obtain ⟨A, mx, ns, s, sd, l, ad, ms, c, rfl, R, S, hl, nd, ok, nn, IV, k⟩ := h
    have hu := hu_of hr
    refine ⟨_, (pss_cons (ps_set (i := 3) sc_law_right.nd rfl (Or.inr rfl) (pe_lc (own := [("sector", 5)]) (g := gName 5) (by rfl) sc_law_right.nd (pi_list (pv 2)) (blkOk_by (own := [("sector", 5)]) (N := ["found", "sides", "sectors", "ranks", "best", "sector", "acting"]) (sc := defScope s_law_right) (by decide +kernel)) (fun _ _ _ _ _ => (pg_name (i := 5) sc_law_right.nd rfl (Or.inl rfl))) (fun _ _ _ _ _ => pts_nil) (fun _ _ _ _ _ => (pe_op op_add (pe_op op_mul pe_int (pe_ix (r := rIxL K) ix_list (pe_dget hu (pv 1) (pv 5) (fun _ _ => rfl)) pe_int (fun _ _ => rfl))) (pe_callTy call_int1 (by rfl) T.int boot_int (pa_cons (pe_cmpR op_ne (pe_ix (r := rIxL K) ix_list (pe_dget hu (pv 1) (pv 5) (fun _ _ => rfl)) pe_int (fun _ _ => rfl)) pe_str (nomark _)) pa_nil))))))
    (pss_cons (ps_setLc (i := 4) (own := [("sector", 5)]) (g := gName 5) (by rfl) sc_law_right.nd rfl rfl (sw_true rfl rfl rfl (by decide +kernel)) (pi_list (pv 2)) (blkOk_by (own := [("sector", 5)]) (N := ["found", "sides", "sectors", "ranks", "best", "sector", "acting"]) (sc := defScope s_law_right) (by decide +kernel)) (fun _ _ _ _ _ => (pg_name (i := 5) sc_law_right.nd rfl (Or.inl rfl))) (fun _ _ _ _ _ => pts_one (pt_cmpR op_eq (pe_op op_add (pe_op op_mul pe_int (pe_ix (r := rIxL K) ix_list (pe_dget hu (pv 1) (pv 5) (fun _ _ => rfl)) pe_int (fun _ _ => rfl))) (pe_callTy call_int1 (by rfl) T.int boot_int (pa_cons (pe_cmpR op_ne (pe_ix (r := rIxL K) ix_list (pe_dget hu (pv 1) (pv 5) (fun _ _ => rfl)) pe_int (fun _ _ => rfl)) pe_str (nomark _)) pa_nil))) (pe_callB (r := rMax K) (cr_max rfl) (by rfl) T.max boot_max (pa_cons (pv 3) pa_nil)) (nomark _))) (fun _ _ _ _ _ => (pv 5)))
    (pss_cons (ps_if (PW.pt (pw_or (pt_cmpR op_ne (pe_callB (r := rLenK K) call_len_seq (by rfl) T.len boot_len (pa_cons (pv 4) pa_nil)) pe_int (nomark _)) (pw_or (pt_cmpR op_ne (pe_mdef0 M_responsible Y.cl (hr.mono (by decide)) (pv 0)) (pe_ix (r := rIxL K) ix_list (pv 4) pe_int (fun _ _ => rfl)) (nomark _)) (pw_or1 (pt_not (pt_val (pe_def D_law_is (hr.mono (by decide)) (by rfl) (pa_cons (pe_mdef M_acts Y.cl (hr.mono (by decide)) (pv 0) (pa_cons pe_str pa_nil)) (pa_cons pe_bl pa_nil))))))))) (pss_one (ps_ret pe_bl))
      pss_nil)
    (pss_cons (ps_for PassesOwn.never rfl (pi_list (pv 2)) (pg_name (i := 5) sc_law_right.nd rfl (Or.inl rfl))
      (pss_one (ps_if (pt_not (pt_val (pe_def D_law_is (hr.mono (by decide)) (by rfl) (pa_cons (pe_mdef M_acts Y.cl (hr.mono (by decide)) (pv 0) (pa_cons (pv 5) pa_nil)) (pa_cons (pe_cmpR op_eq (pe_ix (r := rIxL K) ix_list (pe_dget hu (pv 1) (pv 5) (fun _ _ => rfl)) pe_int (fun _ _ => rfl)) pe_str (nomark _)) pa_nil))))) (pss_one (ps_ret pe_bl))
      pss_nil)))
    (pss_cons (ps_setLc (i := 6) (own := [("sector", 5)]) (g := gName 5) (by rfl) sc_law_right.nd rfl rfl (sw_true rfl rfl rfl (by decide +kernel)) (pi_list (pv 2)) (blkOk_by (own := [("sector", 5)]) (N := ["found", "sides", "sectors", "ranks", "best", "sector", "acting"]) (sc := defScope s_law_right) (by decide +kernel)) (fun _ _ _ _ _ => (pg_name (i := 5) sc_law_right.nd rfl (Or.inl rfl))) (fun _ _ _ _ _ => pts_one (pt_val (pe_mdef M_acts Y.cl (hr.mono (by decide)) (pv 0) (pa_cons (pv 5) pa_nil)))) (fun _ _ _ _ _ => (pv 5)))
    (pss_one (ps_ret (pe_or (pe_cmpR op_eq (pe_callB (r := rLenK K) call_len_seq (by rfl) T.len boot_len (pa_cons (pv 6) pa_nil)) pe_int (nomark _)) (pe_one (pe_cmpR (op_eqD hr.units) (pv 6) (pv 4) (nomark _))))))))))), ?_⟩
    rw [show L2.start ["found", "sides", "sectors", "ranks", "best", "sector", "acting"] [V.ref A.p, V.ref sd, V.ref l] = [some (V.ref A.p), some (V.ref sd), some (V.ref l), none, none, none, none] from rfl]
    obtain ⟨dx, ho⟩ := R.o
    have h5 := R.len
    refine ⟨_, rfl, _, rfl, ⟨_, .inl (.inl hl)⟩, fun rk hrk => ?_⟩
    have s0 := same_new (o := .lst []) hrk
    refine lc_list (K := K) (a := l) (xs := ns.map V.str) (fun i G => Same H G ∧ G rk = some (.lst ((ns.take i).map fun n => V.int (rkA s n)))) ⟨s0, upd_same⟩ (fun i G _ h => .inl (.inl (h.1 _ _ hl))) ?_ ?_
    · rintro i y G hi ⟨sm, hA⟩
      obtain ⟨n, rfl, hn, hil, ht⟩ := getMap hi
      refine ⟨rfl, yes_if ?_⟩
      have Sg := S.same sm
      refine ⟨_, rfl, _, rfl, _, _, rfl, Sg.dg hn, _, _, _, _, rfl, rfl, .inl (.inl (Sg.l _ hn)), rfl, _, _, rfl, rfl, .inl ⟨by decide, by decide⟩, _, rfl, _, rfl, _, _, rfl, Sg.dg hn, _, _, _, _, rfl, rfl, .inl (.inl (Sg.l _ hn)), rfl, rfl, .inr ⟨_, rfl, _, _, rfl, rfl, ?_⟩⟩
      refine ⟨_, hA, small1000 (by rw [List.length_map, List.length_take]; omega), fun b o e => ?_, by rw [upd_same, ht, List.map_append]; exact congrArg (fun z => some (HO.lst (_ ++ [V.int z]))) rk_eq⟩
      rw [upd_ne (ne_of_none e hrk)]
      exact sm _ _ e
    rintro G1 ⟨s1, hA1⟩
    rw [List.length_map, List.take_length] at hA1
    refine nm ?_
    dsimp only [List.set]
    have hl1 := s1 _ _ hl
    have fmem : ∀ n ∈ ns, (rkA s n = rkA s c ↔ n = c) := fun n hn => ⟨fun e => by
      by_cases z : n = c
      · exact z
      · have := IV.rank hn z
        omega, fun e => by rw [e]⟩
    refine ⟨_, rfl, _, rfl, ⟨_, .inl (.inl hl1)⟩, fun be hbe => ?_⟩
    refine lc_list (K := K) (a := l) (xs := ns.map V.str) (fun i G => Same G1 G ∧ G be = some (.lst (((ns.take i).filter fun n => decide (n = c)).map V.str))) ⟨same_new hbe, upd_same⟩ (fun i G _ h => .inl (.inl (h.1 _ _ hl1))) ?_ ?_
    · rintro i y G hi ⟨sm, hA⟩
      obtain ⟨n, rfl, hn, hil, ht⟩ := getMap hi
      refine ⟨rfl, ?_⟩
      have Sg := (S.same s1).same sm
      refine ⟨_, rfl, _, rfl, _, _, rfl, Sg.dg hn, _, _, _, _, rfl, rfl, .inl (.inl (Sg.l _ hn)), rfl, _, _, rfl, rfl, .inl ⟨by decide, by decide⟩, _, rfl, _, rfl, _, _, rfl, Sg.dg hn, _, _, _, _, rfl, rfl, .inl (.inl (Sg.l _ hn)), rfl, rfl, .inr ⟨_, rfl, _, _, rfl, rfl, _, rfl, rk, ns.map (rkA s), rfl, .inl (.inl ?_), ?_, fun m hm1 hm2 => ?_⟩⟩
      · rw [sm _ _ hA1, List.map_map]; rfl
      · rw [List.length_map]; omega
      obtain rfl : m = rkA s c := by
        obtain ⟨x, hx, rfl⟩ := List.mem_map.mp hm1
        by_cases z : x = c
        · rw [z]
        · have h1 := IV.rank hx z
          have h2 := hm2 _ (List.mem_map.mpr ⟨c, IV.ci, rfl⟩)
          omega
      rw [show (fun i j => V.int (i + j)) (2 * s.cn n) (if (!decide (V.str (s.st n) = V.str "rests")) = true then 1 else 0) = V.int (rkA s n) from congrArg V.int rk_eq]
      refine ⟨rfl, _, rfl, ?_⟩
      by_cases z : n = c
      · rw [show decide (V.int (rkA s n) = V.int (rkA s c)) = true from decide_eq_true (by rw [z])]
        refine ⟨_, rfl, _, hA, small1000 (by rw [List.length_map]; have := List.length_filter_le (fun n => decide (n = c)) (ns.take i); rw [List.length_take] at this; omega), fun b o e => ?_, ?_⟩
        · rw [upd_ne (ne_of_none e hbe)]
          exact sm _ _ e
        · rw [upd_same, ht, flt_pos (p := fun n => decide (n = c)) (decide_eq_true z), List.map_append]
          rfl
      · rw [show decide (V.int (rkA s n) = V.int (rkA s c)) = false from decide_eq_false fun w => z ((fmem n hn).mp (V.int.inj w))]
        refine ⟨sm, ?_⟩
        rw [hA, ht, flt_neg (p := fun n => decide (n = c)) (decide_eq_false z)]
    rintro G2 ⟨s2, hB⟩
    rw [List.length_map, List.take_length, filter_one nd IV.ci (p := fun n => decide (n = c)) fun n hn => decide_eq_true_iff] at hB
    refine nm ?_
    dsimp only [List.set]
    have hB : G2 be = some (.lst [.str c]) := hB
    have s02 := s1.trans s2
    have R2 := R.same s02
    obtain ⟨dx2, ho2⟩ := R2.o
    refine ⟨_, rfl, _, _, rfl, .inl (.inl (.inl hB)), rfl, _, rfl, neN rfl ?_⟩
    refine ⟨_, rfl, _, _, _, rfl, ho2, rfl, A, mx, ns, s, rfl, R2, (fun z => by have := IV.ci; rw [z] at this; cases this), fun x G3 hx hmax s3 => ?_⟩
    obtain rfl : x = c := by
      by_cases z : x = c
      · exact z
      · have h1 := IV.rank hx z
        have h2 := hmax _ IV.ci
        omega
    have s03 := s02.trans s3
    have R3 := R.same s03
    have hB3 := s3 _ _ hB
    obtain ⟨dx3, ho3⟩ := R3.o
    refine ⟨_, rfl, _, _, _, _, rfl, rfl, .inl (.inl hB3), rfl, rfl, _, rfl, ifNotY rfl ?_⟩
    refine ⟨_, rfl, _, _, _, rfl, ho3, rfl, A, mx, ns, s, "NONE", rfl, R3, ?_⟩
    rw [decide_eq_false nn, Bool.false_and]
    refine ⟨_, _, rfl, _, rfl, ?_⟩
    refine iteF ?_
    refine nxQ ?_
    dsimp only
    have S3 := S.same s03
    have hl3 := s03 _ _ hl
    refine ⟨_, rfl, _, rfl, ⟨_, .inl (.inl hl3)⟩, for_list (K := K) (a := l) (xs := ns.map V.str) (fun i σ G => ∃ v5, σ = [some (.ref A.p), some (.ref sd), some (.ref l), some (.ref rk), some (.ref be), v5, none] ∧ G = G3) ⟨none, rfl, rfl⟩ (fun i σ G _ ⟨_, _, e⟩ => by rw [e]; exact .inl (.inl hl3)) ?_ ?_⟩
    · rintro i y σ G hi ⟨v5, rfl, rfl⟩
      obtain ⟨n, rfl, hn, hil, ht⟩ := getMap hi
      refine nm ?_
      dsimp only [List.set]
      refine ⟨_, rfl, _, _, _, rfl, ho3, rfl, _, rfl, A, mx, ns, s, n, rfl, R3, ?_⟩
      rw [decide_eq_true hn, Bool.true_and]
      refine ⟨_, rfl, _, rfl, _, _, rfl, S3.dg hn, _, _, _, _, rfl, rfl, .inl (.inl (S3.l n hn)), rfl, rfl, _, _, rfl, _, rfl, ?_⟩
      rw [show decide (decide (s.st n = "holds") = decide (V.str (s.st n) = V.str "holds")) = true from decide_eq_true (decide_eq_decide.mpr ⟨fun z => congrArg V.str z, fun z => V.str.inj z⟩)]
      exact iteF ⟨_, rfl, rfl⟩
    rintro σ G ⟨v5, rfl, rfl⟩
    refine ⟨_, rfl, _, rfl, ⟨_, .inl (.inl hl3)⟩, fun ac hac => ?_⟩
    refine lc_list (K := K) (a := l) (xs := ns.map V.str) (fun i G' => Same G G' ∧ G' ac = some (.lst (((ns.take i).filter fun n => decide (s.st n = "holds")).map V.str))) ⟨same_new hac, upd_same⟩ (fun i G' _ h => .inl (.inl (h.1 _ _ hl3))) ?_ ?_
    · rintro i y G' hi ⟨sm, hA⟩
      obtain ⟨n, rfl, hn, hil, ht⟩ := getMap hi
      refine ⟨rfl, ?_⟩
      have R4 := R3.same sm
      have ho4 := sm _ _ ho3
      refine ⟨_, rfl, _, _, _, rfl, ho4, rfl, _, rfl, A, mx, ns, s, n, rfl, R4, ?_⟩
      rw [decide_eq_true hn, Bool.true_and]
      refine ⟨_, rfl, ?_⟩
      by_cases z : s.st n = "holds"
      · rw [decide_eq_true z]
        refine ⟨_, rfl, _, hA, small1000 (by rw [List.length_map]; have := List.length_filter_le (fun n => decide (s.st n = "holds")) (ns.take i); rw [List.length_take] at this; omega), fun b o e => ?_, ?_⟩
        · rw [upd_ne (ne_of_none e hac)]
          exact sm _ _ e
        · rw [upd_same, ht, flt_pos (p := fun n => decide (s.st n = "holds")) (decide_eq_true z), List.map_append]
          rfl
      · rw [decide_eq_false z]
        refine ⟨sm, ?_⟩
        rw [hA, ht, flt_neg (p := fun n => decide (s.st n = "holds")) (decide_eq_false z)]
    rintro G4 ⟨s4, hC⟩
    rw [List.length_map, List.take_length] at hC
    refine nm ?_
    dsimp only [List.set]
    have hB4 := s4 _ _ hB3
    have s04 := s03.trans s4
    by_cases z : s.st x = "holds"
    · rw [filter_one nd IV.ci (p := fun n => decide (s.st n = "holds")) fun n hn => ⟨fun w => IV.holds hn (of_decide_eq_true w), fun w => decide_eq_true (by rw [w]; exact z)⟩] at hC
      have hC : G4 ac = some (.lst [.str x]) := hC
      refine ⟨_, rfl, _, _, rfl, .inl (.inl (.inl hC)), rfl, _, rfl, ifN (fun w => nomatch (V.int.inj w : (1 : Int) = 0)) ?_⟩
      have can : (PyData.list [.str x]).canLay0 = true := by
        show PyData.canLayAll0 _ = true
        exact cla fun y hy => by rw [List.mem_singleton.mp hy]; exact ok _ IV.ci
      have sh : SeqAt.shaped (.list [.str x]) = true := sh_of can (by show PyData.depthAll [.str x] + 1 ≤ 64; exact Nat.le_trans (Nat.succ_le_succ (dpa (n := 1) fun y hy => by rw [List.mem_singleton.mp hy]; exact Nat.zero_le _)) (by decide))
      refine ⟨_, rfl, _, rfl, _, _, .lst (.inl (.inl hC)) (.cons (.str _) .nil), .lst (.inl (.inl hB4)) (.cons (.str _) .nil), sh, sh, ?_⟩
      rw [SeqAt.eqv_refl _ can]
      exact k _ s04
    · have e : (ns.filter fun n => decide (s.st n = "holds")) = [] := List.filter_eq_nil_iff.mpr fun n hn w => z (by rw [← IV.holds hn (of_decide_eq_true w)]; exact of_decide_eq_true w)
      rw [e] at hC
      have hC : G4 ac = some (.lst []) := hC
      refine ⟨_, rfl, _, _, rfl, .inl (.inl (.inl hC)), rfl, _, rfl, ifY rfl ?_⟩
      exact k _ s04
end
end Sk

set_option Elab.async false
set_option linter.all false
set_option maxRecDepth 100000
set_option maxHeartbeats 4000000
namespace Sk
open PySem PySem.Spec PyProof.Rows L2
def spLaw (K : PySem.W.Frag) : Sp := fun vs H Q _ => ∃ (a : Addr) (ns : List Int), vs = [.ref a] ∧ SqL K H a (ns.map V.int) ∧ ns.length ≤ 63 ∧ ∀ H', Q (.bl true) H'
section
variable {P : Program} {w : World} {K : PySem.W.Frag} {mg : Str → Option Value} {base : Heap}
abbrev s_law : Stmt := top 17
theorem sc_law : FnScope ["script", "state", "names", "shift", "sectors", "first", "found", "sides", "sent", "event", "k", "kind", "holders", "by", "to", "due", "last", "answer", "sector"] ["script"] (defScope s_law) := ⟨rfl, rfl, rfl, by decide +kernel, rfl, by decide +kernel, by decide +kernel⟩
theorem ok_law {f : Addr} {fd : FuncData} {C : Addr} (F : Fun K "law" "law" s_law f fd) (T : TxtA mg) (Y : RspY K mg C)
    (D_law_start : Def P w K mg base 1 "_law_start" ["script"] (spStart K))
    (D_law_draw : Def P w K mg base 1 "_law_draw" ["state", "bound"] (spDraw K))
    (D_law_pick : Def P w K mg base 2 "_law_pick" ["state", "things"] (spPick K))
    (D_law_sides : Def P w K mg base 1 "_law_sides" ["sectors", "first"] (spLSides K))
    (D_law_give : Def P w K mg base 1 "_law_give" ["sides", "by", "to"] (spLGiv))
    (D_law_repeat : Def P w K mg base 1 "_law_repeat" ["sides", "by"] (spLRep))
    (D_law_hear : Def P w K mg base 1 "_law_hear" ["sides", "message"] (spLHr))
    (D_law_asked : Def P w K mg base 5 "_law_asked" ["found", "kind", "first", "second"] (spAsked C))
    (D_law_right : Def P w K mg base 4 "_law_right" ["found", "sides", "sectors"] (spRight C))
    (D_Responsibility : CDef P w K mg base 1 C "Responsibility" ["self", "sectors", "first"] (spNewR C)) : FnOk P w K mg base CX0 6 f fd ["script"] (spLaw K) := by
  refine F.ok sc_law (fun vs H Q E h => ?_) (fun cdv A outer s H vs Q E hr h => ?_)
  · obtain ⟨_, _, rfl, _⟩ := h
    rfl
  · obtain ⟨a, ns0, rfl, hS, hl0, kk⟩ := h
    have hu := hu_of hr
    refine ⟨_, (pss_cons (ps_set (i := 1) sc_law.nd rfl (Or.inl rfl) (pe_def D_law_start (hr.mono (by decide)) (by rfl) (pa_cons (pv 0) pa_nil)))
    (pss_cons (ps_set (i := 2) sc_law.nd rfl (Or.inr rfl) (pe_lst (pa_cons pe_str (pa_cons pe_str (pa_cons pe_str (pa_cons pe_str (pa_cons pe_str pa_nil)))))))
    (pss_cons (ps_set (i := 3) sc_law.nd rfl (Or.inr rfl) (pe_def D_law_draw (hr.mono (by decide)) (by rfl) (pa_cons (pv 1) (pa_cons pe_int pa_nil))))
    (pss_cons (ps_setLc (i := 4) (own := [("k", 10)]) (g := gName 10) (by rfl) sc_law.nd rfl rfl (sw_true rfl rfl rfl (by decide +kernel)) (pi_range1 (by rfl) T.range (pa_cons (pe_op op_add pe_int (pe_def D_law_draw (hr.mono (by decide)) (by rfl) (pa_cons (pv 1) (pa_cons pe_int pa_nil)))) pa_nil)) (blkOk_by (own := [("k", 10)]) (N := ["script", "state", "names", "shift", "sectors", "first", "found", "sides", "sent", "event", "k", "kind", "holders", "by", "to", "due", "last", "answer", "sector"]) (sc := defScope s_law) (by decide +kernel)) (fun _ _ _ _ _ => (pg_name (i := 10) sc_law.nd rfl (Or.inl rfl))) (fun _ _ _ _ _ => pts_nil) (fun _ _ _ _ _ => (pe_ix (r := rIxL K) ix_list (pv 2) (pe_op op_mod (pe_callTy call_int1 (by rfl) T.int boot_int (pa_cons (pe_op op_add (pv 10) (pv 3)) pa_nil)) pe_int) (fun _ _ => rfl))))
    (pss_cons (ps_set (i := 5) sc_law.nd rfl (Or.inl rfl) (pe_def D_law_pick (hr.mono (by decide)) (by rfl) (pa_cons (pv 1) (pa_cons (pv 4) pa_nil))))
    (pss_cons (ps_set (i := 6) sc_law.nd rfl (Or.inl rfl) (pe_lst (pa_cons (pe_cdef D_Responsibility (hr.mono (by decide)) (by rfl) (pa_cons (pe_callTy call_list_of (by rfl) T.list boot_list (pa_cons (pv 4) pa_nil)) (pa_cons (pv 5) pa_nil))) (pa_cons (pe_cdef D_Responsibility (hr.mono (by decide)) (by rfl) (pa_cons (pe_callTy call_list_of (by rfl) T.list boot_list (pa_cons (pv 4) pa_nil)) (pa_cons (pe_ix (r := rIxL K) ix_list (pv 4) pe_int (fun _ _ => rfl)) pa_nil))) pa_nil))))
    (pss_cons (ps_set (i := 7) sc_law.nd rfl (Or.inr rfl) (pe_lst (pa_cons (pe_def D_law_sides (hr.mono (by decide)) (by rfl) (pa_cons (pv 4) (pa_cons (pv 5) pa_nil))) (pa_cons (pe_def D_law_sides (hr.mono (by decide)) (by rfl) (pa_cons (pv 4) (pa_cons (pe_ix (r := rIxL K) ix_list (pv 4) pe_int (fun _ _ => rfl)) pa_nil))) pa_nil))))
    (pss_cons (ps_set (i := 8) sc_law.nd rfl (Or.inl rfl) (pe_lst (pa_cons (pe_lst pa_nil) (pa_cons (pe_lst pa_nil) pa_nil))))
    (pss_cons (ps_for PassesOwn.never rfl (pi_range1 (by rfl) T.range (pa_cons pe_int pa_nil)) (pg_name (i := 9) sc_law.nd rfl (Or.inl rfl))
      (pss_cons (ps_set (i := 10) sc_law.nd rfl (Or.inr rfl) (pe_callTy call_int1 (by rfl) T.int boot_int (pa_cons (pe_cmpR op_eq (pe_def D_law_draw (hr.mono (by decide)) (by rfl) (pa_cons (pv 1) (pa_cons pe_int pa_nil))) pe_int (nomark _)) pa_nil)))
    (pss_cons (ps_set (i := 11) sc_law.nd rfl (Or.inl rfl) (pe_def D_law_pick (hr.mono (by decide)) (by rfl) (pa_cons (pv 1) (pa_cons (pe_lst (pa_cons pe_int (pa_cons pe_int (pa_cons pe_int (pa_cons pe_int (pa_cons pe_int (pa_cons pe_int (pa_cons pe_int pa_nil)))))))) pa_nil))))
    (pss_cons (ps_setLc (i := 12) (own := [("sector", 18)]) (g := gName 18) (by rfl) sc_law.nd rfl rfl (sw_true rfl rfl rfl (by decide +kernel)) (pi_list (pv 4)) (blkOk_by (own := [("sector", 18)]) (N := ["script", "state", "names", "shift", "sectors", "first", "found", "sides", "sent", "event", "k", "kind", "holders", "by", "to", "due", "last", "answer", "sector"]) (sc := defScope s_law) (by decide +kernel)) (fun _ _ _ _ _ => (pg_name (i := 18) sc_law.nd rfl (Or.inl rfl))) (fun _ _ _ _ _ => pts_one (pt_cmpR op_eq (pe_ix (r := rIxL K) ix_list (pe_dget hu (pe_ix (r := rIxL K) ix_list (pv 7) (pv 10) (fun _ _ => rfl)) (pv 18) (fun _ _ => rfl)) pe_int (fun _ _ => rfl)) pe_str (nomark _))) (fun _ _ _ _ _ => (pv 18)))
    (pss_cons (ps_set (i := 13) sc_law.nd rfl (Or.inl rfl) (pe_def D_law_pick (hr.mono (by decide)) (by rfl) (pa_cons (pv 1) (pa_cons (pe_op op_cat (pe_op op_cat (pe_op op_cat (pe_op op_cat (pv 12) (pv 12)) (pv 12)) (pv 4)) (pe_lst (pa_cons pe_str pa_nil))) pa_nil))))
    (pss_cons (ps_set (i := 14) sc_law.nd rfl (Or.inl rfl) (pe_def D_law_pick (hr.mono (by decide)) (by rfl) (pa_cons (pv 1) (pa_cons (pe_op op_cat (pe_op op_cat (pv 4) (pv 4)) (pe_lst (pa_cons pe_str pa_nil))) pa_nil))))
    (pss_cons (ps_if (pt_cmpR op_eq (pv 11) pe_int (nomark _)) (pss_one (ps_set (i := 15) sc_law.nd rfl (Or.inl rfl) (pe_def D_law_give (hr.mono (by decide)) (by rfl) (pa_cons (pe_ix (r := rIxL K) ix_list (pv 7) (pv 10) (fun _ _ => rfl)) (pa_cons (pv 13) (pa_cons (pv 14) pa_nil))))))
      (pss_one (ps_if (pt_cmpR op_eq (pv 11) pe_int (nomark _)) (pss_cons (ps_set (i := 13) sc_law.nd rfl (Or.inl rfl) (pe_def D_law_pick (hr.mono (by decide)) (by rfl) (pa_cons (pv 1) (pa_cons (pe_op op_cat (pv 4) (pe_lst (pa_cons pe_str pa_nil))) pa_nil))))
    (pss_one (ps_set (i := 15) sc_law.nd rfl (Or.inl rfl) (pe_def D_law_repeat (hr.mono (by decide)) (by rfl) (pa_cons (pe_ix (r := rIxL K) ix_list (pv 7) (pv 10) (fun _ _ => rfl)) (pa_cons (pv 13) pa_nil))))))
      (pss_cons (ps_if (pt_cmpR op_eq (pe_callB (r := rLenK K) call_len_seq (by rfl) T.len boot_len (pa_cons (pe_ix (r := rIxL K) ix_list (pv 8) (pv 10) (fun _ _ => rfl)) pa_nil)) pe_int (nomark _)) (pss_one ps_continue)
      pss_nil)
    (pss_cons (ps_set (i := 16) sc_law.nd rfl (Or.inl rfl) (pe_callB (r := rLenK K) call_len_seq (by rfl) T.len boot_len (pa_cons (pe_ix (r := rIxL K) ix_list (pv 8) (pv 10) (fun _ _ => rfl)) pa_nil)))
    (pss_cons (ps_set (i := 13) sc_law.nd rfl (Or.inl rfl) (pe_ix (r := rIxL K) ix_list (pe_ix (r := rIxL K) ix_list (pv 8) (pv 10) (fun _ _ => rfl)) (pe_op op_sub (pe_op op_sub (pv 16) pe_int) (pe_def D_law_draw (hr.mono (by decide)) (by rfl) (pa_cons (pv 1) (pa_cons (pe_callB (call_min2 rfl) (by rfl) T.min boot_min (pa_cons (pv 16) (pa_cons (pe_def D_law_pick (hr.mono (by decide)) (by rfl) (pa_cons (pv 1) (pa_cons (pe_lst (pa_cons pe_int (pa_cons pe_int (pa_cons pe_int (pa_cons pe_int pa_nil))))) pa_nil))) pa_nil))) pa_nil)))) (fun _ _ => rfl)))
    (pss_one (ps_set (i := 15) sc_law.nd rfl (Or.inl rfl) (pe_def D_law_hear (hr.mono (by decide)) (by rfl) (pa_cons (pe_ix (r := rIxL K) ix_list (pv 7) (pv 10) (fun _ _ => rfl)) (pa_cons (pv 13) pa_nil)))))))))))
    (pss_cons (ps_set (i := 17) sc_law.nd rfl (Or.inl rfl) (pe_def D_law_asked (hr.mono (by decide)) (by rfl) (pa_cons (pe_ix (r := rIxL K) ix_list (pv 6) (pv 10) (fun _ _ => rfl)) (pa_cons (pv 11) (pa_cons (pv 13) (pa_cons (pv 14) pa_nil))))))
    (pss_cons (ps_if (pt_cmpR (op_neD hr.units) (pv 17) (pv 15) (nomark _)) (pss_one (ps_ret pe_bl))
      pss_nil)
    (pss_cons (ps_if (PW.pt (pw_and (pt_cmpR op_notN (pv 15) pe_non (nomark _)) (pw_and1 (pt_cmpR op_ne (pe_ix (r := rIxT K) ix_tup (pv 15) pe_int (fun _ _ => rfl)) pe_str (nomark _))))) (pss_one (ps_expr (pe_bm PySem.F.plainAttrs_list PySem.F.slot_list_append PySem.F.type_list_append mt_append (pe_ix (r := rIxL K) ix_list (pv 8) (pv 10) (fun _ _ => rfl)) (pa_cons (pv 15) pa_nil))))
      pss_nil)
    (pss_one (ps_if (PW.pt (pw_or (pt_not (pt_val (pe_def D_law_right (hr.mono (by decide)) (by rfl) (pa_cons (pe_ix (r := rIxL K) ix_list (pv 6) pe_int (fun _ _ => rfl)) (pa_cons (pe_ix (r := rIxL K) ix_list (pv 7) pe_int (fun _ _ => rfl)) (pa_cons (pv 4) pa_nil)))))) (pw_or1 (pt_not (pt_val (pe_def D_law_right (hr.mono (by decide)) (by rfl) (pa_cons (pe_ix (r := rIxL K) ix_list (pv 6) pe_int (fun _ _ => rfl)) (pa_cons (pe_ix (r := rIxL K) ix_list (pv 7) pe_int (fun _ _ => rfl)) (pa_cons (pv 4) pa_nil))))))))) (pss_one (ps_ret pe_bl))
      pss_nil))))))))))))
    (pss_one (ps_ret pe_bl))))))))))), ?_⟩
    rw [show L2.start ["script", "state", "names", "shift", "sectors", "first", "found", "sides", "sent", "event", "k", "kind", "holders", "by", "to", "due", "last", "answer", "sector"] [V.ref a] = [some (V.ref a), none, none, none, none, none, none, none, none, none, none, none, none, none, none, none, none, none, none] from rfl]
    refine ⟨_, rfl, a, ns0, rfl, hS, hl0, fun d c G0 hd0 hc0 S0 sm0 => ?_⟩
    refine nm ?_
    dsimp only [List.set]
    refine ⟨szOk rfl, fun tn htn => ?_⟩
    have e1 : (upd G0 tn (.lst [V.str "N", V.str "SOUTH", V.str "E1", V.str "ABCDE", V.str "W"])) tn = some (.lst [V.str "N", V.str "SOUTH", V.str "E1", V.str "ABCDE", V.str "W"]) := upd_same
    have S1 := S0.same (same_new (o := .lst [V.str "N", V.str "SOUTH", V.str "E1", V.str "ABCDE", V.str "W"]) htn)
    generalize upd G0 tn (.lst [V.str "N", V.str "SOUTH", V.str "E1", V.str "ABCDE", V.str "W"]) = G1 at e1 S1 ⊢
    clear S0 sm0 hd0 hc0 htn
    refine nm ?_
    dsimp only [List.set]
    refine ⟨_, rfl, d, c, _, rfl, S1, (by omega), (by omega), fun x G2 x0 x5 S2 kp2 => ?_⟩
    have e2 := kp2.l S1 e1
    obtain ⟨xn, rfl⟩ : ∃ xn : Nat, x = (xn : Int) := ⟨x.toNat, by omega⟩
    have x5 : xn < 5 := by omega
    clear S1 kp2 e1
    refine nm ?_
    dsimp only [List.set]
    refine ⟨_, rfl, d, c, _, rfl, S2, (by omega), (by omega), fun m G3 m0 m5 S3 kp3 => ?_⟩
    have e3 := kp3.l S2 e2
    obtain ⟨mn, rfl⟩ : ∃ mn : Nat, m = (mn : Int) := ⟨m.toNat, by omega⟩
    have m5 : mn < 5 := by omega
    clear S2 kp3 e2
    have AL : Al G3 [] [] [d, c] := by
      obtain ⟨ns, i, l, m, S'⟩ := id S3
      have dc : d ≠ c := ne_of S'.dc S'.cs (by intro z; cases z)
      refine ⟨by simp [dc], fun x hx => ?_⟩
      simp only [List.nil_append, List.mem_cons, List.not_mem_nil, or_false] at hx
      rcases hx with rfl | rfl
      · rw [S'.dc]; exact fun z => nomatch z
      · rw [S'.cs]; exact fun z => nomatch z
    refine ⟨_, _, rfl, rfl, _, rfl, by omega, by omega, fun l hl => ?_⟩
    have nat : ∀ j : Nat, j < 5 → ([V.str "N", V.str "SOUTH", V.str "E1", V.str "ABCDE", V.str "W"] : List V)[j]? = some (.str (nms5.getD j "")) := fun j hj => by
      rcases (by omega : j = 0 ∨ j = 1 ∨ j = 2 ∨ j = 3 ∨ j = 4) with rfl | rfl | rfl | rfl | rfl <;> rfl
    refine lc_range (lo := 0) (n := (1 + (mn : Int)).toNat) (fun i G => Same G3 G ∧ G l = some (.lst ((secs xn i).map V.str))) ⟨same_new hl, upd_same⟩ ?_ ?_
    · rintro i G hi ⟨sm, hA⟩
      refine ⟨rfl, ?_⟩
      have ix : atI [V.str "N", V.str "SOUTH", V.str "E1", V.str "ABCDE", V.str "W"] ((0 + (i : Int) + (xn : Int)) % 5) = some (.str (nms5.getD ((i + xn) % 5) "")) := by
        rw [show (0 + (i : Int) + (xn : Int)) % 5 = (((i + xn) % 5 : Nat) : Int) by omega]
        exact atI_nat (nat _ (by omega))
      refine ⟨_, rfl, _, rfl, _, rfl, _, _, rfl, rfl, .inl ⟨_, rfl, _, _, rfl, rfl, (by show (0 : Int) < 5; decide), _, _, _, _, rfl, rfl, .inl (.inl (sm _ _ e3)), ix, ?_⟩⟩
      refine ⟨_, hA, small1000 (by rw [List.length_map, secs_len]; omega), fun b o e => ?_, by rw [upd_same, secs_succ, List.map_append]; rfl⟩
      rw [upd_ne (ne_of_none e hl)]
      exact sm _ _ e
    rintro G4 ⟨sm4, e4⟩
    rw [show (1 + (mn : Int)).toNat = mn + 1 by omega] at e4
    refine nm ?_
    dsimp only [List.set]
    obtain ⟨nd, ok, nn⟩ := secs_ok xn x5 (mn + 1) (by omega)
    have h5 : (secs xn (mn + 1)).length ≤ 5 := by rw [secs_len]; omega
    have h1 : 1 ≤ (secs xn (mn + 1)).length := by rw [secs_len]; omega
    generalize secs xn (mn + 1) = ns at nd ok nn h5 h1 e4
    obtain ⟨f1, nr, en⟩ : ∃ f1 nr, ns = f1 :: nr := by
      cases ns with
      | nil => exact absurd h1 (by decide)
      | cons f1 nr => exact ⟨f1, nr, rfl⟩
    have hf1 : f1 ∈ ns := by rw [en]; exact List.mem_cons_self
    have hat0 : atI (ns.map V.str) 0 = some (.str f1) := by rw [en]; exact atI_nat (j := 0) rfl
    have AL := AL.no hl (Dm.same sm4) (by rw [e4]; exact fun z => nomatch z)
    have S4 := S3.same sm4
    clear S3 sm4 e3 hl nat
    refine ⟨_, rfl, _, rfl, d, c, _, _, rfl, S4, .inl (.inl e4), (by rw [en]; exact fun z => nomatch z), by rw [List.length_map]; omega, fun v G5 hv S5 kp5 => ?_⟩
    have e5 := kp5.l S4 e4
    obtain ⟨f, hf, rfl⟩ := List.mem_map.mp hv
    have AL := AL.mono (G' := G5) fun b hb => by
      by_cases z : b = d
      · obtain ⟨kv, hk⟩ := S5.dk
        rw [z, hk]; exact fun w => nomatch w
      · cases hh : G4 b with
        | none => exact absurd hh hb
        | some o => rw [kp5 _ _ hh z]; exact fun w => nomatch w
    clear S4 kp5 e4 hv
    refine nm ?_
    dsimp only [List.set]
    refine ⟨_, rfl, _, _, rfl, .inl (.inl (.inl e5)), fun q0 hq0 => ⟨_, rfl, fun p0 x0 hp0 hx0 n0 => ?_⟩⟩
    have sx0 : Same G5 (upd (upd (upd G5 q0 (.lst (ns.map V.str))) x0 (.own p0)) p0 (.ins C x0 [])) := fun b o e => by
      rw [upd_ne (ne_of_none (same_new hq0 _ _ e) hp0), upd_ne (ne_of_none (same_new hq0 _ _ e) hx0)]
      exact same_new hq0 _ _ e
    refine ⟨p0, x0, q0, f, ns, rfl, upd_same, by rw [upd_ne (ne_of_none upd_same hp0), upd_ne (ne_of_none upd_same hx0), upd_same], nd, h5, hf, fun c0 t0 r0 G6 hc0 ht0 hr0 R0 O0 => ⟨rfl, ?_⟩⟩
    have hpn : G5 p0 = none := (same_new hq0).free hp0
    have s0 : Same G5 G6 := fun b o e => O0 b o (sx0 b o e) (by simpa using ne_of_none e hpn)
    have fr0 : ∀ x ∈ (RA.mk p0 c0 t0 r0).l, G5 x = none := fun x hx => by
      simp only [RA.l, List.mem_cons, List.not_mem_nil, or_false] at hx
      rcases hx with rfl | rfl | rfl | rfl
      · exact hpn
      · exact sx0.free hc0
      · exact sx0.free ht0
      · exact sx0.free hr0
    have al0 : ∀ x ∈ (RA.mk p0 c0 t0 r0).l, G6 x ≠ none := fun x hx => by
      obtain ⟨dxx, ho⟩ := R0.o
      obtain ⟨kr, hkr, _⟩ := R0.r
      simp only [RA.l, List.mem_cons, List.not_mem_nil, or_false] at hx
      rcases hx with rfl | rfl | rfl | rfl
      · rw [ho]; exact fun z => nomatch z
      · rw [R0.c]; exact fun z => nomatch z
      · rw [R0.t]; exact fun z => nomatch z
      · rw [hkr]; exact fun z => nomatch z
    have AL := AL.n0L fr0 R0.nd (Dm.same s0) al0
    have e6 := s0 _ _ e5
    have S6 := S5.same s0
    clear sx0 fr0 al0 O0 hpn hc0 ht0 hr0 hp0 hx0 hq0
    clear s0 e5 S5
    refine ⟨_, rfl, _, _, rfl, .inl (.inl (.inl e6)), fun q1 hq1 => ⟨_, rfl, _, _, _, _, rfl, rfl, .inl (.inl (same_new hq1 _ _ e6)), hat0, fun p1 x1 hp1 hx1 n1 => ?_⟩⟩
    have sx1 : Same G6 (upd (upd (upd G6 q1 (.lst (ns.map V.str))) x1 (.own p1)) p1 (.ins C x1 [])) := fun b o e => by
      rw [upd_ne (ne_of_none (same_new hq1 _ _ e) hp1), upd_ne (ne_of_none (same_new hq1 _ _ e) hx1)]
      exact same_new hq1 _ _ e
    refine ⟨p1, x1, q1, f1, ns, rfl, upd_same, by rw [upd_ne (ne_of_none upd_same hp1), upd_ne (ne_of_none upd_same hx1), upd_same], nd, h5, hf1, fun c1 t1 r1 G7 hc1 ht1 hr1 R1 O1 => ⟨rfl, ?_⟩⟩
    have hpn : G6 p1 = none := (same_new hq1).free hp1
    have s1 : Same G6 G7 := fun b o e => O1 b o (sx1 b o e) (by simpa using ne_of_none e hpn)
    have fr1 : ∀ x ∈ (RA.mk p1 c1 t1 r1).l, G6 x = none := fun x hx => by
      simp only [RA.l, List.mem_cons, List.not_mem_nil, or_false] at hx
      rcases hx with rfl | rfl | rfl | rfl
      · exact hpn
      · exact sx1.free hc1
      · exact sx1.free ht1
      · exact sx1.free hr1
    have al1 : ∀ x ∈ (RA.mk p1 c1 t1 r1).l, G7 x ≠ none := fun x hx => by
      obtain ⟨dxx, ho⟩ := R1.o
      obtain ⟨kr, hkr, _⟩ := R1.r
      simp only [RA.l, List.mem_cons, List.not_mem_nil, or_false] at hx
      rcases hx with rfl | rfl | rfl | rfl
      · rw [ho]; exact fun z => nomatch z
      · rw [R1.c]; exact fun z => nomatch z
      · rw [R1.t]; exact fun z => nomatch z
      · rw [hkr]; exact fun z => nomatch z
    have AL := AL.n1L fr1 R1.nd (Dm.same s1) al1
    have e7 := s1 _ _ e6
    have S7 := S6.same s1
    have R0 := R0.same s1
    clear sx1 fr1 al1 O1 hpn hc1 ht1 hr1 hp1 hx1 hq1
    clear s1 e6 S6
    refine ⟨szOk rfl, fun fl hfl => ?_⟩
    have s2 := same_new (o := .lst [.ref p0, .ref p1]) hfl
    have AL := AL.alloco hfl (.lst [.ref p0, .ref p1])
    have efl : (upd G7 fl (.lst [.ref p0, .ref p1])) fl = some (.lst [.ref p0, .ref p1]) := upd_same
    have e8 := s2 _ _ e7
    have S8 := S7.same s2
    have R0 := R0.same s2
    have R1 := R1.same s2
    generalize upd G7 fl (.lst [.ref p0, .ref p1]) = G8 at *
    clear s2 e7 S7 hfl
    refine nm ?_
    dsimp only [List.set]
    refine ⟨_, rfl, _, rfl, l, f, ns, rfl, e8, nd, h5, fun sd0 ad0 G9 hs0 ha0 SS0 s0 => ?_⟩
    have al0 : ∀ x ∈ sd0 :: ns.map ad0, G9 x ≠ none := fun x hx => by
      rcases List.mem_cons.mp hx with rfl | hx
      · rw [SS0.d]; exact fun z => nomatch z
      · obtain ⟨n, hn, rfl⟩ := List.mem_map.mp hx
        rw [SS0.l n hn]; exact fun z => nomatch z
    have fr0 : ∀ x ∈ sd0 :: ns.map ad0, G8 x = none := fun x hx => by
      rcases List.mem_cons.mp hx with rfl | hx
      · exact hs0
      · obtain ⟨n, hn, rfl⟩ := List.mem_map.mp hx
        exact ha0 n hn
    have AL := AL.n0L fr0 (List.nodup_cons.mpr ⟨fun w => by
      obtain ⟨n, hn, e⟩ := List.mem_map.mp w
      exact SS0.nsd hn e.symm, nodup_map_on SS0.inj nd⟩) (Dm.same s0) al0
    have e9 := s0 _ _ e8
    have S9 := S8.same s0
    have R0 := R0.same s0
    have R1 := R1.same s0
    have efl := s0 _ _ efl
    clear fr0 al0 hs0 ha0
    clear s0 e8 S8
    refine ⟨_, rfl, _, rfl, _, _, _, _, rfl, rfl, .inl (.inl e9), hat0, l, f1, ns, rfl, e9, nd, h5, fun sd1 ad1 G10 hs1 ha1 SS1 s1 => ?_⟩
    have al1 : ∀ x ∈ sd1 :: ns.map ad1, G10 x ≠ none := fun x hx => by
      rcases List.mem_cons.mp hx with rfl | hx
      · rw [SS1.d]; exact fun z => nomatch z
      · obtain ⟨n, hn, rfl⟩ := List.mem_map.mp hx
        rw [SS1.l n hn]; exact fun z => nomatch z
    have fr1 : ∀ x ∈ sd1 :: ns.map ad1, G9 x = none := fun x hx => by
      rcases List.mem_cons.mp hx with rfl | hx
      · exact hs1
      · obtain ⟨n, hn, rfl⟩ := List.mem_map.mp hx
        exact ha1 n hn
    have AL := AL.n1L fr1 (List.nodup_cons.mpr ⟨fun w => by
      obtain ⟨n, hn, e⟩ := List.mem_map.mp w
      exact SS1.nsd hn e.symm, nodup_map_on SS1.inj nd⟩) (Dm.same s1) al1
    have e10 := s1 _ _ e9
    have S10 := S9.same s1
    have R0 := R0.same s1
    have R1 := R1.same s1
    have efl := s1 _ _ efl
    have SS0 := SS0.same s1
    clear fr1 al1 hs1 ha1
    clear s1 e9 S9
    refine ⟨szOk rfl, fun sl hsl => ?_⟩
    have s2 := same_new (o := .lst [.ref sd0, .ref sd1]) hsl
    have AL := AL.alloco hsl (.lst [.ref sd0, .ref sd1])
    have esl : (upd G10 sl (.lst [.ref sd0, .ref sd1])) sl = some (.lst [.ref sd0, .ref sd1]) := upd_same
    have e11 := s2 _ _ e10
    have efl := s2 _ _ efl
    have S11 := S10.same s2
    have R0 := R0.same s2
    have R1 := R1.same s2
    have SS0 := SS0.same s2
    have SS1 := SS1.same s2
    generalize upd G10 sl (.lst [.ref sd0, .ref sd1]) = G11 at *
    clear s2 e10 S10 hsl
    refine nm ?_
    dsimp only [List.set]
    refine ⟨szOk rfl, fun m0 hm0 => ⟨szOk rfl, fun m1 hm1 => ⟨szOk rfl, fun tl htl => ?_⟩⟩⟩
    have AL := (((AL.alloc0 hm0 (.lst [])).alloc1 hm1 (.lst [])).alloco htl (.lst [.ref m0, .ref m1]))
    have s2 : Same G11 (upd (upd (upd G11 m0 (.lst [])) m1 (.lst [])) tl (.lst [.ref m0, .ref m1])) := ((same_new hm0).trans (same_new hm1)).trans (same_new htl)
    have em0 : (upd (upd (upd G11 m0 (.lst [])) m1 (.lst [])) tl (.lst [.ref m0, .ref m1])) m0 = some (.lst []) := same_new htl _ _ (same_new hm1 _ _ upd_same)
    have em1 : (upd (upd (upd G11 m0 (.lst [])) m1 (.lst [])) tl (.lst [.ref m0, .ref m1])) m1 = some (.lst []) := same_new htl _ _ upd_same
    have etl : (upd (upd (upd G11 m0 (.lst [])) m1 (.lst [])) tl (.lst [.ref m0, .ref m1])) tl = some (.lst [.ref m0, .ref m1]) := upd_same
    have e12 := s2 _ _ e11
    have efl := s2 _ _ efl
    have esl := s2 _ _ esl
    have S12 := S11.same s2
    have R0 := R0.same s2
    have R1 := R1.same s2
    have SS0 := SS0.same s2
    have SS1 := SS1.same s2
    generalize upd (upd (upd G11 m0 (.lst [])) m1 (.lst [])) tl (.lst [.ref m0, .ref m1]) = G12 at *
    clear s2 e11 S11 hm0 hm1 htl
    refine nm ?_
    dsimp only [List.set]
    obtain ⟨B, eB⟩ : ∃ B : Nat → FB, B = fun j => if j = 0 then ⟨⟨p0, c0, t0, r0⟩, sd0, ad0, m0⟩ else ⟨⟨p1, c1, t1, r1⟩, sd1, ad1, m1⟩ := ⟨_, rfl⟩
    obtain ⟨os, eos⟩ : ∃ os : List (Addr × HO), os = [(l, HO.lst (ns.map V.str)), (fl, HO.lst [.ref p0, .ref p1]), (sl, HO.lst [.ref sd0, .ref sd1]), (tl, HO.lst [.ref m0, .ref m1])] := ⟨_, rfl⟩
    have D : DR B ns d c os := by
      rw [eB, eos]
      exact Al.dr (B := fun j => if j = 0 then ⟨⟨p0, c0, t0, r0⟩, sd0, ad0, m0⟩ else ⟨⟨p1, c1, t1, r1⟩, sd1, ad1, m1⟩) AL
    have W0 : WR K C B ns d c os G12 0 := by
      refine ⟨S12, ?_, fun j hj => ?_⟩
      · rw [eos]
        intro y hy
        simp only [List.mem_cons, List.not_mem_nil, or_false] at hy
        rcases hy with rfl | rfl | rfl | rfl
        · exact e12
        · exact efl
        · exact esl
        · exact etl
      · rw [eB]
        rcases (by omega : j = 0 ∨ j = 1) with rfl | rfl
        · exact ⟨_, 0, [], _, ⟨R0, SS0, em0, (fun x hx => nomatch hx)⟩, Rv.ini hf, Nat.le_refl _, Nat.le_refl _⟩
        · exact ⟨_, 0, [], _, ⟨R1, SS1, em1, (fun x hx => nomatch hx)⟩, Rv.ini hf1, Nat.le_refl _, Nat.le_refl _⟩
    have oat : ∀ G : Hp, (∀ y ∈ os, G y.1 = some y.2) → G l = some (.lst (ns.map V.str)) ∧ G fl = some (HO.lst [.ref (B 0).A.p, .ref (B 1).A.p]) ∧ G sl = some (HO.lst [.ref (B 0).sd, .ref (B 1).sd]) ∧ G tl = some (HO.lst [.ref (B 0).mm, .ref (B 1).mm]) := by
      intro G o
      rw [eos] at o
      rw [eB]
      exact ⟨o (l, _) (by simp), o (fl, _) (by simp), o (sl, _) (by simp), o (tl, _) (by simp)⟩
    have two : ∀ (g : FB → Addr) j, j < 2 → ([V.ref (g (B 0)), V.ref (g (B 1))] : List V)[j]? = some (.ref (g (B j))) := fun g j hj => by
      rcases (by omega : j = 0 ∨ j = 1) with rfl | rfl <;> rfl
    clear eB eos S12 R0 R1 SS0 SS1 em0 em1 efl esl etl AL e12
    refine ⟨_, rfl, by decide, by decide, for_range (n := (45 : Int).toNat) (fun i σ G => ∃ (v9 v10 v11 v12 v13 v14 v15 v16 v17 : Option V), σ = [some (.ref a), some (.ref d), some (.ref tn), some (.int (xn : Nat)), some (.ref l), some (.str f), some (.ref fl), some (.ref sl), some (.ref tl), v9, v10, v11, v12, v13, v14, v15, v16, v17, none] ∧ WR K C B ns d c os G i)
      ⟨none, none, none, none, none, none, none, none, none, rfl, W0⟩ ?_ ?_⟩
    rotate_left
    · rintro σ G ⟨v9, v10, v11, v12, v13, v14, v15, v16, v17, rfl, W⟩
      exact kk G
    clear W0
    rintro i σ G hi ⟨v9, v10, v11, v12, v13, v14, v15, v16, v17, rfl, W⟩
    have hi : i < 45 := hi
    refine nm ?_
    dsimp only [List.set]
    refine ⟨_, rfl, d, c, 4, rfl, W.S, (by omega), (by omega), fun x1 G1 x1a x1b S1 kp1 => ⟨rfl, .inr ⟨_, rfl, ?_⟩⟩⟩
    have W1 := W.draw D S1 kp1
    obtain ⟨k, hk, hk2⟩ : ∃ k : Nat, (if decide (V.int x1 = V.int 0) = true then (1 : Int) else 0) = (k : Int) ∧ k < 2 := by
      by_cases e : decide (V.int x1 = V.int 0) = true
      · exact ⟨1, by rw [if_pos e]; rfl, by decide⟩
      · exact ⟨0, by rw [if_neg e]; rfl, by decide⟩
    refine nm ?_
    dsimp only [List.set]
    rw [hk]
    clear hk S1 kp1 W
    refine ⟨_, rfl, szOk rfl, fun q hq => ?_⟩
    have s2 := same_new (o := .lst [.int 0, .int 0, .int 1, .int 2, .int 2, .int 2, .int 2]) hq
    have eq2 : (upd G1 q (.lst [.int 0, .int 0, .int 1, .int 2, .int 2, .int 2, .int 2])) q = some (.lst [.int 0, .int 0, .int 1, .int 2, .int 2, .int 2, .int 2]) := upd_same
    have W2 := W1.same D s2
    generalize upd G1 q (.lst [.int 0, .int 0, .int 1, .int 2, .int 2, .int 2, .int 2]) = G2 at s2 eq2 W2 ⊢
    refine ⟨d, c, _, _, rfl, W2.S, .inl (.inl eq2), (fun z => nomatch z), (by show 7 ≤ 1000; decide), fun v G3 hv S3 kp3 => ?_⟩
    have W3 := W2.draw D S3 kp3
    obtain ⟨kd, rfl, hkd⟩ : ∃ z : Int, v = .int z ∧ (z = 0 ∨ z = 1 ∨ z = 2) := by
      simp only [List.mem_cons, List.not_mem_nil, or_false] at hv
      rcases hv with rfl | rfl | rfl | rfl | rfl | rfl | rfl
      · exact ⟨_, rfl, .inl rfl⟩
      · exact ⟨_, rfl, .inl rfl⟩
      · exact ⟨_, rfl, .inr (.inl rfl)⟩
      · exact ⟨_, rfl, .inr (.inr rfl)⟩
      · exact ⟨_, rfl, .inr (.inr rfl)⟩
      · exact ⟨_, rfl, .inr (.inr rfl)⟩
      · exact ⟨_, rfl, .inr (.inr rfl)⟩
    clear hv S3 kp3 W1 W2 s2 eq2 hq
    refine nm ?_
    dsimp only [List.set]
    obtain ⟨s, mx, ms, cc, P, RV, bm, bx⟩ := W3.J k hk2
    obtain ⟨o1, o2, o3, o4⟩ := oat G3 W3.o
    refine ⟨_, rfl, _, rfl, ⟨_, .inl (.inl o1)⟩, fun ho hho => ?_⟩
    refine lc_list (K := K) (a := l) (xs := ns.map V.str) (fun i G => Same G3 G ∧ ∃ hs : List Str, G ho = some (.lst (hs.map V.str)) ∧ hs.length ≤ i) ⟨same_new hho, [], upd_same, Nat.le_refl _⟩ (fun i G _ h => .inl (.inl (h.1 _ _ o1))) ?_ ?_
    · rintro i y G hi ⟨sm, hs, hA, hsl⟩
      obtain ⟨n, rfl, hn, hil, ht⟩ := getMap hi
      refine ⟨rfl, ?_⟩
      have Sg := P.S.same sm
      refine ⟨_, rfl, _, rfl, _, _, _, _, rfl, rfl, .inl (.inl (sm _ _ o3)), atI_nat (two (fun x => x.sd) k hk2), _, rfl, _, _, rfl, Sg.dg hn, _, _, _, _, rfl, rfl, .inl (.inl (Sg.l n hn)), rfl, rfl, _, rfl, ?_⟩
      by_cases z : s.st n = "holds"
      · refine ifY (congrArg V.str z) ?_
        refine ⟨_, rfl, _, hA, small1000 (by rw [List.length_map]; omega), fun b o e => ?_, hs ++ [n], by rw [upd_same, List.map_append]; rfl, by rw [List.length_append]; show hs.length + 1 ≤ i + 1; omega⟩
        rw [upd_ne (ne_of_none e hho)]
        exact sm _ _ e
      · exact ifN (fun w => z (V.str.inj w)) ⟨sm, hs, hA, by omega⟩
    rintro G4 ⟨sm4, hs, e4, hsl⟩
    rw [List.length_map] at hsl
    have W := W3.same D sm4
    have P := P.same29 sm4
    have o1 := sm4 _ _ o1
    clear W3 sm4 o2 o3 o4 hho
    refine nm ?_
    dsimp only [List.set]
    refine ⟨_, rfl, _, rfl, _, rfl, ho, ho, _, _, rfl, rfl, e4, e4, Nat.le_of_lt (small1000 (by simp only [List.length_append, List.length_map, List.length_cons, List.length_nil]; omega)), fun h1 hh1 => ?_⟩
    have s1 := same_new (o := .lst (hs.map V.str ++ hs.map V.str)) hh1
    have eh1 : (upd G4 h1 (.lst (hs.map V.str ++ hs.map V.str))) h1 = some (.lst (hs.map V.str ++ hs.map V.str)) := upd_same
    have o1 := s1 _ _ o1
    have e4 := s1 _ _ e4
    have W := W.same D s1
    have P := P.same29 s1
    generalize upd G4 h1 (.lst (hs.map V.str ++ hs.map V.str)) = G5 at s1 eh1 W P o1 e4 ⊢
    clear s1 hh1
    refine ⟨_, rfl, h1, ho, _, _, rfl, rfl, eh1, e4, Nat.le_of_lt (small1000 (by simp only [List.length_append, List.length_map, List.length_cons, List.length_nil]; omega)), fun h2 hh2 => ?_⟩
    have s2 := same_new (o := .lst ((hs.map V.str ++ hs.map V.str) ++ hs.map V.str)) hh2
    have eh2 : (upd G5 h2 (.lst ((hs.map V.str ++ hs.map V.str) ++ hs.map V.str))) h2 = some (.lst ((hs.map V.str ++ hs.map V.str) ++ hs.map V.str)) := upd_same
    have o1 := s2 _ _ o1
    have W := W.same D s2
    have P := P.same29 s2
    generalize upd G5 h2 (.lst ((hs.map V.str ++ hs.map V.str) ++ hs.map V.str)) = G6 at s2 eh2 W P o1 ⊢
    clear s2 hh2
    refine ⟨_, rfl, h2, l, _, _, rfl, rfl, eh2, o1, Nat.le_of_lt (small1000 (by simp only [List.length_append, List.length_map, List.length_cons, List.length_nil]; omega)), fun h3 hh3 => ?_⟩
    have s3 := same_new (o := .lst ((hs.map V.str ++ hs.map V.str ++ hs.map V.str) ++ ns.map V.str)) hh3
    have eh3 : (upd G6 h3 (.lst ((hs.map V.str ++ hs.map V.str ++ hs.map V.str) ++ ns.map V.str))) h3 = some (.lst ((hs.map V.str ++ hs.map V.str ++ hs.map V.str) ++ ns.map V.str)) := upd_same
    have o1 := s3 _ _ o1
    have W := W.same D s3
    have P := P.same29 s3
    generalize upd G6 h3 (.lst ((hs.map V.str ++ hs.map V.str ++ hs.map V.str) ++ ns.map V.str)) = G7 at s3 eh3 W P o1 ⊢
    clear s3 hh3
    refine ⟨szOk rfl, fun h4 hh4 => ?_⟩
    have s4 := same_new (o := .lst [V.str "NONE"]) hh4
    have eh4 : (upd G7 h4 (.lst [V.str "NONE"])) h4 = some (.lst [V.str "NONE"]) := upd_same
    have o1 := s4 _ _ o1
    have eh3 := s4 _ _ eh3
    have W := W.same D s4
    have P := P.same29 s4
    generalize upd G7 h4 (.lst [V.str "NONE"]) = G8 at s4 eh4 W P o1 eh3 ⊢
    clear s4 hh4
    refine ⟨h3, h4, _, _, rfl, rfl, eh3, eh4, Nat.le_of_lt (small1000 (by simp only [List.length_append, List.length_map, List.length_cons, List.length_nil]; omega)), fun h5 hh5 => ?_⟩
    have s5 := same_new (o := .lst ((hs.map V.str ++ hs.map V.str ++ hs.map V.str ++ ns.map V.str) ++ [V.str "NONE"])) hh5
    have eh5 : (upd G8 h5 (.lst ((hs.map V.str ++ hs.map V.str ++ hs.map V.str ++ ns.map V.str) ++ [V.str "NONE"]))) h5 = some (.lst ((hs.map V.str ++ hs.map V.str ++ hs.map V.str ++ ns.map V.str) ++ [V.str "NONE"])) := upd_same
    have o1 := s5 _ _ o1
    have W := W.same D s5
    have P := P.same29 s5
    generalize upd G8 h5 (.lst ((hs.map V.str ++ hs.map V.str ++ hs.map V.str ++ ns.map V.str) ++ [V.str "NONE"])) = G9 at s5 eh5 W P o1 ⊢
    clear s5 hh5
    refine ⟨d, c, _, _, rfl, W.S, .inl (.inl eh5), (by simp), by (simp only [List.length_append, List.length_map, List.length_cons, List.length_nil]; omega), fun v G10 hv S5 kp5 => ?_⟩
    have o1 := kp5.l W.S o1
    have P := P.draw29 D hk2 W.S kp5
    have W := W.draw D S5 kp5
    clear S5 kp5
    obtain ⟨b, rfl⟩ : ∃ b : Str, v = .str b := by
      simp only [List.mem_append, List.mem_map, List.mem_cons, List.not_mem_nil, or_false] at hv
      rcases hv with (((⟨b, _, rfl⟩ | ⟨b, _, rfl⟩) | ⟨b, _, rfl⟩) | ⟨b, _, rfl⟩) | rfl <;> exact ⟨_, rfl⟩
    clear hv eh1 eh2 eh3 eh4 eh5
    refine nm ?_
    dsimp only [List.set]
    refine ⟨_, rfl, _, rfl, _, rfl, l, l, _, _, rfl, rfl, o1, o1, Nat.le_of_lt (small1000 (by simp only [List.length_append, List.length_map, List.length_cons, List.length_nil]; omega)), fun h1 hh1 => ?_⟩
    have s1 := same_new (o := .lst (ns.map V.str ++ ns.map V.str)) hh1
    have eh1 : (upd G10 h1 (.lst (ns.map V.str ++ ns.map V.str))) h1 = some (.lst (ns.map V.str ++ ns.map V.str)) := upd_same
    have o1 := s1 _ _ o1
    have W := W.same D s1
    have P := P.same29 s1
    generalize upd G10 h1 (.lst (ns.map V.str ++ ns.map V.str)) = G11 at s1 eh1 W P o1 ⊢
    clear s1 hh1
    refine ⟨szOk rfl, fun h2 hh2 => ?_⟩
    have s2 := same_new (o := .lst [V.str "NONE"]) hh2
    have eh2 : (upd G11 h2 (.lst [V.str "NONE"])) h2 = some (.lst [V.str "NONE"]) := upd_same
    have o1 := s2 _ _ o1
    have eh1 := s2 _ _ eh1
    have W := W.same D s2
    have P := P.same29 s2
    generalize upd G11 h2 (.lst [V.str "NONE"]) = G12 at s2 eh2 W P o1 eh1 ⊢
    clear s2 hh2
    refine ⟨h1, h2, _, _, rfl, rfl, eh1, eh2, Nat.le_of_lt (small1000 (by simp only [List.length_append, List.length_map, List.length_cons, List.length_nil]; omega)), fun h3 hh3 => ?_⟩
    have s3 := same_new (o := .lst ((ns.map V.str ++ ns.map V.str) ++ [V.str "NONE"])) hh3
    have eh3 : (upd G12 h3 (.lst ((ns.map V.str ++ ns.map V.str) ++ [V.str "NONE"]))) h3 = some (.lst ((ns.map V.str ++ ns.map V.str) ++ [V.str "NONE"])) := upd_same
    have o1 := s3 _ _ o1
    have W := W.same D s3
    have P := P.same29 s3
    generalize upd G12 h3 (.lst ((ns.map V.str ++ ns.map V.str) ++ [V.str "NONE"])) = G13 at s3 eh3 W P o1 ⊢
    clear s3 hh3
    refine ⟨d, c, _, _, rfl, W.S, .inl (.inl eh3), (by simp), by (simp only [List.length_append, List.length_map, List.length_cons, List.length_nil]; omega), fun v G14 hv S5 kp5 => ?_⟩
    have o1 := kp5.l W.S o1
    have P := P.draw29 D hk2 W.S kp5
    have W := W.draw D S5 kp5
    clear S5 kp5
    obtain ⟨t, rfl⟩ : ∃ b : Str, v = .str b := by
      simp only [List.mem_append, List.mem_map, List.mem_cons, List.not_mem_nil, or_false] at hv
      rcases hv with (⟨b, _, rfl⟩ | ⟨b, _, rfl⟩) | rfl <;> exact ⟨_, rfl⟩
    clear hv eh1 eh2 eh3 e4
    refine nm ?_
    dsimp only [List.set]
    refine cut (t := tIfS _ _ _) (fun σ' G' => ∃ (x y v : V) (v16 v17 : Option V) (op : Op) (G0 : Hp) (s : RS) (mx : Nat) (ms : List (Addr × Mg)) (cc : Str), σ' = [some (.ref a), some (.ref d), some (.ref tn), some (.int (xn : Nat)), some (.ref l), some (.str f), some (.ref fl), some (.ref sl), some (.ref tl), some (.int (0 + (i : Int))), some (.int (k : Nat)), some (.int kd), some (.ref ho), some x, some y, some v, v16, v17, none] ∧ WR K C B ns d c os G0 i ∧ PR C G0 (B k) ns s mx ms ∧ Rv ns s (ms.map fun x => x.2) cc ∧ ms.length ≤ i ∧ mx ≤ i ∧
      (∀ q g, op = .hr q g → (q, g) ∈ ms) ∧ OpAt G' kd x y op ∧ AnAt G' v (opA ns s op).2 ∧ SsAt G' (B k).sd (B k).ad ns (opA ns s op).1 ∧ Oth (ns.map (B k).ad) G0 G' ∧ TK G0 G') ?_ (fun rest => ?_)
    rotate_left
    · rcases hkd with rfl | rfl | rfl
      · refine ⟨_, rfl, rfl, _, rfl, eqY rfl ?_⟩
        obtain ⟨_, _, o3, _⟩ := oat G14 W.o
        refine ⟨_, rfl, _, rfl, _, _, _, _, rfl, rfl, .inl (.inl o3), atI_nat (two (fun x => x.sd) k hk2), _, rfl, _, rfl, (B k).sd, (B k).ad, ns, s, b, t, rfl, P.S, fun v G' V1 S1 O1 T1 => ?_⟩
        exact rest _ _ ⟨_, _, v, _, _, .gv b t, G14, s, mx, ms, cc, rfl, W, P, RV, bm, bx, (fun q g z => nomatch z), ⟨rfl, rfl, rfl⟩, V1, S1, O1, T1⟩
      · refine ⟨_, rfl, rfl, _, rfl, eqN (by decide) ?_⟩
        refine ⟨_, rfl, rfl, _, rfl, eqY rfl ?_⟩
        refine ⟨_, rfl, _, rfl, szOk rfl, fun h1 hh1 => ?_⟩
        have s1 := same_new (o := .lst [V.str "NONE"]) hh1
        have eh1 : (upd G14 h1 (.lst [V.str "NONE"])) h1 = some (.lst [V.str "NONE"]) := upd_same
        have o1 := s1 _ _ o1
        have W := W.same D s1
        have P := P.same29 s1
        generalize upd G14 h1 (.lst [V.str "NONE"]) = G15 at s1 eh1 W P o1 ⊢
        clear s1 hh1
        refine ⟨l, h1, _, _, rfl, rfl, o1, eh1, Nat.le_of_lt (small1000 (by simp only [List.length_append, List.length_map, List.length_cons, List.length_nil]; omega)), fun h2 hh2 => ?_⟩
        have s2 := same_new (o := .lst (ns.map V.str ++ [V.str "NONE"])) hh2
        have eh2 : (upd G15 h2 (.lst (ns.map V.str ++ [V.str "NONE"]))) h2 = some (.lst (ns.map V.str ++ [V.str "NONE"])) := upd_same
        have o1 := s2 _ _ o1
        have W := W.same D s2
        have P := P.same29 s2
        generalize upd G15 h2 (.lst (ns.map V.str ++ [V.str "NONE"])) = G16 at s2 eh2 W P o1 ⊢
        clear s2 hh2
        refine ⟨d, c, _, _, rfl, W.S, .inl (.inl eh2), (by simp), by (simp only [List.length_append, List.length_map, List.length_cons, List.length_nil]; omega), fun v G17 hv S5 kp5 => ?_⟩
        have o1 := kp5.l W.S o1
        have P := P.draw29 D hk2 W.S kp5
        have W := W.draw D S5 kp5
        clear S5 kp5
        obtain ⟨b1, rfl⟩ : ∃ b : Str, v = .str b := by
          simp only [List.mem_append, List.mem_map, List.mem_cons, List.not_mem_nil, or_false] at hv
          rcases hv with ⟨b, _, rfl⟩ | rfl <;> exact ⟨_, rfl⟩
        clear hv eh1 eh2
        refine nm ?_
        dsimp only [List.set]
        obtain ⟨_, _, o3, _⟩ := oat G17 W.o
        refine ⟨_, rfl, _, rfl, _, _, _, _, rfl, rfl, .inl (.inl o3), atI_nat (two (fun x => x.sd) k hk2), _, rfl, (B k).sd, (B k).ad, ns, s, b1, rfl, P.S, fun v G' V1 S1 O1 T1 => ?_⟩
        exact rest _ _ ⟨_, _, v, _, _, .rp b1, G17, s, mx, ms, cc, rfl, W, P, RV, bm, bx, (fun q g z => nomatch z), ⟨rfl, rfl⟩, V1, S1, O1, T1⟩
      · refine ⟨_, rfl, rfl, _, rfl, eqN (by decide) ?_⟩
        refine ⟨_, rfl, rfl, _, rfl, eqN (by decide) ?_⟩
        obtain ⟨_, _, _, o4⟩ := oat G14 W.o
        refine ⟨_, rfl, _, rfl, _, _, _, _, rfl, rfl, .inl (.inl o4), atI_nat (two (fun x => x.mm) k hk2), _, _, rfl, .inl (.inl (.inl P.M)), rfl, _, rfl, ?_⟩
        rw [List.length_map]
        by_cases hz : ms.length = 0
        · refine eqY (by omega) ?_
          exact ⟨_, _, _, _, _, _, _, _, _, rfl, W.mono (Nat.le_succ _)⟩
        refine eqN (by omega) ?_
        refine nxQ ?_
        dsimp only
        refine ⟨_, rfl, _, rfl, _, _, _, _, rfl, rfl, .inl (.inl o4), atI_nat (two (fun x => x.mm) k hk2), _, _, rfl, .inl (.inl (.inl P.M)), ?_⟩
        rw [List.length_map]
        refine nm ?_
        dsimp only [List.set]
        refine ⟨_, rfl, _, rfl, _, _, _, _, rfl, rfl, .inl (.inl o4), atI_nat (two (fun x => x.mm) k hk2), _, rfl, _, _, rfl, rfl, _, rfl, _, rfl, _, rfl, szOk rfl, fun q hq => ?_⟩
        have s1 := same_new (o := .lst [.int 1, .int 2, .int 6, .int 60]) hq
        have eq1 : (upd G14 q (.lst [.int 1, .int 2, .int 6, .int 60])) q = some (.lst [.int 1, .int 2, .int 6, .int 60]) := upd_same
        have W := W.same D s1
        have P := P.same29 s1
        generalize upd G14 q (.lst [.int 1, .int 2, .int 6, .int 60]) = G15 at s1 eq1 W P ⊢
        refine ⟨d, c, _, _, rfl, W.S, .inl (.inl eq1), (fun z => nomatch z), (by show 4 ≤ 1000; decide), fun v G16 hv S5 kp5 => ?_⟩
        obtain ⟨pk, rfl, pk1⟩ : ∃ z : Int, v = .int z ∧ 1 ≤ z := by
          simp only [List.mem_cons, List.not_mem_nil, or_false] at hv
          rcases hv with rfl | rfl | rfl | rfl <;> exact ⟨_, rfl, by decide⟩
        have P := P.draw29 D hk2 W.S kp5
        have W := W.draw D S5 kp5
        clear hv S5 kp5 s1 eq1 hq
        obtain ⟨bd, ebd, bd1, bd2⟩ : ∃ z : Int, (if pk < (ms.length : Int) then pk else (ms.length : Int)) = z ∧ 1 ≤ z ∧ z ≤ (ms.length : Int) := ⟨_, rfl, by split <;> omega, by split <;> omega⟩
        refine ⟨_, _, rfl, ?_⟩
        rw [ebd]
        refine ⟨d, c, bd, rfl, W.S, (by omega), (by omega), fun z G17 z0 z1 S5 kp5 => ?_⟩
        have P := P.draw29 D hk2 W.S kp5
        have W := W.draw D S5 kp5
        obtain ⟨jn, ejn, hjn⟩ : ∃ jn : Nat, (ms.length : Int) - 1 - z = (jn : Int) ∧ jn < ms.length := ⟨((ms.length : Int) - 1 - z).toNat, by omega, by omega⟩
        obtain ⟨qm, gm, hmj⟩ : ∃ (qm : Addr) (gm : Mg), ms[jn] = (qm, gm) := ⟨_, _, rfl⟩
        have hmem : (qm, gm) ∈ ms := by rw [← hmj]; exact List.getElem_mem hjn
        have hat : atI (ms.map fun x => V.ref x.1) ((ms.length : Int) - 1 - z) = some (.ref qm) := by
          rw [ejn]
          exact atI_nat (by rw [List.getElem?_map, List.getElem?_eq_getElem hjn, hmj]; rfl)
        refine ⟨_, _, rfl, rfl, _, _, _, _, rfl, rfl, .inl (.inl P.M), hat, ?_⟩
        clear S5 kp5
        refine nm ?_
        dsimp only [List.set]
        obtain ⟨_, _, o3, _⟩ := oat G17 W.o
        have hgk : gm.k = "give" ∨ gm.k = "took" := by
          rcases (RV.mo gm (List.mem_map.mpr ⟨_, hmem, rfl⟩)).2 with ⟨w, _⟩ | ⟨w, _⟩
          · exact .inl w
          · exact .inr w
        refine ⟨_, rfl, _, rfl, _, _, _, _, rfl, rfl, .inl (.inl o3), atI_nat (two (fun x => x.sd) k hk2), _, rfl, (B k).sd, (B k).ad, ns, s, qm, gm.k, gm.n, gm.a, gm.b, rfl, P.S, P.mt _ hmem, fun v G' V1 S1 O1 T1 => ?_⟩
        exact rest _ _ ⟨_, _, v, _, _, .hr qm gm, G17, s, mx, ms, cc, rfl, W, P, RV, bm, bx, (fun q g z => by cases z; exact hmem), ⟨rfl, rfl, T1 _ _ (P.mt _ hmem), hgk⟩, V1, S1, O1, T1⟩
    clear P W RV bm bx o1 cc
    rintro σ' G' ⟨x, y, v, v16, v17, op, G0, s, mx, ms, cc, rfl, W, P, RV, bm, bx, hop, OA, V1, S1, O1, T1⟩
    have nD := D.nd k hk2
    have O1' : Oth ((B k).l ns) G0 G' := O1.sub fun z hz => by unfold FB.l; exact List.mem_append_left _ (List.mem_append_right _ (List.mem_cons_of_mem _ hz))
    have osO : ∀ G : Hp, Oth ((B k).l ns) G0 G → ∀ y ∈ os, G y.1 = some y.2 := fun G O y hy => O _ _ (W.o y hy) fun w => (D.dc k hk2 _ w).2.2 y hy rfl
    obtain ⟨_, o2, _, _⟩ := oat G' (osO _ O1')
    have R1 := P.mid nD O1
    refine ⟨_, rfl, _, rfl, _, _, _, _, rfl, rfl, .inl (.inl o2), atI_nat (two (fun x => x.A.p) k hk2), _, rfl, _, rfl, _, rfl, (B k).A, mx, ns, s, op, kd, x, y, rfl, R1, (by omega), OA, fun v2 G2 V2 R2 O2 T2 => ?_⟩
    refine nm ?_
    dsimp only [List.set]
    obtain ⟨⟨c', RV'⟩, ank⟩ := RV.op hop
    obtain ⟨P2, O02⟩ := P.next nD S1 O1 T1 R2 O2 T2
    have V12 := V1.tk T2
    have T02 := T1.trans T2
    refine ⟨_, rfl, _, rfl, _, _, V2.dp, V12.dp, anD_sh ok ank, anD_sh ok ank, _, rfl, eqvN (anD_can ok ank) ?_⟩
    refine nxQ ?_
    dsimp only
    clear OA V1 S1 O1 T1 O1' R1 R2 O2 T2 V2 o2
    refine cut (t := tIfS _ _ _) (fun σ' G' => σ' = [some (.ref a), some (.ref d), some (.ref tn), some (.int (xn : Nat)), some (.ref l), some (.str f), some (.ref fl), some (.ref sl), some (.ref tl), some (.int (0 + (i : Int))), some (.int (k : Nat)), some (.int kd), some (.ref ho), some x, some y, some v, v16, some v2, none] ∧ WR K C B ns d c os G' (i + 1)) ?_ (fun rest => ?_)
    rotate_left
    · cases e : (opA ns s op).2 with
      | er ce =>
        rw [e] at V12 RV'
        obtain ⟨q, rfl, hq⟩ := V12
        refine ⟨_, rfl, rfl, _, rfl, ifNotN (fun z => nomatch z) ?_⟩
        refine ⟨_, rfl, _, _, _, _, rfl, rfl, .inl (.inl hq), rfl, rfl, _, rfl, ifNotY rfl ?_⟩
        exact rest _ _ ⟨rfl, W.step D hk2 O02 T02 (Nat.le_succ _) ⟨_, _, ms, c', P2, by have z := RV'; rw [show (An.er ce).l = [] from rfl, List.append_nil] at z; exact z, by omega, by omega⟩⟩
      | no =>
        rw [e] at V12 RV'
        obtain rfl : v = .non := V12
        refine ⟨_, rfl, rfl, _, rfl, ifNotY rfl ?_⟩
        exact rest _ _ ⟨rfl, W.step D hk2 O02 T02 (Nat.le_succ _) ⟨_, _, ms, c', P2, by have z := RV'; rw [show An.no.l = [] from rfl, List.append_nil] at z; exact z, by omega, by omega⟩⟩
      | ms mk mnn ma mb =>
        rw [e] at V12 RV' ank
        obtain ⟨q, rfl, hq⟩ := V12
        have hne : mk ≠ "error" := by
          rcases ank.2.2 with w | w <;> rw [w] <;> decide +kernel
        refine ⟨_, rfl, rfl, _, rfl, ifNotN (fun z => nomatch z) ?_⟩
        refine ⟨_, rfl, _, _, _, _, rfl, rfl, .inl (.inl hq), rfl, rfl, _, rfl, ifNotN (fun z => hne (V.str.inj z)) ?_⟩
        obtain ⟨_, _, _, o4⟩ := oat G2 (osO _ O02)
        refine ⟨_, rfl, _, rfl, _, _, _, _, rfl, rfl, .inl (.inl o4), atI_nat (two (fun x => x.mm) k hk2), .inl ⟨rfl, _, .inl (.inl P2.M)⟩, _, rfl, _, _, _, rfl, rfl, P2.M, small1000 (by rw [List.length_map]; omega), ?_⟩
        obtain ⟨P3, O3, T3⟩ := P2.put nD (g := ⟨mk, mnn, ma, mb⟩) hq
        exact rest _ _ ⟨rfl, W.step D hk2 (O02.trans O3) (T02.trans T3) (Nat.le_succ _) ⟨_, _, _, c', P3, by rw [List.map_append]; exact RV', by rw [List.length_append]; show ms.length + 1 ≤ i + 1; omega, by omega⟩⟩
    rintro σ' G3 ⟨rfl, W3⟩
    clear V12 T02 P2 O02 osO W P RV RV' ank bm bx hop
    obtain ⟨p1, p2, p3, _⟩ := oat G3 W3.o
    obtain ⟨s0, mx0, ms0, cc0, P0, RV0, _, _⟩ := W3.J 0 (by decide)
    refine ⟨_, rfl, _, _, _, _, rfl, rfl, .inl (.inl p2), rfl, _, rfl, _, _, _, _, rfl, rfl, .inl (.inl p3), rfl, _, rfl, (B 0).A, mx0, ns, s0, (B 0).sd, l, (B 0).ad, _, cc0, rfl, P0.R, P0.S, p1, nd, ok, nn, RV0, fun G4 s4 => ?_⟩
    have W4 := W3.same D s4
    obtain ⟨p1, p2, p3, _⟩ := oat G4 W4.o
    obtain ⟨s1, mx1, ms1, cc1, P1, RV1, _, _⟩ := W4.J 1 (by decide)
    refine ⟨_, rfl, iteF ?_⟩
    refine ⟨_, rfl, _, _, _, _, rfl, rfl, .inl (.inl p2), rfl, _, rfl, _, _, _, _, rfl, rfl, .inl (.inl p3), rfl, _, rfl, (B 1).A, mx1, ns, s1, (B 1).sd, l, (B 1).ad, _, cc1, rfl, P1.R, P1.S, p1, nd, ok, nn, RV1, fun G5 s5 => ?_⟩
    refine ⟨_, rfl, iteF ?_⟩
    exact ⟨_, _, _, _, _, _, _, _, _, rfl, W4.same D s5⟩
end
end Sk

set_option Elab.async false
set_option linter.all false
set_option maxRecDepth 100000
set_option maxHeartbeats 4000000
namespace Sk
open PySem PySem.Spec PyProof.Rows L2
/-! the end -/
theorem all_mk {l : PySem.W.OpenLaw} {w : World} {K : PySem.W.Frag} {h : Heap} {mg : Str → Option Value} {fa C f1 f2 f3 f4 f5 f6 f7 f8 f9 f10 f11 f12 f13 f14 f15 f16 f17 f18 f19 f20 f21  : Addr} (X : K.In h) (G : h.Ns mainGlobals mg) (hfa : mg "law" = some (.ref fa))
    {od1 an1 od2 an2 od3 an3 od4 an4 od5 an5 od6 an6 od7 an7 od8 an8 od9 an9 od10 an10 od11 an11 od12 an12 od13 an13 od14 an14 od15 an15 od16 an16 od17 an17 od18 an18 od19 an19 od20 an20 od21 an21 : Option Addr} {sl1 sl2 sl3 sl4 sl5 sl6 sl7 sl8 sl9 sl10 sl11 sl12 sl13 sl14 sl15 sl16 sl17 sl18 sl19 sl20 sl21 : Array (Option Value)} {oc1 kV1 dc1 pm1 ct1 cd1 oc2 kV2 dc2 pm2 ct2 cd2 oc3 kV3 dc3 pm3 ct3 cd3 oc4 kV4 dc4 pm4 ct4 cd4 oc5 kV5 dc5 pm5 ct5 cd5 oc6 kV6 dc6 pm6 ct6 cd6 oc7 kV7 dc7 pm7 ct7 cd7 oc8 kV8 dc8 pm8 ct8 cd8 oc9 kV9 dc9 pm9 ct9 cd9 oc10 kV10 dc10 pm10 ct10 cd10 oc11 kV11 dc11 pm11 ct11 cd11 oc12 kV12 dc12 pm12 ct12 cd12 oc13 kV13 dc13 pm13 ct13 cd13 oc14 kV14 dc14 pm14 ct14 cd14 oc15 kV15 dc15 pm15 ct15 cd15 oc16 kV16 dc16 pm16 ct16 cd16 oc17 kV17 dc17 pm17 ct17 cd17 oc18 kV18 dc18 pm18 ct18 cd18 oc19 kV19 dc19 pm19 ct19 cd19 oc20 kV20 dc20 pm20 ct20 cd20 oc21 kV21 dc21 pm21 ct21 cd21 : Value}
    {CE fE0 ccE0 cdE0 NE0 : Addr} {ocE0 kVE0 dcE0 pmE0 ctE0 clE0 cclE0 : Value} {odE0 anE0 cldE0 cddE0 ddE0 : Option Addr} {slE0 cslE0 ccsE0 : Array (Option Value)} {vsE0 : Array Value} {fileE0 nmE0 qE0 : Str} {tfE0 : Tok} {bsE0 bmE0 subE0 : List Value} {snE0 : List Str} {abE0 : Bool} {colE0 : Option Bool} {k0E0 k1E0 k2E0 k3E0 k5E0 : Option Value}
    (aC : PySem.W.nsIn K mainGlobals "Responsibility" = some (some (.ref C))) (pg : PySem.W.plainGet K C Str.empty = true) (hd : PySem.W.hasDictIn K C = true) (po : PySem.W.plainOver K C = true) (sa : PySem.W.findIn K (.ref C) "__setattr__" = some (some (.builtin "object.__setattr__"))) (mk : PySem.W.makesIn K C = true) (kc : PySem.W.keepIn K (.ref C) = true)
    (nA1 : PySem.W.findIn K (.ref C) "_counts" = some none) (nA2 : PySem.W.findIn K (.ref C) "_states" = some none) (nA3 : PySem.W.findIn K (.ref C) "_receivers" = some none)
    (a1 : PySem.W.nsIn K mainGlobals "_law_start" = some (some (.ref f1))) (l1 : K.lookup f1 = some ⟨oc1, od1, .func (PySem.W.fnOf "_law_start" "_law_start" (defArgs s_law_start) (defBody s_law_start) (defScope s_law_start) .none kV1 dc1 pm1 an1 cd1 ct1), sl1⟩) (c1 : PySem.W.codeIn K cd1 "_law_start" = true) (k1 : PySem.W.keepIn K (.ref f1) = true)
    (a2 : PySem.W.nsIn K mainGlobals "_law_draw" = some (some (.ref f2))) (l2 : K.lookup f2 = some ⟨oc2, od2, .func (PySem.W.fnOf "_law_draw" "_law_draw" (defArgs s_law_draw) (defBody s_law_draw) (defScope s_law_draw) .none kV2 dc2 pm2 an2 cd2 ct2), sl2⟩) (c2 : PySem.W.codeIn K cd2 "_law_draw" = true) (k2 : PySem.W.keepIn K (.ref f2) = true)
    (a3 : PySem.W.nsIn K mainGlobals "_law_pick" = some (some (.ref f3))) (l3 : K.lookup f3 = some ⟨oc3, od3, .func (PySem.W.fnOf "_law_pick" "_law_pick" (defArgs s_law_pick) (defBody s_law_pick) (defScope s_law_pick) .none kV3 dc3 pm3 an3 cd3 ct3), sl3⟩) (c3 : PySem.W.codeIn K cd3 "_law_pick" = true) (k3 : PySem.W.keepIn K (.ref f3) = true)
    (a4 : PySem.W.findIn K (.ref C) "_check_sectors" = some (some (.ref f4))) (i4 : PySem.W.isFn K (.ref f4) = true) (l4 : K.lookup f4 = some ⟨oc4, od4, .func (PySem.W.fnOf "_check_sectors" "Responsibility._check_sectors" (defArgs s_Responsibility__check_sectors) (defBody s_Responsibility__check_sectors) (defScope s_Responsibility__check_sectors) .none kV4 dc4 pm4 an4 cd4 ct4), sl4⟩) (c4 : PySem.W.codeIn K cd4 "Responsibility._check_sectors" = true) (k4 : PySem.W.keepIn K (.ref f4) = true)
    (a5 : PySem.W.findIn K (.ref C) "_message" = some (some (.ref f5))) (i5 : PySem.W.isFn K (.ref f5) = true) (l5 : K.lookup f5 = some ⟨oc5, od5, .func (PySem.W.fnOf "_message" "Responsibility._message" (defArgs s_Responsibility__message) (defBody s_Responsibility__message) (defScope s_Responsibility__message) .none kV5 dc5 pm5 an5 cd5 ct5), sl5⟩) (c5 : PySem.W.codeIn K cd5 "Responsibility._message" = true) (k5 : PySem.W.keepIn K (.ref f5) = true)
    (a6 : PySem.W.findIn K (.ref C) "give" = some (some (.ref f6))) (i6 : PySem.W.isFn K (.ref f6) = true) (l6 : K.lookup f6 = some ⟨oc6, od6, .func (PySem.W.fnOf "give" "Responsibility.give" (defArgs s_Responsibility_give) (defBody s_Responsibility_give) (defScope s_Responsibility_give) .none kV6 dc6 pm6 an6 cd6 ct6), sl6⟩) (c6 : PySem.W.codeIn K cd6 "Responsibility.give" = true) (k6 : PySem.W.keepIn K (.ref f6) = true)
    (a7 : PySem.W.findIn K (.ref C) "repeat" = some (some (.ref f7))) (i7 : PySem.W.isFn K (.ref f7) = true) (l7 : K.lookup f7 = some ⟨oc7, od7, .func (PySem.W.fnOf "repeat" "Responsibility.repeat" (defArgs s_Responsibility_repeat) (defBody s_Responsibility_repeat) (defScope s_Responsibility_repeat) .none kV7 dc7 pm7 an7 cd7 ct7), sl7⟩) (c7 : PySem.W.codeIn K cd7 "Responsibility.repeat" = true) (k7 : PySem.W.keepIn K (.ref f7) = true)
    (a8 : PySem.W.findIn K (.ref C) "_hear_give" = some (some (.ref f8))) (i8 : PySem.W.isFn K (.ref f8) = true) (l8 : K.lookup f8 = some ⟨oc8, od8, .func (PySem.W.fnOf "_hear_give" "Responsibility._hear_give" (defArgs s_Responsibility__hear_give) (defBody s_Responsibility__hear_give) (defScope s_Responsibility__hear_give) .none kV8 dc8 pm8 an8 cd8 ct8), sl8⟩) (c8 : PySem.W.codeIn K cd8 "Responsibility._hear_give" = true) (k8 : PySem.W.keepIn K (.ref f8) = true)
    (a9 : PySem.W.findIn K (.ref C) "hear" = some (some (.ref f9))) (i9 : PySem.W.isFn K (.ref f9) = true) (l9 : K.lookup f9 = some ⟨oc9, od9, .func (PySem.W.fnOf "hear" "Responsibility.hear" (defArgs s_Responsibility_hear) (defBody s_Responsibility_hear) (defScope s_Responsibility_hear) .none kV9 dc9 pm9 an9 cd9 ct9), sl9⟩) (c9 : PySem.W.codeIn K cd9 "Responsibility.hear" = true) (k9 : PySem.W.keepIn K (.ref f9) = true)
    (a10 : PySem.W.findIn K (.ref C) "acts" = some (some (.ref f10))) (i10 : PySem.W.isFn K (.ref f10) = true) (l10 : K.lookup f10 = some ⟨oc10, od10, .func (PySem.W.fnOf "acts" "Responsibility.acts" (defArgs s_Responsibility_acts) (defBody s_Responsibility_acts) (defScope s_Responsibility_acts) .none kV10 dc10 pm10 an10 cd10 ct10), sl10⟩) (c10 : PySem.W.codeIn K cd10 "Responsibility.acts" = true) (k10 : PySem.W.keepIn K (.ref f10) = true)
    (a11 : PySem.W.findIn K (.ref C) "_rank" = some (some (.ref f11))) (i11 : PySem.W.isFn K (.ref f11) = true) (l11 : K.lookup f11 = some ⟨oc11, od11, .func (PySem.W.fnOf "_rank" "Responsibility._rank" (defArgs s_Responsibility__rank) (defBody s_Responsibility__rank) (defScope s_Responsibility__rank) .none kV11 dc11 pm11 an11 cd11 ct11), sl11⟩) (c11 : PySem.W.codeIn K cd11 "Responsibility._rank" = true) (k11 : PySem.W.keepIn K (.ref f11) = true)
    (a12 : PySem.W.findIn K (.ref C) "responsible" = some (some (.ref f12))) (i12 : PySem.W.isFn K (.ref f12) = true) (l12 : K.lookup f12 = some ⟨oc12, od12, .func (PySem.W.fnOf "responsible" "Responsibility.responsible" (defArgs s_Responsibility_responsible) (defBody s_Responsibility_responsible) (defScope s_Responsibility_responsible) .none kV12 dc12 pm12 an12 cd12 ct12), sl12⟩) (c12 : PySem.W.codeIn K cd12 "Responsibility.responsible" = true) (k12 : PySem.W.keepIn K (.ref f12) = true)
    (a13 : PySem.W.findIn K (.ref C) "__init__" = some (some (.ref f13))) (i13 : PySem.W.isFn K (.ref f13) = true) (l13 : K.lookup f13 = some ⟨oc13, od13, .func (PySem.W.fnOf "__init__" "Responsibility.__init__" (defArgs s_Responsibility___init__) (defBody s_Responsibility___init__) (defScope s_Responsibility___init__) .none kV13 dc13 pm13 an13 cd13 ct13), sl13⟩) (c13 : PySem.W.codeIn K cd13 "Responsibility.__init__" = true) (k13 : PySem.W.keepIn K (.ref f13) = true)
    (a14 : PySem.W.nsIn K mainGlobals "_law_sides" = some (some (.ref f14))) (l14 : K.lookup f14 = some ⟨oc14, od14, .func (PySem.W.fnOf "_law_sides" "_law_sides" (defArgs s_law_sides) (defBody s_law_sides) (defScope s_law_sides) .none kV14 dc14 pm14 an14 cd14 ct14), sl14⟩) (c14 : PySem.W.codeIn K cd14 "_law_sides" = true) (k14 : PySem.W.keepIn K (.ref f14) = true)
    (a15 : PySem.W.nsIn K mainGlobals "_law_give" = some (some (.ref f15))) (l15 : K.lookup f15 = some ⟨oc15, od15, .func (PySem.W.fnOf "_law_give" "_law_give" (defArgs s_law_give) (defBody s_law_give) (defScope s_law_give) .none kV15 dc15 pm15 an15 cd15 ct15), sl15⟩) (c15 : PySem.W.codeIn K cd15 "_law_give" = true) (k15 : PySem.W.keepIn K (.ref f15) = true)
    (a16 : PySem.W.nsIn K mainGlobals "_law_repeat" = some (some (.ref f16))) (l16 : K.lookup f16 = some ⟨oc16, od16, .func (PySem.W.fnOf "_law_repeat" "_law_repeat" (defArgs s_law_repeat) (defBody s_law_repeat) (defScope s_law_repeat) .none kV16 dc16 pm16 an16 cd16 ct16), sl16⟩) (c16 : PySem.W.codeIn K cd16 "_law_repeat" = true) (k16 : PySem.W.keepIn K (.ref f16) = true)
    (a17 : PySem.W.nsIn K mainGlobals "_law_hear" = some (some (.ref f17))) (l17 : K.lookup f17 = some ⟨oc17, od17, .func (PySem.W.fnOf "_law_hear" "_law_hear" (defArgs s_law_hear) (defBody s_law_hear) (defScope s_law_hear) .none kV17 dc17 pm17 an17 cd17 ct17), sl17⟩) (c17 : PySem.W.codeIn K cd17 "_law_hear" = true) (k17 : PySem.W.keepIn K (.ref f17) = true)
    (a18 : PySem.W.nsIn K mainGlobals "_law_asked" = some (some (.ref f18))) (l18 : K.lookup f18 = some ⟨oc18, od18, .func (PySem.W.fnOf "_law_asked" "_law_asked" (defArgs s_law_asked) (defBody s_law_asked) (defScope s_law_asked) .none kV18 dc18 pm18 an18 cd18 ct18), sl18⟩) (c18 : PySem.W.codeIn K cd18 "_law_asked" = true) (k18 : PySem.W.keepIn K (.ref f18) = true)
    (a19 : PySem.W.nsIn K mainGlobals "_law_is" = some (some (.ref f19))) (l19 : K.lookup f19 = some ⟨oc19, od19, .func (PySem.W.fnOf "_law_is" "_law_is" (defArgs s_law_is) (defBody s_law_is) (defScope s_law_is) .none kV19 dc19 pm19 an19 cd19 ct19), sl19⟩) (c19 : PySem.W.codeIn K cd19 "_law_is" = true) (k19 : PySem.W.keepIn K (.ref f19) = true)
    (a20 : PySem.W.nsIn K mainGlobals "_law_right" = some (some (.ref f20))) (l20 : K.lookup f20 = some ⟨oc20, od20, .func (PySem.W.fnOf "_law_right" "_law_right" (defArgs s_law_right) (defBody s_law_right) (defScope s_law_right) .none kV20 dc20 pm20 an20 cd20 ct20), sl20⟩) (c20 : PySem.W.codeIn K cd20 "_law_right" = true) (k20 : PySem.W.keepIn K (.ref f20) = true)
    (a21 : PySem.W.nsIn K mainGlobals "law" = some (some (.ref f21))) (l21 : K.lookup f21 = some ⟨oc21, od21, .func (PySem.W.fnOf "law" "law" (defArgs s_law) (defBody s_law) (defScope s_law) .none kV21 dc21 pm21 an21 cd21 ct21), sl21⟩) (c21 : PySem.W.codeIn K cd21 "law" = true) (k21 : PySem.W.keepIn K (.ref f21) = true)
    (aE0 : PySem.W.nsIn K mainGlobals "HandoverError" = some (some (.ref CE))) (iE0 : PySem.W.findIn K (.ref CE) "__init__" = some (some (.ref fE0))) (tE0 : PySem.W.typeIn K (.ref fE0) = some (.type "function"))
    (lE0 : K.lookup fE0 = some ⟨ocE0, odE0, .func (PySem.W.ksFn "__init__" "HandoverError.__init__" (defArgs s_HandoverError___init__) (defBody s_HandoverError___init__) (defScope s_HandoverError___init__) .none kVE0 dcE0 pmE0 anE0 (.ref cdE0) ctE0 ccE0), slE0⟩) (cE0 : PySem.W.codeIn K (.ref cdE0) "HandoverError.__init__" = true)
    (xE0 : K.lookup CE = some (excClassObj nmE0 qE0 CE NE0 bsE0 bmE0 true snE0 subE0 abE0 colE0 ddE0 k0E0 k1E0 k2E0 k3E0 k5E0 "ValueError.__new__")) (rE0 : PySem.HandSPX.refsVE bmE0 = true) (sE0 : PySem.W.findIn K (.ref CE) "__setattr__" = some (some (.builtin "object.__setattr__"))) (bE0 : PySem.W.subIn K (.ref CE) (.type "BaseException") = some true) (yE0 : PySem.W.typeIn K (.ref CE) = some (.type "type")) (kE0 : PySem.W.keepIn K (.ref CE) = true)
    (uE0 : K.lookup ccE0 = some ⟨clE0, cldE0, .cell (some (.ref CE)), cslE0⟩) (oE0 : K.lookup cdE0 = some ⟨cclE0, cddE0, .fields vsE0, ccsE0⟩) (vE0 : vsE0[2]? = some (.str fileE0 tfE0)) (pE0 : ((l.prog.main.file : Str) == fileE0) = true) (q_E0 : (l.prog.main.scope.names.lookup ("super" : Str)).isSome = false)
    (mE0 : PySem.W.mroIn K CE (.ref CE) = some true) (nE0 : PySem.W.ks_superIn K CE CE "__init__" = some (some (.builtin "ValueError.__init__"))) (zE0 : PySem.W.nsIn K cStatics "thirdparty.any" = some none) (w_E0 : PySem.W.subIn K (.ref CE) (.type "ValueError") = some true) (g_E0 : PySem.W.nsIn K mainGlobals "super" = some none) (n1E0 : PySem.W.findIn K (.ref CE) "code" = some none) (eE0 : PySem.W.exmOne K (.ref CE) (.ref CE) = some true)
    (xgE0 : PySem.W.findIn K (.ref CE) "__getattribute__" = some (some (.builtin "BaseException.__getattribute__"))) (xaE0 : PySem.W.findIn K (.ref CE) "__getattr__" = some none) (xdE0 : PySem.W.hasDictIn K CE = true)
    (bg11 : PySem.W.specialIn K (.ref f11) "__get__" = some (some (.builtin "function.__get__"))) (bt11 : PySem.W.takesIn K (.ref f11) = some false) (bf11 : PySem.W.fnIn K f11 = true)
    (z1 : PySem.W.nsIn K mainGlobals "abs" = some none) (z2 : PySem.W.nsIn K mainGlobals "int" = some none) (z3 : PySem.W.nsIn K mainGlobals "len" = some none) (z4 : PySem.W.nsIn K mainGlobals "bool" = some none) (z5 : PySem.W.nsIn K mainGlobals "isinstance" = some none) (z6 : PySem.W.nsIn K mainGlobals "max" = some none) (z7 : PySem.W.nsIn K mainGlobals "min" = some none) (z8 : PySem.W.nsIn K mainGlobals "range" = some none) (z9 : PySem.W.nsIn K mainGlobals "tuple" = some none) (z10 : PySem.W.nsIn K mainGlobals "list" = some none) (z11 : PySem.W.nsIn K mainGlobals "sum" = some none) (z12 : PySem.W.nsIn K mainGlobals "any" = some none) (z13 : PySem.W.nsIn K mainGlobals "all" = some none) (z14 : PySem.W.nsIn K mainGlobals "sorted" = some none) (z15 : PySem.W.nsIn K mainGlobals "dict" = some none) (z16 : PySem.W.nsIn K mainGlobals "enumerate" = some none) :
    ∃ fd : FuncData, (∀ (s : Shared) (v : Value), BindsTo s fd ⟨[v], []⟩ [("script", v)]) ∧ ∀ base : Heap, K.In base → base.Ns mainGlobals mg → FnOk l.prog w K mg base CX0 6 fa fd ["script"] (spLaw K) := by
  have e := hfa.symm.trans (PySem.W.mg_of X G a21)
  cases e
  have F1 := fun_mk (st := s_law_start) l1 c1 k1
  have F2 := fun_mk (st := s_law_draw) l2 c2 k2
  have F3 := fun_mk (st := s_law_pick) l3 c3 k3
  have F4 := fun_mk (st := s_Responsibility__check_sectors) l4 c4 k4
  have F5 := fun_mk (st := s_Responsibility__message) l5 c5 k5
  have F6 := fun_mk (st := s_Responsibility_give) l6 c6 k6
  have F7 := fun_mk (st := s_Responsibility_repeat) l7 c7 k7
  have F8 := fun_mk (st := s_Responsibility__hear_give) l8 c8 k8
  have F9 := fun_mk (st := s_Responsibility_hear) l9 c9 k9
  have F10 := fun_mk (st := s_Responsibility_acts) l10 c10 k10
  have F11 := fun_mk (st := s_Responsibility__rank) l11 c11 k11
  have F12 := fun_mk (st := s_Responsibility_responsible) l12 c12 k12
  have F13 := fun_mk (st := s_Responsibility___init__) l13 c13 k13
  have F14 := fun_mk (st := s_law_sides) l14 c14 k14
  have F15 := fun_mk (st := s_law_give) l15 c15 k15
  have F16 := fun_mk (st := s_law_repeat) l16 c16 k16
  have F17 := fun_mk (st := s_law_hear) l17 c17 k17
  have F18 := fun_mk (st := s_law_asked) l18 c18 k18
  have F19 := fun_mk (st := s_law_is) l19 c19 k19
  have F20 := fun_mk (st := s_law_right) l20 c20 k20
  have F21 := fun_mk (st := s_law) l21 c21 k21
  have b1 := F1.binds (ps := ["script"]) fun _ _ _ _ _ _ us hl => match us, hl with | [_], _ => rfl
  have b2 := F2.binds (ps := ["state", "bound"]) fun _ _ _ _ _ _ us hl => match us, hl with | [_, _], _ => rfl
  have b3 := F3.binds (ps := ["state", "things"]) fun _ _ _ _ _ _ us hl => match us, hl with | [_, _], _ => rfl
  have b4 := F4.binds (ps := ["self", "one", "other"]) fun _ _ _ _ _ _ us hl => match us, hl with | [_, _, _], _ => rfl
  have b5 := F5.binds (ps := ["self", "by"]) fun _ _ _ _ _ _ us hl => match us, hl with | [_, _], _ => rfl
  have b6 := F6.binds (ps := ["self", "by", "to"]) fun _ _ _ _ _ _ us hl => match us, hl with | [_, _, _], _ => rfl
  have b7 := F7.binds (ps := ["self", "by"]) fun _ _ _ _ _ _ us hl => match us, hl with | [_, _], _ => rfl
  have b8 := F8.binds (ps := ["self", "number", "by", "to"]) fun _ _ _ _ _ _ us hl => match us, hl with | [_, _, _, _], _ => rfl
  have b9 := F9.binds (ps := ["self", "message"]) fun _ _ _ _ _ _ us hl => match us, hl with | [_, _], _ => rfl
  have b10 := F10.binds (ps := ["self", "sector"]) fun _ _ _ _ _ _ us hl => match us, hl with | [_, _], _ => rfl
  have b11 := F11.binds (ps := ["self", "sector"]) fun _ _ _ _ _ _ us hl => match us, hl with | [_, _], _ => rfl
  have b12 := F12.binds (ps := ["self"]) fun _ _ _ _ _ _ us hl => match us, hl with | [_], _ => rfl
  have b13 := F13.binds (ps := ["self", "sectors", "first"]) fun _ _ _ _ _ _ us hl => match us, hl with | [_, _, _], _ => rfl
  have b14 := F14.binds (ps := ["sectors", "first"]) fun _ _ _ _ _ _ us hl => match us, hl with | [_, _], _ => rfl
  have b15 := F15.binds (ps := ["sides", "by", "to"]) fun _ _ _ _ _ _ us hl => match us, hl with | [_, _, _], _ => rfl
  have b16 := F16.binds (ps := ["sides", "by"]) fun _ _ _ _ _ _ us hl => match us, hl with | [_, _], _ => rfl
  have b17 := F17.binds (ps := ["sides", "message"]) fun _ _ _ _ _ _ us hl => match us, hl with | [_, _], _ => rfl
  have b18 := F18.binds (ps := ["found", "kind", "first", "second"]) fun _ _ _ _ _ _ us hl => match us, hl with | [_, _, _, _], _ => rfl
  have b19 := F19.binds (ps := ["actual", "due"]) fun _ _ _ _ _ _ us hl => match us, hl with | [_, _], _ => rfl
  have b20 := F20.binds (ps := ["found", "sides", "sectors"]) fun _ _ _ _ _ _ us hl => match us, hl with | [_, _, _], _ => rfl
  have T : TxtA mg := { abs := PySem.W.mg_none_of X G z1, int := PySem.W.mg_none_of X G z2, len := PySem.W.mg_none_of X G z3, bool := PySem.W.mg_none_of X G z4, isinstance := PySem.W.mg_none_of X G z5, max := PySem.W.mg_none_of X G z6, min := PySem.W.mg_none_of X G z7, range := PySem.W.mg_none_of X G z8, tuple := PySem.W.mg_none_of X G z9, list := PySem.W.mg_none_of X G z10, sum := PySem.W.mg_none_of X G z11, any := PySem.W.mg_none_of X G z12, all := PySem.W.mg_none_of X G z13, sorted := PySem.W.mg_none_of X G z14, dict := PySem.W.mg_none_of X G z15, enumerate := PySem.W.mg_none_of X G z16 }
  have Y : RspY K mg C := ⟨⟨pg, hd, po, sa⟩, nA1, nA2, nA3⟩
  refine ⟨PySem.W.fnOf "law" "law" (defArgs s_law) (defBody s_law) (defScope s_law) .none kV21 dc21 pm21 an21 cd21 ct21, fun s v => .of_eq rfl, fun base _ _ => ?_⟩
  have TE0 : OexC K CE := ⟨⟨_, _, _, _, _, _, _, _, _, _, _, _, _, _, _, xE0, rE0⟩, sE0, bE0, yE0, kE0⟩
  have UE0 : SupOk l.prog K CE ccE0 cdE0 := ⟨⟨_, _, _, uE0⟩, ⟨_, _, _, _, _, _, oE0, vE0, pE0⟩, q_E0, mE0, nE0, zE0, w_E0⟩
  have DE_HandoverError : ErrD l.prog w K mg base 1 "HandoverError" CE ["self", "code"] (spCErr1 CE) := ⟨⟨_, _, ok_HandoverError___init__ lE0 cE0 UE0 TE0 (PySem.W.mg_none_of X G g_E0) n1E0, .all (fun us hl => match us, hl with | [_, _], _ => rfl), iE0, tE0⟩, PySem.W.mg_of X G aE0, TE0, eE0⟩
  have D1 : Def l.prog w K mg base 1 "_law_start" ["script"] (spStart K) := .mk' F1 b1 (PySem.W.mg_of X G a1) (ok_law_start F1 T.toTxt0)
  have D2 : Def l.prog w K mg base 1 "_law_draw" ["state", "bound"] (spDraw K) := .mk' F2 b2 (PySem.W.mg_of X G a2) (ok_law_draw F2 T.toTxt0)
  have D3 : Def l.prog w K mg base 2 "_law_pick" ["state", "things"] (spPick K) := .mk' F3 b3 (PySem.W.mg_of X G a3) (ok_law_pick F3 T.toTxt0 D2)
  have D4 : MDefX l.prog w K mg base 3 C "_check_sectors" ["self", "one", "other"] (spCheckS C CE) := ⟨_, _, ok_Responsibility__check_sectors F4 T Y DE_HandoverError, ⟨a4, i4, k4⟩, b4⟩
  have D5 : MDef l.prog w K mg base 1 C "_message" ["self", "by"] (spMsgR C) := ⟨_, _, ok_Responsibility__message F5 T Y, ⟨a5, i5, k5⟩, b5⟩
  have D6 : MDefX l.prog w K mg base 4 C "give" ["self", "by", "to"] (spGiveR C CE) := ⟨_, _, ok_Responsibility_give F6 T Y DE_HandoverError D4 D5, ⟨a6, i6, k6⟩, b6⟩
  have D7 : MDefX l.prog w K mg base 3 C "repeat" ["self", "by"] (spRepR C CE) := ⟨_, _, ok_Responsibility_repeat F7 T Y DE_HandoverError D5, ⟨a7, i7, k7⟩, b7⟩
  have D8 : MDef l.prog w K mg base 1 C "_hear_give" ["self", "number", "by", "to"] (spHgR C) := ⟨_, _, ok_Responsibility__hear_give F8 T Y, ⟨a8, i8, k8⟩, b8⟩
  have D9 : MDefX l.prog w K mg base 4 C "hear" ["self", "message"] (spHrR C CE) := ⟨_, _, ok_Responsibility_hear F9 T Y D4 D8, ⟨a9, i9, k9⟩, b9⟩
  have D10 : MDef l.prog w K mg base 1 C "acts" ["self", "sector"] (spActs C) := ⟨_, _, ok_Responsibility_acts F10 T Y, ⟨a10, i10, k10⟩, b10⟩
  have D11 : MDef l.prog w K mg base 1 C "_rank" ["self", "sector"] (spRankR C) := ⟨_, _, ok_Responsibility__rank F11 T Y, ⟨a11, i11, k11⟩, b11⟩
  have BD11 : BDef l.prog w K mg base 1 C "_rank" ["self", "sector"] (spRankR C) f11 := ⟨⟨⟨a11, i11, k11⟩, bg11, bt11, rfl, bf11⟩, _, ok_Responsibility__rank F11 T Y, b11⟩
  have D12 : MDef l.prog w K mg base 3 C "responsible" ["self"] (spResp C) := ⟨_, _, ok_Responsibility_responsible F12 T Y BD11, ⟨a12, i12, k12⟩, b12⟩
  have DC : CDef l.prog w K mg base 1 C "Responsibility" ["self", "sectors", "first"] (spNewR C) := ⟨_, _, ok_Responsibility___init__ F13 T Y, ⟨mk, a13, i13, kc⟩, PySem.W.mg_of X G aC, b13⟩
  have D14 : Def l.prog w K mg base 1 "_law_sides" ["sectors", "first"] (spLSides K) := .mk' F14 b14 (PySem.W.mg_of X G a14) (ok_law_sides F14 T)
  have D15 : Def l.prog w K mg base 1 "_law_give" ["sides", "by", "to"] (spLGiv) := .mk' F15 b15 (PySem.W.mg_of X G a15) (ok_law_give F15 T)
  have D16 : Def l.prog w K mg base 1 "_law_repeat" ["sides", "by"] (spLRep) := .mk' F16 b16 (PySem.W.mg_of X G a16) (ok_law_repeat F16 T)
  have D17 : Def l.prog w K mg base 1 "_law_hear" ["sides", "message"] (spLHr) := .mk' F17 b17 (PySem.W.mg_of X G a17) (ok_law_hear F17 T)
  have D18 : Def l.prog w K mg base 5 "_law_asked" ["found", "kind", "first", "second"] (spAsked C) := .mk' F18 b18 (PySem.W.mg_of X G a18) (ok_law_asked F18 T ⟨⟨xgE0, xaE0, bE0, xdE0⟩, n1E0, n1E0⟩ Y DE_HandoverError D6 D7 D9)
  have D19 : Def l.prog w K mg base 1 "_law_is" ["actual", "due"] (spIs) := .mk' F19 b19 (PySem.W.mg_of X G a19) (ok_law_is F19 T)
  have D20 : Def l.prog w K mg base 4 "_law_right" ["found", "sides", "sectors"] (spRight C) := .mk' F20 b20 (PySem.W.mg_of X G a20) (ok_law_right F20 T Y D12 D10 D19)
  exact ok_law F21 T Y D1 D2 D3 D14 D15 D16 D17 D18 D20 DC
theorem walk {l : PySem.W.OpenLaw} {q : Program} {loose : List Str} {XP : (Str → Option Value) → Heap → Prop} {YP : World → Heap → Prop} {d : DefRec} {K : Params → PySem.W.Frag} (hn : l.most = some 63) (hdf : d.params.defaults = [])
    (hY : ∀ (w : World) (h : Heap), YP w h → (K w.params).In h)
    (F : ∀ (w : World) (mg : Str → Option Value) (fa : Addr) (h : Heap), (K w.params).In h → h.Ns mainGlobals mg → mg d.name = some (.ref fa) →
      ∃ fd : FuncData, (∀ (s : Shared) (u : Value), BindsTo s fd ⟨[u], []⟩ [("script", u)]) ∧ ∀ base : Heap, (K w.params).In base → base.Ns mainGlobals mg → FnOk l.prog w (K w.params) mg base CX0 6 fa fd ["script"] (spLaw (K w.params))) :
    PySem.W.WalkO q loose XP YP l.row.toRowW d [] (fun f vs => PySem.call f vs) :=
  L2.walk_of (n := 63) (k := 6) (x := "script") (CX := fun _ => CX0) (sp := fun w => spLaw (K w.params)) hn (by decide) hdf ⟨rfl, by decide, by decide⟩ hY F (fun _ _ a ns hl _ hS => ⟨a, ns, rfl, hS, hl, fun _ => rfl⟩) fun _ _ _ _ _ z => z
end Sk
open PySem PySem.W PyProof.Rows
set_option maxRecDepth 100000 in
set_option maxHeartbeats 0 in
theorem PySem.Challenge.cw_skyapart_k29_whole_responsibility_holds : PySem.Challenge.rw_skyapart_k29_whole_responsibility.Holds := by
  w_on; o_law; k_head; (case hw => w_witness2)
  k_fill
  refine Sk.walk (l := PySem.Challenge.rw_skyapart_k29_whole_responsibility) rfl rfl (fun w h Y => PySem.W.kIn_of Y) ?F
  case F =>
    intro w mg fa h KX G hmg
    refine' Sk.all_mk KX G hmg ?aC ?pg ?hd ?po ?sa ?mk ?kc ?nA1 ?nA2 ?nA3 ?a1 ?l1 ?c1 ?k1 ?a2 ?l2 ?c2 ?k2 ?a3 ?l3 ?c3 ?k3 ?a4 ?i4 ?l4 ?c4 ?k4 ?a5 ?i5 ?l5 ?c5 ?k5 ?a6 ?i6 ?l6 ?c6 ?k6 ?a7 ?i7 ?l7 ?c7 ?k7 ?a8 ?i8 ?l8 ?c8 ?k8 ?a9 ?i9 ?l9 ?c9 ?k9 ?a10 ?i10 ?l10 ?c10 ?k10 ?a11 ?i11 ?l11 ?c11 ?k11 ?a12 ?i12 ?l12 ?c12 ?k12 ?a13 ?i13 ?l13 ?c13 ?k13 ?a14 ?l14 ?c14 ?k14 ?a15 ?l15 ?c15 ?k15 ?a16 ?l16 ?c16 ?k16 ?a17 ?l17 ?c17 ?k17 ?a18 ?l18 ?c18 ?k18 ?a19 ?l19 ?c19 ?k19 ?a20 ?l20 ?c20 ?k20 ?a21 ?l21 ?c21 ?k21 ?aE0 ?iE0 ?tE0 ?lE0 ?cE0 ?xE0 ?rE0 ?sE0 ?bE0 ?yE0 ?kE0 ?uE0 ?oE0 ?vE0 ?pE0 ?q_E0 ?mE0 ?nE0 ?zE0 ?w_E0 ?g_E0 ?n1E0 ?eE0 ?xgE0 ?xaE0 ?xdE0 ?bg11 ?bt11 ?bf11 ?z1 ?z2 ?z3 ?z4 ?z5 ?z6 ?z7 ?z8 ?z9 ?z10 ?z11 ?z12 ?z13 ?z14 ?z15 ?z16
    (case aC => k_is); (case pg => k_is); (case hd => k_is); (case po => k_is)
    (case sa => k_is); (case mk => k_is); (case kc => k_is); (case nA1 => k_is)
    (case nA2 => k_is); (case nA3 => k_is); (case a1 => k_is); (case l1 => k_is)
    (case c1 => k_is); (case k1 => k_is); (case a2 => k_is); (case l2 => k_is)
    (case c2 => k_is); (case k2 => k_is); (case a3 => k_is); (case l3 => k_is)
    (case c3 => k_is); (case k3 => k_is); (case a4 => k_is); (case i4 => k_is)
    (case l4 => k_is); (case c4 => k_is); (case k4 => k_is); (case a5 => k_is)
    (case i5 => k_is); (case l5 => k_is); (case c5 => k_is); (case k5 => k_is)
    (case a6 => k_is); (case i6 => k_is); (case l6 => k_is); (case c6 => k_is)
    (case k6 => k_is); (case a7 => k_is); (case i7 => k_is); (case l7 => k_is)
    (case c7 => k_is); (case k7 => k_is); (case a8 => k_is); (case i8 => k_is)
    (case l8 => k_is); (case c8 => k_is); (case k8 => k_is); (case a9 => k_is)
    (case i9 => k_is); (case l9 => k_is); (case c9 => k_is); (case k9 => k_is)
    (case a10 => k_is); (case i10 => k_is); (case l10 => k_is); (case c10 => k_is)
    (case k10 => k_is); (case a11 => k_is); (case i11 => k_is); (case l11 => k_is)
    (case c11 => k_is); (case k11 => k_is); (case a12 => k_is); (case i12 => k_is)
    (case l12 => k_is); (case c12 => k_is); (case k12 => k_is); (case a13 => k_is)
    (case i13 => k_is); (case l13 => k_is); (case c13 => k_is); (case k13 => k_is)
    (case a14 => k_is); (case l14 => k_is); (case c14 => k_is); (case k14 => k_is)
    (case a15 => k_is); (case l15 => k_is); (case c15 => k_is); (case k15 => k_is)
    (case a16 => k_is); (case l16 => k_is); (case c16 => k_is); (case k16 => k_is)
    (case a17 => k_is); (case l17 => k_is); (case c17 => k_is); (case k17 => k_is)
    (case a18 => k_is); (case l18 => k_is); (case c18 => k_is); (case k18 => k_is)
    (case a19 => k_is); (case l19 => k_is); (case c19 => k_is); (case k19 => k_is)
    (case a20 => k_is); (case l20 => k_is); (case c20 => k_is); (case k20 => k_is)
    (case a21 => k_is); (case l21 => k_is); (case c21 => k_is); (case k21 => k_is)
    (case aE0 => k_is); (case iE0 => k_is); (case tE0 => k_is); (case lE0 => k_is)
    (case cE0 => k_is); (case xE0 => k_is); (case rE0 => decide +kernel); (case sE0 => k_is)
    (case bE0 => k_is); (case yE0 => k_is); (case kE0 => k_is); (case uE0 => k_is)
    (case oE0 => k_is); (case vE0 => exact rfl); (case pE0 => kernel_rfl); (case q_E0 => kernel_rfl)
    (case mE0 => k_is); (case nE0 => kernel_rfl); (case zE0 => k_is); (case w_E0 => k_is)
    (case g_E0 => k_is); (case n1E0 => k_is); (case eE0 => kernel_rfl); (case xgE0 => k_is)
    (case xaE0 => k_is); (case xdE0 => k_is); (case bg11 => first | k_is | kernel_rfl); (case bt11 => first | k_is | kernel_rfl)
    (case bf11 => first | k_is | kernel_rfl); (case z1 => k_is); (case z2 => k_is); (case z3 => k_is)
    (case z4 => k_is); (case z5 => k_is); (case z6 => k_is); (case z7 => k_is)
    (case z8 => k_is); (case z9 => k_is); (case z10 => k_is); (case z11 => k_is)
    (case z12 => k_is); (case z13 => k_is); (case z14 => k_is); (case z15 => k_is)
    (case z16 => k_is)
