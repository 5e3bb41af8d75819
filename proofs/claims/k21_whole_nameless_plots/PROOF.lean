import PyProof.Rows.All
import Wide.All
import OpenK.AllK
import Wide.FinOn
import HandS.Base
import HandS.Call
import HandS.List
import HandS.Comp
import HandS.Ends
import HandS.Dict
import HandS.Iter
import HandS.Words
import HandS.WordsList
import HandS.Wide
import HandS.Gcd
import HandS.IsInst
import Flt.RightSqrt
import HandS.GenList
import HandS.AnyAll
import HandS.EndTab
import HandS.Zip
import HandS.Nested
import HandS.Flow
import HandS.EndOwn
import KE.KNest
import HandS.Star
import PyProof.ConsumeS
import HandS.Flt
import KE.KExcSuper
import KE.KSuper
import HandS.Exc
import HandS.ExcInit
import HandS.FStr
import HandS.TryOnly
import HandS.ExcOwn
import HandS.WordsExc
import HandS.Conv
import HandS.More
import PyProof.NeData
import PySem.Challenge.RW_skyapart_k21_whole_nameless_plots
set_option Elab.async false
set_option linter.all false
set_option maxRecDepth 100000
set_option maxHeartbeats 4000000
namespace Sk
open PySem PySem.Spec PyProof.Rows L2

/-! a def of the text, ready to be called by its name -/
structure Def (P : Program) (w : World) (K : PySem.W.Frag) (mg : Str → Option Value) (base : Heap) (k : Nat) (x : Str) (ps : List Str) (sp : Sp) : Prop where
  ex : ∃ (f : Addr) (fd : FuncData), FnOk P w K mg base CX0 k f fd ps sp ∧ mg x = some (.ref f) ∧ PySem.W.keepIn K (.ref f) = true ∧ Binds K fd ps []
theorem Def.mk' {P : Program} {w : World} {K : PySem.W.Frag} {mg : Str → Option Value} {base : Heap} {k : Nat} {x qual : Str} {st : Stmt} {f : Addr} {fd : FuncData} {ps : List Str} {sp : Sp}
    (F : Fun K x qual st f fd) (b : Binds K fd ps []) (m : mg x = some (.ref f)) (G : FnOk P w K mg base CX0 k f fd ps sp) : Def P w K mg base k x ps sp := ⟨f, fd, G, m, F.kp, b⟩
theorem pe_def {X : Cx} {k : Nat} {x : Str} {ps : List Str} {sp : Sp} {p pos : Pos} {e : Expr} {es : List Expr} {t : TA} (D : Def X.prog X.w X.K X.mg X.base k x ps sp) (hr : Room k X.A) (hg : Gl X x)
    (ha : PA X (e :: es) t) (hdb : (x == ("__debug__" : Str)) = false := by decide) (he : starEach (e :: es) X.env = (false, eval e X.env) :: starEach es X.env := by rfl) (hpl : (backTo pos (starEach es X.env)).any (·.1) = false := by rfl) :
    PE X (.Call (.Name x p) (e :: es) [] pos) (tCall sp [] E0 t) := by
  obtain ⟨f, fd, F, m, kp, b⟩ := D.ex
  exact pe_call F hr hg m kp b .nil pass0 ha hdb he hpl
/-- a call's reading: the values of the arguments as they are -/
theorem sp_nil {sp : Sp} {vs : List V} {H : Hp} {Q : VK} {E : XK} (h : sp vs H Q E) : sp (vs ++ []) H Q E := by
  rw [List.append_nil]
  exact h

/-! heaps -/
/-- all but what stands at d is as it was -/
def Keep (d : Addr) (H H' : Hp) : Prop := ∀ c o, H c = some o → c ≠ d → H' c = some o
theorem Keep.refl (d : Addr) (H : Hp) : Keep d H H := fun _ _ h _ => h
theorem Keep.trans {d : Addr} {H H1 H2 : Hp} (a : Keep d H H1) (b : Keep d H1 H2) : Keep d H H2 := fun c o h n => b c o (a c o h n) n
theorem Keep.of {d : Addr} {H H1 : Hp} (a : Same H H1) : Keep d H H1 := fun c o h _ => a c o h
theorem Keep.upd (d : Addr) (H : Hp) (o : HO) : Keep d H (upd H d o) := fun c u h n => by
  rw [upd_ne n]
  exact h
theorem same_new {H : Hp} {p : Addr} {o : HO} (h : H p = none) : Same H (upd H p o) := fun b x e => by
  rw [upd_ne (ne_of_none e h)]
  exact e
theorem lst_ne {H : Hp} {a d : Addr} {xs : List V} {o : HO} (h : H d = some (.dK o')) (ha : H a = some (.lst xs)) : a ≠ d := ne_of ha h (by intro z; cases z)
/-- a list to be read stays, if it isn't the dict at d -/
theorem Keep.seq {K : PySem.W.Frag} {d : Addr} {kvs : List (Key × V)} {H H' : Hp} {a : Addr} {xs : List V} (k : Keep d H H') (hd : H d = some (.dK kvs)) (h : SqL K H a xs) : SqL K H' a xs := by
  rcases h with (h | ⟨o, h⟩) | h
  · exact .inl (.inl (k _ _ h (ne_of h hd (by intro z; cases z))))
  · exact .inl (.inr ⟨o, k _ _ h (ne_of h hd (by intro z; cases z))⟩)
  · exact .inr h
theorem Keep.tup {K : PySem.W.Frag} {d : Addr} {kvs : List (Key × V)} {H H' : Hp} {a : Addr} {xs : List V} (k : Keep d H H') (hd : H d = some (.dK kvs)) (h : SqT K H a xs) : SqT K H' a xs := by
  rcases h with (h | ⟨o, h⟩) | h
  · exact .inl (.inl (k _ _ h (ne_of h hd (by intro z; cases z))))
  · exact .inl (.inr ⟨o, k _ _ h (ne_of h hd (by intro z; cases z))⟩)
  · exact .inr h
theorem Keep.lst {d : Addr} {kvs : List (Key × V)} {H H' : Hp} {a : Addr} {xs : List V} (k : Keep d H H') (hd : H d = some (.dK kvs)) (h : H a = some (.lst xs)) : H' a = some (.lst xs) := k _ _ h (ne_of h hd (by intro z; cases z))
theorem Keep.tp {d : Addr} {kvs : List (Key × V)} {H H' : Hp} {a : Addr} {xs : List V} (k : Keep d H H') (hd : H d = some (.dK kvs)) (h : H a = some (.tup xs)) : H' a = some (.tup xs) := k _ _ h (ne_of h hd (by intro z; cases z))
theorem same_tup {K : PySem.W.Frag} {H H' : Hp} {a : Addr} {xs : List V} (e : Same H H') (h : SqT K H a xs) : SqT K H' a xs := by
  rcases h with (h | ⟨o, h⟩) | h
  · exact .inl (.inl (e _ _ h))
  · exact .inl (.inr ⟨o, e _ _ h⟩)
  · exact .inr h

/-! the state of the draws -/
theorem k01 : ¬ ("cells" : Str) = "at" := by decide +kernel
theorem k02 : ¬ ("cells" : Str) = "left" := by decide +kernel
theorem k03 : ¬ ("cells" : Str) = "mix" := by decide +kernel
theorem k10 : ¬ ("at" : Str) = "cells" := by decide +kernel
theorem k12 : ¬ ("at" : Str) = "left" := by decide +kernel
theorem k13 : ¬ ("at" : Str) = "mix" := by decide +kernel
theorem k20 : ¬ ("left" : Str) = "cells" := by decide +kernel
theorem k21 : ¬ ("left" : Str) = "at" := by decide +kernel
theorem k23 : ¬ ("left" : Str) = "mix" := by decide +kernel
theorem k30 : ¬ ("mix" : Str) = "cells" := by decide +kernel
theorem k31 : ¬ ("mix" : Str) = "at" := by decide +kernel
theorem k32 : ¬ ("mix" : Str) = "left" := by decide +kernel
theorem kr {a b : Str} (h : ¬ a = b) : ¬ (Sum.inr a : Key) = Sum.inr b := fun z => h (Sum.inr.inj z)
def stK (c : Addr) (i l m : Int) : List (Key × V) := [(.inr "cells", .ref c), (.inr "at", .int i), (.inr "left", .int l), (.inr "mix", .int m)]
theorem g_cells (c : Addr) (i l m : Int) : valV (stK c i l m) (.inr "cells") = some (.ref c) := valV_pos rfl
theorem g_at (c : Addr) (i l m : Int) : valV (stK c i l m) (.inr "at") = some (.int i) := by
  unfold stK
  rw [valV_neg (kr k01), valV_pos rfl]
theorem g_left (c : Addr) (i l m : Int) : valV (stK c i l m) (.inr "left") = some (.int l) := by
  unfold stK
  rw [valV_neg (kr k02), valV_neg (kr k12), valV_pos rfl]
theorem g_mix (c : Addr) (i l m : Int) : valV (stK c i l m) (.inr "mix") = some (.int m) := by
  unfold stK
  rw [valV_neg (kr k03), valV_neg (kr k13), valV_neg (kr k23), valV_pos rfl]
theorem put_any {kvs : List (Key × V)} {k : Key} {v y : V} (h : valV kvs k = some v) : putK kvs k y = kvs.map (fun kv => if kv.1 = k then (kv.1, y) else kv) := by
  unfold putK
  rw [valV_any, h]
  exact if_pos rfl
theorem p_at (c : Addr) (i l m j : Int) : putK (stK c i l m) (.inr "at") (.int j) = stK c j l m := by
  rw [put_any (g_at c i l m)]
  unfold stK
  simp only [List.map_cons, List.map_nil, if_neg (kr k01), if_neg (kr k21), if_neg (kr k31), if_true]
theorem p_left (c : Addr) (i l m j : Int) : putK (stK c i l m) (.inr "left") (.int j) = stK c i j m := by
  rw [put_any (g_left c i l m)]
  unfold stK
  simp only [List.map_cons, List.map_nil, if_neg (kr k02), if_neg (kr k12), if_neg (kr k32), if_true]
theorem p_mix (c : Addr) (i l m j : Int) : putK (stK c i l m) (.inr "mix") (.int j) = stK c i l j := by
  rw [put_any (g_mix c i l m)]
  unfold stK
  simp only [List.map_cons, List.map_nil, if_neg (kr k03), if_neg (kr k13), if_neg (kr k23), if_true]
theorem merge_st (c : Addr) (i l m : Int) : mergeK [] (stK c i l m) = stK c i l m := by
  have e0 : putK ([] : List (Key × V)) (.inr "cells" : Key) (.ref c) = [((.inr "cells" : Key), V.ref c)] := rfl
  have e1 : putK [((.inr "cells" : Key), V.ref c)] (.inr "at" : Key) (.int i) = [((.inr "cells" : Key), V.ref c), (.inr "at", .int i)] := by
    rw [putK_new _ (by rw [valV_neg (kr k01)]; rfl)]
    all_goals rfl
  have e2 : putK [((.inr "cells" : Key), V.ref c), (.inr "at", .int i)] (.inr "left") (.int l) = [((.inr "cells" : Key), V.ref c), (.inr "at", .int i), (.inr "left", .int l)] := by
    rw [putK_new _ (by rw [valV_neg (kr k02), valV_neg (kr k12)]; rfl)]
    all_goals rfl
  have e3 : putK [((.inr "cells" : Key), V.ref c), (.inr "at", .int i), (.inr "left", .int l)] (.inr "mix") (.int m) = stK c i l m := by
    rw [putK_new _ (by rw [valV_neg (kr k03), valV_neg (kr k13), valV_neg (kr k23)]; rfl)]
    all_goals rfl
  show putK (putK (putK (putK ([] : List (Key × V)) (.inr "cells" : Key) (.ref c)) (.inr "at" : Key) (.int i)) (.inr "left" : Key) (.int l)) (.inr "mix" : Key) (.int m) = stK c i l m
  rw [e0, e1, e2, e3]
/-- the dict of the draws stands at d -/
structure StAt (K : PySem.W.Frag) (H : Hp) (d : Addr) (c : Addr) (ns : List Int) (i l m : Int) : Prop where
  dc : H d = some (.dK (stK c i l m))
  cs : H c = some (.lst (ns.map V.int))
  nn : ∀ x ∈ ns, 0 ≤ x
  i0 : 0 ≤ i
  l0 : 0 ≤ l
  m0 : 0 ≤ m
  m1 : m < 2147483648
def St1 (K : PySem.W.Frag) (H : Hp) (d c : Addr) : Prop := ∃ ns i l m, StAt K H d c ns i l m
theorem St1.dk {K : PySem.W.Frag} {H : Hp} {d c : Addr} (S : St1 K H d c) : ∃ kvs, H d = some (.dK kvs) := let ⟨_, _, _, _, S⟩ := S; ⟨_, S.dc⟩
theorem St1.cl {K : PySem.W.Frag} {H : Hp} {d c : Addr} (S : St1 K H d c) : ∃ xs, H c = some (.lst xs) := let ⟨_, _, _, _, S⟩ := S; ⟨_, S.cs⟩
/-- the state stands on where both its objects stand -/
theorem St1.of {K : PySem.W.Frag} {H H' : Hp} {d c : Addr} (S : St1 K H d c) (e1 : H' d = H d) (e2 : H' c = H c) : St1 K H' d c := by
  obtain ⟨ns, i, l, m, S⟩ := S
  exact ⟨ns, i, l, m, e1.trans S.dc, e2.trans S.cs, S.nn, S.i0, S.l0, S.m0, S.m1⟩
theorem St1.same {K : PySem.W.Frag} {H H' : Hp} {d c : Addr} (S : St1 K H d c) (e : Same H H') : St1 K H' d c := by
  obtain ⟨ns, i, l, m, S⟩ := S
  exact ⟨ns, i, l, m, e _ _ S.dc, e _ _ S.cs, S.nn, S.i0, S.l0, S.m0, S.m1⟩
theorem St1.new {K : PySem.W.Frag} {H : Hp} {d c a : Addr} {o : HO} (S : St1 K H d c) (h : H a = none) : St1 K (upd H a o) d c := S.same (same_new h)
theorem St1.nd {K : PySem.W.Frag} {H : Hp} {d c a : Addr} (S : St1 K H d c) (h : H a = none) : a ≠ d := let ⟨_, e⟩ := S.dk; (ne_of_none e h).symm
theorem St1.nc {K : PySem.W.Frag} {H : Hp} {d c a : Addr} (S : St1 K H d c) (h : H a = none) : a ≠ c := let ⟨_, e⟩ := S.cl; (ne_of_none e h).symm
theorem St1.put {K : PySem.W.Frag} {H : Hp} {d c a : Addr} {o : HO} (S : St1 K H d c) (h1 : a ≠ d) (h2 : a ≠ c) : St1 K (upd H a o) d c := S.of (upd_ne h1.symm) (upd_ne h2.symm)
theorem StAt.put {K : PySem.W.Frag} {H : Hp} {d c : Addr} {ns : List Int} {i l m i' l' m' : Int} (S : StAt K H d c ns i l m) (h0 : 0 ≤ i') (h1 : 0 ≤ l') (h2 : 0 ≤ m') (h3 : m' < 2147483648) :
    StAt K (upd H d (.dK (stK c i' l' m'))) d c ns i' l' m' := ⟨upd_same, (Keep.upd d H _).lst S.dc S.cs, S.nn, h0, h1, h2, h3⟩
section
variable {H : Hp} {d c : Addr} {i l m j : Int}
theorem dg_cells (h : H d = some (.dK (stK c i l m))) : DGet H d (.str "cells") (some (.ref c)) := g_cells c i l m ▸ DGet.k (k := .inr "cells") h
theorem dg_at (h : H d = some (.dK (stK c i l m))) : DGet H d (.str "at") (some (.int i)) := g_at c i l m ▸ DGet.k (k := .inr "at") h
theorem dg_left (h : H d = some (.dK (stK c i l m))) : DGet H d (.str "left") (some (.int l)) := g_left c i l m ▸ DGet.k (k := .inr "left") h
theorem dg_mix (h : H d = some (.dK (stK c i l m))) : DGet H d (.str "mix") (some (.int m)) := g_mix c i l m ▸ DGet.k (k := .inr "mix") h
theorem st_few : (stK c i l m).length < sizeLine := Nat.lt_of_le_of_lt (show 4 ≤ 1000 by decide) (by decide)
theorem dp_at (h : H d = some (.dK (stK c i l m))) : DPut H d (.str "at") (.int j) (upd H d (.dK (stK c j l m))) := p_at c i l m j ▸ DPut.k (k := .inr "at") h st_few
theorem dp_left (h : H d = some (.dK (stK c i l m))) : DPut H d (.str "left") (.int j) (upd H d (.dK (stK c i j m))) := p_left c i l m j ▸ DPut.k (k := .inr "left") h st_few
theorem dp_mix (h : H d = some (.dK (stK c i l m))) : DPut H d (.str "mix") (.int j) (upd H d (.dK (stK c i l j))) := p_mix c i l m j ▸ DPut.k (k := .inr "mix") h st_few
end
/-! what follows is shown once, for both ways of an if ahead of it -/
theorem cut {t u : TS} {D : Ends} {σ : L2.St} {H : Hp} (I : L2.St → Hp → Prop) (h2 : ∀ σ' H', I σ' H' → u D σ' H') (h1 : (∀ σ' H', I σ' H' → u D σ' H') → t { D with nx := u D } σ H) : tSeq t u D σ H := h1 h2

/-! the promises of the draws -/
/-- the bound's bound -/
def big : Int := 10000000000000000000000000000000000000000000000000000000000000000000000
def spStart (K : PySem.W.Frag) : Sp := fun vs H Q _ => ∃ (a : Addr) (ns : List Int), vs = [.ref a] ∧ SqL K H a (ns.map V.int) ∧ ns.length ≤ 63 ∧ ∀ d c H', H d = none → H c = none → St1 K H' d c → Same H H' → Q (.ref d) H'
def spDraw (K : PySem.W.Frag) : Sp := fun vs H Q _ => ∃ (d c : Addr) (b : Int), vs = [.ref d, .int b] ∧ St1 K H d c ∧ 0 < b ∧ b ≤ 10000000000000000000000000000000000000000000000000000000000000000000000 ∧
  ∀ n H', 0 ≤ n → n < b → St1 K H' d c → Keep d H H' → Q (.int n) H'
def spPick (K : PySem.W.Frag) : Sp := fun vs H Q _ => ∃ (d c l : Addr) (xs : List V), vs = [.ref d, .ref l] ∧ St1 K H d c ∧ SqL K H l xs ∧ xs ≠ [] ∧ xs.length ≤ 1000 ∧
  ∀ v H', v ∈ xs → St1 K H' d c → Keep d H H' → Q v H'
/-- a value's kind -/
def isInt : V → Bool | .int _ => true | _ => false
def isBl : V → Bool | .bl _ => true | _ => false
def spIsNum : Sp := fun vs H Q _ => ∃ n : Int, vs = [.int n] ∧ Q (.bl true) H
theorem log_of {b : Int} (h0 : 0 < b) (h1 : b ≤ 10000000000000000000000000000000000000000000000000000000000000000000000) : CDivW l b := wide_div (b := 300) h0 (by
  have : (b.natAbs : Int) = b := by omega
  have e : (2 : Nat) ^ 300 = 2037035976334486086268445688409378161051468393665936250636140449354381299763336706183397376 := by decide +kernel
  rw [e]
  omega) (by decide) (by decide)
/-! tests whose answer is known -/
theorem ifN {c A B : Prop} [Decidable c] (h : ¬ c) (q : B) : if decide c = true then A else B := by
  rw [decide_eq_false h]
  exact iteF q
theorem ifY {c A B : Prop} [Decidable c] (h : c) (q : A) : if decide c = true then A else B := by
  rw [decide_eq_true h]
  exact iteT q
theorem wm {i j : Int} (hi : i.natAbs < 2 ^ 250) (hj : j.natAbs < 2 ^ 250) : CMulW i j := wide_mul hi hj (by decide) (by decide) (by decide)
theorem ltge (a b : Int) : a < b ∨ b ≤ a := by omega
theorem nm {i : Nat} {x : V} {σ : L2.St} {H : Hp} {k : L2.St → Hp → Prop} (h : k (σ.set i (some x)) H) : gName i x σ H k := h
/-! math.isqrt -/
def rIsqrt : List V → Hp → VK → Prop := fun vs H Q => ∃ n : Int, vs = [.int n] ∧ 0 ≤ n ∧ n.natAbs < 2 ^ 250 ∧ ∀ r : Int, 0 ≤ r → r * r ≤ n → n < (r + 1) * (r + 1) → Q (.int r) H
theorem cr_isqrt {X : Cx} : CallR X (.builtin "math.isqrt") rIsqrt := by
  intro pins s σ H vs us Q I r h
  obtain ⟨a, rfl, h0, h1, q⟩ := h
  obtain ⟨u, rfl, t, rfl⟩ := vals1 r
  have hl : a.toNat.log2 < 250 := by
    have e : a.toNat = a.natAbs := by omega
    rw [e]
    exact PySem.Flt.log2_lt_of (by decide) h1
  obtain ⟨z1, z2⟩ := PySem.Float64.isqrt_spec a.toNat
  refine call_function_meets PySem.W.MGF.kind_isqrt PySem.W.MGF.plain_isqrt PySem.W.MGF.entry_isqrt (PySem.W.MGF.args_isqrt _) (PySem.W.mg_run_isqrt a t (by omega) (by omega) (by omega)).meets ?_
  refine ⟨.int ((Float64.isqrt a.toNat : Nat) : Int), H, I.tok _, ⟨_, rfl⟩, q _ (Int.natCast_nonneg _) ?_ ?_⟩
  · have := Int.ofNat_le.mpr z1
    rw [Int.natCast_mul] at this
    omega
  · have := Int.ofNat_lt.mpr z2
    rw [Int.natCast_mul, Int.natCast_add] at this
    have e : ((a.toNat : Nat) : Int) = a := by omega
    rw [e] at this
    exact this
theorem szOk {xs : List V} (h : Nat.ble xs.length 1000 = true) : xs.length ≤ sizeLine := Nat.le_trans (Nat.le_of_ble_eq_true h) (by decide)
theorem eqN {a b : Int} {A B : Prop} (h : a ≠ b) (q : B) : if decide (V.int a = V.int b) = true then A else B := ifN (fun z => h (V.int.inj z)) q
theorem eqY {a b : Int} {A B : Prop} (h : a = b) (q : A) : if decide (V.int a = V.int b) = true then A else B := ifY (congrArg V.int h) q
theorem neN {a b : Int} {A B : Prop} (h : a = b) (q : B) : if (!decide (V.int a = V.int b)) = true then A else B := iteNS (congrArg V.int h) q
/-! tracked things behind a call that changes the state alone -/
section
variable {K : PySem.W.Frag} {d c : Addr} {H H' : Hp}
theorem Keep.l (k : Keep d H H') (S : St1 K H d c) {a : Addr} {xs : List V} (h : H a = some (.lst xs)) : H' a = some (.lst xs) := let ⟨_, e⟩ := S.dk; k.lst e h
theorem Keep.t (k : Keep d H H') (S : St1 K H d c) {a : Addr} {xs : List V} (h : H a = some (.tup xs)) : H' a = some (.tup xs) := let ⟨_, e⟩ := S.dk; k.tp e h
theorem Keep.sl (k : Keep d H H') (S : St1 K H d c) {a : Addr} {xs : List V} (h : SqL K H a xs) : SqL K H' a xs := let ⟨_, e⟩ := S.dk; k.seq e h
theorem Keep.st (k : Keep d H H') (S : St1 K H d c) {a : Addr} {xs : List V} (h : SqT K H a xs) : SqT K H' a xs := let ⟨_, e⟩ := S.dk; k.tup e h
end
theorem sq0 (x : Int) : 0 ≤ x * x := by
  rcases ltge x 0 with z | z
  · have := Int.mul_nonneg (show 0 ≤ -x by omega) (show 0 ≤ -x by omega)
    rw [Int.neg_mul_neg] at this
    exact this
  · exact Int.mul_nonneg z z
theorem atI0 {α : Type} {xs : List α} {j : Nat} {v : α} (h : xs[j]? = some v) : atI xs (0 + (j : Int)) = some v := by
  rw [Int.zero_add]
  exact atI_nat h
theorem atI_back {α : Type} {xs : List α} {v : α} (h : xs.getLast? = some v) : atI xs (-1) = some v := by
  obtain ⟨ys, rfl⟩ := List.getLast?_eq_some_iff.mp h
  exact atI_last ys v
theorem eqvN {d : PyData} {A B : Prop} (h : d.canLay0 = true) (q : B) : if (!PyData.eqv d d) = true then A else B := by
  rw [SeqAt.eqv_refl d h]
  exact q
theorem getInt {ns : List Int} {i : Nat} {y : V} (h : (ns.map V.int)[i]? = some y) : ∃ x, y = .int x ∧ x ∈ ns ∧ i < ns.length ∧ ns.take (i + 1) = ns.take i ++ [x] := by
  rw [List.getElem?_map] at h
  cases e : ns[i]? with
  | none => rw [e] at h; cases h
  | some x =>
    rw [e] at h
    exact ⟨x, (Option.some.inj h).symm, List.mem_of_getElem? e, (List.getElem?_eq_some_iff.mp e).1, by rw [List.take_add_one, e]; rfl⟩
/-- the built-in names that the text has not bound -/
structure Txt0 (mg : Str → Option Value) : Prop where
  abs : mg "abs" = none
  int : mg "int" = none
  len : mg "len" = none
  bool : mg "bool" = none
  isinstance : mg "isinstance" = none
structure TxtA (mg : Str → Option Value) : Prop extends Txt0 mg where
  max : mg "max" = none
  min : mg "min" = none
  range : mg "range" = none
  tuple : mg "tuple" = none
  list : mg "list" = none
  sum : mg "sum" = none
  any : mg "any" = none
  all : mg "all" = none
  sorted : mg "sorted" = none
  dict : mg "dict" = none
  enumerate : mg "enumerate" = none
theorem getMap {α : Type} {f : α → V} {ns : List α} {i : Nat} {y : V} (h : (ns.map f)[i]? = some y) : ∃ x, y = f x ∧ x ∈ ns ∧ i < ns.length ∧ ns.take (i + 1) = ns.take i ++ [x] := by
  rw [List.getElem?_map] at h
  cases e : ns[i]? with
  | none => rw [e] at h; cases h
  | some x =>
    rw [e] at h
    exact ⟨x, (Option.some.inj h).symm, List.mem_of_getElem? e, (List.getElem?_eq_some_iff.mp e).1, by rw [List.take_add_one, e]; rfl⟩
theorem sq_le {x b : Int} (h0 : -b ≤ x) (h1 : x ≤ b) : x * x ≤ b * b := by
  rcases ltge x 0 with z | z
  · have := Int.mul_le_mul (show -x ≤ b by omega) (show -x ≤ b by omega) (show 0 ≤ -x by omega) (show 0 ≤ b by omega)
    rw [Int.neg_mul_neg] at this
    exact this
  · exact Int.mul_le_mul h1 h1 z (by omega)
/-- 2 ^ (24 - i) -/
def pw (i : Nat) : Int := (2 ^ (24 - i) : Nat)
theorem pw_step {i : Nat} (h : i < 24) : pw i = 2 * pw (i + 1) := by
  unfold pw
  rw [show 24 - i = (24 - (i + 1)) + 1 by omega, Nat.pow_succ]
  omega
theorem mapAt {α : Type} {f : α → V} {ns : List α} {i : Nat} (h : i < ns.length) : (ns.map f)[i]? = some (f ns[i]) := by simp [h]
theorem at_mod {α : Type} {f : α → V} {ns : List α} {z m : Int} (hm : m = (ns.length : Int)) (h : 0 < ns.length) : ∃ x, x ∈ ns ∧ atI (ns.map f) (z % m) = some (f x) := by
  obtain ⟨j, hj⟩ : ∃ j : Nat, z % m = (j : Int) := ⟨(z % m).toNat, by have := Int.emod_nonneg z (show m ≠ 0 by omega); omega⟩
  have hj2 : j < ns.length := by have := Int.emod_lt_of_pos z (show 0 < m by omega); omega
  exact ⟨ns[j], List.getElem_mem hj2, by rw [hj]; exact atI_nat (mapAt hj2)⟩
/-- all that stood, but at d -/
theorem Keep.none {d a : Addr} {H H' : Hp} (k : Keep d H H') (n : a ≠ d) (h : H' a = none) : H a = none := by
  cases e : H a with
  | none => rfl
  | some o => rw [k _ _ e n] at h; cases h
theorem atI_lastn {α : Type} {xs : List α} {v : α} {m : Int} (hm : m = (xs.length : Int) - 1) (h : xs.getLast? = some v) : atI xs m = some v := by
  obtain ⟨ys, rfl⟩ := List.getLast?_eq_some_iff.mp h
  rw [hm, List.length_append, List.length_singleton]
  have e : ((ys.length + 1 : Nat) : Int) - 1 = ((ys.length : Nat) : Int) := by omega
  rw [e]
  exact atI_nat (by simp)
theorem sq_swap (a b : Int) : (a - b) * (a - b) = (b - a) * (b - a) := by
  have e : a - b = -(b - a) := by omega
  rw [e, Int.neg_mul_neg]
def rLenK (K : PySem.W.Frag) : List V → Hp → VK → Prop := fun xs H Q => ∃ p ys, xs = [V.ref p] ∧ (SqL K H p ys ∨ SqT K H p ys) ∧ Q (.int ys.length) H
end Sk

set_option Elab.async false
set_option linter.all false
set_option maxRecDepth 100000
set_option maxHeartbeats 4000000
namespace Sk
open PySem PySem.Spec PyProof.Rows L2 GenW GxR
/-! generator expressions whose elements may call own defs -/
/-! ### one run of a generator's code -/
def Run1 (M : Model) (A : Around) (Z : End → Shared → Prop) (c : Code) (t : Sem PySem.Fin) (fs : List Frame) (s : Shared) : Prop :=
  ∀ (Γ : PySem.Ctx) (p : Pos), Γ.code = c → Γ.Woken A → ∃ e s', Runs M Γ p t fs s e s' ∧ Z e s'
section
variable {M : Model} {A : Around} {Z : End → Shared → Prop} {c : Code} {fs : List Frame} {s : Shared}
theorem run1_wrap {α : Type} {m : Sem α} {K : α → Sem PySem.Fin} {J : Value → Sem PySem.Fin} {gd lv}
    (h : wpAny M (A.over c fs) m (fun a s' => Run1 M A Z c (K a) fs s') (fun x s' => Run1 M A Z c (J x) fs s') s) : Run1 M A Z c (m.wrap K J gd lv) fs s := by
  intro Γ p e w
  subst e
  exact runs_wrap_of_wp K J gd lv m (h (Γ.over fs) p (w.over fs)) (fun a p' s' q => q Γ p' rfl w) fun x p' s' q => q Γ p' rfl w
theorem run1_bind {α β : Type} {m : Sem α} {K : α → Sem β} {K' : β → Sem PySem.Fin} {J' : Value → Sem PySem.Fin} {gd lv}
    (h : wpAny M (A.over c fs) m (fun a s' => Run1 M A Z c ((K a).wrap K' J' gd lv) fs s') (fun x s' => Run1 M A Z c (J' x) fs s') s) : Run1 M A Z c ((m >>= K).wrap K' J' gd lv) fs s := by
  rw [Sem.bind_eq_wrap', Sem.wrap_wrap]
  exact run1_wrap h
theorem run1_at {p' : Pos} {k : Unit → Sem PySem.Fin} (h : Run1 M A Z c (k ()) fs s) : Run1 M A Z c (.at p' k) fs s :=
  run1_wrap (m := standAt p') (K := k) (J := .raise) (gd := id) (lv := id) (wpAny_standAt h)
theorem run1_again {c' : Code} (q : c'.quiet = true) (h : Run1 M A Z c' (M.den c') fs s) : Run1 M A Z c (.pure (.again c')) fs s := by
  intro Γ p e w
  subst e
  obtain ⟨e, s', r, z⟩ := h (Γ.goto c') p rfl (w.goto c')
  exact ⟨e, s', Runs.head (c₁ := c') (fun _ _ x => .again q x) r, z⟩
theorem run1_end (r : Result) (h : Z (.ret r) s) : Run1 M A Z c (leafOf r) [] s := by
  intro Γ p e w
  exact ⟨.ret r, s, Runs.leaf r, h⟩
theorem run1_yield {v g l} {k : Resume → Sem PySem.Fin} (hfs : splitAtGen fs = none) (h : ∀ p, Z (.susp v g l k c p fs) s) : Run1 M A Z c (.yield v g l k) fs s := by
  intro Γ p e w
  subst e
  exact ⟨_, s, Runs.yield' fs hfs, h p⟩
end
/-- a generator's state, woken by None -/
def Goes1 (M : Model) (A : Around) (Z : End → Shared → Prop) (gs : GenState) (s : Shared) : Prop :=
  match gs with
  | .fresh c => Run1 M A Z c (M.den c) [] s
  | .suspended k _ c _ fs _ => Run1 M A Z c (k (.send .none)) fs s
  | _ => False
theorem bare_of {e : End} (h : e.quiet = true) : e.genState.bare = true := End.bare_of_quiet h
theorem wp_resume1 {M : Model} {A : Around} {Z : End → Shared → Prop} {E : Value → Shared → Prop} {s : Shared} {g : Nat} {gs : GenState} {l : List Value} {α : Type} {k : GenResult → Sem α} {Q : α → Shared → Prop} (hg : s.gens[g]? = some gs)
    (go : Goes1 M A Z gs (s.setGen g .running)) (hZ : ∀ e s1, Z e s1 → s.gens.size ≤ s1.gens.size → e.quiet = true ∧ wpAny M A (k e.result) Q E (s1.setGen g e.genState)) : wpAny M A (.resume g (.send .none) l k) Q E s := by
  intro Γ p hΓ
  rw [Sem.wp_resume]
  have wk : ∀ c, (Γ.wake c p).Woken A := fun c => hΓ.wake c p
  have sz : (s.setGen g .running).gens.size = s.gens.size := setGen_size s g .running
  cases gs with
  | fresh c =>
    obtain ⟨e, s1, r, z⟩ := go (Γ.wake c p) p rfl (wk c)
    obtain ⟨q1, q2⟩ := hZ e s1 z (by have := runs_gsz r; rw [sz] at this; exact this)
    exact ⟨_, _, by unfold Wakes; rw [hg]; exact ⟨e, s1, r, q1, rfl, rfl⟩, q2 Γ p hΓ⟩
  | suspended k0 l0 c p0 fs cl =>
    obtain ⟨e, s1, r, z⟩ := go (Γ.wake c p) p0 rfl (wk c)
    obtain ⟨q1, q2⟩ := hZ e s1 z (by have := runs_gsz r; rw [sz] at this; exact this)
    exact ⟨_, _, by unfold Wakes; rw [hg]; exact ⟨e, s1, r, q1, rfl, rfl⟩, q2 Γ p hΓ⟩
  | running => exact go.elim
  | finished => exact go.elim
/-- next(g): what the code's run comes to -/
theorem next1 {P : Program} {w : World} {A : Around} {E : Value → Shared → Prop} {s : Shared} {a : Addr} {g : Nat} {gs : GenState} {Z : End → Shared → Prop} {Q : Option Value → Shared → Prop} (hh : A.handled = none) (hl : s.heap.NoLimit) (hroom : A.depth < recursionLimit)
    (hg : s.heap.IsGen a g) (hgs : s.gens[g]? = some gs) (go : Goes1 (model P w) A.in1 Z gs (s.setGen g .running))
    (hY : ∀ e s1, Z e s1 → s.gens.size ≤ s1.gens.size → (e = .ret (.ok .next) ∧ ∀ h', (∀ b o, s1.heap.get? b = some o → h'.get? b = some o) → Q none { s1.setGen g .finished with heap := h' }) ∨
      (∃ v l k c p fs, e = .susp v false l k c p fs ∧ e.quiet = true ∧ Q (some v) (s1.setGen g e.genState))) : wpAny (model P w) A (pyNext (.ref a)) Q E s := by
  unfold pyNext
  refine wpAny_bind (wpAny_attempt (wpAny_callSpecial?_slot (name := Str.ofString "__next__") hg.typeIs slot_gen_next (wpAny_call_entry slot_gen_next hg.typeIs entry_gen_next ?_ (args_gen_next _))))
  show wpAny _ A.in1 (Builtin.Generator.genWake (.ref a) (.send .none)) _ _ s
  unfold Builtin.Generator.genWake
  refine wpAny_bind (wpAny_holding (wpAny_genNumber hg (wpAny_bind (wpAny_genState hgs ?_))))
  cases gs with
  | running => exact go.elim
  | finished => exact go.elim
  | _ =>
    refine wpAny_bind (wpAny_roomToWake hl hroom ?_)
    show wpAny _ A.in1 (.resume g (.send .none) [] _) _ _ s
    refine wp_resume1 hgs go fun e s1 z hsz => ?_
    rcases hY e s1 z hsz with ⟨rfl, q⟩ | ⟨v, l, k, c, p, fs, rfl, q1, q⟩
    · refine ⟨rfl, ?_⟩
      show wpAny _ A.in1 (newExc (.type "StopIteration") [] >>= _) _ _ _
      refine wpAny_bind ?_
      simp only [newExc, newTuple]
      refine wpAny_bind (wpAny_newObj_type ?_ (by size_fits))
      refine wpAny_bind (m := firstArgMember _ _) (wpAny_of_eq (a := Value.none) (by first | rfl | (simp only [firstArgMember]; rfl)) ?_)
      refine wpAny_newObj_type ?_ (by size_fits)
      simp only [raiseNew]
      refine wpAny_bind (wpAny_bind (wpAny_handled ?_))
      first | rw [show A.in1.handled = none from hh] | rw [hh]
      refine wpAny_throw ?_
      refine wpAny_bind (wpAny_isInstance (T := "StopIteration") (b := true) ⟨_, Heap.get?_push_size _ rfl, rfl⟩ isSubtype_stop ?_)
      exact wpAny_pure (q _ fun b o hb => Heap.get?_push_of_some _ (Heap.get?_push_of_some _ hb))
    · exact ⟨q1, wpAny_pure ⟨v, rfl, wpAny_pure q⟩⟩

/-! ### the generator's frame -/
abbrev gcx (X : Cx) (s : Shared) (H : Hp) (cenv : Env) (fp : List Addr) (A : Around) : Cx :=
  { X with A := A, s_0 := s, H_0 := H, env := cenv, outer := X.stack, stack := cenv :: X.stack, ex := fp, fn := fun _ => false, calm := true, pn := [], xe := fun _ _ => False }
/-- its scope: no cells of its own -/
structure GScp (scope : Scope) : Prop where
  co : scope.isCoroutine = false
  kind : scope.kind = .function
  nocell : ∀ y ∈ scope.names, y.2 ≠ .cell
  dot : scope.names.lookup (".0" : Str) = some NameKind.local
section
variable {X : Cx} {pins : List (Addr × Obj)} {σ : L2.St} {H : Hp} {s : Shared}
theorem blk_free {N : List Str} {scope : Scope} {own : List (Str × Nat)} (ok : BlkOk N X.env.scope scope own) (o : X.Ok) : ∀ y ∈ scope.names, y.2 = .free → ∃ c, X.env.cells.lookup y.1 = some c := fun y hy e =>
  (ok.free y hy e).elim (fun z => o.has _ (.inl z)) fun z => o.has _ (.inr z)
theorem gen_start {scope : Scope} {own : List (Str × Nat)} {fp : List Addr} {code : Value} {A : Around} {h' : Heap} {g' : Array GenState} {d' : Drawn} {t' : Nat} {m : Str → Option Value} (I : Inv X pins σ H s) (ok : BlkOk X.N X.env.scope scope own) (G : GScp scope) (hN : X.N.Nodup)
    (hfp : ∀ b ∈ fp, FpOk X pins H b ∧ b < s.heap.objs.size) (hd : A.handled = none) (hfr : A.frames = some (genEnv scope (cloFrom X.env.cells scope.names []) s.heap.objs.size code builtinsNs X.env :: X.stack))
    (hns : h'.Ns s.heap.objs.size m) (kp : ∀ b o, s.heap.get? b = some o → h'.get? b = some o) (hg : AllBare g') :
    Inv (gcx X s H (genEnv scope (cloFrom X.env.cells scope.names []) s.heap.objs.size code builtinsNs X.env) fp A) [] (wipe σ (own.map (·.2))) H { s with heap := h', gens := g', drawn := d', toks := t' } := by
  have hfree := blk_free ok I.ok
  have cm : ∀ {y c}, (cloFrom X.env.cells scope.names []).lookup y = some c → X.env.cells.lookup y = some c := fun e => NdefX.clo_cm hfree e
  have frk : ∀ y, scope.names.lookup y = some .free → ∃ c, (cloFrom X.env.cells scope.names []).lookup y = some c ∧ X.env.cells.lookup y = some c := fun y e => by
    have hy : (y, NameKind.free) ∈ scope.names := PySem.mem_of_lookup e
    obtain ⟨c, hc⟩ := hfree _ hy rfl
    exact ⟨c, NdefX.clo_has hfree hy hc, hc⟩
  have okG : (gcx X s H (genEnv scope (cloFrom X.env.cells scope.names []) s.heap.objs.size code builtinsNs X.env) fp A).Ok :=
    { mod := I.ok.mod, kind := G.kind, glob := I.ok.glob, blt := rfl, above := Nat.le_refl _
      inj := fun y z c e1 e2 => I.ok.inj y z c (cm e1) (cm e2)
      has := fun y hy => by
        have hy : scope.names.lookup y = some .cell ∨ scope.names.lookup y = some .free := hy
        rcases hy with hy | hy
        · exact absurd rfl (G.nocell _ (PySem.mem_of_lookup hy))
        · obtain ⟨c, e, _⟩ := frk y hy
          exact ⟨c, e⟩
      cab := fun y c z _ => by cases z
      hd := fun _ => hd
      frames := hfr
      stk := .inr ⟨rfl, rfl⟩
      exf := fun b hb => ⟨Nat.ne_of_lt (hfp b hb).2, fun y c e => (hfp b hb).1.2.2.2.2.1 y c (cm e)⟩
      bs := I.bs
      bsz := Nat.le_trans I.ok.bsz I.sz
      noex := fun b o e hb => by
        rcases (hfp b hb).1.2.2.2.1 with z | z
        · exact I.ok.noex b o e z
        · exact Nat.lt_irrefl _ (Nat.lt_of_lt_of_le (Heap.lt_size e) (Nat.le_trans I.ok.bsz z))
      exfs := fun b hb z => by
        rcases List.mem_cons.mp (I.stkSub b z) with z | z
        · exact (hfp b hb).1.2.1 z
        · exact (hfp b hb).1.2.2.1 z
      funs := I.stack
      frf := I.stkFree }
  refine ⟨okG, rfl, hg, Un.kept kp, ⟨m, hns, fun i y v e1 e2 e3 => ?_⟩, fun y c e => ?_, I.hok.fresh (Nat.le_refl _), fun y c e => I.freeC y c (cm e), fun p hp => absurd (show p ∈ ([] : List (Addr × Obj)) ++ [] from hp) (by simp), I.hok.kept kp, by rw [wipe_length]; exact I.len⟩
  · obtain ⟨e2, hne⟩ := wipe_some e2
    have no : ∀ k, scope.names.lookup y = some k → k = .local ∨ k = .cell → False := fun k hk hh => by
      rcases ok.own _ (PySem.mem_of_lookup hk) hh with z | z
      · obtain ⟨p, hp, hpy⟩ := List.mem_map.mp z
        have q := ok.ix p hp
        have hpy : p.1 = y := hpy
        rw [hpy] at q
        exact hne (List.mem_map.mpr ⟨p, hp, nodup_ix hN q e1⟩)
      · exact z (List.mem_of_getElem? e1)
    have e3 : scope.names.lookup y = some .local ∨ scope.names.lookup y = some .cell ∨ scope.names.lookup y = some .free := e3
    have hfr2 : scope.names.lookup y = some .free := by
      rcases e3 with z | z | z
      · exact (no _ z (.inl rfl)).elim
      · exact (no _ z (.inr rfl)).elim
      · exact z
    obtain ⟨c, c1, c2⟩ := frk y hfr2
    obtain ⟨m0, hn0, hl⟩ := I.loc
    have k := ok.free _ (PySem.mem_of_lookup hfr2) rfl
    obtain ⟨u, r, q⟩ := hl i y v e1 e2 (k.elim (fun z => .inr (.inl z)) fun z => .inr (.inr z))
    refine ⟨u, r, .inr ⟨.inr hfr2, c, c1, ?_⟩⟩
    rcases q with ⟨z, _⟩ | ⟨_, c', e', z⟩
    · have z : X.env.scope.names.lookup y = some .local := z
      rcases k with k | k <;> rw [show X.env.scope.names.lookup y = _ from k] at z <;> cases z
    · rw [c2] at e'
      cases e'
      exact z.keeps kp
  · obtain ⟨v, z⟩ := I.cell y c (cm e)
    exact ⟨v, z.keeps kp⟩
end

/-! ### asleep and awake -/
/-- what the consumer may do while the generator sleeps: its own objects at Sx, new objects -/
structure Aft (Sx : List Addr) (s s' : Shared) : Prop where
  os : s'.os = s.os
  bare : AllBare s'.gens
  keep : ∀ b o, b ∉ Sx → s.heap.get? b = some o → s'.heap.get? b = some o
  own : ∀ b ∈ Sx, ∃ o, s'.heap.get? b = some o ∧ ∀ v, o.data ≠ .cell v
/-- the consumer's word: what is out so far, the next value, the heap, going on -/
abbrev Eats := List V → V → Hp → Prop → Prop
structure GEx where
  X : Cx
  s4 : Shared
  H1 : Hp
  cenv : Env
  fp : List Addr
  B : Around
  σ0 : L2.St
  ge : Expr
  it : Addr
  a : Addr
  g : Nat
  Sx : List Addr
  C : Eats
  F : List V → Hp → Prop
abbrev GEx.loop (Y : GEx) : Code := .compLoop Y.ge 0 (.ref Y.it) .none Y.cenv
abbrev GEx.Xg (Y : GEx) : Cx := gcx Y.X Y.s4 Y.H1 Y.cenv Y.fp (Y.B.over Y.loop [])
abbrev GEx.pn (Y : GEx) (s : Shared) : List (Addr × Obj) := pinsAt (Y.a :: Y.Sx) s.heap
abbrev GEx.M (Y : GEx) : Model := model Y.X.prog Y.X.w
/-- a run's end: over, or a value is handed out and R holds of what sleeps -/
def GEx.Z (Y : GEx) (R : List V → Hp → GenState → Shared → Prop) (ys : List V) (s0 : Shared) (e : End) (s1 : Shared) : Prop :=
  (e = .ret (.ok .next) ∧ ∃ σ' H', Inv Y.Xg (Y.pn s0) σ' H' s1 ∧ Y.F ys H') ∨
  ∃ v l k c p fs y σ' H', e = .susp v false l k c p fs ∧ e.quiet = true ∧ Inv Y.Xg (Y.pn s0) σ' H' s1 ∧ RelV y v ∧ Y.C ys y H' (R (ys ++ [y]) H' e.genState s1)
/-- asleep: at most n more values -/
def GEx.Rdy (Y : GEx) : Nat → List V → Hp → GenState → Shared → Prop
  | 0 => fun ys H gs s => ∀ s', Aft Y.Sx s s' → Goes1 Y.M Y.B (Y.Z (fun _ _ _ _ => False) ys s') gs (s'.setGen Y.g .running)
  | n + 1 => fun ys H gs s => ∀ s', Aft Y.Sx s s' → Goes1 Y.M Y.B (Y.Z (Y.Rdy n) ys s') gs (s'.setGen Y.g .running)
def GEx.Rp (Y : GEx) : Nat → List V → Hp → GenState → Shared → Prop
  | 0 => fun _ _ _ _ => False
  | n + 1 => Y.Rdy n
theorem GEx.rdy_iff (Y : GEx) (n : Nat) (ys : List V) (H : Hp) (gs : GenState) (s : Shared) : Y.Rdy n ys H gs s ↔ ∀ s', Aft Y.Sx s s' → Goes1 Y.M Y.B (Y.Z (Y.Rp n) ys s') gs (s'.setGen Y.g .running) := by
  cases n <;> rfl
/-- the addresses are new -/
structure GEx.Ok (Y : GEx) : Prop where
  new : ∀ b ∈ Y.a :: Y.Sx, Y.s4.heap.objs.size < b
  loc : Y.cenv.locals = Y.s4.heap.objs.size
  cel : ∀ y c, Y.cenv.cells.lookup y = some c → c < Y.s4.heap.objs.size
  fps : ∀ b ∈ Y.fp, b < Y.s4.heap.objs.size
  aS : Y.a ∉ Y.Sx
  co : Y.cenv.scope.isCoroutine = false
theorem setGen_os (s : Shared) (g : Nat) (x : GenState) : (s.setGen g x).os = s.os := rfl
theorem setGen_heap (s : Shared) (g : Nat) (x : GenState) : (s.setGen g x).heap = s.heap := rfl
section
variable {Y : GEx} {σ σ' : L2.St} {H : Hp} {s s0 s1 : Shared} {pins : List (Addr × Obj)}
theorem GEx.Ok.fpOk (O : Y.Ok) (I : Inv Y.Xg (Y.pn s0) σ H s) (hn : ∀ b ∈ Y.fp, H b = none) : ∀ b ∈ Y.fp, FpOk Y.Xg (Y.pn s0) H b := fun b hb =>
  ⟨hn b hb, (I.ok.exf b hb).1, I.ok.exfs b hb, .inl hb, fun x c e => (I.ok.exf b hb).2 x c e, fun p hp => by
    have hp : p ∈ Y.pn s0 := by
      rcases List.mem_append.mp hp with z | z
      · cases z
      · exact z
    have h1 := O.new p.1 (of_pinsAt hp).1
    have h2 := O.fps b hb
    exact fun z => Nat.lt_irrefl _ (Nat.lt_trans h2 (z ▸ h1))⟩
/-- what is pinned while it runs -/
theorem GEx.Ok.pinned (O : Y.Ok) (I : Inv Y.Xg (Y.pn s0) σ H s) {b : Addr} {o : Obj} (hb : b ∈ Y.a :: Y.Sx) (e : s0.heap.get? b = some o) : s.heap.get? b = some o ∧ H b = none :=
  let z := I.pin (b, o) (List.mem_append_right _ (mem_pinsAt hb e))
  ⟨z.1, z.2.1⟩
/-- woken again -/
theorem GEx.Ok.woken (O : Y.Ok) (I : Inv Y.Xg (Y.pn s0) σ H s) (there : ∀ b ∈ Y.a :: Y.Sx, ∃ o, s0.heap.get? b = some o) (ag : ∃ o, s0.heap.get? Y.a = some o ∧ ∀ v, o.data ≠ .cell v) (A : Aft Y.Sx s s1) (x : GenState) (hx : x.bare = true) :
    Inv Y.Xg (Y.pn s1) σ H (s1.setGen Y.g x) := by
  have hT : ∀ b ∈ Y.a :: Y.Sx, H b = none := fun b hb => by
    obtain ⟨o, e⟩ := there b hb
    exact (O.pinned I hb e).2
  have I0 : Inv Y.Xg [] σ H s := I.pins_of fun p hp => absurd (show p ∈ ([] : List (Addr × Obj)) ++ [] from hp) (by simp)
  have nt : ∀ b u, H b = some u → b ∉ Y.Sx := fun b u q hb => by rw [hT b (List.mem_cons_of_mem _ hb)] at q; cases q
  obtain ⟨z1, z2, z3, z4⟩ := A
  obtain ⟨hh, g', d, t, o⟩ := s1
  have ho : o = s.os := z1
  subst ho
  have J : Inv Y.Xg [] σ H { s with heap := hh, gens := (({ heap := hh, gens := g', drawn := d, toks := t, os := s.os } : Shared).setGen Y.g x).gens, drawn := d, toks := t } := by
    refine I0.step (h' := hh) (g' := (({ heap := hh, gens := g', drawn := d, toks := t, os := s.os } : Shared).setGen Y.g x).gens) (t' := t) (d' := d) (ch := Y.Sx) (fun b hb => ?_) (fun b ob _ _ hc q _ => z3 b ob hc q) (fun b ob _ _ hc q _ => ⟨ob.slots, z3 b ob hc q⟩)
      (fun _ _ _ _ n => n) (fun b ob hc q => ⟨ob, z3 b ob hc q⟩) (fun _ _ q => q) (fun _ _ _ q => q) (fun b ps q => ⟨#[], by rw [q]; simp⟩) (fun m hm => ?_) (fun b u q => ?_) (allBare_setGen z2 hx)
    · have h1 := O.new b (List.mem_cons_of_mem _ hb)
      refine ⟨.inr (Nat.le_of_lt h1), fun z => ?_, fun y c e z => ?_, fun p hp => absurd (show p ∈ ([] : List (Addr × Obj)) ++ [] from hp) (by simp)⟩
      · have z : b = Y.cenv.locals := z
        rw [z, O.loc] at h1
        exact Nat.lt_irrefl _ h1
      · have h2 := O.cel y c e
        rw [z] at h2
        exact Nat.lt_irrefl _ (Nat.lt_trans h1 h2)
    · obtain ⟨ob, es, ep, ho, r⟩ := hm
      refine ⟨ob, es, ep, z3 _ ob (fun hb => ?_) ho, r⟩
      have h1 := O.new _ (List.mem_cons_of_mem _ hb)
      have h1 : Y.s4.heap.objs.size < Y.cenv.locals := h1
      rw [O.loc] at h1
      exact Nat.lt_irrefl _ h1
    · refine (I0.hok b u q).stay (fun c v hc y => z3 c v ?_ y) (fun _ y => y) fun _ _ y => y
      rcases hc with y | y
      · rw [y]; exact nt b u q
      · exact nt c _ y
  refine J.pins_of fun p hp => ?_
  have hp : p ∈ pinsAt (Y.a :: Y.Sx) hh := hp
  obtain ⟨hb, e⟩ := of_pinsAt hp
  have h1 := O.new _ hb
  refine ⟨e, hT _ hb, fun z => ?_, fun z => ?_, ?_⟩
  · have z : p.1 = Y.cenv.locals := z
    rw [z, O.loc] at h1
    exact Nat.lt_irrefl _ h1
  · obtain ⟨_, ob, hob, _⟩ := J.ok.funs.mem z
    exact absurd (Nat.lt_trans h1 (Heap.lt_size hob)) (Nat.lt_irrefl _)
  · rcases List.mem_cons.mp hb with z | z
    · obtain ⟨oa, ea, da⟩ := ag
      have q := (O.pinned I List.mem_cons_self ea).1
      have q2 := z3 _ oa O.aS q
      rw [z] at e
      rw [e] at q2
      cases q2
      exact da
    · obtain ⟨ob, eb, db⟩ := z4 _ z
      have eb : hh.get? p.1 = some ob := eb
      rw [e] at eb
      cases eb
      exact db
end

/-! ### the turns -/
def GStep (W : Nat → Nat → List V → Hp → Prop) (J : It) (g : TG) (tt : TT) (te : TE) (vs : List Nat) (σ0 : L2.St) (C : Eats) (F : List V → Hp → Prop) : Prop :=
  ∀ i m ys H, W i m ys H → (J.stop i H ∧ F ys H) ∨ (J.go i H ∧ ∃ Nx : List V → Hp → Prop, (∀ ys' H', Nx ys' H' → ∃ m', m' < m ∧ W (i + 1) m' ys' H') ∧
    ∀ x H', J.yld i H x H' → g x σ0 H' fun σ2 H2 => wipe σ2 vs = σ0 ∧ tt σ2 H2 fun b H3 => if b = true then te σ2 H3 fun y H4 => C ys y H4 (Nx (ys ++ [y]) H4) else Nx ys H3)
def EatsMono (C : Eats) : Prop := ∀ ys y H (p q : Prop), (p → q) → C ys y H p → C ys y H q
section
variable {ge elt iter tg : Expr} {cs : List Comprehension} {ifs : List Expr} {scope : Scope} {gpos : Pos}
theorem turn_one {it acc : Value} {env : Env} (h : ge = .GeneratorExp elt cs scope gpos) : compTurn ge 0 it acc env = compTurn (.GeneratorExp elt cs scope gpos) 0 it acc env := by rw [h]
theorem den_one {P : Program} {w : World} {it acc : Value} {env : Env} (h : ge = .GeneratorExp elt cs scope gpos) : (model P w).den (.compLoop ge 0 it acc env) = (compTurn ge 0 it acc env).onRaise (leaving env) := by subst h; rfl
theorem den_start {P : Program} {w : World} {it acc : Value} {env : Env} (h : ge = .GeneratorExp elt cs scope gpos) : (model P w).den (.compStart ge 0 it acc env) = (compStart ge 0 it acc env).onRaise (leaving env) := by subst h; rfl
theorem quiet_loop {d : Nat} {it acc : Value} {env : Env} : (Code.compLoop ge d it acc env).quiet = true := by rfl
end
theorem gen_turns {Y : GEx} {elt tg iter : Expr} {ifs : List Expr} {scope : Scope} {gpos : Pos} (hge : Y.ge = .GeneratorExp elt [⟨tg, iter, ifs, 0⟩] scope gpos) {J : It} {tn : Nat → Heap → Prop} {g : TG} {tt : TT} {te : TE} {vs : List Nat} {W : Nat → Nat → List V → Hp → Prop} (O : Y.Ok) (T : Turn Y.X.prog Y.X.w Y.X.K tg J Y.fp Y.it tn) (hg : PG Y.Xg tg g) (ht : PTs Y.Xg ifs tt) (he : PE Y.Xg elt te)
    (hC : EatsMono Y.C) (st : GStep W J g tt te vs Y.σ0 Y.C Y.F) : ∀ (m n : Nat) (i : Nat) (ys : List V) (H : Hp) (s0 s : Shared), m ≤ n → (∀ b ∈ Y.a :: Y.Sx, ∃ o, s0.heap.get? b = some o) → (∃ o, s0.heap.get? Y.a = some o ∧ ∀ v, o.data ≠ .cell v) → Inv Y.Xg (Y.pn s0) Y.σ0 H s → tn i s.heap → (∀ b ∈ Y.fp, H b = none) → W i m ys H →
      Run1 Y.M Y.B (Y.Z (Y.Rp n) ys s0) Y.loop (Y.M.den Y.loop) [] s := by
  intro m
  induction m using Nat.strongRecOn with
  | ind m ih =>
    intro n i ys H s0 s hmn there ag I stt fr w
    have hco := O.co
    rw [den_one hge, turn_one hge, compTurn_gen, ← hge, Sem.onRaise_eq_wrap]
    refine run1_bind (wpAny_standAt ?_)
    rcases st i m ys H w with ⟨stop, fin⟩ | ⟨go, Nx, hN, step⟩
    · refine run1_bind (wpAny_mono (T.done Y.Xg rfl rfl rfl rfl i (Y.pn s0) s Y.σ0 H (fun _ _ => False) I (O.fpOk I fr) stt stop) (fun r s1 ⟨hr, I1⟩ => ?_) fun _ _ z => z.elim)
      subst hr
      exact run1_end (.ok .next) (.inl ⟨rfl, Y.σ0, H, I1, fin⟩)
    · refine run1_bind (wpAny_mono (T.item Y.Xg rfl rfl rfl rfl i (Y.pn s0) s Y.σ0 H (fun _ _ => False) I (O.fpOk I fr) stt go) (fun r s1 ⟨u, hr, h1⟩ => ?_) fun _ _ z => z.elim)
      subst hr
      refine run1_bind (wpAny_mono h1 (fun _ s2 ⟨x, H2, I2, r2, y2, st2, fr2⟩ => ?_) fun _ _ z => z.elim)
      have I2' := I2.pinned (O.fpOk I2 fr2) (T.obj _ _ st2)
      refine run1_bind (wpAny_mono (hg.run _ s2 Y.σ0 H2 x u _ I2' r2 (step x H2 y2)) (fun _ s3 ⟨σ3, H3, I3, hw3, q3⟩ => ?_) fun _ _ z => z.elim)
      refine run1_bind (wpAny_mono (ht.run _ s3 σ3 H3 _ I3 q3) (fun b s4 ⟨H4, I4, q4⟩ => ?_) fun _ _ z => z.elim)
      have fpin : ∀ {s' : Shared} {H' : Hp}, Inv Y.Xg (Y.pn s0 ++ pinsAt Y.fp s2.heap) σ3 H' s' → tn (i + 1) s'.heap ∧ ∀ b ∈ Y.fp, H' b = none := fun {s' H'} I' => by
        have pin' : ∀ b ∈ Y.fp, ∀ o, s2.heap.get? b = some o → s'.heap.get? b = some o ∧ H' b = none := fun b hb o e =>
          let z := I'.pin (b, o) (List.mem_append_right _ (List.mem_append_right _ (mem_pinsAt hb e)))
          ⟨z.1, z.2.1⟩
        refine ⟨T.keep _ _ _ st2 fun b hb o e => (pin' b hb o e).1, fun b hb => ?_⟩
        obtain ⟨o, e, _⟩ := T.obj _ _ st2 b hb
        exact (pin' b hb o e).2
      have wk : ∀ {s' : Shared} {H' : Hp} {pins : List (Addr × Obj)}, Inv Y.Xg pins σ3 H' s' → Inv Y.Xg pins Y.σ0 H' s' := fun {s' H' pins} I' => by
        have hl : Y.σ0.length = σ3.length := by rw [← hw3, wipe_length]
        refine I'.weak hl fun j v e => ?_
        rw [← hw3] at e
        exact (wipe_some e).1
      cases b with
      | false =>
        simp only [Bool.false_eq_true, if_false] at q4 ⊢
        obtain ⟨m', hm, w'⟩ := hN ys H4 q4
        exact run1_again rfl (ih m' hm n (i + 1) ys H4 s0 s4 (by omega) there ag (wk I4.unpinned) (fpin I4).1 (fpin I4).2 w')
      | true =>
        simp only [if_true] at q4 ⊢
        have hy : ∀ v, yieldOut Y.cenv v = yieldValue v := fun v => by simp only [yieldOut, hco, Bool.false_eq_true, if_false]
        simp only [hy]
        rw [Sem.bind_eq_wrap', Sem.bind_eq_wrap', Sem.wrap_wrap, Sem.wrap_wrap]
        refine run1_wrap (wpAny_mono (he.run _ s4 σ3 H4 _ I4 q4) (fun v s5 ⟨y, H5, I5, r5, c5⟩ => ?_) fun _ _ z => z.elim)
        refine run1_at (run1_yield rfl fun p => .inr ⟨v, _, _, _, p, _, y, σ3, H5, rfl, rfl, I5.unpinned, r5, hC _ _ _ _ _ (fun nx => ?_) c5⟩)
        obtain ⟨m', hm, w'⟩ := hN _ H5 nx
        obtain ⟨n', rfl⟩ : ∃ k, n = k + 1 := ⟨n - 1, by omega⟩
        refine (Y.rdy_iff n' _ _ _ _).mpr fun s6 A6 => ?_
        have there6 : ∀ b ∈ Y.a :: Y.Sx, ∃ o, s6.heap.get? b = some o := fun b hb => by
          rcases List.mem_cons.mp hb with z | z
          · obtain ⟨o, e⟩ := there b hb
            exact ⟨o, A6.keep b o (by rw [z]; exact O.aS) (O.pinned I5.unpinned hb e).1⟩
          · obtain ⟨o, e, _⟩ := A6.own b z
            exact ⟨o, e⟩
        have ag6 : ∃ o, s6.heap.get? Y.a = some o ∧ ∀ v, o.data ≠ .cell v := by
          obtain ⟨o, e, d⟩ := ag
          exact ⟨o, A6.keep _ o O.aS (O.pinned I5.unpinned List.mem_cons_self e).1, d⟩
        have I6 := O.woken (wk I5.unpinned) there ag A6 .running rfl
        show Run1 _ _ _ _ _ [] _
        have st6 : tn (i + 1) s6.heap := T.keep _ _ _ (fpin I5).1 fun b hb o e => A6.keep b o (fun z => Nat.lt_irrefl _ (Nat.lt_trans (O.fps b hb) (O.new b (List.mem_cons_of_mem _ z)))) e
        exact run1_again rfl (ih m' hm n' (i + 1) _ H5 s6 (s6.setGen Y.g .running) (by omega) there6 ag6 I6 st6 (fpin I5).2 w')
/-! ### two clauses -/
theorem run1_call {M : Model} {A : Around} {Z : End → Shared → Prop} {c c' : Code} {fs : List Frame} {s : Shared} {h g l} {k : Result → Sem PySem.Fin} (hc : ∀ p, Run1 M A Z c' (M.den c') (.ret k h g l c p [] :: fs) s) : Run1 M A Z c (.call c' h g l k) fs s := by
  intro Γ p e w
  subst e
  obtain ⟨e, s', r, z⟩ := hc p (Γ.goto c') p rfl (w.goto c')
  exact ⟨e, s', runs_call_seg r, z⟩
theorem run1_leaf {M : Model} {A : Around} {Z : End → Shared → Prop} {c c1 : Code} {fs : List Frame} {s : Shared} {k h g l p1 kp} (r : Result) (hk : Run1 M A Z c1 (k r) fs s) : Run1 M A Z c (leafOf r) (.ret k h g l c1 p1 kp :: fs) s := by
  intro Γ p e w
  subst e
  obtain ⟨e, s', hr, z⟩ := hk (Γ.goto c1) p1 rfl (w.goto c1)
  exact ⟨e, s', Runs.pop r hr, z⟩
section
variable {ge elt : Expr} {cs : List Comprehension} {scope : Scope} {gpos : Pos}
theorem den_in {P : Program} {w : World} {it acc : Value} {env : Env} (h : ge = .GeneratorExp elt cs scope gpos) : (model P w).den (.compLoop ge 1 it acc env) = (compTurn ge 1 it acc env).onRaise (fun x => do noteFrame x env; theTreesLotGoes x) := by subst h; rfl
theorem den_in0 {P : Program} {w : World} {it acc : Value} {env : Env} (h : ge = .GeneratorExp elt cs scope gpos) : (model P w).den (.compStart ge 1 it acc env) = (compStart ge 1 it acc env).onRaise (fun x => do noteFrame x env; standAt theWindowsPlace) := by subst h; rfl
theorem over_in {B : Around} {it it1 acc acc1 : Value} {env : Env} {fs : List Frame} {k : Result → Sem PySem.Fin} {g : Bool} {l kp : List Value} {p : Pos} (h : ge = .GeneratorExp elt cs scope gpos) :
    B.over (.compLoop ge 1 it1 acc1 env) (.ret k none g l (.compLoop ge 0 it acc env) p kp :: fs) = B.over (.compLoop ge 0 it acc env) fs ∧ B.over (.compStart ge 1 it1 acc1 env) (.ret k none g l (.compLoop ge 0 it acc env) p kp :: fs) = B.over (.compLoop ge 0 it acc env) fs := by
  subst h
  exact ⟨over_loop rfl rfl, over_loop rfl rfl⟩
end
def GStep2 (W : Nat → Nat → List V → Hp → Prop) (J : It) (g : TG) (tt : TT) (wi1 : TI) (g1 : TG) (tt1 : TT) (te : TE) (vs vs1 : List Nat) (σ0 : L2.St) (C : Eats) (F : List V → Hp → Prop) : Prop :=
  ∀ i m ys H, W i m ys H → (J.stop i H ∧ F ys H) ∨ (J.go i H ∧ ∀ x H', J.yld i H x H' → g x σ0 H' fun σ2 H2 => wipe σ2 vs = σ0 ∧ tt σ2 H2 fun b H3 => if b = true then wi1 σ2 H3 fun J1 H4 =>
      ∃ W1 : Nat → Nat → List V → Hp → Prop, (∃ m1, m1 < m ∧ W1 0 m1 ys H4) ∧ ∀ i1 m1 ys H, W1 i1 m1 ys H → (J1.stop i1 H ∧ ∃ m', m' ≤ m1 ∧ m' < m ∧ W (i + 1) m' ys H) ∨ (J1.go i1 H ∧ ∃ N1 : List V → Hp → Prop, (∀ ys' H', N1 ys' H' → ∃ m', m' < m1 ∧ W1 (i1 + 1) m' ys' H') ∧
        ∀ x1 H', J1.yld i1 H x1 H' → g1 x1 (wipe σ2 vs1) H' fun σ3 H5 => wipe σ3 vs1 = wipe σ2 vs1 ∧ tt1 σ3 H5 fun b1 H6 => if b1 = true then te σ3 H6 fun y H7 => C ys y H7 (N1 (ys ++ [y]) H7) else N1 ys H6)
    else ∃ m', m' < m ∧ W (i + 1) m' ys H3)
/-- what stays true of the inner iterator -/
structure InIt (Y : GEx) (fp1 : List Addr) : Prop where
  loc : ∀ b ∈ fp1, b ≠ Y.cenv.locals
  fs : ∀ b ∈ fp1, b ∉ frs Y.X.stack
  sz : ∀ b ∈ fp1, b ∈ Y.fp ∨ Y.s4.heap.objs.size ≤ b
  cel : ∀ b ∈ fp1, ∀ x c, Y.cenv.cells.lookup x = some c → c ≠ b
  own : ∀ b ∈ fp1, b ∉ Y.a :: Y.Sx
  out : ∀ b ∈ fp1, b ∉ Y.fp
section
variable {Y : GEx} {σ : L2.St} {H : Hp} {s s0 : Shared} {fp1 : List Addr}
theorem InIt.fpOk (N : InIt Y fp1) {h : Heap} (hn : ∀ b ∈ fp1, H b = none) : ∀ b ∈ fp1, FpOk Y.Xg (Y.pn s0 ++ pinsAt Y.fp h) H b := fun b hb =>
  ⟨hn b hb, N.loc b hb, N.fs b hb, N.sz b hb, N.cel b hb, fun p hp z => by
    have hp : p ∈ Y.pn s0 ++ pinsAt Y.fp h := by
      rcases List.mem_append.mp hp with y | y
      · cases y
      · exact y
    rcases List.mem_append.mp hp with y | y
    · exact N.own b hb (z ▸ (of_pinsAt y).1)
    · exact N.out b hb (z ▸ (of_pinsAt y).1)⟩
end
theorem gen_inner {Y : GEx} {elt tg iter tg1 iter1 : Expr} {ifs ifs1 : List Expr} {scope : Scope} {gpos : Pos} (hge : Y.ge = .GeneratorExp elt [⟨tg, iter, ifs, 0⟩, ⟨tg1, iter1, ifs1, 0⟩] scope gpos) {J J1 : It} {tn tn1 : Nat → Heap → Prop} {g1 : TG} {tt1 : TT} {te : TE} {vs vs1 : List Nat} {fp1 : List Addr} {it1 : Addr} {i : Nat} {σ2 : L2.St}
    {W1 : Nat → Nat → List V → Hp → Prop} {Wo : Nat → List V → Hp → Prop} {k : Result → Sem PySem.Fin} {l kp : List Value} {p : Pos} (O : Y.Ok) (T : Turn Y.X.prog Y.X.w Y.X.K tg J Y.fp Y.it tn) (T1 : Turn Y.X.prog Y.X.w Y.X.K tg1 J1 fp1 it1 tn1) (N : InIt Y fp1) (hσ : wipe σ2 vs = Y.σ0) (hvs : ∀ v ∈ vs1, v ∈ vs) (hg : PG Y.Xg tg1 g1) (ht : PTs Y.Xg ifs1 tt1) (he : PE Y.Xg elt te) (hC : EatsMono Y.C)
    (st : ∀ i1 m1 ys H, W1 i1 m1 ys H → (J1.stop i1 H ∧ ∃ m', m' ≤ m1 ∧ Wo m' ys H) ∨ (J1.go i1 H ∧ ∃ N1 : List V → Hp → Prop, (∀ ys' H', N1 ys' H' → ∃ m', m' < m1 ∧ W1 (i1 + 1) m' ys' H') ∧
        ∀ x1 H', J1.yld i1 H x1 H' → g1 x1 (wipe σ2 vs1) H' fun σ3 H5 => wipe σ3 vs1 = wipe σ2 vs1 ∧ tt1 σ3 H5 fun b1 H6 => if b1 = true then te σ3 H6 fun y H7 => Y.C ys y H7 (N1 (ys ++ [y]) H7) else N1 ys H6))
    (cont : ∀ (m' n : Nat) (ys : List V) (H : Hp) (s0 s : Shared), m' ≤ n → (∀ b ∈ Y.a :: Y.Sx, ∃ o, s0.heap.get? b = some o) → (∃ o, s0.heap.get? Y.a = some o ∧ ∀ v, o.data ≠ .cell v) → Inv Y.Xg (Y.pn s0) Y.σ0 H s → tn i s.heap → (∀ b ∈ Y.fp, H b = none) → Wo m' ys H → Run1 Y.M Y.B (Y.Z (Y.Rp n) ys s0) Y.loop (k (.ok .next)) [] s) :
    ∀ (m1 n i1 : Nat) (ys : List V) (H : Hp) (s0 s : Shared), m1 ≤ n → (∀ b ∈ Y.a :: Y.Sx, ∃ o, s0.heap.get? b = some o) → (∃ o, s0.heap.get? Y.a = some o ∧ ∀ v, o.data ≠ .cell v) → Inv Y.Xg (Y.pn s0) (wipe σ2 vs1) H s → tn i s.heap → (∀ b ∈ Y.fp, H b = none) → tn1 i1 s.heap → (∀ b ∈ fp1, H b = none) → W1 i1 m1 ys H →
      Run1 Y.M Y.B (Y.Z (Y.Rp n) ys s0) (.compLoop Y.ge 1 (.ref it1) .none Y.cenv) (Y.M.den (.compLoop Y.ge 1 (.ref it1) .none Y.cenv)) [.ret k none false l Y.loop p kp] s := by
  intro m1
  induction m1 using Nat.strongRecOn with
  | ind m1 ih =>
    intro n i1 ys H s0 s hmn there ag I stt fr st1 fr1 w
    have hco := O.co
    have ov := over_in (B := Y.B) (it := .ref Y.it) (it1 := .ref it1) (acc := .none) (acc1 := .none) (env := Y.cenv) (fs := []) (k := k) (g := false) (l := l) (kp := kp) (p := p) hge
    rw [den_in hge, Sem.onRaise_eq_wrap]
    have ct : compTurn Y.ge 1 (.ref it1) .none Y.cenv = compTurn (.GeneratorExp elt [⟨tg, iter, ifs, 0⟩, ⟨tg1, iter1, ifs1, 0⟩] scope gpos) 1 (.ref it1) .none Y.cenv := by rw [← hge]
    rw [ct]
    unfold compTurn
    simp only [List.getElem?_cons_succ, List.getElem?_cons_zero, List.getElem?_nil, bne_self_eq_false, Bool.false_eq_true, if_false]
    rw [← hge]
    have II := I.pinned (O.fpOk I fr) (T.obj _ _ stt)
    refine run1_bind (wpAny_standAt ?_)
    rcases st i1 m1 ys H w with ⟨stop, m', hm', wo⟩ | ⟨go, N1, hN, step⟩
    · refine run1_bind ?_
      rw [ov.1]
      refine wpAny_mono (T1.done Y.Xg rfl rfl rfl rfl i1 _ s _ H (fun _ _ => False) II (N.fpOk fr1) st1 stop) (fun r s1 ⟨hr, I1⟩ => ?_) fun _ _ z => z.elim
      subst hr
      have J1 : Inv Y.Xg (Y.pn s0) Y.σ0 H s1 := by
        refine (I1.unpinned).weak (by rw [← hσ, wipe_length, wipe_length]) fun j v e => ?_
        rw [← hσ] at e
        obtain ⟨e, hv⟩ := wipe_some e
        rw [wipe_out fun z => hv (hvs j z)]
        exact e
      have pin' : ∀ b ∈ Y.fp, ∀ o, s.heap.get? b = some o → s1.heap.get? b = some o := fun b hb o e => (I1.pin (b, o) (List.mem_append_right _ (List.mem_append_right _ (mem_pinsAt hb e)))).1
      exact run1_leaf (.ok .next) (cont m' n ys H s0 s1 (by omega) there ag J1 (T.keep _ _ _ stt pin') fr wo)
    · refine run1_bind ?_
      rw [ov.1]
      refine wpAny_mono (T1.item Y.Xg rfl rfl rfl rfl i1 _ s _ H (fun _ _ => False) II (N.fpOk fr1) st1 go) (fun r s1 ⟨u, hr, h1⟩ => ?_) fun _ _ z => z.elim
      subst hr
      refine run1_bind ?_
      rw [ov.1]
      refine wpAny_mono h1 (fun _ s2 ⟨x, H2, I2, r2, y2, st2, fr2⟩ => ?_) fun _ _ z => z.elim
      have I2' := I2.pinned (N.fpOk fr2) (T1.obj _ _ st2)
      refine run1_bind ?_
      rw [ov.1]
      refine wpAny_mono (hg.run _ s2 _ H2 x u _ I2' r2 (step x H2 y2)) (fun _ s3 ⟨σ3, H3, I3, hw3, q3⟩ => ?_) fun _ _ z => z.elim
      refine run1_bind ?_
      rw [ov.1]
      refine wpAny_mono (ht.run _ s3 σ3 H3 _ I3 q3) (fun b s4 ⟨H4, I4, q4⟩ => ?_) fun _ _ z => z.elim
      -- behind the turn
      have back : ∀ {s' : Shared} {H' : Hp}, Inv Y.Xg ((Y.pn s0 ++ pinsAt Y.fp s.heap) ++ pinsAt fp1 s2.heap) σ3 H' s' → Inv Y.Xg (Y.pn s0) (wipe σ2 vs1) H' s' ∧ tn i s'.heap ∧ (∀ b ∈ Y.fp, H' b = none) ∧ tn1 (i1 + 1) s'.heap ∧ ∀ b ∈ fp1, H' b = none := fun {s' H'} I' => by
        have p0 : ∀ b ∈ Y.fp, ∀ o, s.heap.get? b = some o → s'.heap.get? b = some o ∧ H' b = none := fun b hb o e => by
          have z := I'.pin (b, o) (List.mem_append_right _ (List.mem_append_left _ (List.mem_append_right _ (mem_pinsAt hb e))))
          exact ⟨z.1, z.2.1⟩
        have p1 : ∀ b ∈ fp1, ∀ o, s2.heap.get? b = some o → s'.heap.get? b = some o ∧ H' b = none := fun b hb o e => by
          have z := I'.pin (b, o) (List.mem_append_right _ (List.mem_append_right _ (mem_pinsAt hb e)))
          exact ⟨z.1, z.2.1⟩
        refine ⟨(I'.unpinned.unpinned).weak (by rw [← hw3, wipe_length]) fun j v e => ?_, T.keep _ _ _ stt fun b hb o e => (p0 b hb o e).1, fun b hb => ?_, T1.keep _ _ _ st2 fun b hb o e => (p1 b hb o e).1, fun b hb => ?_⟩
        · rw [← hw3] at e
          exact (wipe_some e).1
        · obtain ⟨o, e, _⟩ := T.obj _ _ stt b hb
          exact (p0 b hb o e).2
        · obtain ⟨o, e, _⟩ := T1.obj _ _ st2 b hb
          exact (p1 b hb o e).2
      cases b with
      | false =>
        simp only [Bool.false_eq_true, if_false] at q4 ⊢
        obtain ⟨m', hm, w'⟩ := hN ys H4 q4
        obtain ⟨b1, b2, b3, b4, b5⟩ := back I4
        exact run1_again rfl (ih m' hm n (i1 + 1) ys H4 s0 s4 (by omega) there ag b1 b2 b3 b4 b5 w')
      | true =>
        simp only [if_true] at q4 ⊢
        have hy : ∀ v, yieldOut Y.cenv v = yieldValue v := fun v => by simp only [yieldOut, hco, Bool.false_eq_true, if_false]
        simp only [hy]
        rw [Sem.bind_eq_wrap', Sem.bind_eq_wrap', Sem.wrap_wrap, Sem.wrap_wrap]
        refine run1_wrap ?_
        rw [ov.1]
        refine wpAny_mono (he.run _ s4 σ3 H4 _ I4 q4) (fun v s5 ⟨y, H5, I5, r5, c5⟩ => ?_) fun _ _ z => z.elim
        refine run1_at (run1_yield rfl fun p => .inr ⟨v, _, _, _, p, _, y, σ3, H5, rfl, rfl, I5.unpinned.unpinned, r5, hC _ _ _ _ _ (fun nx => ?_) c5⟩)
        obtain ⟨m', hm, w'⟩ := hN _ H5 nx
        obtain ⟨n', rfl⟩ : ∃ k, n = k + 1 := ⟨n - 1, by omega⟩
        obtain ⟨b1, b2, b3, b4, b5⟩ := back I5
        refine (Y.rdy_iff n' _ _ _ _).mpr fun s6 A6 => ?_
        have there6 : ∀ b ∈ Y.a :: Y.Sx, ∃ o, s6.heap.get? b = some o := fun b hb => by
          rcases List.mem_cons.mp hb with z | z
          · obtain ⟨o, e⟩ := there b hb
            exact ⟨o, A6.keep b o (by rw [z]; exact O.aS) (O.pinned b1 hb e).1⟩
          · obtain ⟨o, e, _⟩ := A6.own b z
            exact ⟨o, e⟩
        have ag6 : ∃ o, s6.heap.get? Y.a = some o ∧ ∀ v, o.data ≠ .cell v := by
          obtain ⟨o, e, d⟩ := ag
          exact ⟨o, A6.keep _ o O.aS (O.pinned b1 List.mem_cons_self e).1, d⟩
        have I6 := O.woken b1 there ag A6 .running rfl
        have st6 : tn i s6.heap := T.keep _ _ _ b2 fun b hb o e => A6.keep b o (fun z => Nat.lt_irrefl _ (Nat.lt_trans (O.fps b hb) (O.new b (List.mem_cons_of_mem _ z)))) e
        have st7 : tn1 (i1 + 1) s6.heap := T1.keep _ _ _ b4 fun b hb o e => A6.keep b o (fun z => N.own b hb (List.mem_cons_of_mem _ z)) e
        exact run1_again rfl (ih m' hm n' (i1 + 1) _ H5 s6 (s6.setGen Y.g .running) (by omega) there6 ag6 I6 st6 b3 st7 b5 w')
theorem gen_turns2 {Y : GEx} {elt tg iter tg1 iter1 : Expr} {ifs ifs1 : List Expr} {scope : Scope} {gpos : Pos} (hge : Y.ge = .GeneratorExp elt [⟨tg, iter, ifs, 0⟩, ⟨tg1, iter1, ifs1, 0⟩] scope gpos) {J : It} {tn : Nat → Heap → Prop} {g g1 : TG} {tt tt1 : TT} {te : TE} {wi1 : TI} {vs vs1 : List Nat} {W : Nat → Nat → List V → Hp → Prop}
    (O : Y.Ok) (T : Turn Y.X.prog Y.X.w Y.X.K tg J Y.fp Y.it tn) (hvs : ∀ v ∈ vs1, v ∈ vs) (hg : PG Y.Xg tg g) (ht : PTs Y.Xg ifs tt) (hi1 : PI Y.Xg tg1 iter1 wi1) (hs1 : ∀ x, foldedSetIterable iter1 Y.cenv x = pure x) (hg1 : PG Y.Xg tg1 g1) (ht1 : PTs Y.Xg ifs1 tt1) (he : PE Y.Xg elt te) (hC : EatsMono Y.C)
    (st : GStep2 W J g tt wi1 g1 tt1 te vs vs1 Y.σ0 Y.C Y.F) : ∀ (m n : Nat) (i : Nat) (ys : List V) (H : Hp) (s0 s : Shared), m ≤ n → (∀ b ∈ Y.a :: Y.Sx, ∃ o, s0.heap.get? b = some o) → (∃ o, s0.heap.get? Y.a = some o ∧ ∀ v, o.data ≠ .cell v) → Inv Y.Xg (Y.pn s0) Y.σ0 H s → tn i s.heap → (∀ b ∈ Y.fp, H b = none) → W i m ys H →
      Run1 Y.M Y.B (Y.Z (Y.Rp n) ys s0) Y.loop (Y.M.den Y.loop) [] s := by
  intro m
  induction m using Nat.strongRecOn with
  | ind m ih =>
    intro n i ys H s0 s hmn there ag I stt fr w
    rw [den_one hge, Sem.onRaise_eq_wrap]
    have ct : compTurn Y.ge 0 (.ref Y.it) .none Y.cenv = compTurn (.GeneratorExp elt [⟨tg, iter, ifs, 0⟩, ⟨tg1, iter1, ifs1, 0⟩] scope gpos) 0 (.ref Y.it) .none Y.cenv := by rw [← hge]
    rw [ct]
    unfold compTurn
    simp only [List.getElem?_cons_succ, List.getElem?_cons_zero, List.getElem?_nil, bne_self_eq_false, Bool.false_eq_true, if_false]
    rw [← hge]
    refine run1_bind (wpAny_standAt ?_)
    rcases st i m ys H w with ⟨stop, fin⟩ | ⟨go, step⟩
    · refine run1_bind (wpAny_mono (T.done Y.Xg rfl rfl rfl rfl i (Y.pn s0) s Y.σ0 H (fun _ _ => False) I (O.fpOk I fr) stt stop) (fun r s1 ⟨hr, I1⟩ => ?_) fun _ _ z => z.elim)
      subst hr
      exact run1_end (.ok .next) (.inl ⟨rfl, Y.σ0, H, I1, fin⟩)
    · refine run1_bind (wpAny_mono (T.item Y.Xg rfl rfl rfl rfl i (Y.pn s0) s Y.σ0 H (fun _ _ => False) I (O.fpOk I fr) stt go) (fun r s1 ⟨u, hr, h1⟩ => ?_) fun _ _ z => z.elim)
      subst hr
      refine run1_bind (wpAny_mono h1 (fun _ s2 ⟨x, H2, I2, r2, y2, st2, fr2⟩ => ?_) fun _ _ z => z.elim)
      have I2' := I2.pinned (O.fpOk I2 fr2) (T.obj _ _ st2)
      refine run1_bind (wpAny_mono (hg.run _ s2 Y.σ0 H2 x u _ I2' r2 (step x H2 y2)) (fun _ s3 ⟨σ3, H3, I3, hw3, q3⟩ => ?_) fun _ _ z => z.elim)
      refine run1_bind (wpAny_mono (ht.run _ s3 σ3 H3 _ I3 q3) (fun b s4 ⟨H4, I4, q4⟩ => ?_) fun _ _ z => z.elim)
      have fpin : ∀ {s' : Shared} {H' : Hp}, Inv Y.Xg (Y.pn s0 ++ pinsAt Y.fp s2.heap) σ3 H' s' → tn (i + 1) s'.heap ∧ ∀ b ∈ Y.fp, H' b = none := fun {s' H'} I' => by
        have pin' : ∀ b ∈ Y.fp, ∀ o, s2.heap.get? b = some o → s'.heap.get? b = some o ∧ H' b = none := fun b hb o e => by
          have z := I'.pin (b, o) (List.mem_append_right _ (List.mem_append_right _ (mem_pinsAt hb e)))
          exact ⟨z.1, z.2.1⟩
        refine ⟨T.keep _ _ _ st2 fun b hb o e => (pin' b hb o e).1, fun b hb => ?_⟩
        obtain ⟨o, e, _⟩ := T.obj _ _ st2 b hb
        exact (pin' b hb o e).2
      have wk : ∀ {s' : Shared} {H' : Hp} {pins : List (Addr × Obj)}, Inv Y.Xg pins σ3 H' s' → Inv Y.Xg pins Y.σ0 H' s' := fun {s' H' pins} I' => by
        have hl : Y.σ0.length = σ3.length := by rw [← hw3, wipe_length]
        refine I'.weak hl fun j v e => ?_
        rw [← hw3] at e
        exact (wipe_some e).1
      cases b with
      | false =>
        simp only [Bool.false_eq_true, if_false] at q4 ⊢
        obtain ⟨m', hm, w'⟩ := q4
        exact run1_again rfl (ih m' hm n (i + 1) ys H4 s0 s4 (by omega) there ag (wk I4.unpinned) (fpin I4).1 (fpin I4).2 w')
      | true =>
        simp only [if_true] at q4 ⊢
        refine run1_bind (wpAny_mono (hi1.run _ s4 σ3 H4 _ I4 q4) (fun xv s5 h5 => ?_) fun _ _ z => z.elim)
        refine run1_bind (wpAny_standAt (run1_bind (wpAny_of_eq (hs1 xv) (run1_bind (wpAny_holding (wpAny_mono h5 (fun itv s6 h6 => ?_) fun _ _ z => z.elim))))))
        obtain ⟨it1, fp1, tn1, J1, H6, rfl, I6, T1, st1, f1, W1, ⟨m1, hm1, w1⟩, st'⟩ := h6
        have N : InIt Y fp1 :=
          { loc := fun b hb => (f1 b hb).2.1
            fs := fun b hb => (f1 b hb).2.2.1
            sz := fun b hb => (f1 b hb).2.2.2.1
            cel := fun b hb => (f1 b hb).2.2.2.2.1
            own := fun b hb z => by
              obtain ⟨o, e⟩ := there b z
              exact (f1 b hb).2.2.2.2.2 (b, o) (List.mem_append_right _ (List.mem_append_left _ (mem_pinsAt z e))) rfl
            out := fun b hb z => by
              obtain ⟨o, e, _⟩ := T.obj _ _ st2 b z
              exact (f1 b hb).2.2.2.2.2 (b, o) (List.mem_append_right _ (List.mem_append_right _ (mem_pinsAt z e))) rfl }
        have I7 : Inv Y.Xg (Y.pn s0) (wipe σ3 vs1) H6 s6 := (I6.unpinned).weak (wipe_length _ _) fun j v e => (wipe_some e).1
        rw [Sem.bind_eq_wrap', Sem.wrap_wrap]
        unfold runOwn run
        rw [Sem.onRaise_eq_wrap, Sem.wrap_wrap]
        show Run1 _ _ _ _ (.call (.compStart Y.ge 1 (.ref it1) .none Y.cenv) none false [] _) [] s6
        refine run1_call fun p => ?_
        have inner := fun (k : Result → Sem PySem.Fin) hk => gen_inner (Wo := fun m' ys H => m' < m ∧ W (i + 1) m' ys H) (k := k) (l := []) (kp := []) (p := p) hge O T T1 N hw3 hvs hg1 ht1 he hC (fun i1 m1 ys H w1 => by
          rcases st' i1 m1 ys H w1 with ⟨z1, m', z2, z3, z4⟩ | z
          · exact .inl ⟨z1, m', z2, z3, z4⟩
          · exact .inr z) hk m1 n 0 ys H6 s0 s6 (by omega) there ag I7 (fpin I6).1 (fpin I6).2 st1 (fun b hb => (f1 b hb).1) w1
        rw [den_in0 hge]
        have e : (clausesOf Y.ge)[1]? = some ⟨tg1, iter1, ifs1, 0⟩ := by rw [hge]; rfl
        unfold compStart
        rw [Sem.onRaise_eq_wrap, e]
        refine run1_bind (wpAny_askSetting ?_)
        split
        · exact run1_again rfl (inner _ fun m' n' ys' H' s0' s' h1 h2 h3 h4 h5 h6 h7 => run1_again rfl (ih m' h7.1 n' (i + 1) ys' H' s0' s' h1 h2 h3 h4 h5 h6 h7.2))
        · refine run1_bind (wpAny_rule (run1_bind (wpAny_standAt (run1_bind (T1.self _ 0 s6 _ _ st1 (run1_again rfl (inner _ fun m' n' ys' H' s0' s' h1 h2 h3 h4 h5 h6 h7 => ?_)))))))
          exact run1_again rfl (ih m' h7.1 n' (i + 1) ys' H' s0' s' h1 h2 h3 h4 h5 h6 h7.2)
/-- from the start -/
theorem gen_first {Y : GEx} {elt tg iter : Expr} {ifs : List Expr} {scope : Scope} {gpos : Pos} {cs : List Comprehension} (hge : Y.ge = .GeneratorExp elt (⟨tg, iter, ifs, 0⟩ :: cs) scope gpos) {J : It} {tn : Nat → Heap → Prop} {Z : End → Shared → Prop} (T : Turn Y.X.prog Y.X.w Y.X.K tg J Y.fp Y.it tn) (s : Shared) (stt : tn 0 s.heap)
    (loop : Run1 Y.M Y.B Z Y.loop (Y.M.den Y.loop) [] s) : Run1 Y.M Y.B Z (.compStart Y.ge 0 (.ref Y.it) .none Y.cenv) (Y.M.den (.compStart Y.ge 0 (.ref Y.it) .none Y.cenv)) [] s := by
  rw [den_start hge]
  have e : (clausesOf Y.ge)[0]? = some ⟨tg, iter, ifs, 0⟩ := by rw [hge]; rfl
  unfold compStart
  rw [Sem.onRaise_eq_wrap, e]
  show Run1 _ _ _ _ ((ask >>= _).wrap _ _ _ _) [] s
  refine run1_bind (wpAny_askSetting ?_)
  split
  · exact run1_again rfl loop
  · first
      | exact run1_bind (wpAny_rule (run1_bind (wpAny_standAt (run1_bind (T.self _ 0 s _ _ stt (run1_again rfl loop))))))
      | (refine run1_bind (wpAny_rule ?_); show Run1 _ _ _ _ ((standAt iter.pos >>= _).wrap _ _ _ _) [] s; exact run1_bind (wpAny_standAt (run1_bind (T.self _ 0 s _ _ stt (run1_again rfl loop)))))

/-! ### making it -/
/-- the generator a (number g) in s5, made at s4 over the iterator it -/
structure Made (X : Cx) (pins : List (Addr × Obj)) (σ : L2.St) (ge tg : Expr) (scope : Scope) (J : It) (H2 : Hp) (s4 : Shared) (cenv : Env) (fp : List Addr) (it : Addr) (tn : Nat → Heap → Prop) (a g : Addr) (s5 : Shared) : Prop where
  inv : Inv X pins σ H2 s4
  fps : ∀ b ∈ fp, FpOk X pins H2 b ∧ b < s4.heap.objs.size
  turn : Turn X.prog X.w X.K tg J fp it tn
  at0 : tn 0 s4.heap
  env : ∃ code, cenv = genEnv scope (cloFrom X.env.cells scope.names []) s4.heap.objs.size code builtinsNs X.env
  os : s5.os = s4.os
  gens : s5.gens = s4.gens.push (.fresh (.compStart ge 0 (.ref it) .none cenv))
  num : g = s4.gens.size
  drawn : s5.drawn = s4.drawn
  isg : s5.heap.IsGen a g
  new : s4.heap.objs.size < a
  lt : s5.heap.objs.size = a + 1
  keep : ∀ b o, s4.heap.get? b = some o → s5.heap.get? b = some o
  ns : ∃ m, s5.heap.Ns s4.heap.objs.size m
section
variable {X : Cx} {pins : List (Addr × Obj)} {σ : L2.St} {H : Hp} {s : Shared}
theorem make_any {M : Model} {A : Around} {E : Value → Shared → Prop} {s : Shared} {env : Env} {elt tg iter : Expr} {ifs : List Expr} {cs : List Comprehension} {scope : Scope} {cl : List (Str × Addr)} {pos : Pos} {Q : Value → Shared → Prop} (G : GScp scope) (hcl : closureFor scope env = pure cl) (hroom : A.depth < recursionLimit)
    (h : wpAny M A (eval iter env) (fun xv s1 => wpAny M A (pyIter xv) (fun it s2 => s2.heap.NoLimit ∧ wpAny M A (genexprCode env pos (env.qual ++ "<genexpr>") scope) (fun code s3 => wpAny M A (builtinsFor env.globals env.builtins) (fun bi s4 =>
      ∀ h', h'.Ns s4.heap.objs.size (fun y => if y = ".0" then some it else none) → Heap.SameBut s4.heap.objs.size (s4.heap.push { cls := .type "frame", data := .dict #[] }) h' →
        Q (.ref h'.objs.size) { s4 with gens := s4.gens.push (.fresh (.compStart (.GeneratorExp elt (⟨tg, iter, ifs, 0⟩ :: cs) scope pos) 0 it .none (genEnv scope cl s4.heap.objs.size code bi env))), toks := s4.toks + 1 + 1 + 1, heap := h'.push { cls := .type "generator", data := .fields #[.int s4.gens.size 0, .str "<genexpr>" (s4.toks + 1), .str (env.qual ++ "<genexpr>") (s4.toks + 1 + 1)] } }) E s3) E s2) E s1) E s)
    (hs : ∀ x, genFold iter env x = pure x) : wpAny M A (eval (.GeneratorExp elt (⟨tg, iter, ifs, 0⟩ :: cs) scope pos) env) Q E s := by
  rw [arm_eval_GeneratorExp]
  simp only [G.co, Bool.false_eq_true, if_false]
  refine wpAny_bind (thn h fun xv s1 h1 => wpAny_bind (wpAny_standAt (wpAny_bind (wpAny_of_eq (a := xv) ?_ ?_))))
  · have := hs xv
    unfold genFold at this
    cases iter <;> exact this
  refine wpAny_bind (wpAny_holding (thn h1 fun it s2 h2 => wpAny_bind (wpAny_enterFrame h2.1 hroom ?_)))
  rw [hcl]
  refine wpAny_bind (wpAny_pure (wpAny_bind (thn h2.2 fun code s3 h3 => wpAny_bind (thn h3 fun bi s4 h4 => ?_))))
  have hb : ∀ y ∈ ([((".0" : Str), it)] : List (Str × Value)), scope.names.lookup y.1 = some NameKind.local := fun y hy => by
    rw [List.mem_singleton.mp hy]
    exact G.dot
  refine wpAny_bind (wpAny_newFunctionEnv G.nocell hb (fun h' hn' hs' => ?_) G.kind)
  have e : (fun y : Str => ([((".0" : Str), it)] : List (Str × Value)).reverse.lookup y) = fun y : Str => if y = (".0" : Str) then some it else none := by
    funext y
    by_cases hy : y = ".0"
    · subst hy
      simp
    · have : (y == (".0" : Str)) = false := by simpa using hy
      simp [List.lookup, this, hy]
  rw [e] at hn'
  simp only [newGenerator, newFields]
  exact wpAny_bind (wpAny_newGen (wpAny_bind (wpAny_mkText (wpAny_bind (wpAny_mkText (wpAny_newObj_type (h4 h' hn' hs') (by size_fits)))))))
theorem gen_made {c P : Addr} {elt tg iter : Expr} {ifs : List Expr} {cs : List Comprehension} {scope : Scope} {own : List (Str × Nat)} {gpos : Pos} {wi : TI} {k : Nat} {R : It → Hp → Prop} {Q' : Value → Shared → Prop} (hr : Room k X.A) (TB : LamX.TabB X.base X.mg c P) (hcode : X.env.code = .ref c)
    (G : GScp scope) (ok : BlkOk X.N X.env.scope scope own) (hi : PI X tg iter wi) (hs : ∀ v, genFold iter X.env v = pure v) (I : Inv X pins σ H s) (h : wi σ H fun J H1 => TabG H1 P ∧ R J H1)
    (hQ : ∀ J H1 H2 s4 cenv fp it tn a g s5, R J H1 → Tabbed P H1 H2 → Made X pins σ (.GeneratorExp elt (⟨tg, iter, ifs, 0⟩ :: cs) scope gpos) tg scope J H2 s4 cenv fp it tn a g s5 → Q' (.ref a) s5) :
    wpAny (model X.prog X.w) X.A (eval (.GeneratorExp elt (⟨tg, iter, ifs, 0⟩ :: cs) scope gpos) X.env) Q' X.xe s := by
  refine make_any G (closure_ok (blk_free ok I.ok)) hr.depth ?_ hs
  refine thn (hi.run pins s σ H _ I h) fun xv s1 h1 => thn h1 fun itv s2 h2 => ?_
  obtain ⟨it, fp, tn, J, H1, rfl, I2, T, st2, f2, ⟨ps, hP, htr⟩, q⟩ := h2
  refine ⟨I2.nolimit, ?_⟩
  have hPs : s2.heap.get? P = some { cls := .none, data := .fields ps } := I2.hok P _ hP
  have cd : PySem.W.CodeHd s2.heap c P := TB.code.keeps fun b u e => I2.bk b u e
  have nfP : ∀ b ∈ fp, b ≠ P := fun b hb z => by
    have e := (f2 b hb).1
    rw [z, hP] at e
    cases e
  have cont : ∀ (code : Value) (h3 : Heap) (tk : Nat) (ps' : Array Value), Heap.ExtBut P s2.heap h3 → h3.get? P = some { cls := .none, data := .fields ps' } → (∃ more, ps' = ps ++ more) → TriplesOk ps'.toList →
      wpAny (model X.prog X.w) X.A (builtinsFor X.env.globals X.env.builtins) (fun bi s₄ => ∀ h', h'.Ns s₄.heap.objs.size (fun y => if y = ".0" then some (.ref it) else none) → Heap.SameBut s₄.heap.objs.size (s₄.heap.push { cls := .type "frame", data := .dict #[] }) h' →
          Q' (.ref h'.objs.size) { s₄ with
            gens := s₄.gens.push (.fresh (.compStart (.GeneratorExp elt (⟨tg, iter, ifs, 0⟩ :: cs) scope gpos) 0 (.ref it) .none (genEnv scope (cloFrom X.env.cells scope.names []) s₄.heap.objs.size code bi X.env))),
            toks := s₄.toks + 1 + 1 + 1,
            heap := h'.push { cls := .type "generator", data := .fields #[.int s₄.gens.size 0, .str "<genexpr>" (s₄.toks + 1), .str (X.env.qual ++ "<genexpr>") (s₄.toks + 1 + 1)] } }) X.xe { s2 with heap := h3, toks := tk } := by
    intro code h3 tk ps' hx hP3 hmore ht3
    obtain ⟨bm, ob, e1, e2, e3, e4, e5, e6, e7, e8⟩ := TB.bm
    have keep3 : ∀ b u, b ≠ P → s2.heap.get? b = some u → h3.get? b = some u := fun b u hb e => hx b u hb e
    refine wpAny_builtinsFor (m := X.mg) (by rw [I2.ok.glob]; exact (I2.mod.glob.keeps I2.bk).extBut hx TB.gP) e1 e2 (keep3 _ _ e4 (I2.bk _ _ e5)) e6 e7 e8 ?_
    intro h' hn' hs'
    obtain ⟨more, em⟩ := hmore
    have J4 := inv_tab (more := more) (h' := h3) (g' := s2.gens) (d' := s2.drawn) (t' := tk) I2 hP (fun b u hb e => keep3 b u hb e) (by rw [← em]; exact hP3) I2.bare
    have J4 : Inv X pins σ (upd H1 P (.tbl (ps ++ more))) { s2 with heap := h3, toks := tk } := J4
    have keep' : ∀ b o, h3.get? b = some o → h'.get? b = some o := fun b o e => hs'.extBut b o (Nat.ne_of_lt (Heap.lt_size e)) (Heap.get?_push_of_some _ e)
    have hsz : h'.objs.size = h3.objs.size + 1 := by rw [hs'.1, Heap.size_push]
    have nfpH : ∀ b ∈ fp, upd H1 P (.tbl (ps ++ more)) b = none := fun b hb => by rw [upd_ne (nfP b hb)]; exact (f2 b hb).1
    refine hQ J H1 (upd H1 P (.tbl (ps ++ more))) { s2 with heap := h3, toks := tk } (genEnv scope (cloFrom X.env.cells scope.names []) h3.objs.size code builtinsNs X.env) fp it tn _ s2.gens.size _ q ⟨⟨ps ++ more, upd_same, by rw [← em]; exact ht3⟩, fun b hb => upd_ne hb⟩
      { inv := J4, fps := fun b hb => ?_, turn := T, at0 := ?_, env := ⟨code, rfl⟩, os := rfl, gens := rfl, num := rfl, drawn := rfl, isg := ⟨_, _, _, Heap.get?_push_size _ rfl, rfl, rfl, rfl⟩, new := ?_, lt := ?_, keep := fun b o e => Heap.get?_push_of_some _ (keep' b o e), ns := ⟨_, hn'.push _⟩ }
    · obtain ⟨o, e, _⟩ := T.obj _ _ st2 b hb
      exact ⟨⟨nfpH b hb, (f2 b hb).2⟩, Heap.lt_size (keep3 b o (nfP b hb) e)⟩
    · exact T.keep _ _ _ st2 fun b hb o e => keep3 b o (nfP b hb) e
    · show h3.objs.size < h'.objs.size
      rw [hsz]; exact Nat.lt_succ_self _
    · exact Heap.size_push ..
  cases hf : codeAmong gpos ps.toList with
  | none =>
    refine wpAny_genexprCodeX hcode (cd.code hPs htr) (cd.tab hPs) hf fun c' h' tk hx hge hlt hco' _ htab' _ => ?_
    obtain ⟨o1, vs, f1, tf, fl, tg, inF, tx, tt, op, _, _, _, _, _, _, _, _, _, htr', _⟩ := hco'
    exact cont _ h' tk _ hx htab'.2 ⟨_, rfl⟩ htr'
  | some cv =>
    refine wpAny_genexprCode_hit hcode (cd.code hPs htr) hf ?_
    exact cont cv s2.heap s2.toks ps (Heap.ExtBut.refl _ _) hPs ⟨#[], by simp⟩ htr
end

/-! ### ready -/
theorem Aft.refl {s : Shared} (hb : AllBare s.gens) : Aft [] s s := ⟨rfl, hb, fun _ _ _ e => e, fun b z => by cases z⟩
theorem over_fr {B : Around} {ge elt : Expr} {cs : List Comprehension} {scope : Scope} {gpos : Pos} {it : Value} {cenv : Env} {l : List Env} (hge : ge = .GeneratorExp elt cs scope gpos) (h : B.frames = some l) :
    (B.over (.compLoop ge 0 it .none cenv) []).frames = some (cenv :: l) := by
  subst hge
  obtain ⟨b1, b2, b3, b4, b5⟩ := B
  cases h
  rfl
/-- room in the generator's frame -/
structure NearA (B A : Around) : Prop where
  hd : B.handled = A.handled
  fr : B.frames = A.frames
  dp : B.depth ≤ A.depth + 2
  un : B.units ≤ A.units + 12
theorem NearA.room {B A : Around} {k : Nat} {ge elt : Expr} {cs : List Comprehension} {scope : Scope} {gpos : Pos} {it : Value} {cenv : Env} (hge : ge = .GeneratorExp elt cs scope gpos) (n : NearA B A) (r : Room (k + 1) A) : Room k (B.over (.compLoop ge 0 it .none cenv) []) := by
  subst hge
  obtain ⟨n1, n2, n3, n4⟩ := n
  obtain ⟨r1, r2, r3⟩ := r
  refine ⟨?_, ?_, ?_⟩
  · show B.handled = none
    rw [n1]; exact r1
  · show B.depth + 0 + 1 + 3 * k + 5 < _
    omega
  · show B.units + 0 + 3 + 16 * k + 200 < _
    omega
theorem nearA2 (A : Around) : NearA A.in1.in1 A := ⟨rfl, rfl, Nat.le_add_right _ _, by show A.units + 1 + 1 ≤ _; omega⟩
section
variable {X : Cx} {pins : List (Addr × Obj)} {σ : L2.St} {H2 : Hp} {s4 s5 : Shared}
abbrev mkY (X : Cx) (s4 : Shared) (H2 : Hp) (cenv : Env) (fp : List Addr) (B : Around) (σ0 : L2.St) (ge : Expr) (it a : Addr) (g : Nat) (Sx : List Addr) (C : Eats) (F : List V → Hp → Prop) : GEx :=
  ⟨X, s4, H2, cenv, fp, B, σ0, ge, it, a, g, Sx, C, F⟩
theorem gen_rdy0 {ge elt tg iter : Expr} {ifs : List Expr} {cs : List Comprehension} {scope : Scope} {own : List (Str × Nat)} {gpos : Pos} {J : It} {cenv : Env} {fp : List Addr} {it a g : Addr} {tn : Nat → Heap → Prop} {B : Around} {k : Nat} {C : Eats} {F : List V → Hp → Prop} {Sx : List Addr} (hge : ge = .GeneratorExp elt (⟨tg, iter, ifs, 0⟩ :: cs) scope gpos)
    (hr : Room (k + 1) X.A) (hB : NearA B X.A) (G : GScp scope) (ok : BlkOk X.N X.env.scope scope own) (hN : X.N.Nodup) (M : Made X pins σ ge tg scope J H2 s4 cenv fp it tn a g s5)
    (hS : ∀ b ∈ Sx, a < b) (m : Nat) (turns : (mkY X s4 H2 cenv fp B (wipe σ (own.map (·.2))) ge it a g Sx C F).Ok → Room k (B.over (.compLoop ge 0 (.ref it) .none cenv) []) → ∀ s0 s, (∀ b ∈ a :: Sx, ∃ o, s0.heap.get? b = some o) → (∃ o, s0.heap.get? a = some o ∧ ∀ v, o.data ≠ .cell v) →
      Inv (mkY X s4 H2 cenv fp B (wipe σ (own.map (·.2))) ge it a g Sx C F).Xg ((mkY X s4 H2 cenv fp B (wipe σ (own.map (·.2))) ge it a g Sx C F).pn s0) (wipe σ (own.map (·.2))) H2 s → tn 0 s.heap → (∀ b ∈ fp, H2 b = none) →
      Run1 (model X.prog X.w) B ((mkY X s4 H2 cenv fp B (wipe σ (own.map (·.2))) ge it a g Sx C F).Z ((mkY X s4 H2 cenv fp B (wipe σ (own.map (·.2))) ge it a g Sx C F).Rp m) [] s0) (.compLoop ge 0 (.ref it) .none cenv) ((model X.prog X.w).den (.compLoop ge 0 (.ref it) .none cenv)) [] s) :
    (mkY X s4 H2 cenv fp B (wipe σ (own.map (·.2))) ge it a g Sx C F).Ok ∧
    (mkY X s4 H2 cenv fp B (wipe σ (own.map (·.2))) ge it a g Sx C F).Rdy m [] H2 (.fresh (.compStart ge 0 (.ref it) .none cenv)) s5 := by
  obtain ⟨code, hce⟩ := M.env
  have hfree := blk_free ok M.inv.ok
  have O : (mkY X s4 H2 cenv fp B (wipe σ (own.map (·.2))) ge it a g Sx C F).Ok :=
    { new := fun b hb => by
        rcases List.mem_cons.mp hb with z | z
        · rw [z]; exact M.new
        · exact Nat.lt_trans M.new (hS b z)
      loc := by
        show cenv.locals = _
        rw [hce]; rfl
      cel := fun y c e => by
        have e : cenv.cells.lookup y = some c := e
        rw [hce] at e
        obtain ⟨v, z⟩ := M.inv.cell y c (NdefX.clo_cm hfree e)
        exact z.lt
      fps := fun b hb => (M.fps b hb).2
      aS := fun z => Nat.lt_irrefl _ (hS _ z)
      co := by
        show cenv.scope.isCoroutine = false
        rw [hce]; exact G.co }
  refine ⟨O, (GEx.rdy_iff _ m _ _ _ _).mpr fun s6 A6 => ?_⟩
  have R := hB.room (k := k) (it := Value.ref it) (cenv := cenv) hge hr
  have hfrm : (B.over (.compLoop ge 0 (.ref it) .none cenv) []).frames = some (cenv :: X.stack) := over_fr hge (by rw [hB.fr]; exact M.inv.ok.frames)
  have hS2 : ∀ b o, s5.heap.get? b = some o → b < a + 1 := fun b o e => by
    have := Heap.lt_size e
    rw [M.lt] at this
    exact this
  have kp5 : ∀ b o, s5.heap.get? b = some o → s6.heap.get? b = some o := fun b o e => A6.keep b o (fun z => by
    have h1 := hS b z
    have h2 := hS2 b o e
    exact Nat.lt_irrefl _ (Nat.lt_of_lt_of_le h1 (Nat.le_of_lt_succ h2))) e
  have kp : ∀ b o, s4.heap.get? b = some o → s6.heap.get? b = some o := fun b o e => kp5 b o (M.keep b o e)
  have agn : ∃ o, s6.heap.get? a = some o ∧ ∀ v, o.data ≠ .cell v := by
    obtain ⟨o, n1, n2, e, c, d, _⟩ := M.isg
    exact ⟨o, kp5 _ _ e, fun v z => by rw [d] at z; cases z⟩
  have there : ∀ b ∈ a :: Sx, ∃ o, s6.heap.get? b = some o := fun b hb => by
    rcases List.mem_cons.mp hb with z | z
    · obtain ⟨o, e, _⟩ := agn
      exact ⟨o, by rw [z]; exact e⟩
    · obtain ⟨o, e, _⟩ := A6.own b z
      exact ⟨o, e⟩
  obtain ⟨mm, hns⟩ := M.ns
  have hns6 : s6.heap.Ns s4.heap.objs.size mm := by
    obtain ⟨ob, es, ep, ho, r⟩ := hns
    exact ⟨ob, es, ep, kp5 _ ob ho, r⟩
  have ho6 : s6.os = s4.os := A6.os.trans M.os
  have I0 := gen_start (code := code) (A := B.over (.compLoop ge 0 (.ref it) .none cenv) []) (g' := (s6.setGen g .running).gens) (d' := s6.drawn) (t' := s6.toks) M.inv ok G hN M.fps R.hd (by rw [← hce]; exact hfrm) hns6 kp (allBare_setGen A6.bare rfl)
  rw [← hce] at I0
  have I1 : Inv (mkY X s4 H2 cenv fp B (wipe σ (own.map (·.2))) ge it a g Sx C F).Xg [] (wipe σ (own.map (·.2))) H2 (s6.setGen g .running) := by
    obtain ⟨h6, g6, d6, t6, o6⟩ := s6
    have ho6 : o6 = s4.os := ho6
    subst ho6
    exact I0
  have I2 : Inv (mkY X s4 H2 cenv fp B (wipe σ (own.map (·.2))) ge it a g Sx C F).Xg ((mkY X s4 H2 cenv fp B (wipe σ (own.map (·.2))) ge it a g Sx C F).pn s6) (wipe σ (own.map (·.2))) H2 (s6.setGen g .running) := by
    refine I1.pins_of fun p hp => ?_
    have hp : p ∈ pinsAt (a :: Sx) s6.heap := hp
    obtain ⟨hb, e⟩ := of_pinsAt hp
    have h1 := O.new _ hb
    refine ⟨e, M.inv.hok.fresh (Nat.le_of_lt h1), fun z => ?_, fun z => ?_, ?_⟩
    · have z : p.1 = cenv.locals := z
      rw [z, show cenv.locals = _ from O.loc] at h1
      exact Nat.lt_irrefl _ h1
    · obtain ⟨_, ob, hob, _⟩ := I1.ok.funs.mem z
      exact absurd (Nat.lt_trans h1 (Heap.lt_size hob)) (Nat.lt_irrefl _)
    · rcases List.mem_cons.mp hb with z | z
      · obtain ⟨oa, ea, da⟩ := agn
        rw [z, ea] at e
        cases e
        exact da
      · obtain ⟨ob, eb, db⟩ := A6.own _ z
        rw [e] at eb
        cases eb
        exact db
  have st6 := M.turn.keep _ _ _ M.at0 fun b hb o e => kp b o e
  have stY : tn 0 (s6.setGen g .running).heap := st6
  exact gen_first (Y := mkY X s4 H2 cenv fp B (wipe σ (own.map (·.2))) ge it a g Sx C F) hge M.turn (s6.setGen g .running) stY (turns O R s6 (s6.setGen g .running) there agn I2 stY fun b hb => (M.fps b hb).1.1)
theorem gen_rdy {elt tg iter : Expr} {ifs : List Expr} {scope : Scope} {own : List (Str × Nat)} {gpos : Pos} {J : It} {cenv : Env} {fp : List Addr} {it a g : Addr} {tn : Nat → Heap → Prop} {B : Around} {k : Nat} {gt : TG} {tt : TT} {te : TE} {W : Nat → Nat → List V → Hp → Prop} {C : Eats} {F : List V → Hp → Prop} {Sx : List Addr}
    (hr : Room (k + 1) X.A) (hB : NearA B X.A) (G : GScp scope) (ok : BlkOk X.N X.env.scope scope own) (hN : X.N.Nodup) (M : Made X pins σ (.GeneratorExp elt [⟨tg, iter, ifs, 0⟩] scope gpos) tg scope J H2 s4 cenv fp it tn a g s5)
    (hg : ∀ A, Room k A → PG (gcx X s4 H2 cenv fp A) tg gt) (ht : ∀ A, Room k A → PTs (gcx X s4 H2 cenv fp A) ifs tt) (he : ∀ A, Room k A → PE (gcx X s4 H2 cenv fp A) elt te)
    (hS : ∀ b ∈ Sx, a < b) (hC : EatsMono C) (st : GStep W J gt tt te (own.map (·.2)) (wipe σ (own.map (·.2))) C F) (m : Nat) (w0 : W 0 m [] H2) :
    (mkY X s4 H2 cenv fp B (wipe σ (own.map (·.2))) (.GeneratorExp elt [⟨tg, iter, ifs, 0⟩] scope gpos) it a g Sx C F).Ok ∧
    (mkY X s4 H2 cenv fp B (wipe σ (own.map (·.2))) (.GeneratorExp elt [⟨tg, iter, ifs, 0⟩] scope gpos) it a g Sx C F).Rdy m [] H2 (.fresh (.compStart (.GeneratorExp elt [⟨tg, iter, ifs, 0⟩] scope gpos) 0 (.ref it) .none cenv)) s5 :=
  gen_rdy0 rfl hr hB G ok hN M hS m fun O R s0 s th ag I stt fr =>
    gen_turns (Y := mkY X s4 H2 cenv fp B (wipe σ (own.map (·.2))) (.GeneratorExp elt [⟨tg, iter, ifs, 0⟩] scope gpos) it a g Sx C F) rfl O M.turn (hg _ R) (ht _ R) (he _ R) hC st m m 0 [] H2 s0 s (Nat.le_refl _) th ag I stt fr w0
theorem gen_rdy2 {elt tg iter tg1 iter1 : Expr} {ifs ifs1 : List Expr} {scope : Scope} {own : List (Str × Nat)} {vs1 : List Nat} {gpos : Pos} {J : It} {cenv : Env} {fp : List Addr} {it a g : Addr} {tn : Nat → Heap → Prop} {B : Around} {k : Nat} {gt g1 : TG} {tt tt1 : TT} {te : TE} {wi1 : TI} {W : Nat → Nat → List V → Hp → Prop} {C : Eats} {F : List V → Hp → Prop} {Sx : List Addr}
    (hr : Room (k + 1) X.A) (hB : NearA B X.A) (G : GScp scope) (ok : BlkOk X.N X.env.scope scope own) (hN : X.N.Nodup) (hvs : ∀ v ∈ vs1, v ∈ own.map (·.2)) (M : Made X pins σ (.GeneratorExp elt [⟨tg, iter, ifs, 0⟩, ⟨tg1, iter1, ifs1, 0⟩] scope gpos) tg scope J H2 s4 cenv fp it tn a g s5)
    (hg : ∀ A, Room k A → PG (gcx X s4 H2 cenv fp A) tg gt) (ht : ∀ A, Room k A → PTs (gcx X s4 H2 cenv fp A) ifs tt) (hi1 : ∀ A, Room k A → PI (gcx X s4 H2 cenv fp A) tg1 iter1 wi1) (hs1 : ∀ x, foldedSetIterable iter1 cenv x = pure x) (hg1 : ∀ A, Room k A → PG (gcx X s4 H2 cenv fp A) tg1 g1) (ht1 : ∀ A, Room k A → PTs (gcx X s4 H2 cenv fp A) ifs1 tt1) (he : ∀ A, Room k A → PE (gcx X s4 H2 cenv fp A) elt te)
    (hS : ∀ b ∈ Sx, a < b) (hC : EatsMono C) (st : GStep2 W J gt tt wi1 g1 tt1 te (own.map (·.2)) vs1 (wipe σ (own.map (·.2))) C F) (m : Nat) (w0 : W 0 m [] H2) :
    (mkY X s4 H2 cenv fp B (wipe σ (own.map (·.2))) (.GeneratorExp elt [⟨tg, iter, ifs, 0⟩, ⟨tg1, iter1, ifs1, 0⟩] scope gpos) it a g Sx C F).Ok ∧
    (mkY X s4 H2 cenv fp B (wipe σ (own.map (·.2))) (.GeneratorExp elt [⟨tg, iter, ifs, 0⟩, ⟨tg1, iter1, ifs1, 0⟩] scope gpos) it a g Sx C F).Rdy m [] H2 (.fresh (.compStart (.GeneratorExp elt [⟨tg, iter, ifs, 0⟩, ⟨tg1, iter1, ifs1, 0⟩] scope gpos) 0 (.ref it) .none cenv)) s5 :=
  gen_rdy0 rfl hr hB G ok hN M hS m fun O R s0 s th ag I stt fr =>
    gen_turns2 (Y := mkY X s4 H2 cenv fp B (wipe σ (own.map (·.2))) (.GeneratorExp elt [⟨tg, iter, ifs, 0⟩, ⟨tg1, iter1, ifs1, 0⟩] scope gpos) it a g Sx C F) rfl O M.turn hvs (hg _ R) (ht _ R) (hi1 _ R) hs1 (hg1 _ R) (ht1 _ R) (he _ R) hC st m m 0 [] H2 s0 s (Nat.le_refl _) th ag I stt fr w0
end
/-- out of the generator's frame -/
theorem GEx.out {Y : GEx} {pins ps : List (Addr × Obj)} {σ σ' : L2.St} {H' : Hp} {s1 s2 : Shared} (I4 : Inv Y.X pins σ Y.H1 Y.s4) (hf : ∀ b ∈ Y.fp, FpOk Y.X pins Y.H1 b) (I : Inv Y.Xg ps σ' H' s1) (A : Aft [] s1 s2) : Inv Y.X pins σ H' s2 := by
  have k : ∀ b o, s1.heap.get? b = some o → s2.heap.get? b = some o := fun b o e => A.keep b o (by simp) e
  exact I4.call' (ch := Y.fp) (A.os.trans I.os) (I.base.trans (Un.kept k)) (I.hok.kept k) A.bare fun b hb => ⟨(hf b hb).2.2.2.1, (hf b hb).2.1, (hf b hb).2.2.2.2.1, (hf b hb).2.2.2.2.2⟩
/-- next(g) -/
theorem GEx.next {Y : GEx} {A : Around} {Q : Option Value → Shared → Prop} {E : Value → Shared → Prop} {n : Nat} {ys : List V} {H : Hp} {gs : GenState} {sp s : Shared} (O : Y.Ok) (hB : Y.B = A.in1) (hh : A.handled = none) (hroom : A.depth < recursionLimit) (nl : s.heap.NoLimit)
    (rd : Y.Rdy n ys H gs sp) (af : Aft Y.Sx sp s) (hg : s.heap.IsGen Y.a Y.g) (hgs : s.gens[Y.g]? = some gs) (hlt : Y.g < s.gens.size)
    (qN : ∀ σ' H' s1 s2, Inv Y.Xg (Y.pn s) σ' H' s1 → Y.F ys H' → Aft [] s1 s2 → Q none s2)
    (qS : ∀ v y σ' H' s1 gs', Inv Y.Xg (Y.pn s) σ' H' s1 → RelV y v → Y.C ys y H' (Y.Rp n (ys ++ [y]) H' gs' s1) → gs'.bare = true → s.gens.size ≤ s1.gens.size → Q (some v) (s1.setGen Y.g gs')) : wpAny Y.M A (pyNext (.ref Y.a)) Q E s := by
  have go := (GEx.rdy_iff Y n ys H gs sp).mp rd s af
  rw [hB] at go
  refine next1 hh nl hroom hg hgs go fun e s1 z hsz => ?_
  rcases z with ⟨rfl, σ', H', I, f⟩ | ⟨v, l, k, c, p, fs, y, σ', H', rfl, q, I, r, cc⟩
  · exact .inl ⟨rfl, fun h' kk => qN σ' H' s1 _ I f ⟨rfl, allBare_setGen I.bare rfl, fun b o _ e => kk b o e, fun b z => by cases z⟩⟩
  · exact .inr ⟨v, l, k, c, p, fs, rfl, q, qS v y σ' H' s1 _ I r cc (bare_of q) hsz⟩

/-! ### all, any -/
/-- stop at the first value that is e -/
def eTill (e : Bool) (Qd : Bool → Hp → Prop) : Eats := fun _ y H go => ∃ b, y = .bl b ∧ if b = e then Qd e H else go
theorem eTill_mono {e : Bool} {Qd : Bool → Hp → Prop} : EatsMono (eTill e Qd) := fun ys y H p q h ⟨b, hb, z⟩ => ⟨b, hb, by
  by_cases hbe : b = e
  · rw [if_pos hbe] at z ⊢; exact z
  · rw [if_neg hbe] at z ⊢; exact h z⟩
section
variable {Y : GEx} {Qd : Bool → Hp → Prop} {R : Result → Shared → Prop} {A : Around}
theorem all_loop1 (O : Y.Ok) (hB : Y.B = A.in1.in1) (hS : Y.Sx = []) (hC : Y.C = eTill false Qd) (hF : Y.F = fun _ H => Qd true H) (hh : A.handled = none) (hroom : A.depth < recursionLimit)
    (hR : ∀ k ps σ' H' s1 s2, Inv Y.Xg ps σ' H' s1 → Aft [] s1 s2 → Qd k H' → R (.ok (.ret (.bool k))) s2) : ∀ (n : Nat) (ys : List V) (H : Hp) (gs : GenState) (sp s : Shared), Y.Rdy n ys H gs sp → Aft Y.Sx sp s → s.heap.IsGen Y.a Y.g → s.gens[Y.g]? = some gs → s.heap.NoLimit →
      codeAny Y.M A (.builtin "all.loop" ⟨[.ref Y.a], []⟩) R s := by
  intro n
  induction n with
  | zero =>
    intro ys H gs sp s rd af hg hgs nl
    refine codeAny_builtin PySem.F.entry_all_loop ?_
    rw [Around.under_plainId PySem.F.plain_all_loop _]
    show wpAny _ A.in1 (pyNext (.ref Y.a) >>= _) _ _ s
    refine wpAny_bind (GEx.next O hB hh hroom nl rd af hg hgs (Array.getElem?_eq_some_iff.mp hgs).1 (fun σ' H' s1 s2 I f a => ?_) fun v y σ' H' s1 gs' I r c hb hsz => ?_)
    · rw [hF] at f
      exact wpAny_bind (wpAny_rule (wpAny_pure (hR true _ σ' H' s1 s2 I a f)))
    · rw [hC] at c
      obtain ⟨b, rfl, c⟩ := c
      obtain rfl : v = .bool b := r
      refine wpAny_bind (wpAny_holding (wpAny_truthy_bool ?_))
      refine wpAny_bind (wpAny_letGo ?_)
      cases b with
      | true => exact (show False from c).elim
      | false =>
        simp only [Bool.false_eq_true, if_false]
        exact wpAny_bind (wpAny_rule (wpAny_pure (hR false _ σ' H' s1 _ I ⟨rfl, allBare_setGen I.bare hb, fun _ _ _ e => e, fun b z => by cases z⟩ c)))
  | succ n ih =>
    intro ys H gs sp s rd af hg hgs nl
    refine codeAny_builtin PySem.F.entry_all_loop ?_
    rw [Around.under_plainId PySem.F.plain_all_loop _]
    show wpAny _ A.in1 (pyNext (.ref Y.a) >>= _) _ _ s
    refine wpAny_bind (GEx.next O hB hh hroom nl rd af hg hgs (Array.getElem?_eq_some_iff.mp hgs).1 (fun σ' H' s1 s2 I f a => ?_) fun v y σ' H' s1 gs' I r c hb hsz => ?_)
    · rw [hF] at f
      exact wpAny_bind (wpAny_rule (wpAny_pure (hR true _ σ' H' s1 s2 I a f)))
    · rw [hC] at c
      obtain ⟨b, rfl, c⟩ := c
      obtain rfl : v = .bool b := r
      refine wpAny_bind (wpAny_holding (wpAny_truthy_bool ?_))
      refine wpAny_bind (wpAny_letGo ?_)
      cases b with
      | true =>
        simp only [if_true]
        obtain ⟨o, n1, n2, e, r⟩ := hg
        refine wpAny_pure ⟨plainId_quiet PySem.F.plain_all_loop _, ih _ H' gs' s1 (s1.setGen Y.g gs') c (by rw [hS]; exact ⟨rfl, allBare_setGen I.bare hb, fun _ _ _ e => e, fun b z => by cases z⟩) ⟨o, n1, n2, (O.pinned I List.mem_cons_self e).1, r⟩ (setGen_at (Nat.lt_of_lt_of_le (Array.getElem?_eq_some_iff.mp hgs).1 hsz)) I.nolimit⟩
      | false =>
        simp only [Bool.false_eq_true, if_false]
        exact wpAny_bind (wpAny_rule (wpAny_pure (hR false _ σ' H' s1 _ I ⟨rfl, allBare_setGen I.bare hb, fun _ _ _ e => e, fun b z => by cases z⟩ c)))
theorem any_loop1 (O : Y.Ok) (hB : Y.B = A.in1.in1) (hS : Y.Sx = []) (hC : Y.C = eTill true Qd) (hF : Y.F = fun _ H => Qd false H) (hh : A.handled = none) (hroom : A.depth < recursionLimit)
    (hR : ∀ k ps σ' H' s1 s2, Inv Y.Xg ps σ' H' s1 → Aft [] s1 s2 → Qd k H' → R (.ok (.ret (.bool k))) s2) : ∀ (n : Nat) (ys : List V) (H : Hp) (gs : GenState) (sp s : Shared), Y.Rdy n ys H gs sp → Aft Y.Sx sp s → s.heap.IsGen Y.a Y.g → s.gens[Y.g]? = some gs → s.heap.NoLimit →
      codeAny Y.M A (.builtin "any.loop" ⟨[.ref Y.a], []⟩) R s := by
  intro n
  induction n with
  | zero =>
    intro ys H gs sp s rd af hg hgs nl
    refine codeAny_builtin PySem.F.entry_any_loop ?_
    rw [Around.under_plainId PySem.F.plain_any_loop _]
    show wpAny _ A.in1 (pyNext (.ref Y.a) >>= _) _ _ s
    refine wpAny_bind (GEx.next O hB hh hroom nl rd af hg hgs (Array.getElem?_eq_some_iff.mp hgs).1 (fun σ' H' s1 s2 I f a => ?_) fun v y σ' H' s1 gs' I r c hb hsz => ?_)
    · rw [hF] at f
      exact wpAny_bind (wpAny_rule (wpAny_pure (hR false _ σ' H' s1 s2 I a f)))
    · rw [hC] at c
      obtain ⟨b, rfl, c⟩ := c
      obtain rfl : v = .bool b := r
      refine wpAny_bind (wpAny_holding (wpAny_truthy_bool ?_))
      refine wpAny_bind (wpAny_letGo ?_)
      cases b with
      | false => exact (show False from c).elim
      | true =>
        simp only [if_true]
        exact wpAny_bind (wpAny_rule (wpAny_pure (hR true _ σ' H' s1 _ I ⟨rfl, allBare_setGen I.bare hb, fun _ _ _ e => e, fun b z => by cases z⟩ c)))
  | succ n ih =>
    intro ys H gs sp s rd af hg hgs nl
    refine codeAny_builtin PySem.F.entry_any_loop ?_
    rw [Around.under_plainId PySem.F.plain_any_loop _]
    show wpAny _ A.in1 (pyNext (.ref Y.a) >>= _) _ _ s
    refine wpAny_bind (GEx.next O hB hh hroom nl rd af hg hgs (Array.getElem?_eq_some_iff.mp hgs).1 (fun σ' H' s1 s2 I f a => ?_) fun v y σ' H' s1 gs' I r c hb hsz => ?_)
    · rw [hF] at f
      exact wpAny_bind (wpAny_rule (wpAny_pure (hR false _ σ' H' s1 s2 I a f)))
    · rw [hC] at c
      obtain ⟨b, rfl, c⟩ := c
      obtain rfl : v = .bool b := r
      refine wpAny_bind (wpAny_holding (wpAny_truthy_bool ?_))
      refine wpAny_bind (wpAny_letGo ?_)
      cases b with
      | false =>
        simp only [Bool.false_eq_true, if_false]
        obtain ⟨o, n1, n2, e, r⟩ := hg
        refine wpAny_pure ⟨plainId_quiet PySem.F.plain_any_loop _, ih _ H' gs' s1 (s1.setGen Y.g gs') c (by rw [hS]; exact ⟨rfl, allBare_setGen I.bare hb, fun _ _ _ e => e, fun b z => by cases z⟩) ⟨o, n1, n2, (O.pinned I List.mem_cons_self e).1, r⟩ (setGen_at (Nat.lt_of_lt_of_le (Array.getElem?_eq_some_iff.mp hgs).1 hsz)) I.nolimit⟩
      | true =>
        simp only [if_true]
        exact wpAny_bind (wpAny_rule (wpAny_pure (hR true _ σ' H' s1 _ I ⟨rfl, allBare_setGen I.bare hb, fun _ _ _ e => e, fun b z => by cases z⟩ c)))
end
section
variable {X : Cx}
/-- all (e = false), any (e = true) of elt for target in iter if ..; the running def's table at P may have grown -/
def tTill (e : Bool) (P : Addr) (wi : TI) (g : TG) (tt : TT) (te : TE) (vs : List Nat) : TE := fun σ H Q => wi σ H fun J H1 => TabG H1 P ∧ ∀ H2, Tabbed P H1 H2 →
  ∃ W : Nat → Nat → Hp → Prop, (∃ m, W 0 m H2) ∧ ∀ i m H, W i m H → (J.stop i H ∧ Q (.bl (!e)) H) ∨ (J.go i H ∧ ∃ Nx : Hp → Prop, (∀ H', Nx H' → ∃ m', m' < m ∧ W (i + 1) m' H') ∧
    ∀ x H', J.yld i H x H' → g x (wipe σ vs) H' fun σ2 H2 => wipe σ2 vs = wipe σ vs ∧ tt σ2 H2 fun b H3 => if b = true then te σ2 H3 fun y H4 => ∃ b, y = .bl b ∧ if b = e then Q (.bl e) H4 else Nx H4 else Nx H3)
abbrev RetQ (Q : Value → Shared → Prop) (E : Value → Shared → Prop) : Result → Shared → Prop := fun r s' => match r with | .ok (.ret v) => Q v s' | .ok _ => False | .error e => E e s'
theorem call_allP {P : Program} {w : World} {A : Around} {Q : Value → Shared → Prop} {E : Value → Shared → Prop} {s : Shared} {a g : Addr} (hg : s.heap.IsGen a g)
    (h : codeAny (model P w) A (.builtin "all.loop" ⟨[.ref a], []⟩) (RetQ Q E) s) : wpAny (model P w) A (call (.builtin "all") [.ref a]) Q E s := by
  refine call_function_tree PySem.F.kind_all PySem.F.plain_all PySem.F.entry_all (PySem.F.args_all1 _) ?_
  unfold Builtin.«all»
  refine wpAny_bind (wpAny_pure ?_)
  exact wpAny_bind (wpAny_pyIter_gen hg (wpAny_pure ⟨plainId_quiet PySem.F.plain_all_loop _, h⟩))
theorem call_anyP {P : Program} {w : World} {A : Around} {Q : Value → Shared → Prop} {E : Value → Shared → Prop} {s : Shared} {a g : Addr} (hg : s.heap.IsGen a g)
    (h : codeAny (model P w) A (.builtin "any.loop" ⟨[.ref a], []⟩) (RetQ Q E) s) : wpAny (model P w) A (call (.builtin "any") [.ref a]) Q E s := by
  refine call_function_tree PySem.F.kind_any PySem.F.plain_any PySem.F.entry_any (PySem.F.args_any1 _) ?_
  unfold Builtin.«any»
  refine wpAny_bind (wpAny_pure ?_)
  exact wpAny_bind (wpAny_pyIter_gen hg (wpAny_pure ⟨plainId_quiet PySem.F.plain_any_loop _, h⟩))
/-- the places where the generator's frame may stand -/
abbrev GPG (X : Cx) (k : Nat) (scope : Scope) (tg : Expr) (g : TG) : Prop := ∀ (s : Shared) (H : Hp) (C : Addr) (cl : List (Str × Addr)) (code : Value) (fp : List Addr) (A : Around), Room k A → PG (gcx X s H (genEnv scope cl C code builtinsNs X.env) fp A) tg g
abbrev GPT (X : Cx) (k : Nat) (scope : Scope) (ifs : List Expr) (t : TT) : Prop := ∀ (s : Shared) (H : Hp) (C : Addr) (cl : List (Str × Addr)) (code : Value) (fp : List Addr) (A : Around), Room k A → PTs (gcx X s H (genEnv scope cl C code builtinsNs X.env) fp A) ifs t
abbrev GPE (X : Cx) (k : Nat) (scope : Scope) (e : Expr) (t : TE) : Prop := ∀ (s : Shared) (H : Hp) (C : Addr) (cl : List (Str × Addr)) (code : Value) (fp : List Addr) (A : Around), Room k A → PE (gcx X s H (genEnv scope cl C code builtinsNs X.env) fp A) e t
theorem tTill_step {e : Bool} {J : It} {g : TG} {tt : TT} {te : TE} {vs : List Nat} {σ : L2.St} {Q : VK} {W : Nat → Nat → Hp → Prop}
    (h : ∀ i m H, W i m H → (J.stop i H ∧ Q (.bl (!e)) H) ∨ (J.go i H ∧ ∃ Nx : Hp → Prop, (∀ H', Nx H' → ∃ m', m' < m ∧ W (i + 1) m' H') ∧
      ∀ x H', J.yld i H x H' → g x (wipe σ vs) H' fun σ2 H2 => wipe σ2 vs = wipe σ vs ∧ tt σ2 H2 fun b H3 => if b = true then te σ2 H3 fun y H4 => ∃ b, y = .bl b ∧ if b = e then Q (.bl e) H4 else Nx H4 else Nx H3)) :
    GStep (fun i m _ H => W i m H) J g tt te vs (wipe σ vs) (eTill e fun b H => Q (.bl b) H) (fun _ H => Q (.bl (!e)) H) := fun i m ys H w => by
  rcases h i m H w with z | ⟨go, Nx, hN, st⟩
  · exact .inl z
  · exact .inr ⟨go, fun _ H => Nx H, fun _ H' nx => hN H' nx, st⟩
section
variable {c P : Addr} {elt tg iter : Expr} {ifs : List Expr} {scope : Scope} {own : List (Str × Nat)} {p pos gpos : Pos} {wi : TI} {g : TG} {tt : TT} {te : TE} {k : Nat}
theorem pe_allG (hr : Room (k + 1) X.A) (hn : X.N.Nodup) (hgl : Gl X "all") (hm : X.mg "all" = none) (TB : LamX.TabB X.base X.mg c P) (hcode : X.env.code = .ref c) (G : GScp scope) (ok : BlkOk X.N X.env.scope scope own) (hi : PI X tg iter wi)
    (hg : GPG X k scope tg g) (ht : GPT X k scope ifs tt) (he : GPE X k scope elt te) (hb : bootBuiltins "all" = some (.builtin "all") := by first | rfl | decide +kernel) (hs : ∀ v, genFold iter X.env v = pure v := by intro _; rfl)
    (hst : starEach [.GeneratorExp elt [⟨tg, iter, ifs, 0⟩] scope gpos] X.env = (false, eval (.GeneratorExp elt [⟨tg, iter, ifs, 0⟩] scope gpos) X.env) :: starEach [] X.env := by rfl) :
    PE X (.Call (.Name "all" p) [.GeneratorExp elt [⟨tg, iter, ifs, 0⟩] scope gpos] [] pos) (tTill false P wi g tt te (own.map (·.2))) := by
  refine ⟨fun pins s σ H Q I h => ?_⟩
  refine wpAny_Call_Name_kw (ld_blt I hgl hm hb ?_)
  refine PyProof.Rows.callWith_builtin1 ?_ hst (by rfl)
  rw [hst]
  show wpAny _ _ (spliced ((false, eval (.GeneratorExp elt [⟨tg, iter, ifs, 0⟩] scope gpos) X.env) :: backTo pos (starEach [] X.env))) _ _ s
  refine Calls.spliced_cons (gen_made (R := fun J H1 => _) hr TB hcode G ok hi hs I h fun J H1 H2 s4 cenv fp it tn a gn s5 q tb M => ?_)
  refine Calls.spliced_nil (call_allP M.isg ?_)
  obtain ⟨W, ⟨m, w0⟩, st⟩ := q H2 tb
  obtain ⟨code, hce⟩ := M.env
  subst hce
  obtain ⟨O, rd⟩ := gen_rdy (B := X.A.in1.in1) (Sx := []) hr (nearA2 _) G ok hn M (fun A r => hg _ _ _ _ _ _ A r) (fun A r => ht _ _ _ _ _ _ A r) (fun A r => he _ _ _ _ _ _ A r) (fun b z => by cases z) eTill_mono (tTill_step st) m w0
  refine all_loop1 (Qd := fun b H => Q (.bl b) H) (Y := mkY X s4 H2 _ fp X.A.in1.in1 (wipe σ (own.map (·.2))) (.GeneratorExp elt [⟨tg, iter, ifs, 0⟩] scope gpos) it a gn [] (eTill false fun b H => Q (.bl b) H) (fun _ H => Q (.bl (!false)) H)) O rfl rfl rfl rfl hr.hd hr.depth (fun k ps σ' H' s1 s2 I' af q => ?_) m [] H2 _ s5 s5 rd (Aft.refl ?_) M.isg ?_ ?_
  · exact ⟨.bl k, H', GEx.out (Y := mkY X s4 H2 _ fp X.A.in1.in1 (wipe σ (own.map (·.2))) (.GeneratorExp elt [⟨tg, iter, ifs, 0⟩] scope gpos) it a gn [] (eTill false fun b H => Q (.bl b) H) (fun _ H => Q (.bl (!false)) H)) M.inv (fun b hb => (M.fps b hb).1) I' af, rfl, q⟩
  · rw [M.gens]
    exact M.inv.bare.push rfl
  · show s5.gens[gn]? = _
    rw [M.gens, M.num]
    simp
  · exact M.inv.nolimit.keeps M.keep
theorem pe_anyG (hr : Room (k + 1) X.A) (hn : X.N.Nodup) (hgl : Gl X "any") (hm : X.mg "any" = none) (TB : LamX.TabB X.base X.mg c P) (hcode : X.env.code = .ref c) (G : GScp scope) (ok : BlkOk X.N X.env.scope scope own) (hi : PI X tg iter wi)
    (hg : GPG X k scope tg g) (ht : GPT X k scope ifs tt) (he : GPE X k scope elt te) (hb : bootBuiltins "any" = some (.builtin "any") := by first | rfl | decide +kernel) (hs : ∀ v, genFold iter X.env v = pure v := by intro _; rfl)
    (hst : starEach [.GeneratorExp elt [⟨tg, iter, ifs, 0⟩] scope gpos] X.env = (false, eval (.GeneratorExp elt [⟨tg, iter, ifs, 0⟩] scope gpos) X.env) :: starEach [] X.env := by rfl) :
    PE X (.Call (.Name "any" p) [.GeneratorExp elt [⟨tg, iter, ifs, 0⟩] scope gpos] [] pos) (tTill true P wi g tt te (own.map (·.2))) := by
  refine ⟨fun pins s σ H Q I h => ?_⟩
  refine wpAny_Call_Name_kw (ld_blt I hgl hm hb ?_)
  refine PyProof.Rows.callWith_builtin1 ?_ hst (by rfl)
  rw [hst]
  show wpAny _ _ (spliced ((false, eval (.GeneratorExp elt [⟨tg, iter, ifs, 0⟩] scope gpos) X.env) :: backTo pos (starEach [] X.env))) _ _ s
  refine Calls.spliced_cons (gen_made (R := fun J H1 => _) hr TB hcode G ok hi hs I h fun J H1 H2 s4 cenv fp it tn a gn s5 q tb M => ?_)
  refine Calls.spliced_nil (call_anyP M.isg ?_)
  obtain ⟨W, ⟨m, w0⟩, st⟩ := q H2 tb
  obtain ⟨code, hce⟩ := M.env
  subst hce
  obtain ⟨O, rd⟩ := gen_rdy (B := X.A.in1.in1) (Sx := []) hr (nearA2 _) G ok hn M (fun A r => hg _ _ _ _ _ _ A r) (fun A r => ht _ _ _ _ _ _ A r) (fun A r => he _ _ _ _ _ _ A r) (fun b z => by cases z) eTill_mono (tTill_step st) m w0
  refine any_loop1 (Qd := fun b H => Q (.bl b) H) (Y := mkY X s4 H2 _ fp X.A.in1.in1 (wipe σ (own.map (·.2))) (.GeneratorExp elt [⟨tg, iter, ifs, 0⟩] scope gpos) it a gn [] (eTill true fun b H => Q (.bl b) H) (fun _ H => Q (.bl (!true)) H)) O rfl rfl rfl rfl hr.hd hr.depth (fun k ps σ' H' s1 s2 I' af q => ?_) m [] H2 _ s5 s5 rd (Aft.refl ?_) M.isg ?_ ?_
  · exact ⟨.bl k, H', GEx.out (Y := mkY X s4 H2 _ fp X.A.in1.in1 (wipe σ (own.map (·.2))) (.GeneratorExp elt [⟨tg, iter, ifs, 0⟩] scope gpos) it a gn [] (eTill true fun b H => Q (.bl b) H) (fun _ H => Q (.bl (!true)) H)) M.inv (fun b hb => (M.fps b hb).1) I' af, rfl, q⟩
  · rw [M.gens]
    exact M.inv.bare.push rfl
  · show s5.gens[gn]? = _
    rw [M.gens, M.num]
    simp
  · exact M.inv.nolimit.keeps M.keep
end
/-- .. of two clauses -/
def tTill2 (e : Bool) (P : Addr) (wi : TI) (g : TG) (tt : TT) (wi1 : TI) (g1 : TG) (tt1 : TT) (te : TE) (vs vs1 : List Nat) : TE := fun σ H Q => wi σ H fun J H1 => TabG H1 P ∧ ∀ H2, Tabbed P H1 H2 →
  ∃ W : Nat → Nat → Hp → Prop, (∃ m, W 0 m H2) ∧ ∀ i m H, W i m H → (J.stop i H ∧ Q (.bl (!e)) H) ∨ (J.go i H ∧ ∀ x H', J.yld i H x H' → g x (wipe σ vs) H' fun σ2 H2 => wipe σ2 vs = wipe σ vs ∧ tt σ2 H2 fun b H3 => if b = true then wi1 σ2 H3 fun J1 H4 =>
      ∃ W1 : Nat → Nat → Hp → Prop, (∃ m1, m1 < m ∧ W1 0 m1 H4) ∧ ∀ i1 m1 H, W1 i1 m1 H → (J1.stop i1 H ∧ ∃ m', m' ≤ m1 ∧ m' < m ∧ W (i + 1) m' H) ∨ (J1.go i1 H ∧ ∃ N1 : Hp → Prop, (∀ H', N1 H' → ∃ m', m' < m1 ∧ W1 (i1 + 1) m' H') ∧
        ∀ x1 H', J1.yld i1 H x1 H' → g1 x1 (wipe σ2 vs1) H' fun σ3 H5 => wipe σ3 vs1 = wipe σ2 vs1 ∧ tt1 σ3 H5 fun b1 H6 => if b1 = true then te σ3 H6 fun y H7 => ∃ b, y = .bl b ∧ if b = e then Q (.bl e) H7 else N1 H7 else N1 H6)
    else ∃ m', m' < m ∧ W (i + 1) m' H3)
theorem tTill2_step {e : Bool} {J : It} {wi1 : TI} {g g1 : TG} {tt tt1 : TT} {te : TE} {vs vs1 : List Nat} {σ : L2.St} {Q : VK} {W : Nat → Nat → Hp → Prop}
    (h : ∀ i m H, W i m H → (J.stop i H ∧ Q (.bl (!e)) H) ∨ (J.go i H ∧ ∀ x H', J.yld i H x H' → g x (wipe σ vs) H' fun σ2 H2 => wipe σ2 vs = wipe σ vs ∧ tt σ2 H2 fun b H3 => if b = true then wi1 σ2 H3 fun J1 H4 =>
      ∃ W1 : Nat → Nat → Hp → Prop, (∃ m1, m1 < m ∧ W1 0 m1 H4) ∧ ∀ i1 m1 H, W1 i1 m1 H → (J1.stop i1 H ∧ ∃ m', m' ≤ m1 ∧ m' < m ∧ W (i + 1) m' H) ∨ (J1.go i1 H ∧ ∃ N1 : Hp → Prop, (∀ H', N1 H' → ∃ m', m' < m1 ∧ W1 (i1 + 1) m' H') ∧
        ∀ x1 H', J1.yld i1 H x1 H' → g1 x1 (wipe σ2 vs1) H' fun σ3 H5 => wipe σ3 vs1 = wipe σ2 vs1 ∧ tt1 σ3 H5 fun b1 H6 => if b1 = true then te σ3 H6 fun y H7 => ∃ b, y = .bl b ∧ if b = e then Q (.bl e) H7 else N1 H7 else N1 H6)
    else ∃ m', m' < m ∧ W (i + 1) m' H3)) (hmono : ∀ σ2 H3 (R R' : It → Hp → Prop), (∀ J H, R J H → R' J H) → wi1 σ2 H3 R → wi1 σ2 H3 R')
    (gm : ∀ v σ H (R R' : L2.St → Hp → Prop), (∀ σ H, R σ H → R' σ H) → g v σ H R → g v σ H R') (tm : ∀ σ H (R R' : Bool → Hp → Prop), (∀ b H, R b H → R' b H) → tt σ H R → tt σ H R') :
    GStep2 (fun i m _ H => W i m H) J g tt wi1 g1 tt1 te vs vs1 (wipe σ vs) (eTill e fun b H => Q (.bl b) H) (fun _ H => Q (.bl (!e)) H) := fun i m ys H w => by
  rcases h i m H w with z | ⟨go, st⟩
  · exact .inl z
  · refine .inr ⟨go, fun x H' y => gm _ _ _ _ _ (fun σ2 H2 q => ⟨q.1, tm _ _ _ _ (fun b H3 q2 => ?_) q.2⟩) (st x H' y)⟩
    cases b with
    | false => exact q2
    | true =>
      refine hmono _ _ _ _ (fun J1 H4 q3 => ?_) q2
      obtain ⟨W1, ⟨m1, h1, w1⟩, st1⟩ := q3
      refine ⟨fun i m _ H => W1 i m H, ⟨m1, h1, w1⟩, fun i1 m2 ys2 H5 w2 => ?_⟩
      rcases st1 i1 m2 H5 w2 with z | ⟨go1, N1, hN, s1⟩
      · exact .inl z
      · exact .inr ⟨go1, fun _ H => N1 H, fun _ H' n => hN H' n, s1⟩
section
variable {c P : Addr} {elt tg iter tg1 iter1 : Expr} {ifs ifs1 : List Expr} {scope : Scope} {own : List (Str × Nat)} {vs1 : List Nat} {p pos gpos : Pos} {wi wi1 : TI} {g g1 : TG} {tt tt1 : TT} {te : TE} {k : Nat}
/-- the places where the second clause's iterator is made -/
abbrev GPI (X : Cx) (k : Nat) (scope : Scope) (tg e : Expr) (t : TI) : Prop := ∀ (s : Shared) (H : Hp) (C : Addr) (cl : List (Str × Addr)) (code : Value) (fp : List Addr) (A : Around), Room k A → PI (gcx X s H (genEnv scope cl C code builtinsNs X.env) fp A) tg e t
theorem pe_anyG2 (hr : Room (k + 1) X.A) (hn : X.N.Nodup) (hgl : Gl X "any") (hm : X.mg "any" = none) (TB : LamX.TabB X.base X.mg c P) (hcode : X.env.code = .ref c) (G : GScp scope) (ok : BlkOk X.N X.env.scope scope own) (hvs : ∀ v ∈ vs1, v ∈ own.map (·.2)) (hi : PI X tg iter wi)
    (hg : GPG X k scope tg g) (ht : GPT X k scope ifs tt) (hi1 : GPI X k scope tg1 iter1 wi1) (hg1 : GPG X k scope tg1 g1) (ht1 : GPT X k scope ifs1 tt1) (he : GPE X k scope elt te)
    (hmono : ∀ σ2 H3 (R R' : It → Hp → Prop), (∀ J H, R J H → R' J H) → wi1 σ2 H3 R → wi1 σ2 H3 R') (gm : ∀ v σ H (R R' : L2.St → Hp → Prop), (∀ σ H, R σ H → R' σ H) → g v σ H R → g v σ H R') (tm : ∀ σ H (R R' : Bool → Hp → Prop), (∀ b H, R b H → R' b H) → tt σ H R → tt σ H R')
    (hb : bootBuiltins "any" = some (.builtin "any") := by first | rfl | decide +kernel) (hs : ∀ v, genFold iter X.env v = pure v := by intro _; rfl) (hs1 : ∀ (C : Addr) (cl : List (Str × Addr)) (code : Value) x, foldedSetIterable iter1 (genEnv scope cl C code builtinsNs X.env) x = pure x := by intro _ _ _ _; rfl)
    (hst : starEach [.GeneratorExp elt [⟨tg, iter, ifs, 0⟩, ⟨tg1, iter1, ifs1, 0⟩] scope gpos] X.env = (false, eval (.GeneratorExp elt [⟨tg, iter, ifs, 0⟩, ⟨tg1, iter1, ifs1, 0⟩] scope gpos) X.env) :: starEach [] X.env := by rfl) :
    PE X (.Call (.Name "any" p) [.GeneratorExp elt [⟨tg, iter, ifs, 0⟩, ⟨tg1, iter1, ifs1, 0⟩] scope gpos] [] pos) (tTill2 true P wi g tt wi1 g1 tt1 te (own.map (·.2)) vs1) := by
  refine ⟨fun pins s σ H Q I h => ?_⟩
  refine wpAny_Call_Name_kw (ld_blt I hgl hm hb ?_)
  refine PyProof.Rows.callWith_builtin1 ?_ hst (by rfl)
  rw [hst]
  show wpAny _ _ (spliced ((false, eval (.GeneratorExp elt [⟨tg, iter, ifs, 0⟩, ⟨tg1, iter1, ifs1, 0⟩] scope gpos) X.env) :: backTo pos (starEach [] X.env))) _ _ s
  refine Calls.spliced_cons (gen_made (R := fun J H1 => _) hr TB hcode G ok hi hs I h fun J H1 H2 s4 cenv fp it tn a gn s5 q tb M => ?_)
  refine Calls.spliced_nil (call_anyP M.isg ?_)
  obtain ⟨W, ⟨m, w0⟩, st⟩ := q H2 tb
  obtain ⟨code, hce⟩ := M.env
  subst hce
  obtain ⟨O, rd⟩ := gen_rdy2 (B := X.A.in1.in1) (Sx := []) hr (nearA2 _) G ok hn hvs M (fun A r => hg _ _ _ _ _ _ A r) (fun A r => ht _ _ _ _ _ _ A r) (fun A r => hi1 _ _ _ _ _ _ A r) (hs1 _ _ _) (fun A r => hg1 _ _ _ _ _ _ A r) (fun A r => ht1 _ _ _ _ _ _ A r) (fun A r => he _ _ _ _ _ _ A r) (fun b z => by cases z) eTill_mono (tTill2_step st hmono gm tm) m w0
  refine any_loop1 (Qd := fun b H => Q (.bl b) H) (Y := mkY X s4 H2 _ fp X.A.in1.in1 (wipe σ (own.map (·.2))) (.GeneratorExp elt [⟨tg, iter, ifs, 0⟩, ⟨tg1, iter1, ifs1, 0⟩] scope gpos) it a gn [] (eTill true fun b H => Q (.bl b) H) (fun _ H => Q (.bl (!true)) H)) O rfl rfl rfl rfl hr.hd hr.depth (fun k ps σ' H' s1 s2 I' af q => ?_) m [] H2 _ s5 s5 rd (Aft.refl ?_) M.isg ?_ ?_
  · exact ⟨.bl k, H', GEx.out (Y := mkY X s4 H2 _ fp X.A.in1.in1 (wipe σ (own.map (·.2))) (.GeneratorExp elt [⟨tg, iter, ifs, 0⟩, ⟨tg1, iter1, ifs1, 0⟩] scope gpos) it a gn [] (eTill true fun b H => Q (.bl b) H) (fun _ H => Q (.bl (!true)) H)) M.inv (fun b hb => (M.fps b hb).1) I' af, rfl, q⟩
  · rw [M.gens]
    exact M.inv.bare.push rfl
  · show s5.gens[gn]? = _
    rw [M.gens, M.num]
    simp
  · exact M.inv.nolimit.keeps M.keep
end
end

/-! ### the forms one uses -/
def gscpB (sc : Scope) : Bool := !sc.isCoroutine && decide (sc.kind = .function) && (sc.names.all fun y => !decide (y.2 = .cell)) && decide (sc.names.lookup (".0" : Str) = some NameKind.local)
theorem gscp_by {sc : Scope} (h : gscpB sc = true) : GScp sc := by
  unfold gscpB at h
  simp only [Bool.and_eq_true, Bool.not_eq_true', decide_eq_true_eq, List.all_eq_true, decide_eq_false_iff_not] at h
  obtain ⟨⟨⟨h1, h2⟩, h3⟩, h4⟩ := h
  exact ⟨h1, h2, h3, h4⟩
section
variable {e : Bool} {K : PySem.W.Frag} {a : Addr} {xs : List V} {g : TG} {tt : TT} {te : TE} {vs : List Nat} {σ : L2.St} {H2 : Hp} {Q : VK}
/-- over a list that the element leaves as it is -/
theorem till_list (Pv : Nat → Hp → Prop) (h0 : Pv 0 H2) (hl : ∀ i H, i ≤ xs.length → Pv i H → SqL K H a xs)
    (hs : ∀ i x H, xs[i]? = some x → Pv i H → g x (wipe σ vs) H fun σ2 H2 => wipe σ2 vs = wipe σ vs ∧ tt σ2 H2 fun b H3 => if b = true then te σ2 H3 fun y H4 => ∃ b, y = .bl b ∧ if b = e then Q (.bl e) H4 else Pv (i + 1) H4 else Pv (i + 1) H3) (hd : ∀ H, Pv xs.length H → Q (.bl (!e)) H) :
    ∃ W : Nat → Nat → Hp → Prop, (∃ m, W 0 m H2) ∧ ∀ i m H, W i m H → ((Itl K a).stop i H ∧ Q (.bl (!e)) H) ∨ ((Itl K a).go i H ∧ ∃ Nx : Hp → Prop, (∀ H', Nx H' → ∃ m', m' < m ∧ W (i + 1) m' H') ∧
      ∀ x H', (Itl K a).yld i H x H' → g x (wipe σ vs) H' fun σ2 H2 => wipe σ2 vs = wipe σ vs ∧ tt σ2 H2 fun b H3 => if b = true then te σ2 H3 fun y H4 => ∃ b, y = .bl b ∧ if b = e then Q (.bl e) H4 else Nx H4 else Nx H3) := by
  refine ⟨fun i m H => m = xs.length - i ∧ i ≤ xs.length ∧ Pv i H, ⟨xs.length, by simp, Nat.zero_le _, h0⟩, fun i m H w => ?_⟩
  obtain ⟨hm, hi, p⟩ := w
  have q := hl i H hi p
  rcases Nat.lt_or_ge i xs.length with z | z
  · refine .inr ⟨⟨xs, xs[i], q, by simp [z]⟩, Pv (i + 1), fun H' p' => ⟨xs.length - (i + 1), by omega, rfl, z, p'⟩, fun x H' y => ?_⟩
    obtain ⟨rfl, y⟩ := y
    exact hs i x _ (y xs q) p
  · obtain rfl : i = xs.length := by omega
    exact .inl ⟨⟨xs, q, Nat.le_refl _⟩, hd H p⟩
/-- over a tuple -/
theorem till_tup (Pv : Nat → Hp → Prop) (h0 : Pv 0 H2) (hl : ∀ i H, i ≤ xs.length → Pv i H → SqT K H a xs)
    (hs : ∀ i x H, xs[i]? = some x → Pv i H → g x (wipe σ vs) H fun σ2 H2 => wipe σ2 vs = wipe σ vs ∧ tt σ2 H2 fun b H3 => if b = true then te σ2 H3 fun y H4 => ∃ b, y = .bl b ∧ if b = e then Q (.bl e) H4 else Pv (i + 1) H4 else Pv (i + 1) H3) (hd : ∀ H, Pv xs.length H → Q (.bl (!e)) H) :
    ∃ W : Nat → Nat → Hp → Prop, (∃ m, W 0 m H2) ∧ ∀ i m H, W i m H → ((Itt K a).stop i H ∧ Q (.bl (!e)) H) ∨ ((Itt K a).go i H ∧ ∃ Nx : Hp → Prop, (∀ H', Nx H' → ∃ m', m' < m ∧ W (i + 1) m' H') ∧
      ∀ x H', (Itt K a).yld i H x H' → g x (wipe σ vs) H' fun σ2 H2 => wipe σ2 vs = wipe σ vs ∧ tt σ2 H2 fun b H3 => if b = true then te σ2 H3 fun y H4 => ∃ b, y = .bl b ∧ if b = e then Q (.bl e) H4 else Nx H4 else Nx H3) := by
  refine ⟨fun i m H => m = xs.length - i ∧ i ≤ xs.length ∧ Pv i H, ⟨xs.length, by simp, Nat.zero_le _, h0⟩, fun i m H w => ?_⟩
  obtain ⟨hm, hi, p⟩ := w
  have q := hl i H hi p
  rcases Nat.lt_or_ge i xs.length with z | z
  · refine .inr ⟨⟨xs, xs[i], q, by simp [z]⟩, Pv (i + 1), fun H' p' => ⟨xs.length - (i + 1), by omega, rfl, z, p'⟩, fun x H' y => ?_⟩
    obtain ⟨rfl, y⟩ := y
    exact hs i x _ (y xs q) p
  · obtain rfl : i = xs.length := by omega
    exact .inl ⟨⟨xs, q, Nat.le_refl _⟩, hd H p⟩
/-- two clauses, both over lists: the outer one -/
def W2 (n ny : Nat) (Pv : Nat → Hp → Prop) (i m : Nat) (H : Hp) : Prop := i ≤ n ∧ m = (n - i) * (ny + 2) ∧ Pv i H
variable {wi1 : TI} {g1 : TG} {tt1 : TT} {vs1 : List Nat} {ny : Nat}
theorem till2_list (ny : Nat) (Pv : Nat → Hp → Prop) (h0 : Pv 0 H2) (hl : ∀ i H, i ≤ xs.length → Pv i H → SqL K H a xs)
    (hs : ∀ i x H, i < xs.length → xs[i]? = some x → Pv i H → g x (wipe σ vs) H fun σ2 H2 => wipe σ2 vs = wipe σ vs ∧ tt σ2 H2 fun b H3 => if b = true then wi1 σ2 H3 fun J1 H4 =>
      ∃ W1 : Nat → Nat → Hp → Prop, (∃ m1, m1 < (xs.length - i) * (ny + 2) ∧ W1 0 m1 H4) ∧ ∀ i1 m1 H, W1 i1 m1 H → (J1.stop i1 H ∧ ∃ m', m' ≤ m1 ∧ m' < (xs.length - i) * (ny + 2) ∧ W2 xs.length ny Pv (i + 1) m' H) ∨ (J1.go i1 H ∧ ∃ N1 : Hp → Prop, (∀ H', N1 H' → ∃ m', m' < m1 ∧ W1 (i1 + 1) m' H') ∧
        ∀ x1 H', J1.yld i1 H x1 H' → g1 x1 (wipe σ2 vs1) H' fun σ3 H5 => wipe σ3 vs1 = wipe σ2 vs1 ∧ tt1 σ3 H5 fun b1 H6 => if b1 = true then te σ3 H6 fun y H7 => ∃ b, y = .bl b ∧ if b = e then Q (.bl e) H7 else N1 H7 else N1 H6)
      else ∃ m', m' < (xs.length - i) * (ny + 2) ∧ W2 xs.length ny Pv (i + 1) m' H3) (hd : ∀ H, Pv xs.length H → Q (.bl (!e)) H) :
    ∃ W : Nat → Nat → Hp → Prop, (∃ m, W 0 m H2) ∧ ∀ i m H, W i m H → ((Itl K a).stop i H ∧ Q (.bl (!e)) H) ∨ ((Itl K a).go i H ∧ ∀ x H', (Itl K a).yld i H x H' → g x (wipe σ vs) H' fun σ2 H2 => wipe σ2 vs = wipe σ vs ∧ tt σ2 H2 fun b H3 => if b = true then wi1 σ2 H3 fun J1 H4 =>
      ∃ W1 : Nat → Nat → Hp → Prop, (∃ m1, m1 < m ∧ W1 0 m1 H4) ∧ ∀ i1 m1 H, W1 i1 m1 H → (J1.stop i1 H ∧ ∃ m', m' ≤ m1 ∧ m' < m ∧ W (i + 1) m' H) ∨ (J1.go i1 H ∧ ∃ N1 : Hp → Prop, (∀ H', N1 H' → ∃ m', m' < m1 ∧ W1 (i1 + 1) m' H') ∧
        ∀ x1 H', J1.yld i1 H x1 H' → g1 x1 (wipe σ2 vs1) H' fun σ3 H5 => wipe σ3 vs1 = wipe σ2 vs1 ∧ tt1 σ3 H5 fun b1 H6 => if b1 = true then te σ3 H6 fun y H7 => ∃ b, y = .bl b ∧ if b = e then Q (.bl e) H7 else N1 H7 else N1 H6)
    else ∃ m', m' < m ∧ W (i + 1) m' H3) := by
  refine ⟨W2 xs.length ny Pv, ⟨_, Nat.zero_le _, rfl, h0⟩, fun i m H w => ?_⟩
  obtain ⟨hi, hm, p⟩ := w
  subst hm
  have q := hl i H hi p
  rcases Nat.lt_or_ge i xs.length with z | z
  · refine .inr ⟨⟨xs, xs[i], q, by simp [z]⟩, fun x H' y => ?_⟩
    obtain ⟨rfl, y⟩ := y
    exact hs i x _ z (y xs q) p
  · obtain rfl : i = xs.length := by omega
    exact .inl ⟨⟨xs, q, Nat.le_refl _⟩, hd H p⟩
/-- .. the inner one -/
theorem till2_in {n i : Nat} {b : Addr} {ys : List V} {σ2 : L2.St} {H4 : Hp} {Pv : Nat → Hp → Prop} (hi : i < n) (Pw : Nat → Hp → Prop) (h0 : Pw 0 H4) (hl : ∀ j H, j ≤ ys.length → Pw j H → SqL K H b ys)
    (hs : ∀ j x H, ys[j]? = some x → Pw j H → g1 x (wipe σ2 vs1) H fun σ3 H5 => wipe σ3 vs1 = wipe σ2 vs1 ∧ tt1 σ3 H5 fun b1 H6 => if b1 = true then te σ3 H6 fun y H7 => ∃ b, y = .bl b ∧ if b = e then Q (.bl e) H7 else Pw (j + 1) H7 else Pw (j + 1) H6) (hd : ∀ H, Pw ys.length H → Pv (i + 1) H) :
    ∃ W1 : Nat → Nat → Hp → Prop, (∃ m1, m1 < (n - i) * (ys.length + 2) ∧ W1 0 m1 H4) ∧ ∀ i1 m1 H, W1 i1 m1 H → ((Itl K b).stop i1 H ∧ ∃ m', m' ≤ m1 ∧ m' < (n - i) * (ys.length + 2) ∧ W2 n ys.length Pv (i + 1) m' H) ∨ ((Itl K b).go i1 H ∧ ∃ N1 : Hp → Prop, (∀ H', N1 H' → ∃ m', m' < m1 ∧ W1 (i1 + 1) m' H') ∧
        ∀ x1 H', (Itl K b).yld i1 H x1 H' → g1 x1 (wipe σ2 vs1) H' fun σ3 H5 => wipe σ3 vs1 = wipe σ2 vs1 ∧ tt1 σ3 H5 fun b1 H6 => if b1 = true then te σ3 H6 fun y H7 => ∃ b, y = .bl b ∧ if b = e then Q (.bl e) H7 else N1 H7 else N1 H6) := by
  have e1 : (n - i) * (ys.length + 2) = (n - (i + 1)) * (ys.length + 2) + (ys.length + 2) := by
    rw [show n - i = (n - (i + 1)) + 1 by omega, Nat.add_mul, Nat.one_mul]
  refine ⟨fun j m1 H => j ≤ ys.length ∧ m1 = (n - (i + 1)) * (ys.length + 2) + (ys.length - j) + 1 ∧ Pw j H, ⟨_, ?_, Nat.zero_le _, rfl, h0⟩, fun j m1 H w => ?_⟩
  · rw [e1]; omega
  · obtain ⟨hj, hm, p⟩ := w
    have q := hl j H hj p
    rcases Nat.lt_or_ge j ys.length with z | z
    · refine .inr ⟨⟨ys, ys[j], q, by simp [z]⟩, Pw (j + 1), fun H' p' => ⟨_, ?_, z, rfl, p'⟩, fun x H' y => ?_⟩
      · rw [hm]; omega
      · obtain ⟨rfl, y⟩ := y
        exact hs j x _ (y ys q) p
    · obtain rfl : j = ys.length := by omega
      exact .inl ⟨⟨ys, q, Nat.le_refl _⟩, (n - (i + 1)) * (ys.length + 2), by omega, by rw [e1]; omega, hi, rfl, hd H p⟩
end
theorem tYes_mono : ∀ (σ : L2.St) (H : Hp) (R R' : Bool → Hp → Prop), (∀ b H, R b H → R' b H) → tYes σ H R → tYes σ H R' := fun _ _ _ _ h q => h _ _ q
theorem gName_mono {i : Nat} : ∀ (v : V) (σ : L2.St) (H : Hp) (R R' : L2.St → Hp → Prop), (∀ σ H, R σ H → R' σ H) → gName i v σ H R → gName i v σ H R' := fun _ _ _ _ _ h q => h _ _ q
theorem iListV_mono {K : PySem.W.Frag} {i : Nat} : ∀ (σ : L2.St) (H : Hp) (R R' : It → Hp → Prop), (∀ J H, R J H → R' J H) → iList K (tVar i) σ H R → iList K (tVar i) σ H R' := fun _ _ _ _ h ⟨v, e, a, ea, s, q⟩ => ⟨v, e, a, ea, s, h _ _ q⟩
theorem yes_if {σ : L2.St} {H : Hp} {A B : Hp → Prop} (h : A H) : tYes σ H (fun b H3 => if b = true then A H3 else B H3) := by
  show (if true = true then A H else B H)
  exact (if_pos rfl).mpr h
end Sk

set_option Elab.async false
set_option linter.all false
set_option maxRecDepth 100000
set_option maxHeartbeats 4000000
namespace Sk
open PySem PySem.Spec PyProof.Rows L2 GenW GxR
/-! tables of code objects, and the end of a law with several of them -/
def Tabs (T : List Addr) (H : Hp) : Prop := ∀ P ∈ T, TabG H P
/-- all that stood stands, but the tables may have grown -/
structure SameT (T : List Addr) (H H' : Hp) : Prop where
  keep : ∀ b o, H b = some o → b ∉ T → H' b = some o
  tabs : Tabs T H → Tabs T H'
theorem SameT.refl (T : List Addr) (H : Hp) : SameT T H H := ⟨fun _ _ e _ => e, id⟩
theorem SameT.trans {T : List Addr} {H H1 H2 : Hp} (a : SameT T H H1) (b : SameT T H1 H2) : SameT T H H2 := ⟨fun c o e n => b.keep c o (a.keep c o e n) n, fun t => b.tabs (a.tabs t)⟩
theorem SameT.of {T : List Addr} {H H' : Hp} (s : Same H H') : SameT T H H' := ⟨fun c o e _ => s c o e, fun t P hP => by
  obtain ⟨ps, e, r⟩ := t P hP
  exact ⟨ps, s _ _ e, r⟩⟩
theorem SameT.tabbed {T : List Addr} {P : Addr} {H H' : Hp} (hP : P ∈ T) (t : Tabbed P H H') : SameT T H H' := ⟨fun c o e n => by
    rw [t.2 c fun z => n (by rw [z]; exact hP)]
    exact e, fun s Q hQ => by
    by_cases z : Q = P
    · rw [z]; exact t.1
    · obtain ⟨ps, e, r⟩ := s Q hQ
      exact ⟨ps, by rw [t.2 Q z]; exact e, r⟩⟩
theorem tabs_out {T : List Addr} {H : Hp} {a : Addr} {o : HO} (t : Tabs T H) (e : H a = some o) (n : ∀ ps, o ≠ .tbl ps) : a ∉ T := fun h => by
  obtain ⟨ps, e', _⟩ := t a h
  rw [e] at e'
  exact n ps (Option.some.inj e')
section
variable {T : List Addr} {H H' : Hp} {a : Addr}
theorem SameT.t {xs : List V} (s : SameT T H H') (t : Tabs T H) (e : H a = some (.tup xs)) : H' a = some (.tup xs) := s.keep a _ e (tabs_out t e fun ps z => by cases z)
theorem SameT.l {xs : List V} (s : SameT T H H') (t : Tabs T H) (e : H a = some (.lst xs)) : H' a = some (.lst xs) := s.keep a _ e (tabs_out t e fun ps z => by cases z)
theorem SameT.d {kvs : List (Key × V)} (s : SameT T H H') (t : Tabs T H) (e : H a = some (.dK kvs)) : H' a = some (.dK kvs) := s.keep a _ e (tabs_out t e fun ps z => by cases z)
theorem SameT.i {C d : Addr} {fs : List (Str × V)} (s : SameT T H H') (t : Tabs T H) (e : H a = some (.ins C d fs)) : H' a = some (.ins C d fs) := s.keep a _ e (tabs_out t e fun ps z => by cases z)
theorem Same.tabs (s : Same H H') (t : Tabs T H) : Tabs T H' := (SameT.of s).tabs t
theorem Keep.tabs {d : Addr} {kvs : List (Key × V)} (k : Keep d H H') (hd : H d = some (.dK kvs)) (t : Tabs T H) : Tabs T H' := fun P hP => by
  obtain ⟨ps, e, r⟩ := t P hP
  exact ⟨ps, k _ _ e (ne_of e hd (by intro z; cases z)), r⟩
theorem Tabs.new {p : Addr} {o : HO} (t : Tabs T H) (h : H p = none) : Tabs T (upd H p o) := Same.tabs (same_new h) t
theorem SameT.st1 {K : PySem.W.Frag} {d c : Addr} (s : SameT T H H') (t : Tabs T H) (S : St1 K H d c) : St1 K H' d c := by
  obtain ⟨ns, i, l, m, S⟩ := S
  exact ⟨ns, i, l, m, s.d t S.dc, s.l t S.cs, S.nn, S.i0, S.l0, S.m0, S.m1⟩
end
/-- a def whose code object is known -/
theorem okT {P : Program} {w : World} {K : PySem.W.Frag} {mg : Str → Option Value} {base : Heap} {x qual : Str} {st : Stmt} {f c : Addr} {fd : FuncData} {N ps : List Str} {k : Nat} {sp : Sp} (F : Fun K x qual st f fd) (hc : fd.code = .ref c) (S : FnScope N ps (defScope st)) (len : ∀ vs H Q E, sp vs H Q E → vs.length = ps.length)
    (hbody : ∀ (A : Around) (outer : List Env) (s : Shared) (H : Hp) (vs : List V) (Q : VK) (E : XK), Room k (A.deeper (envOfC qual (defScope st) s.heap.objs.size f (.ref c))) → sp vs H Q E →
      ∃ t, PSs (cxOf CX0 P w K mg base N qual (defScope st) f (.ref c) A outer s H E).nox (defBody st) t ∧ t { nx := fun _ H' => Q .non H', rt := Q } (start N vs) H) : FnOk P w K mg base CX0 (k + 1) f fd ps sp := by
  obtain ⟨oc, od, kV, doc, pm, an, cdv, ct, osl, rfl, lk, hcd⟩ := F.ex
  have e : cdv = .ref c := hc
  subst e
  refine fn_of lk hcd S len fun A outer s H vs Q E hr hsp => ?_
  obtain ⟨t, h, q⟩ := hbody A outer s H vs Q E hr hsp
  exact ⟨t, h.nox, q⟩
theorem walk_tabs {l : PySem.W.OpenLaw} {n k : Nat} {q : Program} {loose : List Str} {XP : (Str → Option Value) → Heap → Prop} {YP : World → Heap → Prop} {d : DefRec} {K : Params → PySem.W.Frag} {CX : World → CXT} {x : Str}
    (hn : l.most = some n) (hn2 : n ≤ sizeLine) (hdf : d.params.defaults = []) (hr : Room k callerA) (hY : ∀ (w : World) (h : Heap), YP w h → (K w.params).In h)
    (F : ∀ (w : World) (mg : Str → Option Value) (fa : Addr) (h : Heap), (K w.params).In h → h.Ns mainGlobals mg → mg d.name = some (.ref fa) →
      (∀ (y : Str) (e : DefRec) (c P : Addr), (recsOf q).find? (fun e => e.name == y) = some e → PySem.W.tabIn (K w.params) y = some (c, P) → PySem.W.CodeHd h c P ∧ h.get? P = some { cls := .none, data := .fields #[] }) → LamX.LawAtS l w (K w.params) (CX w) k n x mg fa h)
    (hCX : ∀ (w : World) (H : Hp) (s : Shared) (e : Value) (s' : Shared), CX w [] H s (fun _ _ _ => False) e s' → False) :
    PySem.W.WalkO q loose XP YP l.row.toRowW d [] (fun f vs => PySem.call f vs) := by
  refine Att.attach_callB hn hdf fun w s₀ s₁ mg mb fa o pm cd doc a vs ns G Y ho hd hcd hmg hobj hints hlen hbits hg => ?_
  have KX := hY w _ Y
  obtain ⟨fd, cs, sp, hT, nT, C, hb, hsp, hF⟩ := F w mg fa _ KX G.T.g hmg fun y e c P hf ht => PySem.W.tab_of G.T KX hf ht
  exact LamX.law_callTs KX G.T.g G.T.b G.T.builtins G.T.nolimit hg hT nT C G.T.bmain hobj hints (Nat.le_trans hlen hn2) hr hF hb (fun H hH hS => hsp H a ns hlen hbits hH hS) fun H e s' => hCX w H s₁ e s'
end Sk

set_option Elab.async false
set_option linter.all false
set_option maxRecDepth 100000
set_option maxHeartbeats 4000000
namespace Sk
open PySem PySem.Spec PyProof.Rows L2
/-! ### bounds -/
def BdN (n : Nat) (x : Int) : Prop := x.natAbs ≤ 2 ^ n
theorem BdN.mono {m n : Nat} {x : Int} (h : BdN m x) (hmn : m ≤ n) : BdN n x := Nat.le_trans h (Nat.pow_le_pow_right (by decide) hmn)
theorem BdN.mul {m n : Nat} {x y : Int} (h : BdN m x) (h' : BdN n y) : BdN (m + n) (x * y) := by
  unfold BdN at *
  rw [Int.natAbs_mul, Nat.pow_add]
  exact Nat.mul_le_mul h h'
theorem BdN.add {n : Nat} {x y : Int} (h : BdN n x) (h' : BdN n y) : BdN (n + 1) (x + y) := by
  unfold BdN at *
  rw [Nat.pow_succ]
  have := Int.natAbs_add_le x y
  omega
theorem BdN.sub {n : Nat} {x y : Int} (h : BdN n x) (h' : BdN n y) : BdN (n + 1) (x - y) := by
  unfold BdN at *
  rw [Nat.pow_succ]
  omega
theorem BdN.of {n : Nat} {x : Int} (h0 : -(2 ^ n : Nat) ≤ x) (h1 : x ≤ (2 ^ n : Nat)) : BdN n x := by
  unfold BdN
  omega
theorem wmB {m n : Nat} {x y : Int} (h : BdN m x) (h' : BdN n y) (hm : m < 2000) (hn : n < 2000) : CMulW x y :=
  wide_mul (a := 2000) (b := 2000) (Nat.lt_of_le_of_lt h (Nat.pow_lt_pow_right (by decide) hm)) (Nat.lt_of_le_of_lt h' (Nat.pow_lt_pow_right (by decide) hn)) (by decide) (by decide) (by decide)
/-! ### the plane -/
def trn (ax ay bx bw x y : Int) : Int := (bx - ax) * (y - ay) - (bw - ay) * (x - ax)
def dtp (ox oy ax ay bx bw : Int) : Int := (ax - ox) * (bx - ox) + (ay - oy) * (bw - oy)
/-- the square of the distance of a point from a segment, a fraction -/
def sqr (x y ax ay bx bw : Int) : Int × Int :=
  if (x - ax) * (bx - ax) + (y - ay) * (bw - ay) ≤ 0 then ((x - ax) * (x - ax) + (y - ay) * (y - ay), 1)
  else if (bx - ax) * (bx - ax) + (bw - ay) * (bw - ay) ≤ (x - ax) * (bx - ax) + (y - ay) * (bw - ay) then ((x - bx) * (x - bx) + (y - bw) * (y - bw), 1)
  else (trn ax ay bx bw x y * trn ax ay bx bw x y, (bx - ax) * (bx - ax) + (bw - ay) * (bw - ay))
def crs (ax ay bx bw cx cy dx dy : Int) : Bool := decide (trn ax ay bx bw cx cy * trn ax ay bx bw dx dy < 0) && decide (trn cx cy dx dy ax ay * trn cx cy dx dy bx bw < 0)
def sqs (ax ay bx bw cx cy dx dy : Int) : List (Int × Int) :=
  if crs ax ay bx bw cx cy dx dy = true then [(0, 1)] else [sqr ax ay cx cy dx dy, sqr bx bw cx cy dx dy, sqr cx cy ax ay bx bw, sqr dx dy ax ay bx bw]
/-- closer, from the enlarged ends -/
def cls (ax ay bx bw cx cy dx dy r : Int) : Bool := (sqs ax ay bx bw cx cy dx dy).any fun t => decide (t.1 < r * r * t.2)
structure Seg where
  ax : Int
  ay : Int
  bx : Int
  bw : Int
  d : Int
def clo (s t : Seg) (l : Int) : Bool := if l ≤ 0 then false else cls (s.ax * t.d) (s.ay * t.d) (s.bx * t.d) (s.bw * t.d) (t.ax * s.d) (t.ay * s.d) (t.bx * s.d) (t.bw * s.d) (l * s.d * t.d)
def Seg.tup (s : Seg) : HO := .tup [.int s.ax, .int s.ay, .int s.bx, .int s.bw, .int s.d]
structure SegBd (n m : Nat) (s : Seg) : Prop where
  ax : BdN n s.ax
  ay : BdN n s.ay
  bx : BdN n s.bx
  bw : BdN n s.bw
  d : BdN m s.d
/-! ### promises of the program's plane -/
/-- a segment's tuple * a factor -/
def spEnl : Sp := fun vs H Q _ => ∃ (a : Addr) (s : Seg) (f : Int), vs = [.ref a, .int f] ∧ H a = some s.tup ∧ SegBd 200 100 s ∧ BdN 100 f ∧ ∀ p, H p = none → Q (.ref p) (upd H p (.tup [.int (s.ax * f), .int (s.ay * f), .int (s.bx * f), .int (s.bw * f)]))
def spTurn : Sp := fun vs H Q _ => ∃ (a : Addr) (ax ay bx bw x y : Int), vs = [.ref a, .int x, .int y] ∧ H a = some (.tup [.int ax, .int ay, .int bx, .int bw]) ∧ BdN 300 ax ∧ BdN 300 ay ∧ BdN 300 bx ∧ BdN 300 bw ∧ BdN 300 x ∧ BdN 300 y ∧ Q (.int (trn ax ay bx bw x y)) H
def spParted : Sp := fun vs H Q _ => ∃ (a b : Addr) (ax ay bx bw cx cy dx dy : Int), vs = [.ref a, .ref b] ∧ H a = some (.tup [.int ax, .int ay, .int bx, .int bw]) ∧ H b = some (.tup [.int cx, .int cy, .int dx, .int dy]) ∧ (∀ z ∈ [ax, ay, bx, bw, cx, cy, dx, dy], BdN 300 z) ∧ Q (.bl (decide (trn ax ay bx bw cx cy * trn ax ay bx bw dx dy < 0))) H
def spCross : Sp := fun vs H Q _ => ∃ (a b : Addr) (ax ay bx bw cx cy dx dy : Int), vs = [.ref a, .ref b] ∧ H a = some (.tup [.int ax, .int ay, .int bx, .int bw]) ∧ H b = some (.tup [.int cx, .int cy, .int dx, .int dy]) ∧ (∀ z ∈ [ax, ay, bx, bw, cx, cy, dx, dy], BdN 300 z) ∧ Q (.bl (crs ax ay bx bw cx cy dx dy)) H
def spSquare : Sp := fun vs H Q _ => ∃ (a : Addr) (ax ay bx bw x y : Int), vs = [.int x, .int y, .ref a] ∧ H a = some (.tup [.int ax, .int ay, .int bx, .int bw]) ∧ BdN 300 ax ∧ BdN 300 ay ∧ BdN 300 bx ∧ BdN 300 bw ∧ BdN 300 x ∧ BdN 300 y ∧ ∀ p, H p = none → Q (.ref p) (upd H p (.tup [.int (sqr x y ax ay bx bw).1, .int (sqr x y ax ay bx bw).2]))
/-- the pairs stand at the addresses -/
def PairsAt (H : Hp) : List V → List (Int × Int) → Prop := fun vs ps => vs.length = ps.length ∧ ∀ (i : Nat) (t : Int × Int), ps[i]? = some t → ∃ p : Addr, vs[i]? = some (V.ref p) ∧ H p = some (.tup [.int t.1, .int t.2])
def segSqs (s t : Seg) : List (Int × Int) := sqs (s.ax * t.d) (s.ay * t.d) (s.bx * t.d) (s.bw * t.d) (t.ax * s.d) (t.ay * s.d) (t.bx * s.d) (t.bw * s.d)
def spSquares : Sp := fun vs H Q _ => ∃ (a b : Addr) (s t : Seg), vs = [.ref a, .ref b] ∧ H a = some s.tup ∧ H b = some t.tup ∧ SegBd 200 100 s ∧ SegBd 200 100 t ∧
  ∀ p H' xs, Same H H' → H' p = some (.lst xs) → PairsAt H' xs (segSqs s t) → Q (.ref p) H'
/-- closer; behind it the tables may have grown -/
def spCloser (TT : List Addr) : Sp := fun vs H Q _ => ∃ (a b : Addr) (s t : Seg) (l : Int), vs = [.ref a, .ref b, .int l] ∧ H a = some s.tup ∧ H b = some t.tup ∧ SegBd 200 100 s ∧ SegBd 200 100 t ∧ BdN 100 l ∧ Tabs TT H ∧
  ∀ H', SameT TT H H' → Q (.bl (clo s t l)) H'
def SegsAt (H : Hp) (vs : List V) (ss : List Seg) : Prop := vs.length = ss.length ∧ ∀ (i : Nat) (s : Seg), ss[i]? = some s → ∃ p : Addr, vs[i]? = some (V.ref p) ∧ H p = some s.tup ∧ SegBd 200 100 s
def spLines (K : PySem.W.Frag) (TT : List Addr) : Sp := fun vs H Q _ => ∃ (a b : Addr) (xs ys : List V) (ss ts : List Seg) (l : Int), vs = [.ref a, .ref b, .int l] ∧ H a = some (.lst xs) ∧ H b = some (.lst ys) ∧ SegsAt H xs ss ∧ SegsAt H ys ts ∧ BdN 100 l ∧ Tabs TT H ∧
  ∀ H', SameT TT H H' → Q (.bl (ss.any fun s => ts.any fun t => clo s t l)) H'
theorem sqr_bd {x y ax ay bx bw : Int} (h1 : BdN 300 ax) (h2 : BdN 300 ay) (h3 : BdN 300 bx) (h4 : BdN 300 bw) : BdN 1300 (sqr x y ax ay bx bw).2 := by
  unfold sqr
  split
  · exact BdN.of (by have : (0:Nat) < 2 ^ 1300 := Nat.pow_pos (by decide); omega) (by have : (1:Nat) ≤ 2 ^ 1300 := Nat.one_le_two_pow; show (1 : Int) ≤ _; omega)
  · split
    · exact BdN.of (by have : (0:Nat) < 2 ^ 1300 := Nat.pow_pos (by decide); omega) (by have : (1:Nat) ≤ 2 ^ 1300 := Nat.one_le_two_pow; show (1 : Int) ≤ _; omega)
    · exact (((h3.sub h1).mul (h3.sub h1)).add ((h4.sub h2).mul (h4.sub h2))).mono (by decide)
theorem segSqs_bd {s t : Seg} (hs : SegBd 200 100 s) (ht : SegBd 200 100 t) : ∀ u ∈ segSqs s t, BdN 1300 u.2 := by
  have e1 : ∀ {x y : Int}, BdN 200 x → BdN 100 y → BdN 300 (x * y) := fun h h' => h.mul h'
  intro u hu
  unfold segSqs sqs at hu
  split at hu
  · rw [List.mem_singleton.mp hu]
    exact BdN.of (by have : (0:Nat) < 2 ^ 1300 := Nat.pow_pos (by decide); omega) (by have : (1:Nat) ≤ 2 ^ 1300 := Nat.one_le_two_pow; show (1 : Int) ≤ _; omega)
  · simp only [List.mem_cons, List.not_mem_nil, or_false] at hu
    rcases hu with rfl | rfl | rfl | rfl
    · exact sqr_bd (e1 ht.ax hs.d) (e1 ht.ay hs.d) (e1 ht.bx hs.d) (e1 ht.bw hs.d)
    · exact sqr_bd (e1 ht.ax hs.d) (e1 ht.ay hs.d) (e1 ht.bx hs.d) (e1 ht.bw hs.d)
    · exact sqr_bd (e1 hs.ax ht.d) (e1 hs.ay ht.d) (e1 hs.bx ht.d) (e1 hs.bw ht.d)
    · exact sqr_bd (e1 hs.ax ht.d) (e1 hs.ay ht.d) (e1 hs.bx ht.d) (e1 hs.bw ht.d)
end Sk

set_option Elab.async false
set_option linter.all false
set_option maxRecDepth 100000
set_option maxHeartbeats 4000000
namespace Sk
open PySem PySem.Spec PyProof.Rows L2
/-! ### the law's own comparison is the program's -/
def ptc (px py ax ay bx bw r2 : Int) : Bool :=
  if dtp ax ay bx bw px py ≤ 0 then decide (dtp ax ay px py px py < r2)
  else if dtp ax ay bx bw bx bw ≤ dtp ax ay bx bw px py then decide (dtp bx bw px py px py < r2)
  else decide (trn ax ay bx bw px py * trn ax ay bx bw px py < r2 * dtp ax ay bx bw bx bw)
theorem ptc_eq (px py ax ay bx bw r2 : Int) : ptc px py ax ay bx bw r2 = decide ((sqr px py ax ay bx bw).1 < r2 * (sqr px py ax ay bx bw).2) := by
  unfold ptc sqr dtp
  have e1 : (bx - ax) * (px - ax) + (bw - ay) * (py - ay) = (px - ax) * (bx - ax) + (py - ay) * (bw - ay) := by grind
  rw [e1]
  by_cases c1 : (px - ax) * (bx - ax) + (py - ay) * (bw - ay) ≤ 0
  · rw [if_pos c1, if_pos c1, Int.mul_one]
  · rw [if_neg c1, if_neg c1]
    by_cases c2 : (bx - ax) * (bx - ax) + (bw - ay) * (bw - ay) ≤ (px - ax) * (bx - ax) + (py - ay) * (bw - ay)
    · rw [if_pos c2, if_pos c2, Int.mul_one]
    · rw [if_neg c2, if_neg c2]
theorem sqself {x : Int} (h : x * x = 0) : x = 0 := by
  rcases Int.mul_eq_zero.mp h with z | z <;> exact z
theorem sqr_turn (x y ax ay bx bw : Int) : sqr x y bx bw ax ay = sqr x y ax ay bx bw := by
  unfold sqr
  have e1 : (x - bx) * (ax - bx) + (y - bw) * (ay - bw) = ((bx - ax) * (bx - ax) + (bw - ay) * (bw - ay)) - ((x - ax) * (bx - ax) + (y - ay) * (bw - ay)) := by grind
  have e2 : (ax - bx) * (ax - bx) + (ay - bw) * (ay - bw) = (bx - ax) * (bx - ax) + (bw - ay) * (bw - ay) := by grind
  have e3 : trn bx bw ax ay x y * trn bx bw ax ay x y = trn ax ay bx bw x y * trn ax ay bx bw x y := by unfold trn; grind
  have n1 := sq0 (bx - ax)
  have n2 := sq0 (bw - ay)
  rw [e1, e2, e3]
  have h0 : (bx - ax) * (bx - ax) + (bw - ay) * (bw - ay) = 0 → bx = ax ∧ bw = ay := fun z => by
    have a := sqself (show (bx - ax) * (bx - ax) = 0 by omega)
    have b := sqself (show (bw - ay) * (bw - ay) = 0 by omega)
    omega
  generalize hA : (x - ax) * (bx - ax) + (y - ay) * (bw - ay) = A
  generalize hL : (bx - ax) * (bx - ax) + (bw - ay) * (bw - ay) = L at *
  by_cases c1 : A ≤ 0
  · by_cases c2 : L ≤ A
    · obtain ⟨rfl, rfl⟩ := h0 (by omega)
      rw [if_pos (by omega), if_pos c1]
    · rw [if_neg (by omega), if_pos (by omega), if_pos c1]
  · by_cases c2 : L ≤ A
    · rw [if_pos (by omega), if_neg c1, if_pos c2]
    · rw [if_neg (by omega), if_neg (by omega), if_neg c1, if_neg c2]
theorem cls_swap (ax ay bx bw cx cy dx dy r : Int) : cls cx cy dx dy ax ay bx bw r = cls ax ay bx bw cx cy dx dy r := by
  unfold cls sqs
  have e : crs cx cy dx dy ax ay bx bw = crs ax ay bx bw cx cy dx dy := by unfold crs; exact Bool.and_comm _ _
  rw [e]
  by_cases c : crs ax ay bx bw cx cy dx dy = true
  · rw [if_pos c, if_pos c]
  · rw [if_neg c, if_neg c]
    simp only [List.any_cons, List.any_nil, Bool.or_false]
    cases decide ((sqr ax ay cx cy dx dy).1 < r * r * (sqr ax ay cx cy dx dy).2) <;> cases decide ((sqr bx bw cx cy dx dy).1 < r * r * (sqr bx bw cx cy dx dy).2) <;> cases decide ((sqr cx cy ax ay bx bw).1 < r * r * (sqr cx cy ax ay bx bw).2) <;> cases decide ((sqr dx dy ax ay bx bw).1 < r * r * (sqr dx dy ax ay bx bw).2) <;> rfl
theorem cls_turn (ax ay bx bw cx cy dx dy r : Int) : cls bx bw ax ay cx cy dx dy r = cls ax ay bx bw cx cy dx dy r := by
  unfold cls sqs
  have t1 : ∀ x y, trn bx bw ax ay x y = - trn ax ay bx bw x y := fun x y => by unfold trn; grind
  have e : crs bx bw ax ay cx cy dx dy = crs ax ay bx bw cx cy dx dy := by
    unfold crs
    rw [t1, t1, Int.neg_mul_neg, Int.mul_comm (trn cx cy dx dy bx bw)]
  rw [e, sqr_turn cx cy, sqr_turn dx dy]
  by_cases c : crs ax ay bx bw cx cy dx dy = true
  · rw [if_pos c, if_pos c]
  · rw [if_neg c, if_neg c]
    simp only [List.any_cons, List.any_nil, Bool.or_false]
    cases decide ((sqr ax ay cx cy dx dy).1 < r * r * (sqr ax ay cx cy dx dy).2) <;> cases decide ((sqr bx bw cx cy dx dy).1 < r * r * (sqr bx bw cx cy dx dy).2) <;> rfl
theorem clo_swap (s t : Seg) (l : Int) : clo t s l = clo s t l := by
  unfold clo
  rw [cls_swap, show l * t.d * s.d = l * s.d * t.d by ac_rfl]
def Seg.turn (s : Seg) : Seg := ⟨s.bx, s.bw, s.ax, s.ay, s.d⟩
theorem clo_turn (s t : Seg) (l : Int) : clo s.turn t l = clo s t l := by
  unfold clo Seg.turn
  dsimp only
  rw [cls_turn]
/-- as the law has it -/
def lclo (s t : Seg) (l : Int) : Bool :=
  (decide (0 < l * l * s.d * s.d * t.d * t.d) && crs (s.ax * t.d) (s.ay * t.d) (s.bx * t.d) (s.bw * t.d) (t.ax * s.d) (t.ay * s.d) (t.bx * s.d) (t.bw * s.d)) ||
  (ptc (s.ax * t.d) (s.ay * t.d) (t.ax * s.d) (t.ay * s.d) (t.bx * s.d) (t.bw * s.d) (l * l * s.d * s.d * t.d * t.d) || ptc (s.bx * t.d) (s.bw * t.d) (t.ax * s.d) (t.ay * s.d) (t.bx * s.d) (t.bw * s.d) (l * l * s.d * s.d * t.d * t.d) ||
   (ptc (t.ax * s.d) (t.ay * s.d) (s.ax * t.d) (s.ay * t.d) (s.bx * t.d) (s.bw * t.d) (l * l * s.d * s.d * t.d * t.d) || ptc (t.bx * s.d) (t.bw * s.d) (s.ax * t.d) (s.ay * t.d) (s.bx * t.d) (s.bw * t.d) (l * l * s.d * s.d * t.d * t.d)))
theorem sqr_nn (x y ax ay bx bw : Int) : 0 ≤ (sqr x y ax ay bx bw).1 ∧ 0 ≤ (sqr x y ax ay bx bw).2 := by
  unfold sqr
  have a1 := sq0 (x - ax); have a2 := sq0 (y - ay); have a3 := sq0 (x - bx); have a4 := sq0 (y - bw); have a5 := sq0 (bx - ax); have a6 := sq0 (bw - ay); have a7 := sq0 (trn ax ay bx bw x y)
  split
  · exact ⟨by dsimp only; omega, by dsimp only; omega⟩
  · split
    · exact ⟨by dsimp only; omega, by dsimp only; omega⟩
    · exact ⟨by dsimp only; omega, by dsimp only; omega⟩
theorem lclo_eq {s t : Seg} {l : Int} (hl : 0 ≤ l) (hs : 1 ≤ s.d) (ht : 1 ≤ t.d) : lclo s t l = clo s t l := by
  unfold lclo clo
  simp only [ptc_eq]
  have er : l * s.d * t.d * (l * s.d * t.d) = l * l * s.d * s.d * t.d * t.d := by ac_rfl
  by_cases c : l ≤ 0
  · rw [if_pos c]
    obtain rfl : l = 0 := by omega
    simp only [Int.zero_mul]
    have z : ∀ x y ax ay bx bw, decide ((sqr x y ax ay bx bw).1 < 0) = false := fun x y ax ay bx bw => decide_eq_false (by have := (sqr_nn x y ax ay bx bw).1; omega)
    simp only [z]
    rfl
  · rw [if_neg c]
    have hp : 0 < l * l * s.d * s.d * t.d * t.d := by
      rw [← er]
      have h1 : 0 < l * s.d * t.d := Int.mul_pos (Int.mul_pos (by omega) (by omega)) (by omega)
      exact Int.mul_pos h1 h1
    unfold cls sqs
    rw [er, decide_eq_true hp, Bool.true_and]
    by_cases cc : crs (s.ax * t.d) (s.ay * t.d) (s.bx * t.d) (s.bw * t.d) (t.ax * s.d) (t.ay * s.d) (t.bx * s.d) (t.bw * s.d) = true
    · rw [if_pos cc, cc, Bool.true_or]
      simp only [List.any_cons, List.any_nil, Bool.or_false]
      symm
      exact decide_eq_true (by omega)
    · rw [if_neg cc]
      have cf : crs (s.ax * t.d) (s.ay * t.d) (s.bx * t.d) (s.bw * t.d) (t.ax * s.d) (t.ay * s.d) (t.bx * s.d) (t.bw * s.d) = false := by simpa using cc
      rw [cf, Bool.false_or]
      simp only [List.any_cons, List.any_nil, Bool.or_false, Bool.or_assoc]
end Sk

set_option Elab.async false
set_option linter.all false
set_option maxRecDepth 100000
set_option maxHeartbeats 4000000
namespace Sk
open PySem PySem.Spec PyProof.Rows L2
/-! a method of the text, ready to be called -/
structure MDef (P : Program) (w : World) (K : PySem.W.Frag) (mg : Str → Option Value) (base : Heap) (k : Nat) (C : Addr) (m : Str) (ps : List Str) (sp : Sp) : Prop where
  ex : ∃ (f : Addr) (fd : FuncData), FnOk P w K mg base CX0 k f fd ps sp ∧ Meth K C m f ∧ Binds K fd ps []
theorem pe_mdef {X : Cx} {k : Nat} {C : Addr} {m : Str} {ps : List Str} {sp : Sp} {pos apos : Pos} {o e : Expr} {es : List Expr} {ta : TE} {t : TA} {pl : Sem Bool} (D : MDef X.prog X.w X.K X.mg X.base k C m ps sp) (cl : Cls X.K C) (hr : Room k X.A) (ho : PE X o ta)
    (ha : PA X (e :: es) t) (he : starEach (e :: es) X.env = (false, eval e X.env) :: starEach es X.env := by rfl) (hpl : (backTo pos (starEach es X.env)).any (·.1) = false := by rfl)
    (ht : eval (.Call (.Attribute o m apos) (e :: es) [] pos) X.env = (do
      let ov ← eval o X.env
      standAt apos.atName
      let (f, first) ← holding [ov] (getMethod ov m pl)
      callWith pos f first (backTo pos (starEach (e :: es) X.env)) (backToKw pos (keywordEach [] X.env))) := by rfl) :
    PE X (.Call (.Attribute o m apos) (e :: es) [] pos) (tMeth C m sp [] E0 ta t) := by
  obtain ⟨f, fd, F, M, b⟩ := D.ex
  exact pe_meth ho cl M F hr b .nil pass0 ha he hpl ht
theorem pe_mdef0 {X : Cx} {k : Nat} {C : Addr} {m : Str} {ps : List Str} {sp : Sp} {pos apos : Pos} {o : Expr} {ta : TE} {pl : Sem Bool} (D : MDef X.prog X.w X.K X.mg X.base k C m ps sp) (cl : Cls X.K C) (hr : Room k X.A) (ho : PE X o ta)
    (ht : eval (.Call (.Attribute o m apos) [] [] pos) X.env = (do
      let ov ← eval o X.env
      standAt apos.atName
      let (f, first) ← holding [ov] (getMethod ov m pl)
      callWith pos f first (backTo pos (starEach [] X.env)) (backToKw pos (keywordEach [] X.env))) := by rfl) :
    PE X (.Call (.Attribute o m apos) [] [] pos) (tMeth C m sp [] E0 ta tNil) := by
  obtain ⟨f, fd, F, M, b⟩ := D.ex
  exact pe_meth0 ho cl M F hr b .nil pass0 ht
/-! roots -/
def rt (n : Int) : Int :=
  let q : Int := (Float64.isqrt n.toNat : Nat)
  if q * q < n then q + 1 else q
structure IsRt (n r : Int) : Prop where
  nn : 0 ≤ r
  up : n ≤ r * r
  lo : r = 0 ∨ (r - 1) * (r - 1) < n
theorem mono_sq {a b : Int} (h0 : 0 ≤ a) (h : a ≤ b) : a * a ≤ b * b := Int.mul_le_mul h h h0 (by omega)
theorem IsRt.le {n r r' : Int} (h : IsRt n r) (h' : IsRt n r') : r ≤ r' := by
  rcases h.lo with z | z
  · have := h'.nn; omega
  · rcases ltge r' r with w | w
    · have a := mono_sq h'.nn (show r' ≤ r - 1 by omega)
      have b := h'.up
      omega
    · exact w
theorem IsRt.eq {n r r' : Int} (h : IsRt n r) (h' : IsRt n r') : r = r' := by
  have a := h.le h'
  have b := h'.le h
  omega
theorem rt_is {n : Int} (hn : 0 ≤ n) : IsRt n (rt n) := by
  obtain ⟨z1, z2⟩ := PySem.Float64.isqrt_spec n.toNat
  have e : ((n.toNat : Nat) : Int) = n := by omega
  have a := Int.ofNat_le.mpr z1
  have b := Int.ofNat_lt.mpr z2
  rw [Int.natCast_mul, e] at a
  rw [Int.natCast_mul, Int.natCast_add, e] at b
  have q0 : (0 : Int) ≤ (Float64.isqrt n.toNat : Nat) := Int.natCast_nonneg _
  unfold rt
  dsimp only
  generalize ((Float64.isqrt n.toNat : Nat) : Int) = q at a b q0 ⊢
  have b' : n < (q + 1) * (q + 1) := b
  by_cases h : q * q < n
  · rw [if_pos h]
    exact ⟨by omega, by omega, .inr (by rw [show q + 1 - 1 = q by omega]; exact h)⟩
  · rw [if_neg h]
    refine ⟨q0, by omega, ?_⟩
    rcases ltge 0 q with w | w
    · right
      have : (q - 1) * (q - 1) = q * q - 2 * q + 1 := by
        rw [Int.sub_mul, Int.mul_sub, Int.mul_sub]; omega
      omega
    · left; omega
theorem rt_nn {n : Int} (hn : 0 ≤ n) : 0 ≤ rt n := (rt_is hn).nn
theorem rt_small {n b : Int} (hn : 0 ≤ n) (hb : 0 ≤ b) (h : n ≤ b * b) : rt n ≤ b := by
  rcases (rt_is hn).lo with z | z
  · omega
  · rcases ltge b (rt n) with w | w
    · have := mono_sq hb (show b ≤ rt n - 1 by omega)
      omega
    · exact w
/-! texts whose signs are signs -/
abbrev sOk (x : Str) : Prop := PySem.PyData.strOk x = true
theorem sOk_app {x y : Str} (h1 : sOk x) (h2 : sOk y) : sOk (x ++ y) := by
  unfold sOk PySem.PyData.strOk at *
  show (x.cps ++ y.cps).all (· < 0x110000) = true
  rw [Array.all_append, h1, h2]
  rfl
/-! the chart -/
structure Lg where
  a : Addr
  s : Str
  e : Str
  c : Str
  lo : Int
  hi : Int
def Lg.v (l : Lg) : List V := [.str l.s, .str l.e, .str l.c, .int l.lo, .int l.hi]
structure CD where
  fx : Addr
  lg : Addr
  fs : List (Key × V)
  pt : Str → Option (Addr × Int × Int)
  ls : List Lg
structure ChartAt (H : Hp) (ch : Addr) (D : CD) : Prop where
  ch : ∃ kvs, H ch = some (.dK kvs) ∧ valV kvs (.inr "fixes") = some (.ref D.fx) ∧ valV kvs (.inr "legs") = some (.ref D.lg)
  fx : H D.fx = some (.dK D.fs)
  lg : H D.lg = some (.lst (D.ls.map fun l => V.ref l.a))
  lt : ∀ l ∈ D.ls, H l.a = some (.tup l.v)
  pf : ∀ n a x y, D.pt n = some (a, x, y) → valV D.fs (.inr n) = some (.ref a) ∧ H a = some (.tup [.int x, .int y]) ∧ -100000 ≤ x ∧ x ≤ 100000 ∧ -100000 ≤ y ∧ y ≤ 100000
  wf : ∀ l ∈ D.ls, (∃ a x y, D.pt l.s = some (a, x, y)) ∧ ∃ a x y, D.pt l.e = some (a, x, y)
  sk : ∀ l ∈ D.ls, sOk l.s ∧ sOk l.e ∧ sOk l.c
  n : D.ls.length ≤ 100
theorem ChartAt.same {H H' : Hp} {ch : Addr} {D : CD} (C : ChartAt H ch D) (e : Same H H') : ChartAt H' ch D := by
  obtain ⟨⟨kvs, h1, h2, h3⟩, h4, h5, h6, h7, h8, h8', h9⟩ := C
  exact ⟨⟨kvs, e _ _ h1, h2, h3⟩, e _ _ h4, e _ _ h5, fun l hl => e _ _ (h6 l hl), fun n a x y hp => let ⟨p1, p2, p3⟩ := h7 n a x y hp; ⟨p1, e _ _ p2, p3⟩, h8, h8', h9⟩
theorem ChartAt.keep {K : PySem.W.Frag} {H H' : Hp} {d c ch : Addr} {D : CD} (C : ChartAt H ch D) (S : St1 K H d c) (k : Keep d H H') (n1 : ch ≠ d) (n2 : D.fx ≠ d) : ChartAt H' ch D := by
  obtain ⟨⟨kvs, h1, h2, h3⟩, h4, h5, h6, h7, h8, h8', h9⟩ := C
  exact ⟨⟨kvs, k _ _ h1 n1, h2, h3⟩, k _ _ h4 n2, k.l S h5, fun l hl => k.t S (h6 l hl), fun n a x y hp => let ⟨p1, p2, p3⟩ := h7 n a x y hp; ⟨p1, k.t S p2, p3⟩, h8, h8', h9⟩
theorem ChartAt.gf {H : Hp} {ch : Addr} {D : CD} (C : ChartAt H ch D) : DGet H ch (.str "fixes") (some (.ref D.fx)) := let ⟨_, h1, h2, _⟩ := C.ch; h2 ▸ DGet.k (k := .inr "fixes") h1
theorem ChartAt.gl {H : Hp} {ch : Addr} {D : CD} (C : ChartAt H ch D) : DGet H ch (.str "legs") (some (.ref D.lg)) := let ⟨_, h1, _, h3⟩ := C.ch; h3 ▸ DGet.k (k := .inr "legs") h1
theorem ChartAt.gp {H : Hp} {ch : Addr} {D : CD} (C : ChartAt H ch D) {n : Str} {a : Addr} {x y : Int} (h : D.pt n = some (a, x, y)) : DGet H D.fx (.str n) (some (.ref a)) := (C.pf n a x y h).1 ▸ DGet.k (k := .inr n) C.fx
/-- the length of the leg between two names -/
def CD.len (D : CD) (s e : Str) : Int := match D.pt s, D.pt e with
  | some (_, ax, ay), some (_, bx, by') => rt ((bx - ax) * (bx - ax) + (by' - ay) * (by' - ay))
  | _, _ => 0
theorem CD.len_eq {D : CD} {s e : Str} {a b : Addr} {ax ay bx by' : Int} (h1 : D.pt s = some (a, ax, ay)) (h2 : D.pt e = some (b, bx, by')) : D.len s e = rt ((bx - ax) * (bx - ax) + (by' - ay) * (by' - ay)) := by
  unfold CD.len
  rw [h1, h2]
def CD.leg (D : CD) (s e : Str) : Option Lg := D.ls.find? fun l => decide (l.s = s) && decide (l.e = e)
def optL : Option Lg → V
  | some l => .ref l.a
  | none => .non
theorem CD.leg_mem {D : CD} {s e : Str} {l : Lg} (h : D.leg s e = some l) : l ∈ D.ls ∧ l.s = s ∧ l.e = e := by
  have h1 := List.find?_some h
  simp only [Bool.and_eq_true, decide_eq_true_eq] at h1
  exact ⟨List.mem_of_find?_eq_some h, h1.1, h1.2⟩
/-! promises -/
def spUpR : Sp := fun vs H Q _ => ∃ n : Int, vs = [.int n] ∧ 0 ≤ n ∧ n.natAbs < 2 ^ 240 ∧ Q (.int (rt n)) H
def spDownR : Sp := fun vs H Q _ => ∃ n : Int, vs = [.int n] ∧ n.natAbs < 2 ^ 250 ∧ ∀ r : Int, 0 ≤ r → (n ≤ 0 → r = 0) → (0 ≤ n → r * r ≤ n ∧ n < (r + 1) * (r + 1)) → Q (.int r) H
def spRootR : Sp := fun vs H Q _ => ∃ n : Int, vs = [.int n] ∧ 0 ≤ n ∧ n ≤ 100000000000000 ∧ Q (.int (rt n)) H
def spLegLen : Sp := fun vs H Q _ => ∃ (ch : Addr) (D : CD) (s e : Str) (a b : Addr) (ax ay bx by' : Int), vs = [.ref ch, .str s, .str e] ∧ ChartAt H ch D ∧ D.pt s = some (a, ax, ay) ∧ D.pt e = some (b, bx, by') ∧ Q (.int (D.len s e)) H
def spLegBt : Sp := fun vs H Q _ => ∃ (ch : Addr) (D : CD) (s e : Str), vs = [.ref ch, .str s, .str e] ∧ ChartAt H ch D ∧ Q (optL (D.leg s e)) H
def spIs : Sp := fun vs H Q _ => ∃ a b : Bool, vs = [.bl a, .bl b] ∧ Q (.bl (decide (a = b))) H
/-- a list of texts -/
def spNames (K : PySem.W.Frag) : Sp := fun vs H Q _ => ∃ (d c : Addr) (m : Int), vs = [.ref d, .int m] ∧ St1 K H d c ∧ 0 ≤ m ∧ m ≤ 12 ∧
  ∀ (ns : List Str) p H', (ns.length : Int) = m → (∀ n ∈ ns, sOk n) → ns.Nodup → H p = none → H' p = some (.lst (ns.map V.str)) → St1 K H' d c → Keep d H H' → Q (.ref p) H'
/-- legs among the names -/
structure LegsAt (H : Hp) (l : Addr) (ns : List Str) (ls : List Lg) : Prop where
  li : H l = some (.lst (ls.map fun l => V.ref l.a))
  tu : ∀ q ∈ ls, H q.a = some (.tup q.v)
  nm : ∀ q ∈ ls, q.s ∈ ns ∧ q.e ∈ ns
  ck : ∀ q ∈ ls, sOk q.c
  ne : ns.Nodup → ∀ q ∈ ls, q.s ≠ q.e
theorem LegsAt.same {H H' : Hp} {l : Addr} {ns : List Str} {ls : List Lg} (L : LegsAt H l ns ls) (e : Same H H') : LegsAt H' l ns ls := ⟨e _ _ L.li, fun q h => e _ _ (L.tu q h), L.nm, L.ck, L.ne⟩
theorem LegsAt.keep {K : PySem.W.Frag} {H H' : Hp} {d c l : Addr} {ns : List Str} {ls : List Lg} (L : LegsAt H l ns ls) (S : St1 K H d c) (k : Keep d H H') : LegsAt H' l ns ls := ⟨k.l S L.li, fun q h => k.t S (L.tu q h), L.nm, L.ck, L.ne⟩
theorem LegsAt.snoc {H : Hp} {l : Addr} {ns : List Str} {ls : List Lg} {q : Lg} (L : LegsAt H l ns ls) (hp : H q.a = some (.tup q.v)) (h1 : q.s ∈ ns) (h2 : q.e ∈ ns) (h3 : sOk q.c) (h4 : ns.Nodup → q.s ≠ q.e) : LegsAt (upd H l (.lst ((ls.map fun l => V.ref l.a) ++ [.ref q.a]))) l ns (ls ++ [q]) := by
  refine ⟨by rw [upd_same, List.map_append]; rfl, fun z hz => ?_, fun z hz => ?_, fun z hz => ?_, fun nd z hz => ?_⟩
  · have ht : H z.a = some (.tup z.v) := by
      rcases List.mem_append.mp hz with h | h
      · exact L.tu z h
      · rw [List.mem_singleton.mp h]; exact hp
    rw [upd_ne (ne_of ht L.li (by intro e; cases e))]
    exact ht
  · rcases List.mem_append.mp hz with h | h
    · exact L.nm z h
    · rw [List.mem_singleton.mp h]; exact ⟨h1, h2⟩
  · rcases List.mem_append.mp hz with h | h
    · exact L.ck z h
    · rw [List.mem_singleton.mp h]; exact h3
  · rcases List.mem_append.mp hz with h | h
    · exact L.ne nd z h
    · rw [List.mem_singleton.mp h]; exact h4 nd
def spLegs (K : PySem.W.Frag) : Sp := fun vs H Q _ => ∃ (d c l : Addr) (ns : List Str), vs = [.ref d, .ref l] ∧ St1 K H d c ∧ H l = some (.lst (ns.map V.str)) ∧ 2 ≤ ns.length ∧ ns.length ≤ 12 ∧
  ∀ (ls : List Lg) p H', LegsAt H' p ns ls → ls.length ≤ 100 → H p = none → St1 K H' d c → Keep d H H' → Q (.ref p) H'
def spChart (K : PySem.W.Frag) : Sp := fun vs H Q _ => ∃ (d c : Addr) (m z : Int), vs = [.ref d, .int m, .int z] ∧ St1 K H d c ∧ 2 ≤ m ∧ m ≤ 7 ∧ 1 ≤ z ∧ z ≤ 9000 ∧
  ∀ (D : CD) ch H', (∀ l ∈ D.ls, 1 ≤ D.len l.s l.e) → ChartAt H' ch D → H ch = none → H D.fx = none → St1 K H' d c → Keep d H H' → Q (.ref ch) H'
def spLawLeg : Sp := spLegBt
/-! the parts of a chart while it is made -/
/-- all but two -/
def Keep2 (d e : Addr) (H H' : Hp) : Prop := ∀ c o, H c = some o → c ≠ d → c ≠ e → H' c = some o
theorem Keep2.refl (d e : Addr) (H : Hp) : Keep2 d e H H := fun _ _ h _ _ => h
theorem Keep2.k {d e : Addr} {H H1 H2 : Hp} (a : Keep2 d e H H1) (b : Keep d H1 H2) : Keep2 d e H H2 := fun c o h n m => b c o (a c o h n m) n
theorem Keep2.new {d e p : Addr} {o : HO} {H H1 : Hp} (a : Keep2 d e H H1) (h : H1 p = none) : Keep2 d e H (upd H1 p o) := fun c u q n m => same_new h _ _ (a c u q n m)
theorem Keep2.put {d e : Addr} {o : HO} {H H1 : Hp} (a : Keep2 d e H H1) : Keep2 d e H (upd H1 e o) := fun c u q n m => by
  rw [upd_ne m]
  exact a c u q n m
structure FixAt (H : Hp) (f : Addr) (kvs : List (Key × V)) (pt : Str → Option (Addr × Int × Int)) (ns : List Str) : Prop where
  dc : H f = some (.dK kvs)
  pf : ∀ n a x y, pt n = some (a, x, y) → valV kvs (.inr n) = some (.ref a) ∧ H a = some (.tup [.int x, .int y]) ∧ -100000 ≤ x ∧ x ≤ 100000 ∧ -100000 ≤ y ∧ y ≤ 100000
  nm : ∀ n ∈ ns, ∃ a x y, pt n = some (a, x, y)
theorem FixAt.same {H H' : Hp} {f : Addr} {kvs : List (Key × V)} {pt : Str → Option (Addr × Int × Int)} {ns : List Str} (F : FixAt H f kvs pt ns) (e : Same H H') : FixAt H' f kvs pt ns :=
  ⟨e _ _ F.dc, fun n a x y h => let ⟨h1, h2, h3⟩ := F.pf n a x y h; ⟨h1, e _ _ h2, h3⟩, F.nm⟩
theorem FixAt.keep {K : PySem.W.Frag} {H H' : Hp} {d c f : Addr} {kvs : List (Key × V)} {pt : Str → Option (Addr × Int × Int)} {ns : List Str} (F : FixAt H f kvs pt ns) (S : St1 K H d c) (k : Keep d H H') (n : f ≠ d) : FixAt H' f kvs pt ns :=
  ⟨k _ _ F.dc n, fun n a x y h => let ⟨h1, h2, h3⟩ := F.pf n a x y h; ⟨h1, k.t S h2, h3⟩, F.nm⟩
theorem FixAt.keep2 {K : PySem.W.Frag} {H H' : Hp} {d c e f : Addr} {o : List (Key × V)} {kvs : List (Key × V)} {pt : Str → Option (Addr × Int × Int)} {ns : List Str} (F : FixAt H f kvs pt ns) (S : St1 K H d c) (he : ∀ xs, H e ≠ some (.tup xs)) (k : Keep2 d e H H') (n : f ≠ d) (m : f ≠ e) : FixAt H' f kvs pt ns :=
  ⟨k _ _ F.dc n m, fun n a x y h => let ⟨h1, h2, h3⟩ := F.pf n a x y h; ⟨h1, k _ _ h2 (let ⟨_, z⟩ := S.dk; ne_of h2 z (by intro w; cases w)) (fun w => he _ (w ▸ h2)), h3⟩, F.nm⟩
theorem FixAt.put {H : Hp} {f p : Addr} {kvs : List (Key × V)} {pt : Str → Option (Addr × Int × Int)} {ns : List Str} {n : Str} {x y : Int} (F : FixAt H f kvs pt ns) (hp : H p = some (.tup [.int x, .int y])) (b : -100000 ≤ x ∧ x ≤ 100000 ∧ -100000 ≤ y ∧ y ≤ 100000) :
    FixAt (upd H f (.dK (putK kvs (.inr n) (.ref p)))) f (putK kvs (.inr n) (.ref p)) (fun m => if m = n then some (p, x, y) else pt m) (ns ++ [n]) := by
  refine ⟨upd_same, fun m a u v h => ?_, fun m hm => ?_⟩
  · rw [valV_put]
    by_cases e : m = n
    · subst e
      simp only [if_true] at h
      cases h
      rw [if_pos rfl, upd_ne (ne_of hp F.dc (by intro z; cases z))]
      exact ⟨rfl, hp, b⟩
    · simp only [if_neg e] at h
      obtain ⟨h1, h2, h3⟩ := F.pf m a u v h
      rw [if_neg (fun z => e (Sum.inr.inj z)), upd_ne (ne_of h2 F.dc (by intro z; cases z))]
      exact ⟨h1, h2, h3⟩
  · by_cases e : m = n
    · exact ⟨p, x, y, by simp [e]⟩
    · rcases List.mem_append.mp hm with h | h
      · obtain ⟨a, u, v, h⟩ := F.nm m h
        exact ⟨a, u, v, by simp only [if_neg e]; exact h⟩
      · exact absurd (List.mem_singleton.mp h) e
theorem putK_len {kvs : List (Key × V)} {k : Key} {v : V} : (putK kvs k v).length ≤ kvs.length + 1 := by
  unfold putK
  split
  · rw [List.length_map]; omega
  · rw [List.length_append]; exact Nat.le_refl _
section
variable {f l z r h u w : V}
def chK (f l z r h u w : V) : List (Key × V) := putK (putK (mergeK [] [(.inr "fixes", f), (.inr "legs", l), (.inr "zones", z), (.inr "runways", r), (.inr "holds", h)]) (.inr "hours") u) (.inr "capacities") w
theorem ch_fix : valV (chK f l z r h u w) (.inr "fixes") = some f := by
  unfold chK
  simp only [mergeK, List.foldl, valV_put]
  rw [if_neg (kr (by decide +kernel)), if_neg (kr (by decide +kernel)), if_neg (kr (by decide +kernel)), if_neg (kr (by decide +kernel)), if_neg (kr (by decide +kernel)), if_neg (kr (by decide +kernel)), if_pos trivial]
theorem ch_leg : valV (chK f l z r h u w) (.inr "legs") = some l := by
  unfold chK
  simp only [mergeK, List.foldl, valV_put]
  rw [if_neg (kr (by decide +kernel)), if_neg (kr (by decide +kernel)), if_neg (kr (by decide +kernel)), if_neg (kr (by decide +kernel)), if_neg (kr (by decide +kernel)), if_pos trivial]
theorem ch_len : (mergeK [] [((.inr "fixes" : Key), f), (.inr "legs", l), (.inr "zones", z), (.inr "runways", r), (.inr "holds", h)]).length ≤ 5 := by
  have := length_mergeK [((.inr "fixes" : Key), f), (.inr "legs", l), (.inr "zones", z), (.inr "runways", r), (.inr "holds", h)] []
  simpa using this
end
/-! routes -/
def rn (ns : List Str) (j : Nat) : Str := ns.getD j (Str.ofString "")
theorem rn_at {ns : List Str} {j : Nat} (h : j < ns.length) : (ns.map V.str)[j]? = some (V.str (rn ns j)) := by
  unfold rn
  simp [h]
def Chain (D : CD) (ns : List Str) : Prop := ∀ j, j + 1 < ns.length → ∃ l, D.leg (rn ns j) (rn ns (j + 1)) = some l
theorem rn_l {xs ys : List Str} {j : Nat} (h : j < xs.length) : rn (xs ++ ys) j = rn xs j := by
  unfold rn
  rw [List.getD_eq_getElem?_getD, List.getD_eq_getElem?_getD, List.getElem?_append_left h]
theorem rn_r (xs : List Str) (b : Str) : rn (xs ++ [b]) xs.length = b := by
  unfold rn
  rw [List.getD_eq_getElem?_getD, List.getElem?_append_right (Nat.le_refl _), Nat.sub_self]
  rfl
theorem Chain.snoc {D : CD} {ns : List Str} {a b : Str} (h : Chain D ns) (ha : ns.getLast? = some a) (hl : ∃ l, D.leg a b = some l) : Chain D (ns ++ [b]) := by
  intro j hj
  rw [List.length_append, List.length_singleton] at hj
  obtain ⟨ys, rfl⟩ := List.getLast?_eq_some_iff.mp ha
  by_cases e : j + 1 < (ys ++ [a]).length
  · rw [rn_l (show j < (ys ++ [a]).length by omega), rn_l e]
    exact h j e
  · have ej : j = ys.length := by rw [List.length_append, List.length_singleton] at e hj; omega
    subst ej
    have e2 : rn (ys ++ [a] ++ [b]) (ys.length + 1) = b := by
      have := rn_r (ys ++ [a]) b
      rw [List.length_append, List.length_singleton] at this
      exact this
    rw [rn_l (by rw [List.length_append, List.length_singleton]; omega), rn_r, e2]
    exact hl
structure Route (D : CD) (ns : List Str) : Prop where
  n2 : 2 ≤ ns.length
  n20 : ns.length ≤ 20
  ch : Chain D ns
theorem CD.leg_some {D : CD} {l : Lg} (h : l ∈ D.ls) : ∃ l', D.leg l.s l.e = some l' := by
  cases e : D.leg l.s l.e with
  | some l' => exact ⟨l', rfl⟩
  | none =>
    have := List.find?_eq_none.mp e l h
    simp at this
/-- the lengths of the legs -/
def LenAt (H : Hp) (ld : Addr) (D : CD) : Prop := ∃ kvs, H ld = some (.dT kvs) ∧ ∀ s e l, D.leg s e = some l → valV kvs [(.inr s : Key), .inr e] = some (.int (D.len s e))
theorem LenAt.same {H H' : Hp} {ld : Addr} {D : CD} (L : LenAt H ld D) (e : Same H H') : LenAt H' ld D := let ⟨kvs, h1, h2⟩ := L; ⟨kvs, e _ _ h1, h2⟩
theorem LenAt.keep {K : PySem.W.Frag} {H H' : Hp} {d c ld : Addr} {D : CD} (L : LenAt H ld D) (S : St1 K H d c) (k : Keep d H H') : LenAt H' ld D :=
  let ⟨kvs, h1, h2⟩ := L; ⟨kvs, k _ _ h1 (let ⟨_, w⟩ := S.dk; ne_of h1 w (by intro z; cases z)), h2⟩
theorem LenAt.g {H : Hp} {ld p : Addr} {D : CD} {s e : Str} (L : LenAt H ld D) (h : ∃ l, D.leg s e = some l) (hp : H p = some (.tup [.str s, .str e])) : DGet H ld (.ref p) (some (.int (D.len s e))) := by
  obtain ⟨kvs, h1, h2⟩ := L
  obtain ⟨l, h⟩ := h
  rw [← h2 s e l h]
  exact DGet.t (k := [(.inr s : Key), .inr e]) h1 hp
def spLegS : Sp := fun vs H Q _ => ∃ (ch : Addr) (D : CD) (s e : Str), vs = [.ref ch, .str s, .str e] ∧ ChartAt H ch D ∧ ∀ H', Same H H' → Q (optL (D.leg s e)) H'
def spLens : Sp := fun vs H Q _ => ∃ (ch : Addr) (D : CD), vs = [.ref ch] ∧ ChartAt H ch D ∧ ∀ ld H', H ld = none → LenAt H' ld D → Same H H' → Q (.ref ld) H'
def spWalk (K : PySem.W.Frag) : Sp := fun vs H Q _ => ∃ (d c ch : Addr) (D : CD) (m : Int), vs = [.ref d, .ref ch, .int m] ∧ St1 K H d c ∧ ChartAt H ch D ∧ ch ≠ d ∧ D.fx ≠ d ∧ D.ls ≠ [] ∧ 1 ≤ m ∧ m ≤ 15 ∧
  ∀ (ns : List Str) r H', Route D ns → H r = none → H' r = some (.tup (ns.map V.str)) → St1 K H' d c → Keep d H H' → Q (.ref r) H'
theorem head_find {α : Type} (p : α → Bool) (xs : List α) : (xs.filter p).head? = xs.find? p := by
  rw [List.head?_filter]
/-! the places of a chart lie apart -/
theorem sq_pos {d : Int} (h : d ≠ 0) : 1 ≤ d * d := by
  rcases ltge 0 d with w | w
  · have := Int.mul_le_mul (show 1 ≤ d by omega) (show 1 ≤ d by omega) (by decide) (by omega)
    omega
  · have := Int.mul_le_mul (show 1 ≤ -d by omega) (show 1 ≤ -d by omega) (by decide) (by omega)
    rw [Int.neg_mul_neg] at this
    omega
theorem rt_one {n : Int} (h : 1 ≤ n) : 1 ≤ rt n := by
  have z := rt_is (show 0 ≤ n by omega)
  rcases ltge 0 (rt n) with w | w
  · omega
  · have e : rt n = 0 := by have := z.nn; omega
    have := z.up
    rw [e] at this
    omega
theorem CD.len_one {D : CD} {s e : Str} {a b : Addr} {ax ay bx by' : Int} (h1 : D.pt s = some (a, ax, ay)) (h2 : D.pt e = some (b, bx, by')) (h : ay ≠ by') : 1 ≤ D.len s e := by
  rw [CD.len_eq h1 h2]
  refine rt_one ?_
  have z1 := sq0 (bx - ax)
  have z2 := sq_pos (show by' - ay ≠ 0 by omega)
  omega
def LETS : List Nat := ("QXAMBZKCTDRE" : Str).cps.toList
def Let1 (ns : List Str) (x : Int) : Prop := ∀ j (h : j < ns.length), ∃ c, (ns[j]).cps.toList.head? = some c ∧ atI LETS (((j : Int) + x) % 12) = some c
theorem lets_inj : ∀ u : Fin 12, ∀ v : Fin 12, LETS[u.val]? = LETS[v.val]? → u = v := by decide +kernel
theorem lets_at {u : Nat} (h : u < 12) : atI LETS (u : Int) = LETS[u]? := by
  have e : u < LETS.length := by
    have : LETS.length = 12 := by decide +kernel
    omega
  rw [List.getElem?_eq_getElem e]
  exact atI_nat (List.getElem?_eq_getElem e)
theorem let_nodup {ns : List Str} {x : Int} (h : Let1 ns x) (hl : ns.length ≤ 12) : ns.Nodup := by
  refine List.pairwise_iff_getElem.mpr fun i j hi hj hij e => ?_
  obtain ⟨c1, a1, b1⟩ := h i hi
  obtain ⟨c2, a2, b2⟩ := h j hj
  rw [e, a2] at a1
  cases a1
  obtain ⟨u, hu⟩ : ∃ u : Nat, ((i : Int) + x) % 12 = (u : Int) := ⟨(((i : Int) + x) % 12).toNat, by omega⟩
  obtain ⟨v, hv⟩ : ∃ v : Nat, ((j : Int) + x) % 12 = (v : Int) := ⟨(((j : Int) + x) % 12).toNat, by omega⟩
  have hu2 : u < 12 := by omega
  have hv2 : v < 12 := by omega
  rw [hu, lets_at hu2] at b1
  rw [hv, lets_at hv2] at b2
  have := lets_inj ⟨u, hu2⟩ ⟨v, hv2⟩ (b1.trans b2.symm)
  have : u = v := congrArg Fin.val this
  omega
theorem at_mod2 {α : Type} {f : α → V} {ns : List α} {z m : Int} (hm : m = (ns.length : Int)) (h : 0 < ns.length) : ∃ (j : Nat) (hj : j < ns.length), z % m = (j : Int) ∧ atI (ns.map f) (z % m) = some (f ns[j]) := by
  obtain ⟨j, hj⟩ : ∃ j : Nat, z % m = (j : Int) := ⟨(z % m).toNat, by have := Int.emod_nonneg z (show m ≠ 0 by omega); omega⟩
  have hj2 : j < ns.length := by have := Int.emod_lt_of_pos z (show 0 < m by omega); omega
  exact ⟨j, hj2, hj, by rw [hj]; exact atI_nat (mapAt hj2)⟩
theorem mod_ne {i j : Nat} {x m : Int} (hi : (i : Int) < m) (h0 : 0 ≤ x) (h1 : x < m - 1) (e : (0 + (i : Int) + 1 + x) % m = (j : Int)) : i ≠ j := by
  rintro rfl
  have z := Int.mul_ediv_add_emod (0 + (i : Int) + 1 + x) m
  rw [e] at z
  generalize (0 + (i : Int) + 1 + x) / m = q at z
  rcases ltge 0 q with w | w
  · have := Int.mul_le_mul_of_nonneg_left (show 1 ≤ q by omega) (show 0 ≤ m by omega)
    omega
  · have := Int.mul_nonneg (show 0 ≤ m by omega) (show 0 ≤ -q by omega)
    rw [Int.mul_neg] at this
    omega
theorem nodup_ne {ns : List Str} (nd : ns.Nodup) {i j : Nat} (hi : i < ns.length) (hj : j < ns.length) (n : i ≠ j) : ns[i] ≠ ns[j] := by
  have p := List.pairwise_iff_getElem.mp nd
  rcases Nat.lt_or_gt_of_ne n with h | h
  · exact p i j hi hj h
  · exact (p j i hj hi h).symm
def Sep (pt : Str → Option (Addr × Int × Int)) (ns : List Str) (m : Int) (i : Nat) : Prop := ∀ j (h : j < ns.length), j < i → ∃ a x y, pt ns[j] = some (a, x, y) ∧ y % m = (j : Int)
theorem Sep.put {pt : Str → Option (Addr × Int × Int)} {ns : List Str} {m : Int} {i : Nat} {p : Addr} {x y : Int} (nd : ns.Nodup) (S : Sep pt ns m i) (hi : i < ns.length) (hy : y % m = (i : Int)) : Sep (fun q => if q = ns[i] then some (p, x, y) else pt q) ns m (i + 1) := by
  intro j hj hji
  by_cases e : j = i
  · subst e
    exact ⟨p, x, y, by simp, hy⟩
  · obtain ⟨a, u, v, h1, h2⟩ := S j hj (by omega)
    exact ⟨a, u, v, by simp only [if_neg (nodup_ne nd hj hi e)]; exact h1, h2⟩
theorem y_mod {m a i : Int} (h0 : 0 ≤ i) (h1 : i < m) : (m * a + (0 + i)) % m = i := by
  rw [Int.add_comm, Int.add_mul_emod_self_left, Int.zero_add]
  exact Int.emod_eq_of_lt h0 h1
theorem Sep.len {D : CD} {ns : List Str} {m : Int} {s e : Str} (S : Sep D.pt ns m ns.length) (nd : ns.Nodup) (hs : s ∈ ns) (he : e ∈ ns) (n : s ≠ e) : 1 ≤ D.len s e := by
  obtain ⟨i, hi, rfl⟩ := List.getElem_of_mem hs
  obtain ⟨j, hj, rfl⟩ := List.getElem_of_mem he
  obtain ⟨a, x, y, h1, h2⟩ := S i hi hi
  obtain ⟨b, u, v, h3, h4⟩ := S j hj hj
  refine CD.len_one h1 h3 fun z => n ?_
  rw [z, h4] at h2
  have : i = j := by omega
  subst this
  rfl
end Sk

set_option Elab.async false
set_option linter.all false
set_option maxRecDepth 100000
set_option maxHeartbeats 4000000
namespace Sk
open PySem PySem.Spec PyProof.Rows L2
/-! the mathematics of paths -/
theorem CD.len_nn (D : CD) (s e : Str) : 0 ≤ D.len s e := by
  unfold CD.len
  split
  · exact rt_nn (Int.add_nonneg (sq0 _) (sq0 _))
  · exact Int.le_refl 0
def bg (D : CD) (ns : List Str) : Nat → Int
  | 0 => 0
  | j + 1 => bg D ns j + D.len (rn ns j) (rn ns (j + 1))
theorem bg_step (D : CD) (ns : List Str) (j : Nat) : bg D ns j ≤ bg D ns (j + 1) := by
  have := D.len_nn (rn ns j) (rn ns (j + 1))
  show bg D ns j ≤ bg D ns j + _
  omega
theorem bg_mono (D : CD) (ns : List Str) {i j : Nat} (h : i ≤ j) : bg D ns i ≤ bg D ns j := by
  induction j with
  | zero => rw [show i = 0 by omega]; exact Int.le_refl _
  | succ j ih =>
    by_cases e : i = j + 1
    · rw [e]; exact Int.le_refl _
    · exact Int.le_trans (ih (by omega)) (bg_step D ns j)
theorem bg_nn (D : CD) (ns : List Str) (j : Nat) : 0 ≤ bg D ns j := bg_mono D ns (Nat.zero_le j)
def CD.xy (D : CD) (s : Str) : Int × Int := match D.pt s with
  | some (_, x, y) => (x, y)
  | none => (0, 0)
theorem CD.xy_eq {D : CD} {s : Str} {a : Addr} {x y : Int} (h : D.pt s = some (a, x, y)) : D.xy s = (x, y) := by
  unfold CD.xy
  rw [h]
def Bd (D : CD) : Prop := ∀ s, -100000 ≤ (D.xy s).1 ∧ (D.xy s).1 ≤ 100000 ∧ -100000 ≤ (D.xy s).2 ∧ (D.xy s).2 ≤ 100000
theorem ChartAt.bd {H : Hp} {ch : Addr} {D : CD} (C : ChartAt H ch D) : Bd D := by
  intro s
  unfold CD.xy
  split
  · rename_i a x y h
    exact (C.pf s a x y h).2.2
  · exact ⟨by decide, by decide, by decide, by decide⟩
theorem CD.len_le {D : CD} (b : Bd D) (s e : Str) : D.len s e ≤ 300000 := by
  unfold CD.len
  split
  · rename_i a ax ay a' bx by' h1 h2
    have b1 := b s
    have b2 := b e
    rw [CD.xy_eq h1] at b1
    rw [CD.xy_eq h2] at b2
    dsimp only at b1 b2
    refine rt_small (Int.add_nonneg (sq0 _) (sq0 _)) (by decide) ?_
    have e1 := sq_le (show -200000 ≤ bx - ax by omega) (show bx - ax ≤ 200000 by omega)
    have e2 := sq_le (show -200000 ≤ by' - ay by omega) (show by' - ay ≤ 200000 by omega)
    omega
  · decide
theorem bg_le {D : CD} (b : Bd D) (ns : List Str) (j : Nat) : bg D ns j ≤ 300000 * (j : Int) := by
  induction j with
  | zero => exact Int.le_refl 0
  | succ j ih =>
    have := D.len_le b (rn ns j) (rn ns (j + 1))
    show bg D ns j + _ ≤ _
    omega
/-- the leg to which p belongs, of the first m + 1 -/
def lat (D : CD) (ns : List Str) (m : Nat) (p : Int) : Nat := ((List.range m).find? fun i => decide (p < bg D ns (i + 1))).getD m
theorem find_range {q : Nat → Bool} {m k : Nat} (hk : k < m) (h1 : q k = true) (h0 : ∀ i, i < k → q i = false) : (List.range m).find? q = some k := by
  have e : List.range m = List.range k ++ (List.range (m - k)).map (k + ·) := by
    rw [← List.range_add, Nat.add_sub_cancel' (Nat.le_of_lt hk)]
  rw [e, List.find?_append]
  have a : (List.range k).find? q = none := List.find?_eq_none.mpr fun i hi => by rw [h0 i (List.mem_range.mp hi)]; simp
  rw [a]
  obtain ⟨z, hz⟩ : ∃ z, m - k = z + 1 := ⟨m - k - 1, by omega⟩
  rw [hz, List.range_succ_eq_map]
  simp [h1]
theorem find_none {q : Nat → Bool} {m : Nat} (h0 : ∀ i, i < m → q i = false) : (List.range m).find? q = none :=
  List.find?_eq_none.mpr fun i hi => by rw [h0 i (List.mem_range.mp hi)]; simp
theorem lat_cases (D : CD) (ns : List Str) (m : Nat) (p : Int) : (lat D ns m p ≤ m) ∧ (∀ i, i < lat D ns m p → bg D ns (i + 1) ≤ p) ∧ (lat D ns m p < m → p < bg D ns (lat D ns m p + 1)) := by
  unfold lat
  cases h : (List.range m).find? fun i => decide (p < bg D ns (i + 1)) with
  | none =>
    have h0 := List.find?_eq_none.mp h
    refine ⟨Nat.le_refl m, fun i hi => ?_, fun z => absurd z (Nat.lt_irrefl m)⟩
    have hi : i < m := hi
    have := h0 i (List.mem_range.mpr hi)
    simp at this
    exact this
  | some k =>
    have h1 := List.find?_some h
    have h2 := List.mem_of_find?_eq_some h
    have hk := List.mem_range.mp h2
    refine ⟨Nat.le_of_lt hk, fun i hi => ?_, fun _ => of_decide_eq_true h1⟩
    have hi : i < k := hi
    by_cases e : p < bg D ns (i + 1)
    · exfalso
      have : (List.range m).find? (fun i => decide (p < bg D ns (i + 1))) = some ((List.range (i + 1)).find? (fun i => decide (p < bg D ns (i + 1)))).get! := by
        have e2 : List.range m = List.range (i + 1) ++ (List.range (m - (i + 1))).map ((i + 1) + ·) := by rw [← List.range_add, Nat.add_sub_cancel' (show i + 1 ≤ m by omega)]
        rw [e2, List.find?_append]
        cases w : (List.range (i + 1)).find? fun i => decide (p < bg D ns (i + 1)) with
        | some z => rfl
        | none =>
          have := List.find?_eq_none.mp w i (List.mem_range.mpr (Nat.lt_succ_self i))
          simp [e] at this
      rw [h] at this
      cases w : (List.range (i + 1)).find? fun i => decide (p < bg D ns (i + 1)) with
      | none =>
        have := List.find?_eq_none.mp w i (List.mem_range.mpr (Nat.lt_succ_self i))
        simp [e] at this
      | some z =>
        rw [w] at this
        have hz := List.mem_range.mp (List.mem_of_find?_eq_some w)
        have : k = z := Option.some.inj this
        omega
    · omega
theorem lat_eq {D : CD} {ns : List Str} {m k : Nat} {p : Int} (hk : k ≤ m) (h0 : ∀ i, i < k → bg D ns (i + 1) ≤ p) (h1 : k < m → p < bg D ns (k + 1)) : lat D ns m p = k := by
  obtain ⟨a, b, c⟩ := lat_cases D ns m p
  rcases Nat.lt_trichotomy (lat D ns m p) k with h | h | h
  · have := c (by omega)
    have := h0 _ h
    omega
  · exact h
  · have := b k h
    have := h1 (by omega)
    omega
theorem lat_succ (D : CD) (ns : List Str) (m : Nat) (p : Int) : lat D ns (m + 1) p = if bg D ns (m + 1) ≤ p then m + 1 else lat D ns m p := by
  obtain ⟨a, b, c⟩ := lat_cases D ns m p
  split
  · rename_i h
    exact lat_eq (Nat.le_refl _) (fun i hi => Int.le_trans (bg_mono D ns (show i + 1 ≤ m + 1 by omega)) h) (fun z => absurd z (Nat.lt_irrefl _))
  · rename_i h
    refine lat_eq (by omega) b fun _ => ?_
    by_cases e : lat D ns m p < m
    · exact c e
    · rw [show lat D ns m p = m by omega]
      omega
/-- place on leg k -/
def plc (D : CD) (ns : List Str) (k : Nat) (p : Int) : List Int :=
  let a := D.xy (rn ns k)
  let b := D.xy (rn ns (k + 1))
  let n := D.len (rn ns k) (rn ns (k + 1))
  [a.1 * n + (b.1 - a.1) * (p - bg D ns k), a.2 * n + (b.2 - a.2) * (p - bg D ns k)]
def seg (D : CD) (ns : List Str) (k : Nat) (s e : Int) : List Int := plc D ns k s ++ (plc D ns k e ++ [D.len (rn ns k) (rn ns (k + 1))])
def segOf (D : CD) (ns : List Str) (f l : Int) (k : Nat) : Option (List Int) :=
  let s := if bg D ns k > f then bg D ns k else f
  let e := if bg D ns (k + 1) < l then bg D ns (k + 1) else l
  if s < e then some (seg D ns k s e) else none
def segsOf (D : CD) (ns : List Str) (f l : Int) (ks : List Nat) : List (List Int) := ks.filterMap (segOf D ns f l)
theorem segOf_none {D : CD} {ns : List Str} {f l : Int} {k : Nat} (h : bg D ns (k + 1) ≤ f ∨ l ≤ bg D ns k) : segOf D ns f l k = none := by
  unfold segOf
  dsimp only
  rw [if_neg]
  split <;> split <;> omega
theorem segs_eq {D : CD} {ns : List Str} {f l : Int} {m : Nat} (hfl : f ≤ l) (h : lat D ns m f ≤ lat D ns m l) : segsOf D ns f l (List.range (m + 1)) = segsOf D ns f l ((List.range (lat D ns m l + 1 - lat D ns m f)).map (lat D ns m f + ·)) := by
  obtain ⟨a1, b1, c1⟩ := lat_cases D ns m f
  obtain ⟨a2, b2, c2⟩ := lat_cases D ns m l
  generalize lat D ns m f = u at *
  generalize lat D ns m l = v at *
  have e1 : List.range (m + 1) = List.range u ++ ((List.range (v + 1 - u)).map (u + ·) ++ (List.range (m - v)).map ((v + 1) + ·)) := by
    have x1 : List.range (m + 1) = List.range (v + 1) ++ (List.range (m - v)).map ((v + 1) + ·) := by rw [← List.range_add]; congr 1; omega
    have x2 : List.range (v + 1) = List.range u ++ (List.range (v + 1 - u)).map (u + ·) := by rw [← List.range_add]; congr 1; omega
    rw [x1, x2, List.append_assoc]
  unfold segsOf
  rw [e1, List.filterMap_append, List.filterMap_append]
  have n1 : (List.range u).filterMap (segOf D ns f l) = [] := List.filterMap_eq_nil_iff.mpr fun k hk => segOf_none (.inl (b1 k (List.mem_range.mp hk)))
  have n2 : ((List.range (m - v)).map ((v + 1) + ·)).filterMap (segOf D ns f l) = [] := List.filterMap_eq_nil_iff.mpr fun k hk => by
    obtain ⟨z, hz, rfl⟩ := List.mem_map.mp hk
    have := c2 (by have := List.mem_range.mp hz; omega)
    exact segOf_none (.inr (Int.le_trans (Int.le_of_lt this) (bg_mono D ns (by omega))))
  rw [n1, n2, List.nil_append, List.append_nil]
theorem lat_mono (D : CD) (ns : List Str) (m : Nat) {p q : Int} (h : p ≤ q) : lat D ns m p ≤ lat D ns m q := by
  obtain ⟨a1, b1, c1⟩ := lat_cases D ns m p
  obtain ⟨a2, b2, c2⟩ := lat_cases D ns m q
  rcases Nat.lt_or_ge (lat D ns m q) (lat D ns m p) with w | w
  · have x := b1 _ w
    have y := c2 (by omega)
    omega
  · exact w
/-- the piece, as the document says it -/
def pcs (D : CD) (ns : List Str) (low high : Int) : List (List Int) :=
  let L := ns.length - 1
  let t := bg D ns L
  if high < 0 ∨ t ≤ low then [] else
  let f := if 0 > low then 0 else low
  let l := if t < high then t else high
  if f = l then [seg D ns (lat D ns (L - 1) f) f f] else segsOf D ns f l (List.range L)
/-! lists of tuples of ints -/
def LoT (H : Hp) (l : Addr) (xss : List (List Int)) : Prop := ∃ qs : List (Addr × List Int), H l = some (.lst (qs.map fun q => V.ref q.1)) ∧ (∀ q ∈ qs, H q.1 = some (.tup (q.2.map V.int))) ∧ qs.map (·.2) = xss
theorem LoT.same {H H' : Hp} {l : Addr} {xss : List (List Int)} (L : LoT H l xss) (e : Same H H') : LoT H' l xss := let ⟨qs, h1, h2, h3⟩ := L; ⟨qs, e _ _ h1, fun q h => e _ _ (h2 q h), h3⟩
theorem LoT.keep {K : PySem.W.Frag} {H H' : Hp} {d c l : Addr} {xss : List (List Int)} (L : LoT H l xss) (S : St1 K H d c) (k : Keep d H H') : LoT H' l xss := let ⟨qs, h1, h2, h3⟩ := L; ⟨qs, k.l S h1, fun q h => k.t S (h2 q h), h3⟩
theorem LoT.li {H : Hp} {l : Addr} {xss : List (List Int)} (L : LoT H l xss) : ∃ xs : List V, H l = some (.lst xs) ∧ xs.length = xss.length := let ⟨qs, h1, _, h3⟩ := L; ⟨_, h1, by rw [List.length_map, ← h3, List.length_map]⟩
theorem LoT.snoc {H : Hp} {l p : Addr} {xss : List (List Int)} {xs : List Int} {ys : List V} (L : LoT H l xss) (hl : H l = some (.lst ys)) (hp : H p = some (.tup (xs.map V.int))) : LoT (upd H l (.lst (ys ++ [.ref p]))) l (xss ++ [xs]) := by
  obtain ⟨qs, h1, h2, h3⟩ := L
  rw [h1] at hl
  cases hl
  refine ⟨qs ++ [(p, xs)], by rw [upd_same, List.map_append]; rfl, fun q hq => ?_, by rw [List.map_append, h3]; rfl⟩
  have ht : H q.1 = some (.tup (q.2.map V.int)) := by
    rcases List.mem_append.mp hq with h | h
    · exact h2 q h
    · rw [List.mem_singleton.mp h]; exact hp
  rw [upd_ne (ne_of ht h1 (by intro e; cases e))]
  exact ht
theorem LoT.nil {H : Hp} {l : Addr} (h : H l = some (.lst [])) : LoT H l [] := ⟨[], h, (fun _ h => nomatch h), rfl⟩
def pdT (xs : List Int) : PyData := .tuple (xs.map PyData.int)
theorem dpAll_int {K : PySem.W.Frag} {H : Hp} : ∀ xs : List Int, DpAll K H (xs.map V.int) (xs.map PyData.int)
  | [] => .nil
  | x :: xs => .cons (.int x) (dpAll_int xs)
theorem LoT.dp {K : PySem.W.Frag} {H : Hp} {l : Addr} {xss : List (List Int)} (L : LoT H l xss) : Dp K H (.ref l) (.list (xss.map pdT)) := by
  obtain ⟨qs, h1, h2, rfl⟩ := L
  refine .lst (.inl (.inl h1)) ?_
  clear h1
  induction qs with
  | nil => exact .nil
  | cons q qs ih =>
    refine .cons (.tup (.inl (.inl (h2 q List.mem_cons_self))) (dpAll_int _)) (ih fun z hz => h2 z (List.mem_cons_of_mem _ hz))
/-! a path's object -/
def pfl (r l1 l2 l3 l4 : Addr) : List (Str × V) := [("_route", .ref r), ("_legs", .ref l1), ("_starts", .ref l2), ("_vectors", .ref l3), ("_begins", .ref l4)]
section
variable {r l1 l2 l3 l4 : Addr}
theorem pf1 : (pfl r l1 l2 l3 l4).lookup ("_route" : Str) = some (.ref r) := by rfl
theorem pf2 : (pfl r l1 l2 l3 l4).lookup ("_legs" : Str) = some (.ref l1) := by rfl
theorem pf3 : (pfl r l1 l2 l3 l4).lookup ("_starts" : Str) = some (.ref l2) := by rfl
theorem pf4 : (pfl r l1 l2 l3 l4).lookup ("_vectors" : Str) = some (.ref l3) := by rfl
theorem pf5 : (pfl r l1 l2 l3 l4).lookup ("_begins" : Str) = some (.ref l4) := by rfl
end
structure PathP (C : Addr) (H : Hp) (p : Addr) (D : CD) (ns : List Str) (r : Addr) (i : Nat) (dx l1 l2 l3 l4 : Addr) (sa va : List Addr) : Prop where
  ob : H p = some (.ins C dx (pfl r l1 l2 l3 l4))
  rt : H r = some (.tup (ns.map V.str))
  lg : H l1 = some (.lst ((List.range i).map fun j => optL (D.leg (rn ns j) (rn ns (j + 1)))))
  st : H l2 = some (.lst (sa.map V.ref))
  ve : H l3 = some (.lst (va.map V.ref))
  bgn : H l4 = some (.lst ((List.range (i + 1)).map fun j => V.int (bg D ns j)))
  sl : sa.length = i
  vl : va.length = i
  sx : ∀ j (h : j < sa.length), H sa[j] = some (.tup [.int (D.xy (rn ns j)).1, .int (D.xy (rn ns j)).2])
  vx : ∀ j (h : j < va.length), H va[j] = some (.tup [.int ((D.xy (rn ns (j + 1))).1 - (D.xy (rn ns j)).1), .int ((D.xy (rn ns (j + 1))).2 - (D.xy (rn ns j)).2), .int (D.len (rn ns j) (rn ns (j + 1)))])
  d12 : l1 ≠ l2
  d13 : l1 ≠ l3
  d14 : l1 ≠ l4
  d23 : l2 ≠ l3
  d24 : l2 ≠ l4
  d34 : l3 ≠ l4
theorem PathP.same {C p r dx l1 l2 l3 l4 : Addr} {H H' : Hp} {D : CD} {ns : List Str} {i : Nat} {sa va : List Addr} (P : PathP C H p D ns r i dx l1 l2 l3 l4 sa va) (e : Same H H') : PathP C H' p D ns r i dx l1 l2 l3 l4 sa va :=
  { P with ob := e _ _ P.ob, rt := e _ _ P.rt, lg := e _ _ P.lg, st := e _ _ P.st, ve := e _ _ P.ve, bgn := e _ _ P.bgn, sx := fun j h => e _ _ (P.sx j h), vx := fun j h => e _ _ (P.vx j h) }
theorem PathP.keep {K : PySem.W.Frag} {C p r dx l1 l2 l3 l4 d c : Addr} {H H' : Hp} {D : CD} {ns : List Str} {i : Nat} {sa va : List Addr} (P : PathP C H p D ns r i dx l1 l2 l3 l4 sa va) (S : St1 K H d c) (k : Keep d H H') : PathP C H' p D ns r i dx l1 l2 l3 l4 sa va :=
  { P with ob := k _ _ P.ob (let ⟨_, w⟩ := S.dk; ne_of P.ob w (by intro z; cases z)), rt := k.t S P.rt, lg := k.l S P.lg, st := k.l S P.st, ve := k.l S P.ve, bgn := k.l S P.bgn, sx := fun j h => k.t S (P.sx j h), vx := fun j h => k.t S (P.vx j h) }
def PathAt (C : Addr) (H : Hp) (p : Addr) (D : CD) (ns : List Str) (r : Addr) : Prop := ∃ dx l1 l2 l3 l4 sa va, PathP C H p D ns r (ns.length - 1) dx l1 l2 l3 l4 sa va
theorem PathAt.same {C p r : Addr} {H H' : Hp} {D : CD} {ns : List Str} (P : PathAt C H p D ns r) (e : Same H H') : PathAt C H' p D ns r := let ⟨_, _, _, _, _, _, _, P⟩ := P; ⟨_, _, _, _, _, _, _, P.same e⟩
theorem PathAt.keep {K : PySem.W.Frag} {C p r d c : Addr} {H H' : Hp} {D : CD} {ns : List Str} (P : PathAt C H p D ns r) (S : St1 K H d c) (k : Keep d H H') : PathAt C H' p D ns r := let ⟨_, _, _, _, _, _, _, P⟩ := P; ⟨_, _, _, _, _, _, _, P.keep S k⟩
/-- what the class has -/
structure PathY (K : PySem.W.Frag) (mg : Str → Option Value) (C : Addr) : Prop where
  cl : Cls K C
  n1 : NoAttr K C "_route"
  n2 : NoAttr K C "_legs"
  n3 : NoAttr K C "_starts"
  n4 : NoAttr K C "_vectors"
  n5 : NoAttr K C "_begins"
/-! promises of the methods -/
def spTotal (C : Addr) : Sp := fun vs H Q _ => ∃ (p r dx l1 l2 l3 l4 : Addr) (D : CD) (ns : List Str) (i : Nat), vs = [.ref p] ∧ H p = some (.ins C dx (pfl r l1 l2 l3 l4)) ∧ H l4 = some (.lst ((List.range (i + 1)).map fun j => V.int (bg D ns j))) ∧ Q (.int (bg D ns i)) H
def spLegAt (C : Addr) : Sp := fun vs H Q _ => ∃ (p r : Addr) (D : CD) (ns : List Str) (x : Int), vs = [.ref p, .int x] ∧ PathAt C H p D ns r ∧ 2 ≤ ns.length ∧ ns.length ≤ 20 ∧ Q (.int (lat D ns (ns.length - 1 - 1) x : Nat)) H
def spBegin (C : Addr) : Sp := fun vs H Q _ => ∃ (p r : Addr) (D : CD) (ns : List Str) (j : Nat) (z : Int), vs = [.ref p, .int z] ∧ z = (j : Int) ∧ PathAt C H p D ns r ∧ j ≤ ns.length - 1 ∧ Q (.int (bg D ns j)) H
def spLegI (C : Addr) : Sp := fun vs H Q _ => ∃ (p r : Addr) (D : CD) (ns : List Str) (j : Nat) (z : Int), vs = [.ref p, .int z] ∧ z = (j : Int) ∧ PathAt C H p D ns r ∧ j < ns.length - 1 ∧ Q (optL (D.leg (rn ns j) (rn ns (j + 1)))) H
def spVec (C : Addr) : Sp := fun vs H Q _ => ∃ (p r : Addr) (D : CD) (ns : List Str) (j : Nat) (z : Int), vs = [.ref p, .int z] ∧ z = (j : Int) ∧ PathAt C H p D ns r ∧ j < ns.length - 1 ∧
  ∀ v, H v = some (.tup [.int ((D.xy (rn ns (j + 1))).1 - (D.xy (rn ns j)).1), .int ((D.xy (rn ns (j + 1))).2 - (D.xy (rn ns j)).2), .int (D.len (rn ns j) (rn ns (j + 1)))]) → Q (.ref v) H
def spRoute (C : Addr) : Sp := fun vs H Q _ => ∃ (p r : Addr) (D : CD) (ns : List Str), vs = [.ref p] ∧ PathAt C H p D ns r ∧ Q (.ref r) H
def spPoint (C : Addr) : Sp := fun vs H Q _ => ∃ (p r : Addr) (D : CD) (ns : List Str) (j : Nat) (z x : Int), vs = [.ref p, .int z, .int x] ∧ z = (j : Int) ∧ PathAt C H p D ns r ∧ Bd D ∧ j < ns.length - 1 ∧ ∀ q H', H q = none → Same H H' → H' q = some (.tup ((plc D ns j x).map V.int)) → Q (.ref q) H'
def spSeg (C : Addr) : Sp := fun vs H Q _ => ∃ (p r : Addr) (D : CD) (ns : List Str) (j : Nat) (z s e : Int), vs = [.ref p, .int z, .int s, .int e] ∧ z = (j : Int) ∧ PathAt C H p D ns r ∧ Bd D ∧ j < ns.length - 1 ∧ ∀ q H', H q = none → Same H H' → H' q = some (.tup ((seg D ns j s e).map V.int)) → Q (.ref q) H'
def spSegs (C : Addr) : Sp := fun vs H Q _ => ∃ (p r : Addr) (D : CD) (ns : List Str) (f l : Int), vs = [.ref p, .int f, .int l] ∧ PathAt C H p D ns r ∧ Bd D ∧ 2 ≤ ns.length ∧ ns.length ≤ 20 ∧ f ≤ l ∧
  ∀ q H', H q = none → Same H H' → LoT H' q (segsOf D ns f l (List.range (ns.length - 1))) → Q (.ref q) H'
def spPlace (C : Addr) : Sp := fun vs H Q _ => ∃ (p r : Addr) (D : CD) (ns : List Str) (x : Int), vs = [.ref p, .int x] ∧ PathAt C H p D ns r ∧ Bd D ∧ 2 ≤ ns.length ∧ ns.length ≤ 20 ∧
  ∀ q H', H q = none → Same H H' → H' q = some (.tup ((plc D ns (lat D ns (ns.length - 1 - 1) x) x ++ [D.len (rn ns (lat D ns (ns.length - 1 - 1) x)) (rn ns (lat D ns (ns.length - 1 - 1) x + 1))]).map V.int)) → Q (.ref q) H'
def spPiece (C : Addr) : Sp := fun vs H Q _ => ∃ (p r : Addr) (D : CD) (ns : List Str) (f l : Int), vs = [.ref p, .int f, .int l] ∧ PathAt C H p D ns r ∧ Bd D ∧ 2 ≤ ns.length ∧ ns.length ≤ 20 ∧ f ≤ l ∧
  ∀ q H', H q = none → Same H H' → LoT H' q (pcs D ns f l) → Q (.ref q) H'
def spJoin (C : Addr) : Sp := fun vs H Q _ => ∃ (p ch r dx l1 l2 l3 l4 : Addr) (D : CD) (ns : List Str) (i : Nat) (sa va : List Addr), vs = [.ref p, .ref ch, .str (rn ns i), .str (rn ns (i + 1))] ∧ ChartAt H ch D ∧ PathP C H p D ns r i dx l1 l2 l3 l4 sa va ∧
  (∃ l, D.leg (rn ns i) (rn ns (i + 1)) = some l) ∧ i ≤ 20 ∧ ∀ (s v : Addr) H', PathP C H' p D ns r (i + 1) dx l1 l2 l3 l4 (sa ++ [s]) (va ++ [v]) → (∀ b o, H b = some o → b ≠ l1 → b ≠ l2 → b ≠ l3 → b ≠ l4 → H' b = some o) → Q .non H'
def spPInit (C : Addr) : Sp := fun vs H Q _ => ∃ (p ch r dx : Addr) (D : CD) (ns : List Str), vs = [.ref p, .ref ch, .ref r] ∧ H p = some (.ins C dx []) ∧ ChartAt H ch D ∧ H r = some (.tup (ns.map V.str)) ∧ Route D ns ∧
  ∀ H', PathAt C H' p D ns r → (∀ b o, H b = some o → b ≠ p → H' b = some o) → Q .non H'
theorem ChartAt.fr {H H' : Hp} {ch p C dx : Addr} {fs : List (Str × V)} {D : CD} (Q : ChartAt H ch D) (hp : H p = some (.ins C dx fs)) (e : ∀ b o, H b = some o → b ≠ p → H' b = some o) : ChartAt H' ch D := by
  have e' : ∀ b o, H b = some o → (∀ C dx fs, o ≠ .ins C dx fs) → H' b = some o := fun b o h n => e b o h (ne_of h hp (n _ _ _))
  obtain ⟨⟨kvs, h1, h2, h3⟩, h4, h5, h6, h7, h8, h8', h9⟩ := Q
  exact ⟨⟨kvs, e' _ _ h1 (by intro _ _ _ z; cases z), h2, h3⟩, e' _ _ h4 (by intro _ _ _ z; cases z), e' _ _ h5 (by intro _ _ _ z; cases z), fun l hl => e' _ _ (h6 l hl) (by intro _ _ _ z; cases z),
    fun n a x y hp => let ⟨p1, p2, p3⟩ := h7 n a x y hp; ⟨p1, e' _ _ p2 (by intro _ _ _ z; cases z), p3⟩, h8, h8', h9⟩
/-! a class of the text, ready to be made -/
structure CDef (P : Program) (w : World) (K : PySem.W.Frag) (mg : Str → Option Value) (base : Heap) (k : Nat) (C : Addr) (x : Str) (ps : List Str) (sp : Sp) : Prop where
  ex : ∃ (f : Addr) (fd : FuncData), FnOk P w K mg base CX0 k f fd ps sp ∧ Mk K C f ∧ mg x = some (.ref C) ∧ Binds K fd ps []
theorem pe_cdef {X : Cx} {k : Nat} {C : Addr} {x : Str} {ps : List Str} {sp : Sp} {p pos : Pos} {e : Expr} {es : List Expr} {t : TA} (D : CDef X.prog X.w X.K X.mg X.base k C x ps sp) (hr : Room (k + 1) X.A) (hg : Gl X x)
    (ha : PA X (e :: es) t) (hdb : (x == ("__debug__" : Str)) = false := by decide) (he : starEach (e :: es) X.env = (false, eval e X.env) :: starEach es X.env := by rfl) (hpl : (backTo pos (starEach es X.env)).any (·.1) = false := by rfl) :
    PE X (.Call (.Name x p) (e :: es) [] pos) (tMake C sp [] E0 t) := by
  obtain ⟨f, fd, F, M, m, b⟩ := D.ex
  exact pe_make M F hr hg m b .nil pass0 ha hdb he hpl
/-! what the law's own defs promise -/
def bgs (D : CD) (ns : List Str) : List Int := (List.range ns.length).map (bg D ns)
theorem bgs_at {D : CD} {ns : List Str} {j : Nat} (h : j < ns.length) : ((bgs D ns).map V.int)[j]? = some (.int (bg D ns j)) := by
  unfold bgs
  rw [List.getElem?_map, List.getElem?_map, List.getElem?_range h]
  rfl
theorem bgs_len {D : CD} {ns : List Str} : ((bgs D ns).map V.int).length = ns.length := by
  unfold bgs
  rw [List.length_map, List.length_map, List.length_range]
theorem bgs_last {D : CD} {ns : List Str} (h : 0 < ns.length) : ((bgs D ns).map V.int).getLast? = some (.int (bg D ns (ns.length - 1))) := by
  rw [List.getLast?_eq_getElem?, bgs_len]
  exact bgs_at (by omega)
def spBegins : Sp := fun vs H Q _ => ∃ (ld r : Addr) (D : CD) (ns : List Str), vs = [.ref ld, .ref r] ∧ LenAt H ld D ∧ H r = some (.tup (ns.map V.str)) ∧ Route D ns ∧ ∀ b H', H b = none → Same H H' → H' b = some (.lst ((bgs D ns).map V.int)) → Q (.ref b) H'
def spLawLegAt : Sp := fun vs H Q _ => ∃ (b : Addr) (x : Int) (D : CD) (ns : List Str), vs = [.ref b, .int x] ∧ H b = some (.lst ((bgs D ns).map V.int)) ∧ 2 ≤ ns.length ∧ ns.length ≤ 20 ∧ Q (.int (lat D ns (ns.length - 1 - 1) x : Nat)) H
def spPlaceOn : Sp := fun vs H Q _ => ∃ (ch r b : Addr) (z x : Int) (D : CD) (ns : List Str) (k : Nat), vs = [.ref ch, .ref r, .ref b, .int z, .int x] ∧ z = (k : Int) ∧ ChartAt H ch D ∧ H r = some (.tup (ns.map V.str)) ∧ H b = some (.lst ((bgs D ns).map V.int)) ∧ Route D ns ∧ k + 1 < ns.length ∧
  ∀ q H', H q = none → Same H H' → H' q = some (.tup ((plc D ns k x ++ [D.len (rn ns k) (rn ns (k + 1))]).map V.int)) → Q (.ref q) H'
def spLawPiece : Sp := fun vs H Q _ => ∃ (ch r b : Addr) (f l : Int) (D : CD) (ns : List Str), vs = [.ref ch, .ref r, .ref b, .int f, .int l] ∧ ChartAt H ch D ∧ H r = some (.tup (ns.map V.str)) ∧ H b = some (.lst ((bgs D ns).map V.int)) ∧ Route D ns ∧ f ≤ l ∧
  ∀ q H', H q = none → Same H H' → LoT H' q (pcs D ns f l) → Q (.ref q) H'
def spRight (C : Addr) : Sp := fun vs H Q _ => ∃ (p ch ld r : Addr) (D : CD) (ns : List Str), vs = [.ref p, .ref ch, .ref ld, .ref r] ∧ PathAt C H p D ns r ∧ ChartAt H ch D ∧ LenAt H ld D ∧ Route D ns ∧ ∀ H', Same H H' → Q (.bl true) H'
def spProgress (K : PySem.W.Frag) : Sp := fun vs H Q _ => ∃ (d c b : Addr) (D : CD) (ns : List Str), vs = [.ref d, .ref b] ∧ St1 K H d c ∧ H b = some (.lst ((bgs D ns).map V.int)) ∧ Bd D ∧ 2 ≤ ns.length ∧ ns.length ≤ 20 ∧ ∀ z H', St1 K H' d c → Keep d H H' → Q (.int z) H'
def spAreNum : Sp := fun vs H Q _ => ∃ (l : Addr) (xss : List (List Int)), vs = [.ref l] ∧ LoT H l xss ∧ xss.length ≤ 100 ∧ (∀ xs ∈ xss, xs.length ≤ 100) ∧ ∀ H', Same H H' → Q (.bl true) H'
theorem segsOf_len (D : CD) (ns : List Str) (f l : Int) (ks : List Nat) : (segsOf D ns f l ks).length ≤ ks.length := List.length_filterMap_le _ _
theorem pcs_len (D : CD) (ns : List Str) (f l : Int) : (pcs D ns f l).length ≤ ns.length + 1 := by
  unfold pcs
  dsimp only
  generalize (if 0 > f then 0 else f) = u
  generalize (if bg D ns (ns.length - 1) < l then bg D ns (ns.length - 1) else l) = v
  split
  · exact Nat.zero_le _
  · split
    · show 1 ≤ _
      omega
    · have := segsOf_len D ns u v (List.range (ns.length - 1))
      rw [List.length_range] at this
      omega
theorem seg_len (D : CD) (ns : List Str) (k : Nat) (s e : Int) : (seg D ns k s e).length = 5 := rfl
theorem segOf_len {D : CD} {ns : List Str} {f l : Int} {k : Nat} {xs : List Int} (h : segOf D ns f l k = some xs) : xs.length = 5 := by
  unfold segOf at h
  dsimp only at h
  generalize (if bg D ns k > f then bg D ns k else f) = u at h
  generalize (if bg D ns (k + 1) < l then bg D ns (k + 1) else l) = v at h
  by_cases e : u < v
  · rw [if_pos e] at h
    rw [← Option.some.inj h, seg_len]
  · rw [if_neg e] at h
    cases h
theorem pcs_five (D : CD) (ns : List Str) (f l : Int) : ∀ xs ∈ pcs D ns f l, xs.length ≤ 100 := by
  unfold pcs
  dsimp only
  generalize (if 0 > f then 0 else f) = u
  generalize (if bg D ns (ns.length - 1) < l then bg D ns (ns.length - 1) else l) = v
  intro xs h
  split at h
  · cases h
  · split at h
    · rw [List.mem_singleton.mp h, seg_len]
      decide
    · obtain ⟨k, _, e⟩ := List.mem_filterMap.mp h
      rw [segOf_len e]
      decide
theorem Route.pt {H : Hp} {ch : Addr} {D : CD} {ns : List Str} (R : Route D ns) (C : ChartAt H ch D) {j : Nat} (h : j + 1 < ns.length) : (∃ a x y, D.pt (rn ns j) = some (a, x, y)) ∧ ∃ a x y, D.pt (rn ns (j + 1)) = some (a, x, y) := by
  obtain ⟨l, hl⟩ := R.ch j h
  obtain ⟨h1, h2, h3⟩ := CD.leg_mem hl
  have := C.wf l h1
  rw [h2, h3] at this
  exact this
/-! data that can be compared -/
theorem cla {xs : List PyData} (h : ∀ x ∈ xs, x.canLay0 = true) : PyData.canLayAll0 xs = true := by
  induction xs with
  | nil => rfl
  | cons x xs ih =>
    show (PyData.canLay0 x && PyData.canLayAll0 xs) = true
    rw [h x List.mem_cons_self, ih fun y hy => h y (List.mem_cons_of_mem _ hy)]
    rfl
theorem dpa {xs : List PyData} {n : Nat} (h : ∀ x ∈ xs, x.depth ≤ n) : PyData.depthAll xs ≤ n := by
  induction xs with
  | nil => exact Nat.zero_le _
  | cons x xs ih =>
    show max (PyData.depth x) (PyData.depthAll xs) ≤ n
    exact Nat.max_le.mpr ⟨h x List.mem_cons_self, ih fun y hy => h y (List.mem_cons_of_mem _ hy)⟩
theorem sh_of {d : PyData} (h1 : d.canLay0 = true) (h2 : d.depth ≤ 64) : SeqAt.shaped d = true := by
  unfold SeqAt.shaped
  rw [h1, decide_eq_true h2]
  rfl
theorem can_str {ns : List Str} (h : ∀ n ∈ ns, sOk n) : (PyData.tuple (ns.map PyData.str)).canLay0 = true := by
  show PyData.canLayAll0 _ = true
  refine cla fun x hx => ?_
  obtain ⟨n, hn, rfl⟩ := List.mem_map.mp hx
  exact h n hn
theorem sh_str {ns : List Str} (h : ∀ n ∈ ns, sOk n) : SeqAt.shaped (.tuple (ns.map PyData.str)) = true := by
  refine sh_of (can_str h) ?_
  show PyData.depthAll _ + 1 ≤ 64
  have : PyData.depthAll (ns.map PyData.str) ≤ 1 := dpa fun x hx => by
    obtain ⟨n, _, rfl⟩ := List.mem_map.mp hx
    exact Nat.zero_le _
  omega
theorem can_pd (xs : List Int) : (pdT xs).canLay0 = true := by
  show PyData.canLayAll0 _ = true
  refine cla fun x hx => ?_
  obtain ⟨n, hn, rfl⟩ := List.mem_map.mp hx
  rfl
theorem dep_pd (xs : List Int) : (pdT xs).depth ≤ 2 := by
  show PyData.depthAll _ + 1 ≤ 2
  have : PyData.depthAll (xs.map PyData.int) ≤ 1 := dpa fun x hx => by
    obtain ⟨n, _, rfl⟩ := List.mem_map.mp hx
    exact Nat.zero_le _
  omega
theorem sh_pd (xs : List Int) : SeqAt.shaped (pdT xs) = true := sh_of (can_pd xs) (Nat.le_trans (dep_pd xs) (by decide))
theorem can_pds (xss : List (List Int)) : (PyData.list (xss.map pdT)).canLay0 = true := by
  show PyData.canLayAll0 _ = true
  refine cla fun x hx => ?_
  obtain ⟨n, hn, rfl⟩ := List.mem_map.mp hx
  exact can_pd n
theorem sh_pds (xss : List (List Int)) : SeqAt.shaped (.list (xss.map pdT)) = true := by
  refine sh_of (can_pds xss) ?_
  show PyData.depthAll _ + 1 ≤ 64
  have : PyData.depthAll (xss.map pdT) ≤ 2 := dpa fun x hx => by
    obtain ⟨n, _, rfl⟩ := List.mem_map.mp hx
    exact dep_pd n
  omega
theorem dpAll_str {K : PySem.W.Frag} {H : Hp} : ∀ xs : List Str, DpAll K H (xs.map V.str) (xs.map PyData.str)
  | [] => .nil
  | x :: xs => .cons (.str x) (dpAll_str xs)
def pdL (l : Lg) : PyData := .tuple [.str l.s, .str l.e, .str l.c, .int l.lo, .int l.hi]
theorem can_lg {l : Lg} (h : sOk l.s ∧ sOk l.e ∧ sOk l.c) : (pdL l).canLay0 = true := by
  show (PyData.canLay0 (.str l.s) && (PyData.canLay0 (.str l.e) && (PyData.canLay0 (.str l.c) && (true && (true && true))))) = true
  have h1 : PyData.canLay0 (.str l.s) = true := h.1
  have h2 : PyData.canLay0 (.str l.e) = true := h.2.1
  have h3 : PyData.canLay0 (.str l.c) = true := h.2.2
  rw [h1, h2, h3]
  rfl
theorem dp_lg {K : PySem.W.Frag} {H : Hp} {l : Lg} (h : H l.a = some (.tup l.v)) : Dp K H (.ref l.a) (pdL l) := .tup (.inl (.inl h)) (.cons (.str _) (.cons (.str _) (.cons (.str _) (.cons (.int _) (.cons (.int _) .nil)))))
theorem sh_lg {l : Lg} (h : sOk l.s ∧ sOk l.e ∧ sOk l.c) : SeqAt.shaped (pdL l) = true := sh_of (can_lg h) (by
  show PyData.depthAll _ + 1 ≤ 64
  have : PyData.depthAll [.str l.s, .str l.e, .str l.c, .int l.lo, .int l.hi] ≤ 1 := dpa fun x hx => by
    simp only [List.mem_cons, List.not_mem_nil, or_false] at hx
    rcases hx with rfl | rfl | rfl | rfl | rfl <;> exact Nat.zero_le _
  omega)
theorem Route.sok {H : Hp} {ch : Addr} {D : CD} {ns : List Str} (R : Route D ns) (C : ChartAt H ch D) : ∀ n ∈ ns, sOk n := by
  intro n hn
  obtain ⟨j, hj, rfl⟩ := List.getElem_of_mem hn
  have e : ∀ i (h : i < ns.length), rn ns i = ns[i] := fun i h => by
    unfold rn
    rw [List.getD_eq_getElem?_getD, List.getElem?_eq_getElem h]
    rfl
  have n2 := R.n2
  by_cases h : j + 1 < ns.length
  · obtain ⟨l, hl⟩ := R.ch j h
    obtain ⟨h1, h2, _⟩ := CD.leg_mem hl
    have := (C.sk l h1).1
    rw [h2, e j hj] at this
    exact this
  · obtain ⟨i, rfl⟩ : ∃ i, j = i + 1 := ⟨j - 1, by omega⟩
    obtain ⟨l, hl⟩ := R.ch i hj
    obtain ⟨h1, _, h3⟩ := CD.leg_mem hl
    have := (C.sk l h1).2.1
    rw [h3, e (i + 1) hj] at this
    exact this
end Sk

set_option Elab.async false
set_option linter.all false
set_option maxRecDepth 100000
set_option maxHeartbeats 4000000
namespace Sk
open PySem PySem.Spec PyProof.Rows L2
abbrev WQ := Addr × Int × Int × Int × Int
def wv (q : WQ) : List V := [.int q.2.1, .int q.2.2.1, .int q.2.2.2.1, .int q.2.2.2.2]
def lb (t : Int) (qs : List WQ) : List WQ := qs.filter fun q => decide (q.2.1 ≤ t)
theorem lb_snoc (t : Int) (qs : List WQ) (q : WQ) : lb t (qs ++ [q]) = lb t qs ++ (if q.2.1 ≤ t then [q] else []) := by
  unfold lb
  rw [List.filter_append]
  congr 1
  by_cases h : q.2.1 ≤ t <;> simp [h]
structure WAt (H : Hp) (l : Addr) (qs : List WQ) : Prop where
  li : H l = some (.lst (qs.map fun q => V.ref q.1))
  tu : ∀ q ∈ qs, H q.1 = some (.tup (wv q))
  bd : ∀ q ∈ qs, -10001 ≤ q.2.2.1 ∧ q.2.2.1 ≤ 10001 ∧ -10001 ≤ q.2.2.2.1 ∧ q.2.2.2.1 ≤ 10001 ∧ 0 ≤ q.2.2.2.2 ∧ q.2.2.2.2 ≤ 10001
  hd : ∃ q r, qs = q :: r ∧ q.2.1 = 0
theorem WAt.keep {K : PySem.W.Frag} {d c l : Addr} {H H' : Hp} {qs : List WQ} (W : WAt H l qs) (S : St1 K H d c) (k : Keep d H H') : WAt H' l qs := ⟨k.l S W.li, fun q h => k.t S (W.tu q h), W.bd, W.hd⟩
theorem WAt.same {l : Addr} {H H' : Hp} {qs : List WQ} (W : WAt H l qs) (e : Same H H') : WAt H' l qs := ⟨e _ _ W.li, fun q h => e _ _ (W.tu q h), W.bd, W.hd⟩
theorem WAt.at {l : Addr} {H : Hp} {qs : List WQ} (W : WAt H l qs) {i : Nat} (h : i < qs.length) : (qs.map fun q => V.ref q.1)[i]? = some (.ref qs[i].1) := by simp [h]
theorem WAt.snoc {l : Addr} {H : Hp} {qs : List WQ} {q : WQ} (W : WAt H l qs) (hp : H q.1 = some (.tup (wv q))) (hb : -10001 ≤ q.2.2.1 ∧ q.2.2.1 ≤ 10001 ∧ -10001 ≤ q.2.2.2.1 ∧ q.2.2.2.1 ≤ 10001 ∧ 0 ≤ q.2.2.2.2 ∧ q.2.2.2.2 ≤ 10001) :
    WAt (upd H l (.lst ((qs.map fun q => V.ref q.1) ++ [.ref q.1]))) l (qs ++ [q]) := by
  refine ⟨by rw [upd_same, List.map_append]; rfl, fun z hz => ?_, fun z hz => ?_, ?_⟩
  · have ht : H z.1 = some (.tup (wv z)) := by
      rcases List.mem_append.mp hz with h | h
      · exact W.tu z h
      · rw [List.mem_singleton.mp h]; exact hp
    rw [upd_ne (ne_of ht W.li (by intro e; cases e))]
    exact ht
  · rcases List.mem_append.mp hz with h | h
    · exact W.bd z h
    · rw [List.mem_singleton.mp h]; exact hb
  · obtain ⟨q0, r, h, h0⟩ := W.hd
    exact ⟨q0, r ++ [q], by rw [h]; rfl, h0⟩

def ab (x : Int) : Int := if x < 0 then -x else x
theorem mul_ab {f e x : Int} (h0 : -e ≤ f) (h1 : f ≤ e) : -(e * ab x) ≤ f * x ∧ f * x ≤ e * ab x := by
  unfold ab
  split
  · rename_i h
    have a := Int.mul_le_mul_of_nonneg_right h1 (show 0 ≤ -x by omega)
    have b := Int.mul_le_mul_of_nonneg_right h0 (show 0 ≤ -x by omega)
    simp only [Int.mul_neg, Int.neg_mul, Int.neg_neg] at a b ⊢
    omega
  · rename_i h
    have a := Int.mul_le_mul_of_nonneg_right h1 (show 0 ≤ x by omega)
    have b := Int.mul_le_mul_of_nonneg_right h0 (show 0 ≤ x by omega)
    rw [Int.neg_mul] at b
    omega
def lo (dx dy n s sl wx wy e : Int) : Int := s - sl + (wx * dx + wy * dy - e * (ab dx + ab dy)) / n
def hi (dx dy n s sl wx wy e : Int) : Int := s + sl + (wx * dx + wy * dy + e * (ab dx + ab dy)) / n
def fp (dx dy n x y : Int) : Int := (x * dx + y * dy) / n
theorem div_mono {a b n : Int} (hn : 0 < n) (h : a ≤ b) : a / n ≤ b / n := Int.ediv_le_ediv hn h
def spWind (K : PySem.W.Frag) : Sp := fun vs H Q _ => ∃ (l : Addr) (t : Int) (qs : List WQ), vs = [.ref l, .int t] ∧ WAt H l qs ∧ 0 ≤ t ∧ ∀ q, (lb t qs).getLast? = some q → Q (.ref q.1) H
def spStep : Sp := fun vs H Q _ => ∃ (v w : Addr) (s sl dx dy n t wx wy e : Int), vs = [.ref v, .int s, .int sl, .ref w] ∧ H v = some (.tup [.int dx, .int dy, .int n]) ∧ H w = some (.tup [.int t, .int wx, .int wy, .int e]) ∧
  (-10000000 ≤ dx ∧ dx ≤ 10000000 ∧ -10000000 ≤ dy ∧ dy ≤ 10000000 ∧ -10000000 ≤ wx ∧ wx ≤ 10000000 ∧ -10000000 ≤ wy ∧ wy ≤ 10000000 ∧ -10000000 ≤ e ∧ e ≤ 10000000 ∧ 0 < n ∧ n ≤ 100000000) ∧
  ∀ p, H p = none → Q (.ref p) (upd H p (.tup [.int (lo dx dy n s sl wx wy e), .int (hi dx dy n s sl wx wy e)]))
end Sk

set_option Elab.async false
set_option linter.all false
set_option maxRecDepth 100000
set_option maxHeartbeats 4000000
namespace Sk
open PySem PySem.Spec PyProof.Rows L2
/-! next boxes: the mathematics -/
def clamp (lo hi x : Int) : Int := if hi < (if lo > x then lo else x) then hi else (if lo > x then lo else x)
def tgt (D : CD) (ns : List Str) (k : Nat) (x : Int) : Int :=
  let v := match D.leg (rn ns k) (rn ns (k + 1)) with | some l => clamp l.lo l.hi x | none => x
  if k + 2 < ns.length then match D.leg (rn ns (k + 1)) (rn ns (k + 2)) with | some l => clamp l.lo l.hi v | none => v else v
def PosR (D : CD) (ns : List Str) : Prop := ∀ j, j + 1 < ns.length → 1 ≤ D.len (rn ns j) (rn ns (j + 1))
theorem PosR.of {D : CD} {ns : List Str} (R : Route D ns) (h : ∀ l ∈ D.ls, 1 ≤ D.len l.s l.e) : PosR D ns := fun j hj => by
  obtain ⟨l, hl⟩ := R.ch j hj
  obtain ⟨h1, h2, h3⟩ := CD.leg_mem hl
  have := h l h1
  rw [h2, h3] at this
  exact this
theorem PosR.lt {D : CD} {ns : List Str} (p : PosR D ns) {j : Nat} (h : j + 1 < ns.length) : bg D ns j + 1 ≤ bg D ns (j + 1) := by
  have := p j h
  show _ ≤ bg D ns j + _
  omega
def lowest (a b x g : Int) : Int := if x < g then (if g < x + a then g else x + a) else (if g > x - b then g else x - b)
def highest (a b x g : Int) : Int := if x > g then (if g > x - a then g else x - a) else (if g < x + b then g else x + b)
def tow (x g r : Int) : Int := if x < g then (if g < x + r then g else x + r) else (if g > x - r then g else x - r)
theorem low_mem {a b x g : Int} : lowest a b x g = tow x g a ∨ lowest a b x g = tow x g b := by
  unfold lowest tow
  by_cases h : x < g
  · left; rw [if_pos h, if_pos h]
  · right; rw [if_neg h, if_neg h]
theorem low_le {a b x y g r : Int} (ha : 1 ≤ a) (hab : a ≤ b) (h : x ≤ y) (hr : r = a ∨ r = b) : lowest a b x g ≤ tow y g r := by
  unfold lowest tow
  rcases hr with rfl | rfl <;> (split <;> split <;> split <;> split <;> omega)
theorem high_mem {a b x g : Int} (ha : 1 ≤ a) (hab : a ≤ b) : highest a b x g = tow x g a ∨ highest a b x g = tow x g b := by
  unfold highest tow
  by_cases h : x > g
  · left; rw [if_pos h, if_neg (show ¬ x < g by omega)]
  · right
    by_cases e : x < g
    · rw [if_neg h, if_pos e]
    · rw [if_neg h, if_neg e, if_pos (show g < x + b by omega), if_pos (show g > x - b by omega)]
theorem high_le {a b x y g r : Int} (ha : 1 ≤ a) (hab : a ≤ b) (h : y ≤ x) (hr : r = a ∨ r = b) : tow y g r ≤ highest a b x g := by
  unfold highest tow
  rcases hr with rfl | rfl <;> (split <;> split <;> split <;> split <;> omega)
theorem low_mono {a b x y g : Int} (ha : 1 ≤ a) (hab : a ≤ b) (h : x ≤ y) : lowest a b x g ≤ lowest a b y g := by
  rcases low_mem (a := a) (b := b) (x := y) (g := g) with e | e <;> rw [e]
  · exact low_le ha hab h (.inl rfl)
  · exact low_le ha hab h (.inr rfl)
theorem high_mono {a b x y g : Int} (ha : 1 ≤ a) (hab : a ≤ b) (h : x ≤ y) : highest a b x g ≤ highest a b y g := by
  rcases high_mem (x := x) (g := g) ha hab with e | e <;> rw [e]
  · exact high_le ha hab h (.inl rfl)
  · exact high_le ha hab h (.inr rfl)
theorem low_high {a b x y g : Int} (ha : 1 ≤ a) (hab : a ≤ b) (h : x ≤ y) : lowest a b x g ≤ highest a b y g :=
  Int.le_trans (low_le ha hab (Int.le_refl x) (.inl rfl)) (high_le ha hab h (.inl rfl))
structure NextOf (lt : Int → Nat) (lf hf af : Nat → Int) (a b low high down up v0 v1 v2 v3 : Int) : Prop where
  e0 : ∃ p, low ≤ p ∧ p ≤ high ∧ v0 = p + lf (lt p)
  m0 : ∀ p, low ≤ p → p ≤ high → v0 ≤ p + lf (lt p)
  e1 : ∃ p, low ≤ p ∧ p ≤ high ∧ v1 = p + hf (lt p)
  m1 : ∀ p, low ≤ p → p ≤ high → p + hf (lt p) ≤ v1
  e2 : ∃ p, low ≤ p ∧ p ≤ high ∧ v2 = lowest a b down (af (lt p))
  m2 : ∀ p, low ≤ p → p ≤ high → v2 ≤ lowest a b down (af (lt p))
  e3 : ∃ p, low ≤ p ∧ p ≤ high ∧ v3 = highest a b up (af (lt p))
  m3 : ∀ p, low ≤ p → p ≤ high → highest a b up (af (lt p)) ≤ v3
section
variable {lt : Int → Nat} {lf hf af : Nat → Int} {a b low high down up v0 v1 v2 v3 : Int}
theorem NextOf.uniq {w0 w1 w2 w3 : Int} (X : NextOf lt lf hf af a b low high down up v0 v1 v2 v3) (Y : NextOf lt lf hf af a b low high down up w0 w1 w2 w3) : v0 = w0 ∧ v1 = w1 ∧ v2 = w2 ∧ v3 = w3 := by
  obtain ⟨p0, a0, b0, c0⟩ := X.e0
  obtain ⟨q0, d0, f0, g0⟩ := Y.e0
  obtain ⟨p1, a1, b1, c1⟩ := X.e1
  obtain ⟨q1, d1, f1, g1⟩ := Y.e1
  obtain ⟨p2, a2, b2, c2⟩ := X.e2
  obtain ⟨q2, d2, f2, g2⟩ := Y.e2
  obtain ⟨p3, a3, b3, c3⟩ := X.e3
  obtain ⟨q3, d3, f3, g3⟩ := Y.e3
  have := X.m0 q0 d0 f0
  have := Y.m0 p0 a0 b0
  have := X.m1 q1 d1 f1
  have := Y.m1 p1 a1 b1
  have := X.m2 q2 d2 f2
  have := Y.m2 p2 a2 b2
  have := X.m3 q3 d3 f3
  have := Y.m3 p3 a3 b3
  omega
theorem NextOf.inner {low' high' down' up' w0 w1 w2 w3 : Int} (X : NextOf lt lf hf af a b low high down up v0 v1 v2 v3) (Y : NextOf lt lf hf af a b low' high' down' up' w0 w1 w2 w3) (ha : 1 ≤ a) (hab : a ≤ b) (hlh : ∀ p, lf (lt p) ≤ hf (lt p))
    (h0 : low ≤ low') (h1 : high' ≤ high) (h2 : down ≤ down') (h3 : up' ≤ up) (h4 : down' ≤ up') : v0 ≤ w0 ∧ w0 ≤ w1 ∧ w1 ≤ v1 ∧ v2 ≤ w2 ∧ w2 ≤ w3 ∧ w3 ≤ v3 := by
  obtain ⟨q0, d0, f0, g0⟩ := Y.e0
  obtain ⟨q1, d1, f1, g1⟩ := Y.e1
  obtain ⟨q2, d2, f2, g2⟩ := Y.e2
  obtain ⟨q3, d3, f3, g3⟩ := Y.e3
  have i0 := X.m0 q0 (by omega) (by omega)
  have i1 := Y.m1 q0 d0 f0
  have i2 := hlh q0
  have i3 := X.m1 q1 (by omega) (by omega)
  have i4 := X.m2 q2 (by omega) (by omega)
  have i5 := low_mono (g := af (lt q2)) ha hab h2
  have i6 := Y.m3 q2 d2 f2
  have i7 := low_high (g := af (lt q2)) ha hab h4
  have i8 := X.m3 q3 (by omega) (by omega)
  have i9 := high_mono (g := af (lt q3)) ha hab h3
  omega
/-- from lists over every progress and every level -/
theorem NextOf.every {c : Nat} {L : List Int} (hc : (c : Int) = high + 1 - low) (ha : 1 ≤ a) (hab : a ≤ b) (hdu : down ≤ up)
    (h0 : v0 ∈ (List.range c).map fun j : Nat => low + (j : Int) + lf (lt (low + (j : Int)))) (l0 : ∀ y ∈ (List.range c).map fun j : Nat => low + (j : Int) + lf (lt (low + (j : Int))), v0 ≤ y)
    (h1 : v1 ∈ (List.range c).map fun j : Nat => low + (j : Int) + hf (lt (low + (j : Int)))) (l1 : ∀ y ∈ (List.range c).map fun j : Nat => low + (j : Int) + hf (lt (low + (j : Int))), y ≤ v1)
    (hL : ∀ x ∈ L, ∃ p lv r, low ≤ p ∧ p ≤ high ∧ down ≤ lv ∧ lv ≤ up ∧ (r = a ∨ r = b) ∧ x = tow lv (af (lt p)) r) (hL2 : ∀ p lv r, low ≤ p → p ≤ high → down ≤ lv → lv ≤ up → (r = a ∨ r = b) → tow lv (af (lt p)) r ∈ L)
    (h2 : v2 ∈ L) (l2 : ∀ y ∈ L, v2 ≤ y) (h3 : v3 ∈ L) (l3 : ∀ y ∈ L, y ≤ v3) : NextOf lt lf hf af a b low high down up v0 v1 v2 v3 := by
  have mem : ∀ (g : Int → Int) p, low ≤ p → p ≤ high → g p ∈ (List.range c).map fun j : Nat => g (low + (j : Int)) := fun g p p0 p1 =>
    List.mem_map.mpr ⟨(p - low).toNat, List.mem_range.mpr (by omega), by rw [show low + ((p - low).toNat : Int) = p by omega]⟩
  have low2 : ∀ p, low ≤ p → p ≤ high → v2 ≤ lowest a b down (af (lt p)) := fun p p0 p1 => by
    rcases low_mem (a := a) (b := b) (x := down) (g := af (lt p)) with e | e <;> rw [e]
    · exact l2 _ (hL2 p down a p0 p1 (Int.le_refl _) hdu (.inl rfl))
    · exact l2 _ (hL2 p down b p0 p1 (Int.le_refl _) hdu (.inr rfl))
  have high2 : ∀ p, low ≤ p → p ≤ high → highest a b up (af (lt p)) ≤ v3 := fun p p0 p1 => by
    rcases high_mem (x := up) (g := af (lt p)) ha hab with e | e <;> rw [e]
    · exact l3 _ (hL2 p up a p0 p1 hdu (Int.le_refl _) (.inl rfl))
    · exact l3 _ (hL2 p up b p0 p1 hdu (Int.le_refl _) (.inr rfl))
  refine ⟨?_, fun p p0 p1 => l0 _ (mem (fun p => p + lf (lt p)) p p0 p1), ?_, fun p p0 p1 => l1 _ (mem (fun p => p + hf (lt p)) p p0 p1), ?_, low2, ?_, high2⟩
  · obtain ⟨j, hj, rfl⟩ := List.mem_map.mp h0
    have := List.mem_range.mp hj
    exact ⟨low + (j : Int), by omega, by omega, rfl⟩
  · obtain ⟨j, hj, rfl⟩ := List.mem_map.mp h1
    have := List.mem_range.mp hj
    exact ⟨low + (j : Int), by omega, by omega, rfl⟩
  · obtain ⟨p, lv, r, p0, p1, q0, q1, hr, rfl⟩ := hL v2 h2
    have := low2 p p0 p1
    have := low_le (g := af (lt p)) ha hab q0 hr
    exact ⟨p, p0, p1, by omega⟩
  · obtain ⟨p, lv, r, p0, p1, q0, q1, hr, rfl⟩ := hL v3 h3
    have := high2 p p0 p1
    have := high_le (g := af (lt p)) ha hab q1 hr
    exact ⟨p, p0, p1, by omega⟩
end
/-- from lists over the legs -/
theorem NextOf.legs {D : CD} {ns : List Str} {lf hf af : Nat → Int} {a b low high down up v0 v1 v2 v3 : Int} (pos : PosR D ns) (n2 : 2 ≤ ns.length) (hlh : low ≤ high) {first last : Nat} (hf1 : lat D ns (ns.length - 1 - 1) low = first) (hl1 : lat D ns (ns.length - 1 - 1) high = last) {c : Nat} (hc : c = last + 1 - first)
    (h0 : v0 ∈ (List.range c).map fun j => (if first + j = first then low else bg D ns (first + j)) + lf (first + j)) (l0 : ∀ y ∈ (List.range c).map fun j => (if first + j = first then low else bg D ns (first + j)) + lf (first + j), v0 ≤ y)
    (h1 : v1 ∈ (List.range c).map fun j => (if first + j = last then high else bg D ns (first + j + 1) - 1) + hf (first + j)) (l1 : ∀ y ∈ (List.range c).map fun j => (if first + j = last then high else bg D ns (first + j + 1) - 1) + hf (first + j), y ≤ v1)
    (h2 : v2 ∈ (List.range c).map fun j => lowest a b down (af (first + j))) (l2 : ∀ y ∈ (List.range c).map fun j => lowest a b down (af (first + j)), v2 ≤ y)
    (h3 : v3 ∈ (List.range c).map fun j => highest a b up (af (first + j))) (l3 : ∀ y ∈ (List.range c).map fun j => highest a b up (af (first + j)), y ≤ v3) :
    NextOf (fun x => lat D ns (ns.length - 1 - 1) x) lf hf af a b low high down up v0 v1 v2 v3 := by
  have mono : ∀ p q, p ≤ q → lat D ns (ns.length - 1 - 1) p ≤ lat D ns (ns.length - 1 - 1) q := fun p q h => lat_mono D ns _ h
  obtain ⟨fa, fb, fc⟩ := lat_cases D ns (ns.length - 1 - 1) low
  obtain ⟨ga, gb, gc⟩ := lat_cases D ns (ns.length - 1 - 1) high
  have hfl := mono low high hlh
  rw [hf1] at fa fb fc hfl
  rw [hl1] at ga gb gc hfl
  have lk : ∀ k x, k ≤ ns.length - 1 - 1 → bg D ns k ≤ x → (k < ns.length - 1 - 1 → x < bg D ns (k + 1)) → lat D ns (ns.length - 1 - 1) x = k := fun k x hk hx hx2 =>
    lat_eq hk (fun i hi => Int.le_trans (bg_mono D ns (show i + 1 ≤ k by omega)) hx) hx2
  -- the first progress on leg k
  have C : ∀ k, first ≤ k → k ≤ last → ∃ x, x = (if k = first then low else bg D ns k) ∧ low ≤ x ∧ x ≤ high ∧ lat D ns (ns.length - 1 - 1) x = k := fun k k0 k1 => by
    by_cases e : k = first
    · exact ⟨low, by rw [if_pos e], Int.le_refl _, hlh, by rw [hf1, e]⟩
    · have e1 : lat D ns (ns.length - 1 - 1) (bg D ns k) = k := lk k _ (by omega) (Int.le_refl _) fun h => by have := pos.lt (show k + 1 < ns.length by omega); omega
      refine ⟨_, by rw [if_neg e], ?_, ?_, e1⟩
      · rcases ltge (bg D ns k) low with w | w
        · have := mono _ _ (Int.le_of_lt w)
          rw [e1, hf1] at this
          omega
        · exact w
      · have := gb (k - 1) (by omega)
        rw [show k - 1 + 1 = k by omega] at this
        exact this
  -- the last progress on leg k
  have E : ∀ k, first ≤ k → k ≤ last → ∃ x, x = (if k = last then high else bg D ns (k + 1) - 1) ∧ low ≤ x ∧ x ≤ high ∧ lat D ns (ns.length - 1 - 1) x = k := fun k k0 k1 => by
    by_cases e : k = last
    · exact ⟨high, by rw [if_pos e], hlh, Int.le_refl _, by rw [hl1, e]⟩
    · have p1 := pos.lt (show k + 1 < ns.length by omega)
      have e1 : lat D ns (ns.length - 1 - 1) (bg D ns (k + 1) - 1) = k := lk k _ (by omega) (by omega) fun h => by omega
      refine ⟨_, by rw [if_neg e], ?_, ?_, e1⟩
      · have := fc (by omega)
        have := bg_mono D ns (show first + 1 ≤ k + 1 by omega)
        omega
      · have := gb k (by omega)
        omega
  have leg : ∀ p, low ≤ p → p ≤ high → first ≤ lat D ns (ns.length - 1 - 1) p ∧ lat D ns (ns.length - 1 - 1) p ≤ last := fun p p0 p1 => ⟨hf1 ▸ mono _ _ p0, hl1 ▸ mono _ _ p1⟩
  have mem : ∀ (g : Nat → Int) k, first ≤ k → k ≤ last → g k ∈ (List.range c).map fun j => g (first + j) := fun g k k0 k1 =>
    List.mem_map.mpr ⟨k - first, List.mem_range.mpr (by omega), by rw [show first + (k - first) = k by omega]⟩
  have unm : ∀ (g : Nat → Int) v, v ∈ ((List.range c).map fun j => g (first + j)) → ∃ k, first ≤ k ∧ k ≤ last ∧ v = g k := fun g v h => by
    obtain ⟨j, hj, e⟩ := List.mem_map.mp h
    have := List.mem_range.mp hj
    exact ⟨first + j, by omega, by omega, e.symm⟩
  refine ⟨?_, fun p p0 p1 => ?_, ?_, fun p p0 p1 => ?_, ?_, fun p p0 p1 => ?_, ?_, fun p p0 p1 => ?_⟩
  · obtain ⟨k, k0, k1, e⟩ := unm (fun k => (if k = first then low else bg D ns k) + lf k) v0 h0
    obtain ⟨x, hx, x0, x1, x2⟩ := C k k0 k1
    exact ⟨x, x0, x1, by rw [x2, e, ← hx]⟩
  · obtain ⟨k0, k1⟩ := leg p p0 p1
    obtain ⟨ta, tb, tc⟩ := lat_cases D ns (ns.length - 1 - 1) p
    have := l0 _ (mem (fun k => (if k = first then low else bg D ns k) + lf k) _ k0 k1)
    refine Int.le_trans this ?_
    by_cases e : lat D ns (ns.length - 1 - 1) p = first
    · rw [if_pos e]; omega
    · rw [if_neg e]
      have := tb (lat D ns (ns.length - 1 - 1) p - 1) (by omega)
      rw [show lat D ns (ns.length - 1 - 1) p - 1 + 1 = lat D ns (ns.length - 1 - 1) p by omega] at this
      omega
  · obtain ⟨k, k0, k1, e⟩ := unm (fun k => (if k = last then high else bg D ns (k + 1) - 1) + hf k) v1 h1
    obtain ⟨x, hx, x0, x1, x2⟩ := E k k0 k1
    exact ⟨x, x0, x1, by rw [x2, e, ← hx]⟩
  · obtain ⟨k0, k1⟩ := leg p p0 p1
    obtain ⟨ta, tb, tc⟩ := lat_cases D ns (ns.length - 1 - 1) p
    have := l1 _ (mem (fun k => (if k = last then high else bg D ns (k + 1) - 1) + hf k) _ k0 k1)
    refine Int.le_trans ?_ this
    by_cases e : lat D ns (ns.length - 1 - 1) p = last
    · rw [if_pos e]; omega
    · rw [if_neg e]
      have := tc (by omega)
      omega
  · obtain ⟨k, k0, k1, e⟩ := unm (fun k => lowest a b down (af k)) v2 h2
    obtain ⟨x, hx, x0, x1, x2⟩ := C k k0 k1
    exact ⟨x, x0, x1, by rw [x2, e]⟩
  · obtain ⟨k0, k1⟩ := leg p p0 p1
    exact l2 _ (mem (fun k => lowest a b down (af k)) _ k0 k1)
  · obtain ⟨k, k0, k1, e⟩ := unm (fun k => highest a b up (af k)) v3 h3
    obtain ⟨x, hx, x0, x1, x2⟩ := C k k0 k1
    exact ⟨x, x0, x1, by rw [x2, e]⟩
  · obtain ⟨k0, k1⟩ := leg p p0 p1
    exact l3 _ (mem (fun k => highest a b up (af k)) _ k0 k1)
/-! what stands ready -/
structure ND where
  p : Addr
  r : Addr
  ch : Addr
  cs : Addr
  ki : Addr
  ru : Addr
  wi : Addr
  D : CD
  ns : List Str
  pc : Int
  lv : Int
  w : Int
  s : Int
  f : Int
  a : Int
  b : Int
  sl : Int
  tick : Int
  qs : List WQ
  qw : WQ
structure NIn (C : Addr) (H : Hp) (N : ND) : Prop where
  P : PathAt C H N.p N.D N.ns N.r
  C0 : ChartAt H N.ch N.D
  R : Route N.D N.ns
  ps : PosR N.D N.ns
  cs : H N.cs = some (.tup [.ref N.r, .int N.pc, .int N.lv])
  ki : H N.ki = some (.tup [.int N.w, .int N.s, .int N.f, .int N.a, .int N.b])
  ru : ∃ kvs, H N.ru = some (.dK kvs) ∧ valV kvs (.inr "slip") = some (.int N.sl)
  wi : WAt H N.wi N.qs
  tk : 0 ≤ N.tick
  qw : (lb N.tick N.qs).getLast? = some N.qw
  hab : 1 ≤ N.a ∧ N.a ≤ N.b
  sl0 : 0 ≤ N.sl
  qn : N.qs.length ≤ 100
theorem NIn.same {C : Addr} {H H' : Hp} {N : ND} (I : NIn C H N) (e : Same H H') : NIn C H' N :=
  { I with P := I.P.same e, C0 := I.C0.same e, cs := e _ _ I.cs, ki := e _ _ I.ki, ru := let ⟨kvs, h1, h2⟩ := I.ru; ⟨kvs, e _ _ h1, h2⟩, wi := I.wi.same e }
theorem NIn.keep {K : PySem.W.Frag} {C d c : Addr} {H H' : Hp} {N : ND} (I : NIn C H N) (S : St1 K H d c) (k : Keep d H H') (n1 : N.ch ≠ d) (n2 : N.D.fx ≠ d) (n3 : N.ru ≠ d) : NIn C H' N :=
  { I with P := I.P.keep S k, C0 := I.C0.keep S k n1 n2, cs := k.t S I.cs, ki := k.t S I.ki, ru := let ⟨kvs, h1, h2⟩ := I.ru; ⟨kvs, k _ _ h1 n3, h2⟩, wi := I.wi.keep S k }
theorem NIn.sl {C : Addr} {H : Hp} {N : ND} (I : NIn C H N) : DGet H N.ru (.str "slip") (some (.int N.sl)) := let ⟨_, h1, h2⟩ := I.ru; h2 ▸ DGet.k (k := .inr "slip") h1
theorem NIn.rt {C : Addr} {H : Hp} {N : ND} (I : NIn C H N) : H N.r = some (.tup (N.ns.map V.str)) := let ⟨_, _, _, _, _, _, _, P⟩ := I.P; P.rt
def ND.dx (N : ND) (k : Nat) : Int := (N.D.xy (rn N.ns (k + 1))).1 - (N.D.xy (rn N.ns k)).1
def ND.dy (N : ND) (k : Nat) : Int := (N.D.xy (rn N.ns (k + 1))).2 - (N.D.xy (rn N.ns k)).2
def ND.ln (N : ND) (k : Nat) : Int := N.D.len (rn N.ns k) (rn N.ns (k + 1))
def ND.lf (N : ND) (k : Nat) : Int := lo (N.dx k) (N.dy k) (N.ln k) N.pc N.sl N.qw.2.2.1 N.qw.2.2.2.1 N.qw.2.2.2.2
def ND.hf (N : ND) (k : Nat) : Int := hi (N.dx k) (N.dy k) (N.ln k) N.pc N.sl N.qw.2.2.1 N.qw.2.2.2.1 N.qw.2.2.2.2
def ND.af (N : ND) (k : Nat) : Int := tgt N.D N.ns k N.lv
def ND.lt (N : ND) (x : Int) : Nat := lat N.D N.ns (N.ns.length - 1 - 1) x
def ND.nx (N : ND) (low high down up v0 v1 v2 v3 : Int) : Prop := NextOf N.lt N.lf N.hf N.af N.a N.b low high down up v0 v1 v2 v3
theorem ab_nn (x : Int) : 0 ≤ ab x := by unfold ab; split <;> omega
theorem NIn.qm {C : Addr} {H : Hp} {N : ND} (I : NIn C H N) : N.qw ∈ N.qs := (List.mem_filter.mp (List.mem_of_getLast? I.qw)).1
theorem NIn.lh {C : Addr} {H : Hp} {N : ND} (I : NIn C H N) (k : Nat) (hk : k + 1 < N.ns.length) : N.lf k ≤ N.hf k := by
  unfold ND.lf ND.hf lo hi
  have h1 := I.sl0
  have h2 := I.ps k hk
  have h3 := (I.wi.bd _ I.qm).2.2.2.2.1
  have h4 := Int.mul_nonneg h3 (Int.add_nonneg (ab_nn (N.dx k)) (ab_nn (N.dy k)))
  have h5 := div_mono (n := N.ln k) (a := N.qw.2.2.1 * N.dx k + N.qw.2.2.2.1 * N.dy k - N.qw.2.2.2.2 * (ab (N.dx k) + ab (N.dy k))) (b := N.qw.2.2.1 * N.dx k + N.qw.2.2.2.1 * N.dy k + N.qw.2.2.2.2 * (ab (N.dx k) + ab (N.dy k))) (by show 0 < N.D.len _ _; omega) (by omega)
  omega
/-! promises -/
def spWithin : Sp := fun vs H Q _ => ∃ (l : Lg) (x : Int), vs = [.ref l.a, .int x] ∧ H l.a = some (.tup l.v) ∧ Q (.int (clamp l.lo l.hi x)) H
def spTarget (C : Addr) : Sp := fun vs H Q _ => ∃ (N : ND) (k : Nat) (z : Int), vs = [.ref N.p, .ref N.cs, .int z] ∧ z = (k : Int) ∧ NIn C H N ∧ k + 1 < N.ns.length ∧ Q (.int (N.af k)) H
def spBounds (C : Addr) : Sp := fun vs H Q _ => ∃ (N : ND) (k : Nat) (z : Int), vs = [.ref N.p, .ref N.cs, .ref N.ru, .ref N.wi, .int N.tick, .int z] ∧ z = (k : Int) ∧ NIn C H N ∧ k + 1 < N.ns.length ∧
  ∀ q H', H q = none → Same H H' → H' q = some (.tup [.int (N.lf k), .int (N.hf k)]) → Q (.ref q) H'
def spLowest : Sp := fun vs H Q _ => ∃ (ki : Addr) (x g w s f a b : Int), vs = [.ref ki, .int x, .int g] ∧ H ki = some (.tup [.int w, .int s, .int f, .int a, .int b]) ∧ Q (.int (lowest a b x g)) H
def spHighest : Sp := fun vs H Q _ => ∃ (ki : Addr) (x g w s f a b : Int), vs = [.ref ki, .int x, .int g] ∧ H ki = some (.tup [.int w, .int s, .int f, .int a, .int b]) ∧ Q (.int (highest a b x g)) H
def spNext (C : Addr) : Sp := fun vs H Q _ => ∃ (N : ND) (bx : Addr) (low high down up : Int), vs = [.ref N.p, .ref N.cs, .ref N.ki, .ref N.ru, .ref N.wi, .int N.tick, .ref bx] ∧ NIn C H N ∧ H bx = some (.tup [.int low, .int high, .int down, .int up]) ∧ low ≤ high ∧ down ≤ up ∧
  ∀ q v0 v1 v2 v3 H', H q = none → Same H H' → H' q = some (.tup [.int v0, .int v1, .int v2, .int v3]) → N.nx low high down up v0 v1 v2 v3 → Q (.ref q) H'
def spLawNext (C : Addr) : Sp := fun vs H Q _ => ∃ (N : ND) (b bx : Addr) (low high down up : Int), vs = [.ref N.ch, .ref N.r, .ref b, .ref N.cs, .ref N.ki, .ref N.ru, .ref N.wi, .int N.tick, .ref bx] ∧ NIn C H N ∧ H b = some (.lst ((bgs N.D N.ns).map V.int)) ∧ H bx = some (.tup [.int low, .int high, .int down, .int up]) ∧ low ≤ high ∧ high - low ≤ 40 ∧ down ≤ up ∧ up - down ≤ 11 ∧ -10000000 ≤ low ∧ low ≤ 10000000 ∧ -10000000 ≤ down ∧ down ≤ 10000000 ∧
  ∀ q v0 v1 v2 v3 H', H q = none → Same H H' → H' q = some (.tup [.int v0, .int v1, .int v2, .int v3]) → N.nx low high down up v0 v1 v2 v3 → Q (.ref q) H'
def spLawTarget (C : Addr) : Sp := fun vs H Q _ => ∃ (N : ND) (k : Nat) (z : Int), vs = [.ref N.ch, .ref N.r, .int z, .int N.lv] ∧ z = (k : Int) ∧ NIn C H N ∧ k + 1 < N.ns.length ∧ ∀ H', Same H H' → Q (.int (N.af k)) H'
def spLawBounds (C : Addr) : Sp := fun vs H Q _ => ∃ (N : ND) (b : Addr) (k : Nat) (z : Int), vs = [.ref N.ch, .ref N.r, .ref b, .int z, .int N.pc, .int N.sl, .ref N.qw.1] ∧ z = (k : Int) ∧ NIn C H N ∧ H b = some (.lst ((bgs N.D N.ns).map V.int)) ∧ k + 1 < N.ns.length ∧
  ∀ q H', H q = none → Same H H' → H' q = some (.tup [.int (N.lf k), .int (N.hf k)]) → Q (.ref q) H'
def spLawWindAt (C : Addr) : Sp := fun vs H Q _ => ∃ (N : ND), vs = [.ref N.wi, .int N.tick] ∧ NIn C H N ∧ ∀ H', Same H H' → Q (.ref N.qw.1) H'
def spTowards : Sp := fun vs H Q _ => ∃ (x g r : Int), vs = [.int x, .int g, .int r] ∧ Q (.int (tow x g r)) H
def spKind (K : PySem.W.Frag) : Sp := fun vs H Q _ => ∃ (d c : Addr), vs = [.ref d] ∧ St1 K H d c ∧ ∀ q w s f a b H', H q = none → 1 ≤ s → s ≤ f → f ≤ 1000 → 1 ≤ a → a ≤ b → H' q = some (.tup [.int w, .int s, .int f, .int a, .int b]) → St1 K H' d c → Keep d H H' → Q (.ref q) H'
def spRules (K : PySem.W.Frag) : Sp := fun vs H Q _ => ∃ (d c : Addr), vs = [.ref d] ∧ St1 K H d c ∧ ∀ ru kvs sl H', H ru = none → H' ru = some (.dK kvs) → valV kvs (.inr "slip") = some (.int sl) → 0 ≤ sl → St1 K H' d c → Keep d H H' → Q (.ref ru) H'
def spWinds (K : PySem.W.Frag) : Sp := fun vs H Q _ => ∃ (d c : Addr), vs = [.ref d] ∧ St1 K H d c ∧ ∀ wi qs H', H wi = none → WAt H' wi qs → qs.length ≤ 100 → St1 K H' d c → Keep d H H' → Q (.ref wi) H'
def spLawBox (K : PySem.W.Frag) : Sp := fun vs H Q _ => ∃ (d c b : Addr) (D : CD) (ns : List Str) (wide : Int), vs = [.ref d, .ref b, .int wide] ∧ St1 K H d c ∧ H b = some (.lst ((bgs D ns).map V.int)) ∧ Bd D ∧ 2 ≤ ns.length ∧ ns.length ≤ 20 ∧ 1 ≤ wide ∧ wide ≤ 41 ∧
  ∀ q low high down up H', H q = none → low ≤ high → high - low ≤ 40 → down ≤ up → up - down ≤ 11 → -10000000 ≤ low → low ≤ 10000000 → -10000000 ≤ down → down ≤ 10000000 → H' q = some (.tup [.int low, .int high, .int down, .int up]) → St1 K H' d c → Keep d H H' → Q (.ref q) H'
end Sk

set_option Elab.async false
set_option linter.all false
set_option maxRecDepth 100000
set_option maxHeartbeats 4000000
namespace Sk
open PySem PySem.Spec PyProof.Rows L2
/-! ### separated boxes -/
/-- what the laws want of the rules -/
structure RuD where
  la : Int
  ve : Int
  ra : Int
  ba : Int
structure RuAt (H : Hp) (ru : Addr) (r : RuD) : Prop where
  ex : ∃ kvs, H ru = some (.dK kvs) ∧ valV kvs (.inr "lateral") = some (.int r.la) ∧ valV kvs (.inr "vertical") = some (.int r.ve) ∧ valV kvs (.inr "radius") = some (.int r.ra) ∧ valV kvs (.inr "band") = some (.int r.ba)
  bd : 1 ≤ r.la ∧ r.la ≤ 1000 ∧ 1 ≤ r.ve ∧ r.ve ≤ 1000 ∧ 0 ≤ r.ra ∧ r.ra ≤ 1000 ∧ 0 ≤ r.ba ∧ r.ba ≤ 1000
section
variable {H H' : Hp} {ru : Addr} {r : RuD}
theorem RuAt.same (R : RuAt H ru r) (s : Same H H') : RuAt H' ru r := ⟨let ⟨kvs, e, h⟩ := R.ex; ⟨kvs, s _ _ e, h⟩, R.bd⟩
theorem RuAt.keep {d : Addr} (R : RuAt H ru r) (s : Keep d H H') (n : ru ≠ d) : RuAt H' ru r := ⟨let ⟨kvs, e, h⟩ := R.ex; ⟨kvs, s _ _ e n, h⟩, R.bd⟩
theorem RuAt.st {T : List Addr} (R : RuAt H ru r) (s : SameT T H H') (t : Tabs T H) : RuAt H' ru r := ⟨let ⟨kvs, e, h⟩ := R.ex; ⟨kvs, s.d t e, h⟩, R.bd⟩
theorem RuAt.gla (R : RuAt H ru r) : DGet H ru (.str "lateral") (some (.int r.la)) := let ⟨_, e, h, _⟩ := R.ex; h ▸ DGet.k (k := .inr "lateral") e
theorem RuAt.gve (R : RuAt H ru r) : DGet H ru (.str "vertical") (some (.int r.ve)) := let ⟨_, e, _, h, _⟩ := R.ex; h ▸ DGet.k (k := .inr "vertical") e
theorem RuAt.gra (R : RuAt H ru r) : DGet H ru (.str "radius") (some (.int r.ra)) := let ⟨_, e, _, _, h, _⟩ := R.ex; h ▸ DGet.k (k := .inr "radius") e
theorem RuAt.gba (R : RuAt H ru r) : DGet H ru (.str "band") (some (.int r.ba)) := let ⟨_, e, _, _, _, h⟩ := R.ex; h ▸ DGet.k (k := .inr "band") e
end
def Seg.li (s : Seg) : List Int := [s.ax, s.ay, s.bx, s.bw, s.d]
theorem segs_of {P : Seg → Prop} : ∀ {xss : List (List Int)}, (∀ xs ∈ xss, ∃ s : Seg, xs = s.li ∧ P s) → ∃ ss : List Seg, xss = ss.map Seg.li ∧ ∀ s ∈ ss, P s
  | [], _ => ⟨[], rfl, fun _ h => nomatch h⟩
  | xs :: xss, h => by
    obtain ⟨s, e, p⟩ := h xs List.mem_cons_self
    obtain ⟨ss, e2, q⟩ := segs_of (P := P) (xss := xss) fun ys hy => h ys (List.mem_cons_of_mem _ hy)
    refine ⟨s :: ss, by rw [e, e2]; rfl, fun t ht => ?_⟩
    rcases List.mem_cons.mp ht with rfl | ht
    · exact p
    · exact q t ht
theorem LoT.segs {H : Hp} {l : Addr} {ss : List Seg} (L : LoT H l (ss.map Seg.li)) (hb : ∀ s ∈ ss, SegBd 200 100 s) : ∃ xs, H l = some (.lst xs) ∧ SegsAt H xs ss := by
  obtain ⟨qs, h1, h2, h3⟩ := L
  have el : qs.length = ss.length := by
    have := congrArg List.length h3
    rw [List.length_map, List.length_map] at this
    exact this
  refine ⟨_, h1, by rw [List.length_map]; exact el, fun i s hs => ?_⟩
  have hi := (List.getElem?_eq_some_iff.mp hs).1
  have hi2 : i < qs.length := by omega
  have e : qs[i].2 = s.li := by
    have e1 : (qs.map (·.2))[i]? = (ss.map Seg.li)[i]? := by rw [h3]
    rw [List.getElem?_map, List.getElem?_map, hs, List.getElem?_eq_getElem hi2] at e1
    exact Option.some.inj e1
  refine ⟨qs[i].1, by rw [List.getElem?_map, List.getElem?_eq_getElem hi2]; rfl, ?_, hb s (List.mem_of_getElem? hs)⟩
  have := h2 _ (List.getElem_mem hi2)
  rw [e] at this
  exact this
/-- the piece's segments are small and have a length -/
theorem plc_bd {D : CD} {ns : List Str} (b : Bd D) {k : Nat} {p : Int} (h0 : -100000000 ≤ p) (h1 : p ≤ 100000000) (hk : k ≤ 20) : ∃ x y, plc D ns k p = [x, y] ∧ BdN 200 x ∧ BdN 200 y := by
  have a1 := b (rn ns k)
  have a2 := b (rn ns (k + 1))
  have l0 := D.len_nn (rn ns k) (rn ns (k + 1))
  have l1 := D.len_le b (rn ns k) (rn ns (k + 1))
  have g0 := bg_nn D ns k
  have g1 := bg_le b ns k
  have e : ((2 ^ 30 : Nat) : Int) = 1073741824 := by decide
  have q : ∀ x : Int, -1000000000 ≤ x → x ≤ 1000000000 → BdN 30 x := fun x u v => BdN.of (by rw [e]; omega) (by rw [e]; omega)
  refine ⟨_, _, rfl, (((q _ (by omega) (by omega)).mul (q _ (by omega) (by omega))).add ((q _ (by omega) (by omega)).mul (q _ (by omega) (by omega)))).mono (by decide), (((q _ (by omega) (by omega)).mul (q _ (by omega) (by omega))).add ((q _ (by omega) (by omega)).mul (q _ (by omega) (by omega)))).mono (by decide)⟩
theorem seg_bd {D : CD} {ns : List Str} (b : Bd D) (pos : PosR D ns) {k : Nat} {s e : Int} (h0 : -100000000 ≤ s) (h1 : s ≤ 100000000) (h2 : -100000000 ≤ e) (h3 : e ≤ 100000000) (hk : k ≤ 20) (hk2 : k + 1 < ns.length) : ∃ t : Seg, seg D ns k s e = t.li ∧ SegBd 200 100 t ∧ 1 ≤ t.d := by
  obtain ⟨x, y, e1, b1, b2⟩ := plc_bd (D := D) (ns := ns) b (k := k) (p := s) h0 h1 hk
  obtain ⟨x', y', e2, b3, b4⟩ := plc_bd (D := D) (ns := ns) b (k := k) (p := e) h2 h3 hk
  have l1 := D.len_le b (rn ns k) (rn ns (k + 1))
  have l0 := pos k hk2
  have e : ((2 ^ 30 : Nat) : Int) = 1073741824 := by decide
  refine ⟨⟨x, y, x', y', D.len (rn ns k) (rn ns (k + 1))⟩, ?_, ⟨b1, b2, b3, b4, (BdN.of (x := D.len (rn ns k) (rn ns (k + 1))) (n := 30) (by rw [e]; omega) (by rw [e]; omega)).mono (by decide)⟩, l0⟩
  show plc D ns k s ++ (plc D ns k _ ++ _) = _
  rw [e1, e2]
  rfl
theorem pcs_segs {D : CD} {ns : List Str} (b : Bd D) (pos : PosR D ns) (n2 : 2 ≤ ns.length) (n20 : ns.length ≤ 20) {lo hi : Int} (h0 : -100000000 ≤ lo) (h1 : lo ≤ 100000000) (h2 : -100000000 ≤ hi) (h3 : hi ≤ 100000000) : ∃ ss : List Seg, pcs D ns lo hi = ss.map Seg.li ∧ ∀ s ∈ ss, SegBd 200 100 s ∧ 1 ≤ s.d := by
  refine segs_of (P := fun s => SegBd 200 100 s ∧ 1 ≤ s.d) fun xs hx => ?_
  have t0 := bg_nn D ns (ns.length - 1)
  have t1 := bg_le b ns (ns.length - 1)
  unfold pcs at hx
  dsimp only at hx
  generalize ef : (if 0 > lo then 0 else lo) = f at hx
  generalize el : (if bg D ns (ns.length - 1) < hi then bg D ns (ns.length - 1) else hi) = l at hx
  have f0 : -100000000 ≤ f ∧ f ≤ 100000000 := by split at ef <;> omega
  have l0 : -100000000 ≤ l ∧ l ≤ 100000000 := by split at el <;> omega
  split at hx
  · cases hx
  · split at hx
    · rw [List.mem_singleton.mp hx]
      have := (lat_cases D ns (ns.length - 1 - 1) f).1
      exact seg_bd b pos f0.1 f0.2 f0.1 f0.2 (by omega) (by omega)
    · obtain ⟨k, hk, e⟩ := List.mem_filterMap.mp hx
      have hk := List.mem_range.mp hk
      unfold segOf at e
      dsimp only at e
      have g0 := bg_nn D ns k
      have g1 := bg_le b ns k
      have g2 := bg_nn D ns (k + 1)
      have g3 := bg_le b ns (k + 1)
      generalize eu : (if bg D ns k > f then bg D ns k else f) = u at e
      generalize ev : (if bg D ns (k + 1) < l then bg D ns (k + 1) else l) = v at e
      split at e
      · rw [← Option.some.inj e]
        exact seg_bd b pos (by split at eu <;> omega) (by split at eu <;> omega) (by split at ev <;> omega) (by split at ev <;> omega) (by omega) (by omega)
      · cases e
structure Bx where
  lo : Int
  hi : Int
  dn : Int
  up : Int
def Bx.t (b : Bx) : HO := .tup [.int b.lo, .int b.hi, .int b.dn, .int b.up]
structure Bx.ok (b : Bx) : Prop where
  le : b.lo ≤ b.hi
  l0 : -100000000 ≤ b.lo
  h1 : b.hi ≤ 100000000
  d0 : -100000000 ≤ b.dn
  d1 : b.dn ≤ 100000000
def lvA (r : RuD) (x y : Bx) : Bool := decide (r.ve + 2 * r.ba ≤ x.dn - y.up) || decide (r.ve + 2 * r.ba ≤ y.dn - x.up)
def anyC (ss ts : List Seg) (l : Int) : Bool := ss.any fun s => ts.any fun t => clo s t l
theorem anyC_swap (ss ts : List Seg) (l : Int) : anyC ts ss l = anyC ss ts l := by
  unfold anyC
  rw [Bool.eq_iff_iff, List.any_eq_true, List.any_eq_true]
  constructor
  · rintro ⟨t, ht, h⟩
    obtain ⟨s, hs, h⟩ := List.any_eq_true.mp h
    exact ⟨s, hs, List.any_eq_true.mpr ⟨t, ht, by rw [← clo_swap]; exact h⟩⟩
  · rintro ⟨s, hs, h⟩
    obtain ⟨t, ht, h⟩ := List.any_eq_true.mp h
    exact ⟨t, ht, List.any_eq_true.mpr ⟨s, hs, by rw [← clo_swap]; exact h⟩⟩
def sepB (r : RuD) (x y : Bx) (ss ts : List Seg) : Bool := lvA r x y || !anyC ss ts (r.la + 2 * r.ra)
theorem sepB_swap (r : RuD) (x y : Bx) (ss ts : List Seg) : sepB r y x ts ss = sepB r x y ss ts := by
  unfold sepB lvA
  rw [anyC_swap, Bool.or_comm (decide (r.ve + 2 * r.ba ≤ y.dn - x.up))]
def spLvA : Sp := fun vs H Q _ => ∃ (ru b1 b2 : Addr) (r : RuD) (x y : Bx), vs = [.ref ru, .ref b1, .ref b2] ∧ RuAt H ru r ∧ H b1 = some x.t ∧ H b2 = some y.t ∧ Q (.bl (lvA r x y)) H
def spLeast : Sp := fun vs H Q _ => ∃ (ru : Addr) (r : RuD), vs = [.ref ru] ∧ RuAt H ru r ∧ Q (.int (r.la + 2 * r.ra)) H
def spSep (C : Addr) (TT : List Addr) : Sp := fun vs H Q _ => ∃ (ru p1 b1 p2 b2 r1 r2 : Addr) (r : RuD) (x y : Bx) (D : CD) (ns ms : List Str) (ss ts : List Seg), vs = [.ref ru, .ref p1, .ref b1, .ref p2, .ref b2] ∧ RuAt H ru r ∧ H b1 = some x.t ∧ H b2 = some y.t ∧ x.lo ≤ x.hi ∧ y.lo ≤ y.hi ∧
  PathAt C H p1 D ns r1 ∧ PathAt C H p2 D ms r2 ∧ Bd D ∧ 2 ≤ ns.length ∧ ns.length ≤ 20 ∧ 2 ≤ ms.length ∧ ms.length ≤ 20 ∧ pcs D ns x.lo x.hi = ss.map Seg.li ∧ (∀ s ∈ ss, SegBd 200 100 s ∧ 1 ≤ s.d) ∧ pcs D ms y.lo y.hi = ts.map Seg.li ∧ (∀ s ∈ ts, SegBd 200 100 s ∧ 1 ≤ s.d) ∧ Tabs TT H ∧
  ∀ H', SameT TT H H' → Q (.bl (sepB r x y ss ts)) H'
def spLSep : Sp := fun vs H Q _ => ∃ (ru b1 q1 b2 q2 : Addr) (r : RuD) (x y : Bx) (ss ts : List Seg), vs = [.ref ru, .ref b1, .ref q1, .ref b2, .ref q2] ∧ RuAt H ru r ∧ H b1 = some x.t ∧ H b2 = some y.t ∧ LoT H q1 (ss.map Seg.li) ∧ LoT H q2 (ts.map Seg.li) ∧ (∀ s ∈ ss, SegBd 200 100 s ∧ 1 ≤ s.d) ∧ (∀ s ∈ ts, SegBd 200 100 s ∧ 1 ≤ s.d) ∧ ss.length ≤ 100 ∧ ts.length ≤ 100 ∧
  ∀ H', Same H H' → Q (.bl (sepB r x y ss ts)) H'
def spRulesB (K : PySem.W.Frag) : Sp := fun vs H Q _ => ∃ (d c : Addr), vs = [.ref d] ∧ St1 K H d c ∧ ∀ ru (r : RuD) H', H ru = none → RuAt H' ru r → St1 K H' d c → Keep d H H' → Q (.ref ru) H'
def spBoxB (K : PySem.W.Frag) : Sp := fun vs H Q _ => ∃ (d c b : Addr) (D : CD) (ns : List Str), vs = [.ref d, .ref b] ∧ St1 K H d c ∧ H b = some (.lst ((bgs D ns).map V.int)) ∧ Bd D ∧ 2 ≤ ns.length ∧ ns.length ≤ 20 ∧ ∀ q (x : Bx) H', H q = none → x.ok → H' q = some x.t → St1 K H' d c → Keep d H H' → Q (.ref q) H'
end Sk

set_option Elab.async false
set_option linter.all false
set_option maxRecDepth 100000
set_option maxHeartbeats 4000000
namespace Sk
open PySem PySem.Spec PyProof.Rows L2 GenW GxR
/-! min over a generator expression whose element may call own defs -/
/-- the least of some -/
def mins : List Int → Int
  | [] => 0
  | z :: zs => zs.foldl (fun b z => if z < b then z else b) z
theorem mins_app {zs : List Int} {z : Int} (h : zs ≠ []) : mins (zs ++ [z]) = if z < mins zs then z else mins zs := by
  cases zs with
  | nil => exact absurd rfl h
  | cons y ys =>
    show (ys ++ [z]).foldl _ y = _
    rw [List.foldl_append]
    rfl
theorem mins_spec : ∀ {zs : List Int}, zs ≠ [] → mins zs ∈ zs ∧ ∀ z ∈ zs, mins zs ≤ z := by
  have go : ∀ (ys : List Int) (y : Int), ((ys.foldl (fun b z => if z < b then z else b) y) = y ∨ (ys.foldl (fun b z => if z < b then z else b) y) ∈ ys) ∧ (ys.foldl (fun b z => if z < b then z else b) y) ≤ y ∧ ∀ z ∈ ys, (ys.foldl (fun b z => if z < b then z else b) y) ≤ z := by
    intro ys
    induction ys with
    | nil => intro y; exact ⟨.inl rfl, Int.le_refl _, fun _ h => nomatch h⟩
    | cons x ys ih =>
      intro y
      obtain ⟨a, b, c⟩ := ih (if x < y then x else y)
      show (ys.foldl _ (if x < y then x else y) = y ∨ ys.foldl _ (if x < y then x else y) ∈ x :: ys) ∧ ys.foldl _ (if x < y then x else y) ≤ y ∧ _
      refine ⟨?_, Int.le_trans b (by split <;> omega), fun z hz => ?_⟩
      · rcases a with a | a
        · rw [a]
          split
          · exact .inr List.mem_cons_self
          · exact .inl rfl
        · exact .inr (List.mem_cons_of_mem _ a)
      · rcases List.mem_cons.mp hz with rfl | hz
        · exact Int.le_trans b (by split <;> omega)
        · exact c z hz
  intro zs h
  cases zs with
  | nil => exact absurd rfl h
  | cons y ys =>
    obtain ⟨a, b, c⟩ := go ys y
    refine ⟨?_, fun z hz => ?_⟩
    · rcases a with a | a
      · show ys.foldl _ y ∈ _
        rw [a]; exact List.mem_cons_self
      · exact List.mem_cons_of_mem _ a
    · rcases List.mem_cons.mp hz with rfl | hz
      · exact b
      · exact c z hz
/-- every value is a number -/
def eInt : Eats := fun _ y _ go => (∃ z, y = .int z) ∧ go
theorem eInt_mono : EatsMono eInt := fun _ _ _ _ _ f h => ⟨h.1, f h.2⟩
theorem int_inj {xs ys : List Int} (h : xs.map V.int = ys.map V.int) : xs = ys := (List.map_inj_right (fun a b e => V.int.inj e)).mp h
section
variable {Y : GEx} {σ : L2.St} {H : Hp} {s s0 s1 : Shared}
/-- the frame's state goes past what the consumer did -/
theorem GEx.Ok.past (O : Y.Ok) (I : Inv Y.Xg (Y.pn s0) σ H s) (there : ∀ b ∈ Y.a :: Y.Sx, ∃ o, s0.heap.get? b = some o) (A : Aft Y.Sx s s1) : Inv Y.Xg [] σ H s1 := by
  have hT : ∀ b ∈ Y.a :: Y.Sx, H b = none := fun b hb => by
    obtain ⟨o, e⟩ := there b hb
    exact (O.pinned I hb e).2
  have I0 : Inv Y.Xg [] σ H s := I.pins_of fun p hp => absurd (show p ∈ ([] : List (Addr × Obj)) ++ [] from hp) (by simp)
  have nt : ∀ b u, H b = some u → b ∉ Y.Sx := fun b u q hb => by rw [hT b (List.mem_cons_of_mem _ hb)] at q; cases q
  obtain ⟨z1, z2, z3, z4⟩ := A
  obtain ⟨hh, g', d, t, o⟩ := s1
  have ho : o = s.os := z1
  subst ho
  refine I0.step (h' := hh) (g' := g') (t' := t) (d' := d) (ch := Y.Sx) (fun b hb => ?_) (fun b ob _ _ hc q _ => z3 b ob hc q) (fun b ob _ _ hc q _ => ⟨ob.slots, z3 b ob hc q⟩)
      (fun _ _ _ _ n => n) (fun b ob hc q => ⟨ob, z3 b ob hc q⟩) (fun _ _ q => q) (fun _ _ _ q => q) (fun b ps q => ⟨#[], by rw [q]; simp⟩) (fun m hm => ?_) (fun b u q => ?_) z2
  · have h1 := O.new b (List.mem_cons_of_mem _ hb)
    refine ⟨.inr (Nat.le_of_lt h1), fun z => ?_, fun y c e z => ?_, fun p hp => absurd (show p ∈ ([] : List (Addr × Obj)) ++ [] from hp) (by simp)⟩
    · have z : b = Y.cenv.locals := z
      rw [z, O.loc] at h1
      exact Nat.lt_irrefl _ h1
    · have h2 := O.cel y c e
      rw [z] at h2
      exact Nat.lt_irrefl _ (Nat.lt_trans h1 h2)
  · obtain ⟨ob, es, ep, ho, r⟩ := hm
    refine ⟨ob, es, ep, z3 _ ob (fun hb => ?_) ho, r⟩
    have h1 := O.new _ (List.mem_cons_of_mem _ hb)
    have h1 : Y.s4.heap.objs.size < Y.cenv.locals := h1
    rw [O.loc] at h1
    exact Nat.lt_irrefl _ h1
  · refine (I0.hok b u q).stay (fun c v hc y => z3 c v ?_ y) (fun _ y => y) fun _ _ y => y
    rcases hc with y | y
    · rw [y]; exact nt b u q
    · exact nt c _ y
end
abbrev bestL (vs : Array Value) (c : Nat) : Obj := { cls := .type "list", dict := none, data := .seq vs c, slots := #[] }
section
variable {Y : GEx} {A : Around} {R : Result → Shared → Prop} {Qd : Int → Hp → Prop} {S : Addr}
theorem aft_put {s1 s2 : Shared} {x y : Array Value} {c : Nat} (hos : s2.os = s1.os) (hb : AllBare s2.gens) (e : s1.heap.get? S = some (bestL x c)) (hh : s2.heap = s1.heap.update S (Obj.mapSeq fun _ => y)) : Aft [S] s1 s2 := by
  refine ⟨hos, hb, fun b o n e' => ?_, fun b hb => ?_⟩
  · rw [hh]
    exact (Heap.get?_update_other _ _ (fun h : S = b => n (by rw [h]; exact List.mem_singleton.mpr rfl))).trans e'
  · rw [List.mem_singleton.mp hb, hh, Heap.get?_update_self _ e rfl]
    exact ⟨_, rfl, fun v z => by cases z⟩
theorem aft_id {s1 s2 : Shared} {x : Array Value} {c : Nat} (hos : s2.os = s1.os) (hb : AllBare s2.gens) (e : s1.heap.get? S = some (bestL x c)) (hh : s2.heap = s1.heap) : Aft [S] s1 s2 := by
  refine ⟨hos, hb, fun b o n e' => by rw [hh]; exact e', fun b hb => ?_⟩
  rw [List.mem_singleton.mp hb, hh, e]
  exact ⟨_, rfl, fun v z => by cases z⟩
theorem min_loop1 (O : Y.Ok) (hB : Y.B = A.in1.in1) (hS : Y.Sx = [S]) (hC : Y.C = eInt) (hF : Y.F = fun ys H => ∃ zs, ys = zs.map V.int ∧ zs ≠ [] ∧ Qd (mins zs) H) (hh : A.handled = none) (hroom : A.depth < recursionLimit)
    (hR : ∀ k t σ' H' s1, Inv Y.Xg [] σ' H' s1 → Qd k H' → R (.ok (.ret (.int k t))) s1) : ∀ (n : Nat) (zs : List Int) (H : Hp) (gs : GenState) (sp s : Shared) (t : Tok) (c : Nat), zs ≠ [] → Y.Rdy n (zs.map V.int) H gs sp → Aft Y.Sx sp s → s.heap.IsGen Y.a Y.g → s.gens[Y.g]? = some gs → s.heap.NoLimit →
      s.heap.get? S = some (bestL #[.int (mins zs) t, .int (mins zs) t] c) → codeAny Y.M A (.builtin "min.loop" ⟨[.ref Y.a, .none, .ref S], []⟩) R s := by
  have hname : (toString "min" ++ toString ".loop" : String) = "min.loop" := by decide
  have hSm : S ∈ Y.a :: Y.Sx := by rw [hS]; simp
  have main : ∀ (n : Nat) (zs : List Int) (H : Hp) (gs : GenState) (sp s : Shared) (t : Tok) (c : Nat), zs ≠ [] → Y.Rdy n (zs.map V.int) H gs sp → Aft Y.Sx sp s → s.heap.IsGen Y.a Y.g → s.gens[Y.g]? = some gs → s.heap.NoLimit →
      s.heap.get? S = some (bestL #[.int (mins zs) t, .int (mins zs) t] c) →
      (∀ (zs' : List Int) (H' : Hp) (gs' : GenState) (sp' s' : Shared) (t' : Tok) (c' : Nat), zs' ≠ [] → Y.Rp n (zs'.map V.int) H' gs' sp' → Aft Y.Sx sp' s' → s'.heap.IsGen Y.a Y.g → s'.gens[Y.g]? = some gs' → s'.heap.NoLimit →
        s'.heap.get? S = some (bestL #[.int (mins zs') t', .int (mins zs') t'] c') → codeAny Y.M A (.builtin "min.loop" ⟨[.ref Y.a, .none, .ref S], []⟩) R s') → codeAny Y.M A (.builtin "min.loop" ⟨[.ref Y.a, .none, .ref S], []⟩) R s := by
    intro n zs H gs sp s t c hne rd af hg hgs nl hSo ih
    have there : ∀ b ∈ Y.a :: Y.Sx, ∃ o, s.heap.get? b = some o := fun b hb => by
      rcases List.mem_cons.mp hb with z | z
      · obtain ⟨o, n1, n2, e, r⟩ := hg
        exact ⟨o, by rw [z]; exact e⟩
      · rw [hS] at z
        exact ⟨_, by rw [List.mem_singleton.mp z]; exact hSo⟩
    refine codeAny_builtin F.entry_min_loop ?_
    rw [Around.under_plainId F.plain_min_loop _]
    show wpAny _ A.in1 (seqItems? (.ref S) >>= _) _ _ s
    refine wpAny_bind (wpAny_seqItems hSo rfl ?_)
    show wpAny _ A.in1 (tryCatch (pyNext (.ref Y.a)) _ >>= _) _ _ s
    refine wpAny_bind (wpAny_tryCatch (GEx.next O hB hh hroom nl rd af hg hgs (Array.getElem?_eq_some_iff.mp hgs).1 (fun σ' H' s1 s2 I f a => ?_) fun v y σ' H' s1 gs' I r cc hb hsz => ?_))
    · rw [hF] at f
      obtain ⟨zs', ez, _, f⟩ := f
      obtain rfl := int_inj ez
      have e1 := (O.pinned I hSm hSo).1
      have e2 := a.keep _ _ (by simp) e1
      show wpAny _ A.in1 (updateSeq S (fun _ => #[]) >>= _) _ _ _
      refine wpAny_bind ?_
      refine wpAny_updateSeq e2 rfl (wpAny_bind (wpAny_letGo (wpAny_pure ?_)))
      refine hR _ t σ' H' _ (O.past I there ?_) f
      rw [hS]
      refine ⟨a.os, a.bare, fun b o n e' => ?_, fun b hb => ?_⟩
      · exact (Heap.get?_update_other _ _ (fun h : S = b => n (by rw [h]; exact List.mem_singleton.mpr rfl))).trans (a.keep _ _ (by simp) e')
      · rw [List.mem_singleton.mp hb]
        exact ⟨_, Heap.get?_update_self _ e2 rfl, fun v z => by cases z⟩
    · rw [hC] at cc
      obtain ⟨⟨z, rfl⟩, cc⟩ := cc
      obtain ⟨t', rfl⟩ : ∃ t', v = .int z t' := r
      have e1 := (O.pinned I hSm hSo).1
      have e2 : (s1.setGen Y.g gs').heap.get? S = _ := e1
      rw [show zs.map V.int ++ [V.int z] = (zs ++ [z]).map V.int by rw [List.map_append]; rfl] at cc
      have hg1 : (s1.setGen Y.g gs').heap.IsGen Y.a Y.g := by
        obtain ⟨o, n1, n2, e, r⟩ := hg
        exact ⟨o, n1, n2, (O.pinned I List.mem_cons_self e).1, r⟩
      have hgs1 := setGen_at (x := gs') (Nat.lt_of_lt_of_le (Array.getElem?_eq_some_iff.mp hgs).1 hsz)
      have hna : S ≠ Y.a := fun z => O.aS (by rw [← z, hS]; simp)
      show wpAny _ A.in1 (tryCatch (holding [.int z t', .int z t'] (richCompare .Lt (.int z t') (.int (mins zs) t) >>= _)) _ >>= _) _ _ _
      refine wpAny_bind (wpAny_tryCatch (wpAny_holding (wpAny_bind (CmpOf.ints_lt (P := fun j v => ∃ t, v = .int (if j = 0 then z else mins zs) t) (fun j => if j = 0 then z else mins zs) (fun j v h => h) 0 1 _ _ _ _ _ ⟨t', rfl⟩ ⟨t, rfl⟩ ?_))))
      refine wpAny_bind (wpAny_holding (wpAny_truthy_bool ?_))
      refine wpAny_bind (wpAny_letGo (wpAny_pure ?_))
      have em := mins_app (z := z) hne
      show wpAny _ A.in1 (if decide (z < mins zs) = true then _ else _) _ _ _
      by_cases hlt : z < mins zs
      · rw [if_pos (decide_eq_true hlt)]
        rw [if_pos hlt] at em
        refine wpAny_bind ?_
        refine wpAny_updateSeq e2 rfl (wpAny_bind (wpAny_letGo ?_))
        rw [hname]
        refine wpAny_pure ⟨plainId_quiet F.plain_min_loop _, ih (zs ++ [z]) H' gs' s1 _ t' c (by simp) cc ?_ ?_ hgs1 ?_ ?_⟩
        · rw [hS]
          exact aft_put (s2 := { (s1.setGen Y.g gs') with heap := s1.heap.update S (Obj.mapSeq fun _ => #[Value.int z t', Value.int z t']) }) rfl (allBare_setGen I.bare hb) e1 rfl
        · obtain ⟨o, n1, n2, e, r⟩ := hg1
          exact ⟨o, n1, n2, (Heap.get?_update_other _ _ hna).trans e, r⟩
        · exact (O.past (s1 := { (s1.setGen Y.g gs') with heap := s1.heap.update S (Obj.mapSeq fun _ => #[Value.int z t', Value.int z t']) }) I there (by rw [hS]; exact aft_put rfl (allBare_setGen I.bare hb) e1 rfl)).nolimit
        · rw [em]
          exact Heap.get?_update_self _ e2 rfl
      · rw [if_neg (by rw [decide_eq_false hlt]; exact Bool.false_ne_true)]
        rw [if_neg hlt] at em
        refine wpAny_bind (wpAny_letGo ?_)
        rw [hname]
        refine wpAny_pure ⟨plainId_quiet F.plain_min_loop _, ih (zs ++ [z]) H' gs' s1 _ t c (by simp) cc ?_ hg1 hgs1 I.nolimit ?_⟩
        · rw [hS]
          exact aft_id rfl (allBare_setGen I.bare hb) e1 rfl
        · rw [em]
          exact e2
  intro n
  induction n with
  | zero =>
    intro zs H gs sp s t c hne rd af hg hgs nl hSo
    exact main 0 zs H gs sp s t c hne rd af hg hgs nl hSo fun _ _ _ _ _ _ _ _ q => (show False from q).elim
  | succ n ih =>
    intro zs H gs sp s t c hne rd af hg hgs nl hSo
    exact main (n + 1) zs H gs sp s t c hne rd af hg hgs nl hSo fun zs' H' gs' sp' s' t' c' a1 a2 a3 a4 a5 a6 a7 => ih zs' H' gs' sp' s' t' c' a1 a2 a3 a4 a5 a6 a7
/-- .. from the start -/
theorem min_first (O : Y.Ok) (hB : Y.B = A.in1.in1) (hS : Y.Sx = [S]) (hC : Y.C = eInt) (hF : Y.F = fun ys H => ∃ zs, ys = zs.map V.int ∧ zs ≠ [] ∧ Qd (mins zs) H) (hh : A.handled = none) (hroom : A.depth < recursionLimit)
    (hR : ∀ k t σ' H' s1, Inv Y.Xg [] σ' H' s1 → Qd k H' → R (.ok (.ret (.int k t))) s1) (n : Nat) (H : Hp) (gs : GenState) (sp s : Shared) (c : Nat) (rd : Y.Rdy n [] H gs sp) (af : Aft Y.Sx sp s) (hg : s.heap.IsGen Y.a Y.g) (hgs : s.gens[Y.g]? = some gs) (nl : s.heap.NoLimit)
    (hSo : s.heap.get? S = some (bestL #[] c)) : codeAny Y.M A (.builtin "min.loop" ⟨[.ref Y.a, .none, .ref S], []⟩) R s := by
  have hname : (toString "min" ++ toString ".loop" : String) = "min.loop" := by decide
  have hSm : S ∈ Y.a :: Y.Sx := by rw [hS]; simp
  have there : ∀ b ∈ Y.a :: Y.Sx, ∃ o, s.heap.get? b = some o := fun b hb => by
    rcases List.mem_cons.mp hb with z | z
    · obtain ⟨o, n1, n2, e, r⟩ := hg
      exact ⟨o, by rw [z]; exact e⟩
    · rw [hS] at z
      exact ⟨_, by rw [List.mem_singleton.mp z]; exact hSo⟩
  refine codeAny_builtin F.entry_min_loop ?_
  rw [Around.under_plainId F.plain_min_loop _]
  show wpAny _ A.in1 (seqItems? (.ref S) >>= _) _ _ s
  refine wpAny_bind (wpAny_seqItems hSo rfl ?_)
  show wpAny _ A.in1 (tryCatch (pyNext (.ref Y.a)) _ >>= _) _ _ s
  refine wpAny_bind (wpAny_tryCatch (GEx.next O hB hh hroom nl rd af hg hgs (Array.getElem?_eq_some_iff.mp hgs).1 (fun σ' H' s1 s2 I f a => ?_) fun v y σ' H' s1 gs' I r cc hb hsz => ?_))
  · rw [hF] at f
    obtain ⟨zs', ez, ne, f⟩ := f
    cases zs' with
    | nil => exact absurd rfl ne
    | cons u us => cases ez
  · rw [hC] at cc
    obtain ⟨⟨z, rfl⟩, cc⟩ := cc
    obtain ⟨t', rfl⟩ : ∃ t', v = .int z t' := r
    have e1 := (O.pinned I hSm hSo).1
    have e2 : (s1.setGen Y.g gs').heap.get? S = _ := e1
    have hg1 : (s1.setGen Y.g gs').heap.IsGen Y.a Y.g := by
      obtain ⟨o, n1, n2, e, r⟩ := hg
      exact ⟨o, n1, n2, (O.pinned I List.mem_cons_self e).1, r⟩
    have hgs1 := setGen_at (x := gs') (Nat.lt_of_lt_of_le (Array.getElem?_eq_some_iff.mp hgs).1 hsz)
    have hna : S ≠ Y.a := fun z => O.aS (by rw [← z, hS]; simp)
    have put : Aft [S] s1 { (s1.setGen Y.g gs') with heap := s1.heap.update S (Obj.mapSeq fun _ => #[Value.int z t', Value.int z t']) } := aft_put rfl (allBare_setGen I.bare hb) e1 rfl
    show wpAny _ A.in1 (updateSeq S (fun _ => #[.int z t', .int z t']) >>= _) _ _ _
    refine wpAny_bind ?_
    refine wpAny_updateSeq e2 rfl ?_
    rw [hname]
    cases n with
    | zero => exact (show False from cc).elim
    | succ n =>
      refine wpAny_pure ⟨plainId_quiet F.plain_min_loop _, min_loop1 O hB hS hC hF hh hroom hR n [z] H' gs' s1 _ t' (c + 1) (by simp) cc (by rw [hS]; exact put) ?_ hgs1 (O.past I there (by rw [hS]; exact put)).nolimit ?_⟩
      · obtain ⟨o, n1, n2, e, r⟩ := hg1
        exact ⟨o, n1, n2, (Heap.get?_update_other _ _ hna).trans e, r⟩
      · have e3 := Heap.get?_update_self (Obj.mapSeq fun _ => #[Value.int z t', Value.int z t']) e2 rfl
        exact e3
end
section
variable {X : Cx}
theorem call_minP {P : Program} {w : World} {A : Around} {Q : Value → Shared → Prop} {E : Value → Shared → Prop} {s : Shared} {a g : Addr} (hg : s.heap.IsGen a g)
    (h : codeAny (model P w) A (.builtin "min.loop" ⟨[.ref a, .none, .ref s.heap.objs.size], []⟩) (RetQ Q E) { s with heap := s.heap.push (bestL #[] 0) }) : wpAny (model P w) A (call (.builtin "min") [.ref a]) Q E s := by
  have hname : (toString "min" ++ toString ".loop" : String) = "min.loop" := by decide
  refine call_function_tree F.kind_min F.plain_min F.entry_min (F.args_min1 _) ?_
  show wpAny _ A.in1 (Builtin.Builtins.bindParams "min" ["key", "default"] 0 ⟨[], []⟩ >>= _) _ _ s
  refine wpAny_bind (wpAny_of_eq (show Builtin.Builtins.bindParams "min" ["key", "default"] 0 ⟨[], []⟩ = pure [none, none] from rfl) ?_)
  refine wpAny_bind (wpAny_pure ?_)
  refine wpAny_bind (wpAny_pyIter_gen hg ?_)
  refine wpAny_bind (wpAny_newObj_type ?_)
  rw [hname]
  exact wpAny_pure ⟨plainId_quiet F.plain_min_loop _, h⟩
/-- one more value is out -/
def MN (Nx : List Int → Hp → Prop) (zs : List Int) (y : V) (H : Hp) : Prop := (∃ z, y = .int z) ∧ ∃ zs', zs.map V.int ++ [y] = zs'.map V.int ∧ Nx zs' H
theorem MN.of {Nx : List Int → Hp → Prop} {zs : List Int} {z : Int} {H : Hp} (h : Nx (zs ++ [z]) H) : MN Nx zs (.int z) H := ⟨⟨z, rfl⟩, zs ++ [z], by rw [List.map_append]; rfl, h⟩
def MZ (Nx : List Int → Hp → Prop) (zs : List Int) (H : Hp) : Prop := ∃ zs', zs.map V.int = zs'.map V.int ∧ Nx zs' H
/-- min of elt for target in iter if ..; W carries what is out so far -/
def tMinG (P : Addr) (wi : TI) (g : TG) (tt : TT) (te : TE) (vs : List Nat) : TE := fun σ H Q => wi σ H fun J H1 => TabG H1 P ∧ ∀ H2, Tabbed P H1 H2 →
  ∃ W : Nat → Nat → List Int → Hp → Prop, (∃ m, W 0 m [] H2) ∧ ∀ i m zs H, W i m zs H → (J.stop i H ∧ zs ≠ [] ∧ Q (.int (mins zs)) H) ∨ (J.go i H ∧ ∃ Nx : List Int → Hp → Prop, (∀ zs' H', Nx zs' H' → ∃ m', m' < m ∧ W (i + 1) m' zs' H') ∧
    ∀ x H', J.yld i H x H' → g x (wipe σ vs) H' fun σ2 H2 => wipe σ2 vs = wipe σ vs ∧ tt σ2 H2 fun b H3 => if b = true then te σ2 H3 fun y H4 => MN Nx zs y H4 else MZ Nx zs H3)
theorem tMinG_step {J : It} {g : TG} {tt : TT} {te : TE} {vs : List Nat} {σ : L2.St} {Q : VK} {W : Nat → Nat → List Int → Hp → Prop}
    (h : ∀ i m zs H, W i m zs H → (J.stop i H ∧ zs ≠ [] ∧ Q (.int (mins zs)) H) ∨ (J.go i H ∧ ∃ Nx : List Int → Hp → Prop, (∀ zs' H', Nx zs' H' → ∃ m', m' < m ∧ W (i + 1) m' zs' H') ∧
      ∀ x H', J.yld i H x H' → g x (wipe σ vs) H' fun σ2 H2 => wipe σ2 vs = wipe σ vs ∧ tt σ2 H2 fun b H3 => if b = true then te σ2 H3 fun y H4 => MN Nx zs y H4 else MZ Nx zs H3)) :
    GStep (fun i m ys H => ∃ zs, ys = zs.map V.int ∧ W i m zs H) J g tt te vs (wipe σ vs) eInt (fun ys H => ∃ zs, ys = zs.map V.int ∧ zs ≠ [] ∧ Q (.int (mins zs)) H) := fun i m ys H ⟨zs, ey, w⟩ => by
  subst ey
  rcases h i m zs H w with ⟨z1, z2, z3⟩ | ⟨go, Nx, hN, st⟩
  · exact .inl ⟨z1, zs, rfl, z2, z3⟩
  · exact .inr ⟨go, fun ys H => ∃ zs, ys = zs.map V.int ∧ Nx zs H, fun ys' H' ⟨zs', e', nx⟩ => by
      obtain ⟨m', h1, h2⟩ := hN zs' H' nx
      exact ⟨m', h1, zs', e', h2⟩, st⟩
section
variable {c P : Addr} {elt tg iter : Expr} {ifs : List Expr} {scope : Scope} {own : List (Str × Nat)} {p pos gpos : Pos} {wi : TI} {g : TG} {tt : TT} {te : TE} {k : Nat}
theorem pe_minG (hr : Room (k + 1) X.A) (hn : X.N.Nodup) (hgl : Gl X "min") (hm : X.mg "min" = none) (TB : LamX.TabB X.base X.mg c P) (hcode : X.env.code = .ref c) (G : GScp scope) (ok : BlkOk X.N X.env.scope scope own) (hi : PI X tg iter wi)
    (hg : GPG X k scope tg g) (ht : GPT X k scope ifs tt) (he : GPE X k scope elt te)
    (hb : bootBuiltins "min" = some (.builtin "min") := by first | rfl | decide +kernel) (hs : ∀ v, genFold iter X.env v = pure v := by intro _; rfl)
    (hst : starEach [.GeneratorExp elt [⟨tg, iter, ifs, 0⟩] scope gpos] X.env = (false, eval (.GeneratorExp elt [⟨tg, iter, ifs, 0⟩] scope gpos) X.env) :: starEach [] X.env := by rfl) :
    PE X (.Call (.Name "min" p) [.GeneratorExp elt [⟨tg, iter, ifs, 0⟩] scope gpos] [] pos) (tMinG P wi g tt te (own.map (·.2))) := by
  refine ⟨fun pins s σ H Q I h => ?_⟩
  refine wpAny_Call_Name_kw (ld_blt I hgl hm hb ?_)
  refine PyProof.Rows.callWith_builtin1 ?_ hst (by rfl)
  rw [hst]
  show wpAny _ _ (spliced ((false, eval (.GeneratorExp elt [⟨tg, iter, ifs, 0⟩] scope gpos) X.env) :: backTo pos (starEach [] X.env))) _ _ s
  refine Calls.spliced_cons (gen_made (R := fun J H1 => _) hr TB hcode G ok hi hs I h fun J H1 H2 s4 cenv fp it tn a gn s5 q tb M => ?_)
  refine Calls.spliced_nil (call_minP M.isg ?_)
  obtain ⟨W, ⟨m, w0⟩, st⟩ := q H2 tb
  obtain ⟨code, hce⟩ := M.env
  subst hce
  have hlt : a < s5.heap.objs.size := by rw [M.lt]; exact Nat.lt_succ_self a
  obtain ⟨O, rd⟩ := gen_rdy (B := X.A.in1.in1) (Sx := [s5.heap.objs.size]) hr (nearA2 _) G ok hn M (fun A r => hg _ _ _ _ _ _ A r) (fun A r => ht _ _ _ _ _ _ A r) (fun A r => he _ _ _ _ _ _ A r) (fun b z => by rw [List.mem_singleton.mp z]; exact hlt) eInt_mono (tMinG_step st) m ⟨[], rfl, w0⟩
  have hpush : ∀ b o, s5.heap.get? b = some o → (s5.heap.push (bestL #[] 0)).get? b = some o := fun b o e => Heap.get?_push_of_some _ e
  refine min_first (Qd := fun k H => Q (.int k) H) (S := s5.heap.objs.size) (Y := mkY X s4 H2 _ fp X.A.in1.in1 (wipe σ (own.map (·.2))) (.GeneratorExp elt [⟨tg, iter, ifs, 0⟩] scope gpos) it a gn [s5.heap.objs.size] eInt (fun ys H => ∃ zs, ys = zs.map V.int ∧ zs ≠ [] ∧ Q (.int (mins zs)) H)) O rfl rfl rfl rfl hr.hd hr.depth (fun k t σ' H' s1 I' q => ?_) m H2 _ s5 _ 0 rd ?_ ?_ ?_ ?_ (Heap.get?_push_size _ rfl)
  · exact ⟨.int k, H', GEx.out (Y := mkY X s4 H2 _ fp X.A.in1.in1 (wipe σ (own.map (·.2))) (.GeneratorExp elt [⟨tg, iter, ifs, 0⟩] scope gpos) it a gn [s5.heap.objs.size] eInt (fun ys H => ∃ zs, ys = zs.map V.int ∧ zs ≠ [] ∧ Q (.int (mins zs)) H)) M.inv (fun b hb => (M.fps b hb).1) I' (Aft.refl I'.bare), ⟨t, rfl⟩, q⟩
  · refine ⟨rfl, ?_, fun b o _ e => hpush b o e, fun b hb => ?_⟩
    · show AllBare s5.gens
      rw [M.gens]
      exact M.inv.bare.push rfl
    · rw [List.mem_singleton.mp hb]
      exact ⟨_, Heap.get?_push_size _ rfl, fun v z => by cases z⟩
  · obtain ⟨o, n1, n2, e, r⟩ := M.isg
    exact ⟨o, n1, n2, hpush _ _ e, r⟩
  · show s5.gens[gn]? = _
    rw [M.gens, M.num]
    simp
  · exact (M.inv.nolimit.keeps M.keep).push _
end
end
section
variable {K : PySem.W.Frag} {a : Addr} {xs : List V} {g : TG} {tt : TT} {te : TE} {vs : List Nat} {σ : L2.St} {H2 : Hp} {Q : VK}
/-- over a list that the element leaves as it is -/
theorem min_list (Pv : Nat → List Int → Hp → Prop) (h0 : Pv 0 [] H2) (hl : ∀ i zs H, i ≤ xs.length → Pv i zs H → SqL K H a xs)
    (hs : ∀ i zs x H, xs[i]? = some x → Pv i zs H → g x (wipe σ vs) H fun σ2 H2 => wipe σ2 vs = wipe σ vs ∧ tt σ2 H2 fun b H3 => if b = true then te σ2 H3 fun y H4 => MN (Pv (i + 1)) zs y H4 else MZ (Pv (i + 1)) zs H3) (hd : ∀ zs H, Pv xs.length zs H → zs ≠ [] ∧ Q (.int (mins zs)) H) :
    ∃ W : Nat → Nat → List Int → Hp → Prop, (∃ m, W 0 m [] H2) ∧ ∀ i m zs H, W i m zs H → ((Itl K a).stop i H ∧ zs ≠ [] ∧ Q (.int (mins zs)) H) ∨ ((Itl K a).go i H ∧ ∃ Nx : List Int → Hp → Prop, (∀ zs' H', Nx zs' H' → ∃ m', m' < m ∧ W (i + 1) m' zs' H') ∧
      ∀ x H', (Itl K a).yld i H x H' → g x (wipe σ vs) H' fun σ2 H2 => wipe σ2 vs = wipe σ vs ∧ tt σ2 H2 fun b H3 => if b = true then te σ2 H3 fun y H4 => MN Nx zs y H4 else MZ Nx zs H3) := by
  refine ⟨fun i m zs H => m = xs.length - i ∧ i ≤ xs.length ∧ Pv i zs H, ⟨xs.length, by simp, Nat.zero_le _, h0⟩, fun i m zs H w => ?_⟩
  obtain ⟨hm, hi, p⟩ := w
  have q := hl i zs H hi p
  rcases Nat.lt_or_ge i xs.length with z | z
  · refine .inr ⟨⟨xs, xs[i], q, by simp [z]⟩, Pv (i + 1), fun zs' H' p' => ⟨xs.length - (i + 1), by omega, rfl, z, p'⟩, fun x H' y => ?_⟩
    obtain ⟨rfl, y⟩ := y
    exact hs i zs x _ (y xs q) p
  · obtain rfl : i = xs.length := by omega
    exact .inl ⟨⟨xs, q, Nat.le_refl _⟩, hd zs H p⟩
end
end Sk

set_option Elab.async false
set_option linter.all false
set_option maxRecDepth 100000
set_option maxHeartbeats 4000000
namespace Sk
open PySem PySem.Spec PyProof.Rows L2 GenW GxR
/-! max over a generator expression whose element may call own defs -/
/-- the greatest of some -/
def maxs : List Int → Int
  | [] => 0
  | z :: zs => zs.foldl (fun b z => if b < z then z else b) z
theorem maxs_app {zs : List Int} {z : Int} (h : zs ≠ []) : maxs (zs ++ [z]) = if maxs zs < z then z else maxs zs := by
  cases zs with
  | nil => exact absurd rfl h
  | cons y ys =>
    show (ys ++ [z]).foldl _ y = _
    rw [List.foldl_append]
    rfl
theorem maxs_spec : ∀ {zs : List Int}, zs ≠ [] → maxs zs ∈ zs ∧ ∀ z ∈ zs, z ≤ maxs zs := by
  have go : ∀ (ys : List Int) (y : Int), ((ys.foldl (fun b z => if b < z then z else b) y) = y ∨ (ys.foldl (fun b z => if b < z then z else b) y) ∈ ys) ∧ y ≤ (ys.foldl (fun b z => if b < z then z else b) y) ∧ ∀ z ∈ ys, z ≤ (ys.foldl (fun b z => if b < z then z else b) y) := by
    intro ys
    induction ys with
    | nil => intro y; exact ⟨.inl rfl, Int.le_refl _, fun _ h => nomatch h⟩
    | cons x ys ih =>
      intro y
      obtain ⟨a, b, c⟩ := ih (if y < x then x else y)
      show (ys.foldl _ (if y < x then x else y) = y ∨ ys.foldl _ (if y < x then x else y) ∈ x :: ys) ∧ y ≤ ys.foldl _ (if y < x then x else y) ∧ _
      refine ⟨?_, Int.le_trans (by split <;> omega) b, fun z hz => ?_⟩
      · rcases a with a | a
        · rw [a]
          split
          · exact .inr List.mem_cons_self
          · exact .inl rfl
        · exact .inr (List.mem_cons_of_mem _ a)
      · rcases List.mem_cons.mp hz with rfl | hz
        · exact Int.le_trans (by split <;> omega) b
        · exact c z hz
  intro zs h
  cases zs with
  | nil => exact absurd rfl h
  | cons y ys =>
    obtain ⟨a, b, c⟩ := go ys y
    refine ⟨?_, fun z hz => ?_⟩
    · rcases a with a | a
      · show ys.foldl _ y ∈ _
        rw [a]; exact List.mem_cons_self
      · exact List.mem_cons_of_mem _ a
    · rcases List.mem_cons.mp hz with rfl | hz
      · exact b
      · exact c z hz
section
variable {Y : GEx} {A : Around} {R : Result → Shared → Prop} {Qd : Int → Hp → Prop} {S : Addr}
theorem max_loop1 (O : Y.Ok) (hB : Y.B = A.in1.in1) (hS : Y.Sx = [S]) (hC : Y.C = eInt) (hF : Y.F = fun ys H => ∃ zs, ys = zs.map V.int ∧ zs ≠ [] ∧ Qd (maxs zs) H) (hh : A.handled = none) (hroom : A.depth < recursionLimit)
    (hR : ∀ k t σ' H' s1, Inv Y.Xg [] σ' H' s1 → Qd k H' → R (.ok (.ret (.int k t))) s1) : ∀ (n : Nat) (zs : List Int) (H : Hp) (gs : GenState) (sp s : Shared) (t : Tok) (c : Nat), zs ≠ [] → Y.Rdy n (zs.map V.int) H gs sp → Aft Y.Sx sp s → s.heap.IsGen Y.a Y.g → s.gens[Y.g]? = some gs → s.heap.NoLimit →
      s.heap.get? S = some (bestL #[.int (maxs zs) t, .int (maxs zs) t] c) → codeAny Y.M A (.builtin "max.loop" ⟨[.ref Y.a, .none, .ref S], []⟩) R s := by
  have hname : (toString "max" ++ toString ".loop" : String) = "max.loop" := by decide
  have hSm : S ∈ Y.a :: Y.Sx := by rw [hS]; simp
  have main : ∀ (n : Nat) (zs : List Int) (H : Hp) (gs : GenState) (sp s : Shared) (t : Tok) (c : Nat), zs ≠ [] → Y.Rdy n (zs.map V.int) H gs sp → Aft Y.Sx sp s → s.heap.IsGen Y.a Y.g → s.gens[Y.g]? = some gs → s.heap.NoLimit →
      s.heap.get? S = some (bestL #[.int (maxs zs) t, .int (maxs zs) t] c) →
      (∀ (zs' : List Int) (H' : Hp) (gs' : GenState) (sp' s' : Shared) (t' : Tok) (c' : Nat), zs' ≠ [] → Y.Rp n (zs'.map V.int) H' gs' sp' → Aft Y.Sx sp' s' → s'.heap.IsGen Y.a Y.g → s'.gens[Y.g]? = some gs' → s'.heap.NoLimit →
        s'.heap.get? S = some (bestL #[.int (maxs zs') t', .int (maxs zs') t'] c') → codeAny Y.M A (.builtin "max.loop" ⟨[.ref Y.a, .none, .ref S], []⟩) R s') → codeAny Y.M A (.builtin "max.loop" ⟨[.ref Y.a, .none, .ref S], []⟩) R s := by
    intro n zs H gs sp s t c hne rd af hg hgs nl hSo ih
    have there : ∀ b ∈ Y.a :: Y.Sx, ∃ o, s.heap.get? b = some o := fun b hb => by
      rcases List.mem_cons.mp hb with z | z
      · obtain ⟨o, n1, n2, e, r⟩ := hg
        exact ⟨o, by rw [z]; exact e⟩
      · rw [hS] at z
        exact ⟨_, by rw [List.mem_singleton.mp z]; exact hSo⟩
    refine codeAny_builtin F.entry_max_loop ?_
    rw [Around.under_plainId F.plain_max_loop _]
    show wpAny _ A.in1 (seqItems? (.ref S) >>= _) _ _ s
    refine wpAny_bind (wpAny_seqItems hSo rfl ?_)
    show wpAny _ A.in1 (tryCatch (pyNext (.ref Y.a)) _ >>= _) _ _ s
    refine wpAny_bind (wpAny_tryCatch (GEx.next O hB hh hroom nl rd af hg hgs (Array.getElem?_eq_some_iff.mp hgs).1 (fun σ' H' s1 s2 I f a => ?_) fun v y σ' H' s1 gs' I r cc hb hsz => ?_))
    · rw [hF] at f
      obtain ⟨zs', ez, _, f⟩ := f
      obtain rfl := int_inj ez
      have e1 := (O.pinned I hSm hSo).1
      have e2 := a.keep _ _ (by simp) e1
      show wpAny _ A.in1 (updateSeq S (fun _ => #[]) >>= _) _ _ _
      refine wpAny_bind ?_
      refine wpAny_updateSeq e2 rfl (wpAny_bind (wpAny_letGo (wpAny_pure ?_)))
      refine hR _ t σ' H' _ (O.past I there ?_) f
      rw [hS]
      refine ⟨a.os, a.bare, fun b o n e' => ?_, fun b hb => ?_⟩
      · exact (Heap.get?_update_other _ _ (fun h : S = b => n (by rw [h]; exact List.mem_singleton.mpr rfl))).trans (a.keep _ _ (by simp) e')
      · rw [List.mem_singleton.mp hb]
        exact ⟨_, Heap.get?_update_self _ e2 rfl, fun v z => by cases z⟩
    · rw [hC] at cc
      obtain ⟨⟨z, rfl⟩, cc⟩ := cc
      obtain ⟨t', rfl⟩ : ∃ t', v = .int z t' := r
      have e1 := (O.pinned I hSm hSo).1
      have e2 : (s1.setGen Y.g gs').heap.get? S = _ := e1
      rw [show zs.map V.int ++ [V.int z] = (zs ++ [z]).map V.int by rw [List.map_append]; rfl] at cc
      have hg1 : (s1.setGen Y.g gs').heap.IsGen Y.a Y.g := by
        obtain ⟨o, n1, n2, e, r⟩ := hg
        exact ⟨o, n1, n2, (O.pinned I List.mem_cons_self e).1, r⟩
      have hgs1 := setGen_at (x := gs') (Nat.lt_of_lt_of_le (Array.getElem?_eq_some_iff.mp hgs).1 hsz)
      have hna : S ≠ Y.a := fun z => O.aS (by rw [← z, hS]; simp)
      show wpAny _ A.in1 (tryCatch (holding [.int z t', .int z t'] (richCompare .Gt (.int z t') (.int (maxs zs) t) >>= _)) _ >>= _) _ _ _
      refine wpAny_bind (wpAny_tryCatch (wpAny_holding (wpAny_bind (CmpOf.ints_gt (P := fun j v => ∃ t, v = .int (if j = 0 then z else maxs zs) t) (fun j => if j = 0 then z else maxs zs) (fun j v h => h) 0 1 _ _ _ _ _ ⟨t', rfl⟩ ⟨t, rfl⟩ ?_))))
      refine wpAny_bind (wpAny_holding (wpAny_truthy_bool ?_))
      refine wpAny_bind (wpAny_letGo (wpAny_pure ?_))
      have em := maxs_app (z := z) hne
      show wpAny _ A.in1 (if decide (maxs zs < z) = true then _ else _) _ _ _
      by_cases hlt : maxs zs < z
      · rw [if_pos (decide_eq_true hlt)]
        rw [if_pos hlt] at em
        refine wpAny_bind ?_
        refine wpAny_updateSeq e2 rfl (wpAny_bind (wpAny_letGo ?_))
        rw [hname]
        refine wpAny_pure ⟨plainId_quiet F.plain_max_loop _, ih (zs ++ [z]) H' gs' s1 _ t' c (by simp) cc ?_ ?_ hgs1 ?_ ?_⟩
        · rw [hS]
          exact aft_put (s2 := { (s1.setGen Y.g gs') with heap := s1.heap.update S (Obj.mapSeq fun _ => #[Value.int z t', Value.int z t']) }) rfl (allBare_setGen I.bare hb) e1 rfl
        · obtain ⟨o, n1, n2, e, r⟩ := hg1
          exact ⟨o, n1, n2, (Heap.get?_update_other _ _ hna).trans e, r⟩
        · exact (O.past (s1 := { (s1.setGen Y.g gs') with heap := s1.heap.update S (Obj.mapSeq fun _ => #[Value.int z t', Value.int z t']) }) I there (by rw [hS]; exact aft_put rfl (allBare_setGen I.bare hb) e1 rfl)).nolimit
        · rw [em]
          exact Heap.get?_update_self _ e2 rfl
      · rw [if_neg (by rw [decide_eq_false hlt]; exact Bool.false_ne_true)]
        rw [if_neg hlt] at em
        refine wpAny_bind (wpAny_letGo ?_)
        rw [hname]
        refine wpAny_pure ⟨plainId_quiet F.plain_max_loop _, ih (zs ++ [z]) H' gs' s1 _ t c (by simp) cc ?_ hg1 hgs1 I.nolimit ?_⟩
        · rw [hS]
          exact aft_id rfl (allBare_setGen I.bare hb) e1 rfl
        · rw [em]
          exact e2
  intro n
  induction n with
  | zero =>
    intro zs H gs sp s t c hne rd af hg hgs nl hSo
    exact main 0 zs H gs sp s t c hne rd af hg hgs nl hSo fun _ _ _ _ _ _ _ _ q => (show False from q).elim
  | succ n ih =>
    intro zs H gs sp s t c hne rd af hg hgs nl hSo
    exact main (n + 1) zs H gs sp s t c hne rd af hg hgs nl hSo fun zs' H' gs' sp' s' t' c' a1 a2 a3 a4 a5 a6 a7 => ih zs' H' gs' sp' s' t' c' a1 a2 a3 a4 a5 a6 a7
/-- .. from the start -/
theorem max_first (O : Y.Ok) (hB : Y.B = A.in1.in1) (hS : Y.Sx = [S]) (hC : Y.C = eInt) (hF : Y.F = fun ys H => ∃ zs, ys = zs.map V.int ∧ zs ≠ [] ∧ Qd (maxs zs) H) (hh : A.handled = none) (hroom : A.depth < recursionLimit)
    (hR : ∀ k t σ' H' s1, Inv Y.Xg [] σ' H' s1 → Qd k H' → R (.ok (.ret (.int k t))) s1) (n : Nat) (H : Hp) (gs : GenState) (sp s : Shared) (c : Nat) (rd : Y.Rdy n [] H gs sp) (af : Aft Y.Sx sp s) (hg : s.heap.IsGen Y.a Y.g) (hgs : s.gens[Y.g]? = some gs) (nl : s.heap.NoLimit)
    (hSo : s.heap.get? S = some (bestL #[] c)) : codeAny Y.M A (.builtin "max.loop" ⟨[.ref Y.a, .none, .ref S], []⟩) R s := by
  have hname : (toString "max" ++ toString ".loop" : String) = "max.loop" := by decide
  have hSm : S ∈ Y.a :: Y.Sx := by rw [hS]; simp
  have there : ∀ b ∈ Y.a :: Y.Sx, ∃ o, s.heap.get? b = some o := fun b hb => by
    rcases List.mem_cons.mp hb with z | z
    · obtain ⟨o, n1, n2, e, r⟩ := hg
      exact ⟨o, by rw [z]; exact e⟩
    · rw [hS] at z
      exact ⟨_, by rw [List.mem_singleton.mp z]; exact hSo⟩
  refine codeAny_builtin F.entry_max_loop ?_
  rw [Around.under_plainId F.plain_max_loop _]
  show wpAny _ A.in1 (seqItems? (.ref S) >>= _) _ _ s
  refine wpAny_bind (wpAny_seqItems hSo rfl ?_)
  show wpAny _ A.in1 (tryCatch (pyNext (.ref Y.a)) _ >>= _) _ _ s
  refine wpAny_bind (wpAny_tryCatch (GEx.next O hB hh hroom nl rd af hg hgs (Array.getElem?_eq_some_iff.mp hgs).1 (fun σ' H' s1 s2 I f a => ?_) fun v y σ' H' s1 gs' I r cc hb hsz => ?_))
  · rw [hF] at f
    obtain ⟨zs', ez, ne, f⟩ := f
    cases zs' with
    | nil => exact absurd rfl ne
    | cons u us => cases ez
  · rw [hC] at cc
    obtain ⟨⟨z, rfl⟩, cc⟩ := cc
    obtain ⟨t', rfl⟩ : ∃ t', v = .int z t' := r
    have e1 := (O.pinned I hSm hSo).1
    have e2 : (s1.setGen Y.g gs').heap.get? S = _ := e1
    have hg1 : (s1.setGen Y.g gs').heap.IsGen Y.a Y.g := by
      obtain ⟨o, n1, n2, e, r⟩ := hg
      exact ⟨o, n1, n2, (O.pinned I List.mem_cons_self e).1, r⟩
    have hgs1 := setGen_at (x := gs') (Nat.lt_of_lt_of_le (Array.getElem?_eq_some_iff.mp hgs).1 hsz)
    have hna : S ≠ Y.a := fun z => O.aS (by rw [← z, hS]; simp)
    have put : Aft [S] s1 { (s1.setGen Y.g gs') with heap := s1.heap.update S (Obj.mapSeq fun _ => #[Value.int z t', Value.int z t']) } := aft_put rfl (allBare_setGen I.bare hb) e1 rfl
    show wpAny _ A.in1 (updateSeq S (fun _ => #[.int z t', .int z t']) >>= _) _ _ _
    refine wpAny_bind ?_
    refine wpAny_updateSeq e2 rfl ?_
    rw [hname]
    cases n with
    | zero => exact (show False from cc).elim
    | succ n =>
      refine wpAny_pure ⟨plainId_quiet F.plain_max_loop _, max_loop1 O hB hS hC hF hh hroom hR n [z] H' gs' s1 _ t' (c + 1) (by simp) cc (by rw [hS]; exact put) ?_ hgs1 (O.past I there (by rw [hS]; exact put)).nolimit ?_⟩
      · obtain ⟨o, n1, n2, e, r⟩ := hg1
        exact ⟨o, n1, n2, (Heap.get?_update_other _ _ hna).trans e, r⟩
      · have e3 := Heap.get?_update_self (Obj.mapSeq fun _ => #[Value.int z t', Value.int z t']) e2 rfl
        exact e3
end
section
variable {X : Cx}
theorem call_maxP {P : Program} {w : World} {A : Around} {Q : Value → Shared → Prop} {E : Value → Shared → Prop} {s : Shared} {a g : Addr} (hg : s.heap.IsGen a g)
    (h : codeAny (model P w) A (.builtin "max.loop" ⟨[.ref a, .none, .ref s.heap.objs.size], []⟩) (RetQ Q E) { s with heap := s.heap.push (bestL #[] 0) }) : wpAny (model P w) A (call (.builtin "max") [.ref a]) Q E s := by
  have hname : (toString "max" ++ toString ".loop" : String) = "max.loop" := by decide
  refine call_function_tree F.kind_max F.plain_max F.entry_max (F.args_max1 _) ?_
  show wpAny _ A.in1 (Builtin.Builtins.bindParams "max" ["key", "default"] 0 ⟨[], []⟩ >>= _) _ _ s
  refine wpAny_bind (wpAny_of_eq (show Builtin.Builtins.bindParams "max" ["key", "default"] 0 ⟨[], []⟩ = pure [none, none] from rfl) ?_)
  refine wpAny_bind (wpAny_pure ?_)
  refine wpAny_bind (wpAny_pyIter_gen hg ?_)
  refine wpAny_bind (wpAny_newObj_type ?_)
  rw [hname]
  exact wpAny_pure ⟨plainId_quiet F.plain_max_loop _, h⟩
/-- min of elt for target in iter if ..; W carries what is out so far -/
def tMaxG (P : Addr) (wi : TI) (g : TG) (tt : TT) (te : TE) (vs : List Nat) : TE := fun σ H Q => wi σ H fun J H1 => TabG H1 P ∧ ∀ H2, Tabbed P H1 H2 →
  ∃ W : Nat → Nat → List Int → Hp → Prop, (∃ m, W 0 m [] H2) ∧ ∀ i m zs H, W i m zs H → (J.stop i H ∧ zs ≠ [] ∧ Q (.int (maxs zs)) H) ∨ (J.go i H ∧ ∃ Nx : List Int → Hp → Prop, (∀ zs' H', Nx zs' H' → ∃ m', m' < m ∧ W (i + 1) m' zs' H') ∧
    ∀ x H', J.yld i H x H' → g x (wipe σ vs) H' fun σ2 H2 => wipe σ2 vs = wipe σ vs ∧ tt σ2 H2 fun b H3 => if b = true then te σ2 H3 fun y H4 => MN Nx zs y H4 else MZ Nx zs H3)
theorem tMaxG_step {J : It} {g : TG} {tt : TT} {te : TE} {vs : List Nat} {σ : L2.St} {Q : VK} {W : Nat → Nat → List Int → Hp → Prop}
    (h : ∀ i m zs H, W i m zs H → (J.stop i H ∧ zs ≠ [] ∧ Q (.int (maxs zs)) H) ∨ (J.go i H ∧ ∃ Nx : List Int → Hp → Prop, (∀ zs' H', Nx zs' H' → ∃ m', m' < m ∧ W (i + 1) m' zs' H') ∧
      ∀ x H', J.yld i H x H' → g x (wipe σ vs) H' fun σ2 H2 => wipe σ2 vs = wipe σ vs ∧ tt σ2 H2 fun b H3 => if b = true then te σ2 H3 fun y H4 => MN Nx zs y H4 else MZ Nx zs H3)) :
    GStep (fun i m ys H => ∃ zs, ys = zs.map V.int ∧ W i m zs H) J g tt te vs (wipe σ vs) eInt (fun ys H => ∃ zs, ys = zs.map V.int ∧ zs ≠ [] ∧ Q (.int (maxs zs)) H) := fun i m ys H ⟨zs, ey, w⟩ => by
  subst ey
  rcases h i m zs H w with ⟨z1, z2, z3⟩ | ⟨go, Nx, hN, st⟩
  · exact .inl ⟨z1, zs, rfl, z2, z3⟩
  · exact .inr ⟨go, fun ys H => ∃ zs, ys = zs.map V.int ∧ Nx zs H, fun ys' H' ⟨zs', e', nx⟩ => by
      obtain ⟨m', h1, h2⟩ := hN zs' H' nx
      exact ⟨m', h1, zs', e', h2⟩, st⟩
section
variable {c P : Addr} {elt tg iter : Expr} {ifs : List Expr} {scope : Scope} {own : List (Str × Nat)} {p pos gpos : Pos} {wi : TI} {g : TG} {tt : TT} {te : TE} {k : Nat}
theorem pe_maxG (hr : Room (k + 1) X.A) (hn : X.N.Nodup) (hgl : Gl X "max") (hm : X.mg "max" = none) (TB : LamX.TabB X.base X.mg c P) (hcode : X.env.code = .ref c) (G : GScp scope) (ok : BlkOk X.N X.env.scope scope own) (hi : PI X tg iter wi)
    (hg : GPG X k scope tg g) (ht : GPT X k scope ifs tt) (he : GPE X k scope elt te)
    (hb : bootBuiltins "max" = some (.builtin "max") := by first | rfl | decide +kernel) (hs : ∀ v, genFold iter X.env v = pure v := by intro _; rfl)
    (hst : starEach [.GeneratorExp elt [⟨tg, iter, ifs, 0⟩] scope gpos] X.env = (false, eval (.GeneratorExp elt [⟨tg, iter, ifs, 0⟩] scope gpos) X.env) :: starEach [] X.env := by rfl) :
    PE X (.Call (.Name "max" p) [.GeneratorExp elt [⟨tg, iter, ifs, 0⟩] scope gpos] [] pos) (tMaxG P wi g tt te (own.map (·.2))) := by
  refine ⟨fun pins s σ H Q I h => ?_⟩
  refine wpAny_Call_Name_kw (ld_blt I hgl hm hb ?_)
  refine PyProof.Rows.callWith_builtin1 ?_ hst (by rfl)
  rw [hst]
  show wpAny _ _ (spliced ((false, eval (.GeneratorExp elt [⟨tg, iter, ifs, 0⟩] scope gpos) X.env) :: backTo pos (starEach [] X.env))) _ _ s
  refine Calls.spliced_cons (gen_made (R := fun J H1 => _) hr TB hcode G ok hi hs I h fun J H1 H2 s4 cenv fp it tn a gn s5 q tb M => ?_)
  refine Calls.spliced_nil (call_maxP M.isg ?_)
  obtain ⟨W, ⟨m, w0⟩, st⟩ := q H2 tb
  obtain ⟨code, hce⟩ := M.env
  subst hce
  have hlt : a < s5.heap.objs.size := by rw [M.lt]; exact Nat.lt_succ_self a
  obtain ⟨O, rd⟩ := gen_rdy (B := X.A.in1.in1) (Sx := [s5.heap.objs.size]) hr (nearA2 _) G ok hn M (fun A r => hg _ _ _ _ _ _ A r) (fun A r => ht _ _ _ _ _ _ A r) (fun A r => he _ _ _ _ _ _ A r) (fun b z => by rw [List.mem_singleton.mp z]; exact hlt) eInt_mono (tMaxG_step st) m ⟨[], rfl, w0⟩
  have hpush : ∀ b o, s5.heap.get? b = some o → (s5.heap.push (bestL #[] 0)).get? b = some o := fun b o e => Heap.get?_push_of_some _ e
  refine max_first (Qd := fun k H => Q (.int k) H) (S := s5.heap.objs.size) (Y := mkY X s4 H2 _ fp X.A.in1.in1 (wipe σ (own.map (·.2))) (.GeneratorExp elt [⟨tg, iter, ifs, 0⟩] scope gpos) it a gn [s5.heap.objs.size] eInt (fun ys H => ∃ zs, ys = zs.map V.int ∧ zs ≠ [] ∧ Q (.int (maxs zs)) H)) O rfl rfl rfl rfl hr.hd hr.depth (fun k t σ' H' s1 I' q => ?_) m H2 _ s5 _ 0 rd ?_ ?_ ?_ ?_ (Heap.get?_push_size _ rfl)
  · exact ⟨.int k, H', GEx.out (Y := mkY X s4 H2 _ fp X.A.in1.in1 (wipe σ (own.map (·.2))) (.GeneratorExp elt [⟨tg, iter, ifs, 0⟩] scope gpos) it a gn [s5.heap.objs.size] eInt (fun ys H => ∃ zs, ys = zs.map V.int ∧ zs ≠ [] ∧ Q (.int (maxs zs)) H)) M.inv (fun b hb => (M.fps b hb).1) I' (Aft.refl I'.bare), ⟨t, rfl⟩, q⟩
  · refine ⟨rfl, ?_, fun b o _ e => hpush b o e, fun b hb => ?_⟩
    · show AllBare s5.gens
      rw [M.gens]
      exact M.inv.bare.push rfl
    · rw [List.mem_singleton.mp hb]
      exact ⟨_, Heap.get?_push_size _ rfl, fun v z => by cases z⟩
  · obtain ⟨o, n1, n2, e, r⟩ := M.isg
    exact ⟨o, n1, n2, hpush _ _ e, r⟩
  · show s5.gens[gn]? = _
    rw [M.gens, M.num]
    simp
  · exact (M.inv.nolimit.keeps M.keep).push _
end
end
section
variable {K : PySem.W.Frag} {a : Addr} {xs : List V} {g : TG} {tt : TT} {te : TE} {vs : List Nat} {σ : L2.St} {H2 : Hp} {Q : VK}
/-- over a list that the element leaves as it is -/
theorem max_list (Pv : Nat → List Int → Hp → Prop) (h0 : Pv 0 [] H2) (hl : ∀ i zs H, i ≤ xs.length → Pv i zs H → SqL K H a xs)
    (hs : ∀ i zs x H, xs[i]? = some x → Pv i zs H → g x (wipe σ vs) H fun σ2 H2 => wipe σ2 vs = wipe σ vs ∧ tt σ2 H2 fun b H3 => if b = true then te σ2 H3 fun y H4 => MN (Pv (i + 1)) zs y H4 else MZ (Pv (i + 1)) zs H3) (hd : ∀ zs H, Pv xs.length zs H → zs ≠ [] ∧ Q (.int (maxs zs)) H) :
    ∃ W : Nat → Nat → List Int → Hp → Prop, (∃ m, W 0 m [] H2) ∧ ∀ i m zs H, W i m zs H → ((Itl K a).stop i H ∧ zs ≠ [] ∧ Q (.int (maxs zs)) H) ∨ ((Itl K a).go i H ∧ ∃ Nx : List Int → Hp → Prop, (∀ zs' H', Nx zs' H' → ∃ m', m' < m ∧ W (i + 1) m' zs' H') ∧
      ∀ x H', (Itl K a).yld i H x H' → g x (wipe σ vs) H' fun σ2 H2 => wipe σ2 vs = wipe σ vs ∧ tt σ2 H2 fun b H3 => if b = true then te σ2 H3 fun y H4 => MN Nx zs y H4 else MZ Nx zs H3) := by
  refine ⟨fun i m zs H => m = xs.length - i ∧ i ≤ xs.length ∧ Pv i zs H, ⟨xs.length, by simp, Nat.zero_le _, h0⟩, fun i m zs H w => ?_⟩
  obtain ⟨hm, hi, p⟩ := w
  have q := hl i zs H hi p
  rcases Nat.lt_or_ge i xs.length with z | z
  · refine .inr ⟨⟨xs, xs[i], q, by simp [z]⟩, Pv (i + 1), fun zs' H' p' => ⟨xs.length - (i + 1), by omega, rfl, z, p'⟩, fun x H' y => ?_⟩
    obtain ⟨rfl, y⟩ := y
    exact hs i zs x _ (y xs q) p
  · obtain rfl : i = xs.length := by omega
    exact .inl ⟨⟨xs, q, Nat.le_refl _⟩, hd zs H p⟩
end
end Sk

set_option Elab.async false
set_option linter.all false
set_option maxRecDepth 100000
set_option maxHeartbeats 4000000
namespace Sk
open PySem PySem.Spec PyProof.Rows L2
/-! a place of a stretch is on one of the segments of its piece -/
/-- (px / d, py / d) is on the segment -/
def OnS (px py d : Int) (s : Seg) : Prop := ∃ u v : Int, 0 ≤ u ∧ 0 ≤ v ∧ 1 ≤ u + v ∧ px * s.d * (u + v) = d * (u * s.ax + v * s.bx) ∧ py * s.d * (u + v) = d * (u * s.ay + v * s.bw)
theorem on_first {s : Seg} {px py : Int} (hx : px = s.ax) (hy : py = s.ay) : OnS px py s.d s := by
  refine ⟨1, 0, by decide, by decide, by decide, ?_, ?_⟩
  · rw [hx]; grind
  · rw [hy]; grind
theorem between {A B n g p st en : Int} : (A * n + B * (p - g)) * n * (en - p + (p - st)) = n * ((en - p) * (A * n + B * (st - g)) + (p - st) * (A * n + B * (en - g))) := by grind
theorem at_end {A B n g' : Int} {px d : Int} (h : px = A * d) (en : n * 1 = n) : px * n * (0 + 1) = d * (0 * g' + 1 * (A * n)) := by
  rw [h]; grind
theorem plc_eq (D : CD) (ns : List Str) (k : Nat) (p : Int) : plc D ns k p = [(D.xy (rn ns k)).1 * D.len (rn ns k) (rn ns (k + 1)) + ((D.xy (rn ns (k + 1))).1 - (D.xy (rn ns k)).1) * (p - bg D ns k), (D.xy (rn ns k)).2 * D.len (rn ns k) (rn ns (k + 1)) + ((D.xy (rn ns (k + 1))).2 - (D.xy (rn ns k)).2) * (p - bg D ns k)] := rfl
theorem li_inj {s t : Seg} (h : s.li = t.li) : s = t := by
  obtain ⟨a, b, c, d, e⟩ := s
  obtain ⟨a', b', c', d', e'⟩ := t
  simp only [Seg.li, List.cons.injEq, and_true] at h
  obtain ⟨rfl, rfl, rfl, rfl, rfl⟩ := h
  rfl
theorem place_on_piece {D : CD} {ns : List Str} (pos : PosR D ns) (n2 : 2 ≤ ns.length) {lo hi p px py : Int} {ss : List Seg} (e : pcs D ns lo hi = ss.map Seg.li)
    (h0 : 0 ≤ p) (h1 : p < bg D ns (ns.length - 1)) (hl : lo ≤ p) (hh : p ≤ hi) (hp : plc D ns (lat D ns (ns.length - 1 - 1) p) p = [px, py]) :
    ∃ s ∈ ss, OnS px py (D.len (rn ns (lat D ns (ns.length - 1 - 1) p)) (rn ns (lat D ns (ns.length - 1 - 1) p + 1))) s := by
  obtain ⟨c0, c1, c2⟩ := lat_cases D ns (ns.length - 1 - 1) p
  generalize hk : lat D ns (ns.length - 1 - 1) p = k at *
  have hk1 : k + 1 < ns.length := by omega
  have pk := pos k hk1
  have gk : bg D ns k ≤ p := by
    match k, c1 with
    | 0, _ => exact h0
    | k + 1, c1 => exact c1 k (by omega)
  have gk2 : p < bg D ns (k + 1) := by
    by_cases z : k < ns.length - 1 - 1
    · exact c2 z
    · have : k + 1 = ns.length - 1 := by omega
      rw [this]; exact h1
  have gs : bg D ns (k + 1) = bg D ns k + D.len (rn ns k) (rn ns (k + 1)) := rfl
  rw [plc_eq] at hp
  have hpx := (List.cons.inj hp).1.symm
  have hpy := (List.cons.inj (List.cons.inj hp).2).1.symm
  unfold pcs at e
  dsimp only at e
  rw [if_neg (by omega)] at e
  generalize ef : (if 0 > lo then 0 else lo) = f at e
  generalize el : (if bg D ns (ns.length - 1) < hi then bg D ns (ns.length - 1) else hi) = l at e
  have hf : f ≤ p ∧ 0 ≤ f := by split at ef <;> omega
  have hlp : p ≤ l := by split at el <;> omega
  have hlt : l ≤ bg D ns (ns.length - 1) := by split at el <;> omega
  by_cases fl : f = l
  · rw [if_pos fl] at e
    have fp : f = p := by omega
    rw [fp, hk] at e
    obtain ⟨s, rfl, es⟩ : ∃ s, ss = [s] ∧ s.li = seg D ns k p p := by
      cases ss with
      | nil => cases e
      | cons s r =>
        cases r with
        | nil => exact ⟨s, rfl, (List.cons.inj e).1.symm⟩
        | cons t r =>
          have := congrArg List.length e
          simp at this
    have ed : s.d = D.len (rn ns k) (rn ns (k + 1)) := by
      simp only [seg, plc_eq, Seg.li, List.cons_append, List.nil_append, List.cons.injEq, and_true] at es
      exact es.2.2.2.2
    have ea : s.ax = px ∧ s.ay = py := by
      simp only [seg, plc_eq, Seg.li, List.cons_append, List.nil_append, List.cons.injEq, and_true] at es
      exact ⟨by rw [hpx]; exact es.1, by rw [hpy]; exact es.2.1⟩
    refine ⟨s, List.mem_singleton.mpr rfl, ?_⟩
    rw [← ed]
    exact on_first ea.1.symm ea.2.symm
  · rw [if_neg fl] at e
    have mem : ∀ (k' : Nat) (st en : Int), k' < ns.length - 1 → (if bg D ns k' > f then bg D ns k' else f) = st → (if bg D ns (k' + 1) < l then bg D ns (k' + 1) else l) = en → st < en →
        ∃ s ∈ ss, s.li = seg D ns k' st en := fun k' st en h1 h2 h3 h4 => by
      have hm : seg D ns k' st en ∈ segsOf D ns f l (List.range (ns.length - 1)) := by
        refine List.mem_filterMap.mpr ⟨k', List.mem_range.mpr h1, ?_⟩
        unfold segOf
        dsimp only
        rw [h2, h3, if_pos h4]
      rw [e] at hm
      obtain ⟨s, hs, es⟩ := List.mem_map.mp hm
      exact ⟨s, hs, es⟩
    generalize est : (if bg D ns k > f then bg D ns k else f) = st
    generalize een : (if bg D ns (k + 1) < l then bg D ns (k + 1) else l) = en
    have hst : st ≤ p := by split at est <;> omega
    have hen : p ≤ en := by split at een <;> omega
    by_cases lt : st < en
    · obtain ⟨s, hs, es⟩ := mem k st en (by omega) est een lt
      refine ⟨s, hs, en - p, p - st, by omega, by omega, by omega, ?_, ?_⟩
      all_goals
        simp only [seg, plc_eq, Seg.li, List.cons_append, List.nil_append, List.cons.injEq, and_true] at es
        obtain ⟨e1, e2, e3, e4, e5⟩ := es
      · rw [hpx, e1, e3, e5]
        exact between
      · rw [hpy, e2, e4, e5]
        exact between
    · -- the joint: p is the end of the leg before
      have pst : st = p ∧ en = p := by omega
      have pl : l = p := by
        have := pst.2
        split at een <;> omega
      have pg : bg D ns k = p := by
        have := pst.1
        split at est <;> omega
      have k0 : k ≠ 0 := fun z => by
        rw [z] at pg
        have : (0 : Int) = p := pg
        omega
      obtain ⟨j, rfl⟩ : ∃ j, k = j + 1 := ⟨k - 1, by omega⟩
      have pj := pos j (by omega)
      have gj : bg D ns (j + 1) = bg D ns j + D.len (rn ns j) (rn ns (j + 1)) := rfl
      generalize est' : (if bg D ns j > f then bg D ns j else f) = st'
      have h5 : (if bg D ns (j + 1) < l then bg D ns (j + 1) else l) = p := by split <;> omega
      have h6 : st' < p := by split at est' <;> omega
      obtain ⟨s, hs, es⟩ := mem j st' p (by omega) est' h5 h6
      refine ⟨s, hs, 0, 1, by decide, by decide, by decide, ?_, ?_⟩
      all_goals
        simp only [seg, plc_eq, Seg.li, List.cons_append, List.nil_append, List.cons.injEq, and_true] at es
        obtain ⟨e1, e2, e3, e4, e5⟩ := es
        have q : p - bg D ns j = D.len (rn ns j) (rn ns (j + 1)) := by omega
        have q2 : p - bg D ns (j + 1) = 0 := by omega
        rw [q] at e3 e4
        rw [q2] at hpx hpy
      · rw [hpx, e3, e5]
        grind
      · rw [hpy, e4, e5]
        grind
/-! the greatest rounded down, the least rounded up, of the ends of some segments -/
def c0 (i : Nat) (s : Seg) : Int := if i = 0 then s.ax else s.ay
def c1 (i : Nat) (s : Seg) : Int := if i = 0 then s.bx else s.bw
def dn (i : Nat) (ss : List Seg) : List Int := ss.flatMap fun s => [c0 i s / s.d, c1 i s / s.d]
def up (i : Nat) (ss : List Seg) : List Int := ss.flatMap fun s => [-(-c0 i s / s.d), -(-c1 i s / s.d)]
theorem maxs_eq {zs : List Int} {m : Int} (h : m ∈ zs) (g : ∀ z ∈ zs, z ≤ m) : maxs zs = m := by
  have ne : zs ≠ [] := fun e => by rw [e] at h; cases h
  obtain ⟨a, b⟩ := maxs_spec ne
  have := g _ a
  have := b _ h
  omega
theorem mins_eq {zs : List Int} {m : Int} (h : m ∈ zs) (g : ∀ z ∈ zs, m ≤ z) : mins zs = m := by
  have ne : zs ≠ [] := fun e => by rw [e] at h; cases h
  obtain ⟨a, b⟩ := mins_spec ne
  have := g _ a
  have := b _ h
  omega
theorem maxs_same {zs ws : List Int} (h : ∀ z, z ∈ zs ↔ z ∈ ws) (ne : zs ≠ []) : maxs zs = maxs ws := by
  obtain ⟨a, b⟩ := maxs_spec ne
  exact (maxs_eq ((h _).mp a) fun z hz => b z ((h z).mpr hz)).symm
theorem mins_same {zs ws : List Int} (h : ∀ z, z ∈ zs ↔ z ∈ ws) (ne : zs ≠ []) : mins zs = mins ws := by
  obtain ⟨a, b⟩ := mins_spec ne
  exact (mins_eq ((h _).mp a) fun z hz => b z ((h z).mpr hz)).symm
/-- the ends as fractions, in the program's order -/
def ends (i : Nat) (ss : List Seg) : List (Int × Int) := ss.map (fun s => (c0 i s, s.d)) ++ ss.map (fun s => (c1 i s, s.d))
theorem ends_dn (i : Nat) (ss : List Seg) (z : Int) : z ∈ (ends i ss).map (fun e => e.1 / e.2) ↔ z ∈ dn i ss := by
  unfold ends dn
  simp only [List.map_append, List.map_map, List.mem_append, List.mem_map, List.mem_flatMap, List.mem_cons, List.not_mem_nil, or_false, Function.comp]
  constructor
  · rintro (⟨s, h, e⟩ | ⟨s, h, e⟩)
    · exact ⟨s, h, .inl e.symm⟩
    · exact ⟨s, h, .inr e.symm⟩
  · rintro ⟨s, h, e | e⟩
    · exact .inl ⟨s, h, e.symm⟩
    · exact .inr ⟨s, h, e.symm⟩
theorem ends_up (i : Nat) (ss : List Seg) (z : Int) : z ∈ (ends i ss).map (fun e => -(-e.1 / e.2)) ↔ z ∈ up i ss := by
  unfold ends up
  simp only [List.map_append, List.map_map, List.mem_append, List.mem_map, List.mem_flatMap, List.mem_cons, List.not_mem_nil, or_false, Function.comp]
  constructor
  · rintro (⟨s, h, e⟩ | ⟨s, h, e⟩)
    · exact ⟨s, h, .inl e.symm⟩
    · exact ⟨s, h, .inr e.symm⟩
  · rintro ⟨s, h, e | e⟩
    · exact .inl ⟨s, h, e.symm⟩
    · exact .inr ⟨s, h, e.symm⟩
theorem ends_ne {i : Nat} {ss : List Seg} (h : ss ≠ []) : ends i ss ≠ [] := by
  cases ss with
  | nil => exact absurd rfl h
  | cons s ss => intro z; cases z
theorem ends_bd {i : Nat} {ss : List Seg} (h : ∀ s ∈ ss, SegBd 200 100 s ∧ 1 ≤ s.d) : ∀ e ∈ ends i ss, BdN 200 e.1 ∧ BdN 100 e.2 ∧ 1 ≤ e.2 := fun e he => by
  unfold ends at he
  rcases List.mem_append.mp he with he | he
  · obtain ⟨s, hs, rfl⟩ := List.mem_map.mp he
    obtain ⟨b, d⟩ := h s hs
    exact ⟨by show BdN 200 (c0 i s); unfold c0; split; exact b.ax; exact b.ay, b.d, d⟩
  · obtain ⟨s, hs, rfl⟩ := List.mem_map.mp he
    obtain ⟨b, d⟩ := h s hs
    exact ⟨by show BdN 200 (c1 i s); unfold c1; split; exact b.bx; exact b.bw, b.d, d⟩
/-! the estimate -/
structure Est where
  x1 : Int
  x2 : Int
  y1 : Int
  y2 : Int
def Est.v (e : Est) : List V := [.int e.x1, .int e.x2, .int e.y1, .int e.y2]
def nlo (low told m : Int) (i : Nat) (ss : List Seg) : Int := if told - m - maxs (dn i ss) > low then told - m - maxs (dn i ss) else low
def nhi (high told m : Int) (i : Nat) (ss : List Seg) : Int := if told + m - mins (up i ss) < high then told + m - mins (up i ss) else high
def nar (e : Est) (m x y : Int) (ss : List Seg) : Option Est :=
  if nlo e.x1 x m 0 ss > nhi e.x2 x m 0 ss ∨ nlo e.y1 y m 1 ss > nhi e.y2 y m 1 ss then none else some ⟨nlo e.x1 x m 0 ss, nhi e.x2 x m 0 ss, nlo e.y1 y m 1 ss, nhi e.y2 y m 1 ss⟩
/-- what lies below the greatest end, lies below it rounded down -/
theorem below_max {px d u v w : Int} {i : Nat} {s : Seg} {ss : List Seg} (hs : s ∈ ss) (d1 : 1 ≤ d) (sd : 1 ≤ s.d) (u0 : 0 ≤ u) (v0 : 0 ≤ v) (uv : 1 ≤ u + v) (e : px * s.d * (u + v) = d * (u * c0 i s + v * c1 i s)) (h : w * d ≤ px) : w ≤ maxs (dn i ss) := by
  have ne : dn i ss ≠ [] := fun z => by
    have : c0 i s / s.d ∈ dn i ss := List.mem_flatMap.mpr ⟨s, hs, by simp⟩
    rw [z] at this; cases this
  obtain ⟨_, b⟩ := maxs_spec ne
  have b0 := b _ (show c0 i s / s.d ∈ dn i ss from List.mem_flatMap.mpr ⟨s, hs, by simp⟩)
  have b1 := b _ (show c1 i s / s.d ∈ dn i ss from List.mem_flatMap.mpr ⟨s, hs, by simp⟩)
  rcases Int.lt_or_le (maxs (dn i ss)) w with z | z
  · exfalso
    have q0 : c0 i s < w * s.d := by
      have := Int.lt_ediv_add_one_mul_self (c0 i s) (show 0 < s.d by omega)
      have := Int.mul_le_mul_of_nonneg_right (show c0 i s / s.d + 1 ≤ w by omega) (show 0 ≤ s.d by omega)
      omega
    have q1 : c1 i s < w * s.d := by
      have := Int.lt_ediv_add_one_mul_self (c1 i s) (show 0 < s.d by omega)
      have := Int.mul_le_mul_of_nonneg_right (show c1 i s / s.d + 1 ≤ w by omega) (show 0 ≤ s.d by omega)
      omega
    have r0 : u * c0 i s ≤ u * (w * s.d - 1) := Int.mul_le_mul_of_nonneg_left (by omega) u0
    have r1 : v * c1 i s ≤ v * (w * s.d - 1) := Int.mul_le_mul_of_nonneg_left (by omega) v0
    have r2 : u * (w * s.d - 1) + v * (w * s.d - 1) = (u + v) * (w * s.d) - (u + v) := by grind
    have r3 : u * c0 i s + v * c1 i s ≤ (u + v) * (w * s.d) - 1 := by omega
    have r4 := Int.mul_le_mul_of_nonneg_left r3 (show 0 ≤ d by omega)
    have r5 := Int.mul_le_mul_of_nonneg_right (Int.mul_le_mul_of_nonneg_right h (show 0 ≤ s.d by omega)) (show 0 ≤ u + v by omega)
    have r6 : w * d * s.d * (u + v) = d * ((u + v) * (w * s.d)) := by grind
    have r7 : d * ((u + v) * (w * s.d) - 1) = d * ((u + v) * (w * s.d)) - d := by grind
    omega
  · exact z
theorem above_min {px d u v w : Int} {i : Nat} {s : Seg} {ss : List Seg} (hs : s ∈ ss) (d1 : 1 ≤ d) (sd : 1 ≤ s.d) (u0 : 0 ≤ u) (v0 : 0 ≤ v) (uv : 1 ≤ u + v) (e : px * s.d * (u + v) = d * (u * c0 i s + v * c1 i s)) (h : px ≤ w * d) : mins (up i ss) ≤ w := by
  have ne : up i ss ≠ [] := fun z => by
    have : -(-c0 i s / s.d) ∈ up i ss := List.mem_flatMap.mpr ⟨s, hs, by simp⟩
    rw [z] at this; cases this
  obtain ⟨_, b⟩ := mins_spec ne
  have b0 := b _ (show -(-c0 i s / s.d) ∈ up i ss from List.mem_flatMap.mpr ⟨s, hs, by simp⟩)
  have b1 := b _ (show -(-c1 i s / s.d) ∈ up i ss from List.mem_flatMap.mpr ⟨s, hs, by simp⟩)
  rcases Int.lt_or_le w (mins (up i ss)) with z | z
  · exfalso
    have q0 : w * s.d < c0 i s := by
      have := Int.lt_ediv_add_one_mul_self (-c0 i s) (show 0 < s.d by omega)
      have := Int.mul_le_mul_of_nonneg_right (show -c0 i s / s.d + 1 ≤ -w by omega) (show 0 ≤ s.d by omega)
      rw [Int.neg_mul] at this
      omega
    have q1 : w * s.d < c1 i s := by
      have := Int.lt_ediv_add_one_mul_self (-c1 i s) (show 0 < s.d by omega)
      have := Int.mul_le_mul_of_nonneg_right (show -c1 i s / s.d + 1 ≤ -w by omega) (show 0 ≤ s.d by omega)
      rw [Int.neg_mul] at this
      omega
    have r0 : u * (w * s.d + 1) ≤ u * c0 i s := Int.mul_le_mul_of_nonneg_left (by omega) u0
    have r1 : v * (w * s.d + 1) ≤ v * c1 i s := Int.mul_le_mul_of_nonneg_left (by omega) v0
    have r2 : u * (w * s.d + 1) + v * (w * s.d + 1) = (u + v) * (w * s.d) + (u + v) := by grind
    have r3 : (u + v) * (w * s.d) + 1 ≤ u * c0 i s + v * c1 i s := by omega
    have r4 := Int.mul_le_mul_of_nonneg_left r3 (show 0 ≤ d by omega)
    have r5 := Int.mul_le_mul_of_nonneg_right (Int.mul_le_mul_of_nonneg_right h (show 0 ≤ s.d by omega)) (show 0 ≤ u + v by omega)
    have r6 : w * d * s.d * (u + v) = d * ((u + v) * (w * s.d)) := by grind
    have r7 : d * ((u + v) * (w * s.d) + 1) = d * ((u + v) * (w * s.d)) + d := by grind
    omega
  · exact z
/-- squares and sides -/
theorem side_of {a b m : Int} (hm : 0 ≤ m) (h : a * a + b * b ≤ m * m) : -m ≤ a ∧ a ≤ m := by
  have hb : 0 ≤ b * b := sq0 b
  constructor
  · rcases Int.lt_or_le a (-m) with z | z
    · have := Int.mul_le_mul (show m + 1 ≤ -a by omega) (show m + 1 ≤ -a by omega) (by omega) (by omega)
      rw [Int.neg_mul_neg] at this
      have e : (m + 1) * (m + 1) = m * m + 2 * m + 1 := by grind
      omega
    · exact z
  · rcases Int.lt_or_le m a with z | z
    · have := Int.mul_le_mul (show m + 1 ≤ a by omega) (show m + 1 ≤ a by omega) (by omega) (by omega)
      have e : (m + 1) * (m + 1) = m * m + 2 * m + 1 := by grind
      omega
    · exact z
theorem tri {a b c e M N : Int} (hM : 0 ≤ M) (hN : 0 ≤ N) (h1 : a * a + b * b ≤ M * M) (h2 : c * c + e * e ≤ N * N) : (a + c) * (a + c) + (b + e) * (b + e) ≤ (M + N) * (M + N) := by
  have dot : a * c + b * e ≤ M * N := by
    rcases Int.lt_or_le (M * N) (a * c + b * e) with z | z
    · exfalso
      have mn : 0 ≤ M * N := Int.mul_nonneg hM hN
      have q1 := Int.mul_le_mul (show M * N + 1 ≤ a * c + b * e by omega) (show M * N + 1 ≤ a * c + b * e by omega) (by omega) (by omega)
      have q2 := Int.mul_le_mul h1 h2 (Int.add_nonneg (sq0 c) (sq0 e)) (Int.mul_nonneg hM hM)
      have q3 : (a * c + b * e) * (a * c + b * e) + (a * e - b * c) * (a * e - b * c) = (a * a + b * b) * (c * c + e * e) := by grind
      have q4 := sq0 (a * e - b * c)
      have q5 : (M * N + 1) * (M * N + 1) = M * M * (N * N) + 2 * (M * N) + 1 := by grind
      omega
    · exact z
  have e1 : (a + c) * (a + c) + (b + e) * (b + e) = (a * a + b * b) + (c * c + e * e) + 2 * (a * c + b * e) := by grind
  have e2 : (M + N) * (M + N) = M * M + N * N + 2 * (M * N) := by grind
  omega
end Sk
namespace Sk
open PySem PySem.Spec PyProof.Rows L2
/-- the error of the radars -/
def RrAt (H : Hp) (ru : Addr) (rd : Int) : Prop := ∃ kvs, H ru = some (.dK kvs) ∧ valV kvs (.inr "radar") = some (.int rd)
section
variable {H H' : Hp} {ru : Addr} {rd : Int}
theorem RrAt.same (R : RrAt H ru rd) (s : Same H H') : RrAt H' ru rd := let ⟨kvs, e, h⟩ := R; ⟨kvs, s _ _ e, h⟩
theorem RrAt.keep {d : Addr} (R : RrAt H ru rd) (s : Keep d H H') (n : ru ≠ d) : RrAt H' ru rd := let ⟨kvs, e, h⟩ := R; ⟨kvs, s _ _ e n, h⟩
theorem RrAt.st {T : List Addr} (R : RrAt H ru rd) (s : SameT T H H') (t : Tabs T H) : RrAt H' ru rd := let ⟨kvs, e, h⟩ := R; ⟨kvs, s.d t e, h⟩
theorem RrAt.g (R : RrAt H ru rd) : DGet H ru (.str "radar") (some (.int rd)) := let ⟨_, e, h⟩ := R; h ▸ DGet.k (k := .inr "radar") e
end
def spRulesR (K : PySem.W.Frag) : Sp := fun vs H Q _ => ∃ (d c : Addr), vs = [.ref d] ∧ St1 K H d c ∧ ∀ ru (r : RuD) (rd : Int) H', H ru = none → RuAt H' ru r → RrAt H' ru rd → 0 ≤ rd → rd ≤ 1000 → St1 K H' d c → Keep d H H' → Q (.ref ru) H'
/-- a list of pairs -/
def PrAt (H : Hp) (l : Addr) (es : List (Int × Int)) : Prop := ∃ qs : List (Addr × Int × Int), H l = some (.lst (qs.map fun q => V.ref q.1)) ∧ (∀ q ∈ qs, H q.1 = some (.tup [.int q.2.1, .int q.2.2])) ∧ qs.map (·.2) = es
theorem PrAt.same {H H' : Hp} {l : Addr} {es : List (Int × Int)} (L : PrAt H l es) (e : Same H H') : PrAt H' l es := let ⟨qs, h1, h2, h3⟩ := L; ⟨qs, e _ _ h1, fun q h => e _ _ (h2 q h), h3⟩
theorem PrAt.st {T : List Addr} {H H' : Hp} {l : Addr} {es : List (Int × Int)} (L : PrAt H l es) (s : SameT T H H') (t : Tabs T H) : PrAt H' l es := let ⟨qs, h1, h2, h3⟩ := L; ⟨qs, s.l t h1, fun q h => s.t t (h2 q h), h3⟩
theorem PrAt.nil {H : Hp} {l : Addr} (h : H l = some (.lst [])) : PrAt H l [] := ⟨[], h, (fun _ h => nomatch h), rfl⟩
theorem PrAt.snoc {H : Hp} {l p : Addr} {es : List (Int × Int)} {a b : Int} {ys : List V} (L : PrAt H l es) (hl : H l = some (.lst ys)) (hp : H p = some (.tup [.int a, .int b])) : PrAt (upd H l (.lst (ys ++ [.ref p]))) l (es ++ [(a, b)]) := by
  obtain ⟨qs, h1, h2, h3⟩ := L
  rw [hl] at h1
  cases h1
  refine ⟨qs ++ [(p, a, b)], by rw [upd_same, List.map_append]; rfl, fun q hq => ?_, by rw [List.map_append, h3]; rfl⟩
  have ht : H q.1 = some (.tup [.int q.2.1, .int q.2.2]) := by
    rcases List.mem_append.mp hq with h | h
    · exact h2 q h
    · rw [List.mem_singleton.mp h]; exact hp
  rw [upd_ne (ne_of ht hl (by intro z; cases z))]
  exact ht
theorem PrAt.cat {H : Hp} {l m p : Addr} {es fs : List (Int × Int)} {xs ys : List V} (L : PrAt H l es) (M : PrAt H m fs) (hl : H l = some (.lst xs)) (hm : H m = some (.lst ys)) (hp : H p = none) : PrAt (upd H p (.lst (xs ++ ys))) p (es ++ fs) := by
  obtain ⟨qs, h1, h2, h3⟩ := L
  obtain ⟨rs, g1, g2, g3⟩ := M
  rw [hl] at h1
  rw [hm] at g1
  cases h1
  cases g1
  refine ⟨qs ++ rs, by rw [upd_same, List.map_append], fun q hq => same_new hp _ _ ?_, by rw [List.map_append, h3, g3]⟩
  rcases List.mem_append.mp hq with h | h
  · exact h2 q h
  · exact g2 q h
theorem PrAt.len {H : Hp} {l : Addr} {es : List (Int × Int)} (L : PrAt H l es) : ∃ ys : List V, H l = some (.lst ys) ∧ ys.length = es.length := let ⟨qs, h1, _, h3⟩ := L; ⟨_, h1, by rw [List.length_map, ← h3, List.length_map]⟩
/-- the pair at a place -/
theorem PrAt.at {H : Hp} {l : Addr} {es : List (Int × Int)} (L : PrAt H l es) : ∃ ps : List Addr, H l = some (.lst (ps.map V.ref)) ∧ ps.length = es.length ∧ ∀ (i : Nat) (v : V), (ps.map V.ref)[i]? = some v → ∃ (p : Addr) (e : Int × Int), v = .ref p ∧ es[i]? = some e ∧ H p = some (.tup [.int e.1, .int e.2]) := by
  obtain ⟨qs, h1, h2, h3⟩ := L
  refine ⟨qs.map (·.1), by rw [List.map_map]; exact h1, by rw [List.length_map, ← h3, List.length_map], fun i v h => ?_⟩
  rw [List.map_map, List.getElem?_map] at h
  cases e : qs[i]? with
  | none => rw [e] at h; cases h
  | some q =>
    rw [e] at h
    refine ⟨q.1, q.2, (Option.some.inj h).symm, by rw [← h3, List.getElem?_map, e]; rfl, h2 q (List.mem_of_getElem? e)⟩
/-- the segment at a place -/
theorem LoT.at {H : Hp} {l : Addr} {ss : List Seg} (L : LoT H l (ss.map Seg.li)) : ∃ ps : List Addr, H l = some (.lst (ps.map V.ref)) ∧ ps.length = ss.length ∧ ∀ (i : Nat) (v : V), (ps.map V.ref)[i]? = some v → ∃ (p : Addr) (s : Seg), v = .ref p ∧ ss[i]? = some s ∧ H p = some (.tup (s.li.map V.int)) := by
  obtain ⟨qs, h1, h2, h3⟩ := L
  have hl : qs.length = ss.length := by
    have := congrArg List.length h3
    rw [List.length_map, List.length_map] at this
    exact this
  refine ⟨qs.map (·.1), by rw [List.map_map]; exact h1, by rw [List.length_map]; exact hl, fun i v h => ?_⟩
  rw [List.map_map, List.getElem?_map] at h
  cases e : qs[i]? with
  | none => rw [e] at h; cases h
  | some q =>
    rw [e] at h
    have hi : i < ss.length := by rw [← hl]; exact (List.getElem?_eq_some_iff.mp e).1
    refine ⟨q.1, ss[i], (Option.some.inj h).symm, List.getElem?_eq_getElem hi, ?_⟩
    have e1 : (qs.map (·.2))[i]? = (ss.map Seg.li)[i]? := by rw [h3]
    rw [List.getElem?_map, List.getElem?_map, e, List.getElem?_eq_getElem hi] at e1
    have e2 : q.2 = ss[i].li := Option.some.inj e1
    rw [← e2]
    exact h2 q (List.mem_of_getElem? e)
/-! promises -/
def spEnds (i : Nat) : Sp := fun vs H Q _ => ∃ (l : Addr) (ss : List Seg), vs = [.ref l] ∧ LoT H l (ss.map Seg.li) ∧ ss.length ≤ 100 ∧ ∀ p H', Same H H' → PrAt H' p (ends i ss) → Q (.ref p) H'
def rlo (low told m : Int) (es : List (Int × Int)) : Int := if told - m - maxs (es.map fun e => e.1 / e.2) > low then told - m - maxs (es.map fun e => e.1 / e.2) else low
def rhi (high told m : Int) (es : List (Int × Int)) : Int := if told + m - mins (es.map fun e => -(-e.1 / e.2)) < high then told + m - mins (es.map fun e => -(-e.1 / e.2)) else high
def spRange (TT : List Addr) : Sp := fun vs H Q _ => ∃ (lo hi told m : Int) (l : Addr) (es : List (Int × Int)), vs = [.int lo, .int hi, .int told, .int m, .ref l] ∧ PrAt H l es ∧ es ≠ [] ∧ es.length ≤ 1000 ∧ (∀ e ∈ es, BdN 200 e.1 ∧ BdN 100 e.2 ∧ 1 ≤ e.2) ∧ Tabs TT H ∧
  ∀ q H', SameT TT H H' → H' q = some (.tup [.int (rlo lo told m es), .int (rhi hi told m es)]) → Q (.ref q) H'
theorem rlo_eq {low told m : Int} {i : Nat} {ss : List Seg} (h : ss ≠ []) : rlo low told m (ends i ss) = nlo low told m i ss := by
  have ne : (ends i ss).map (fun e => e.1 / e.2) ≠ [] := fun z => ends_ne h (List.map_eq_nil_iff.mp z)
  unfold rlo nlo
  rw [maxs_same (ends_dn i ss) ne]
theorem rhi_eq {high told m : Int} {i : Nat} {ss : List Seg} (h : ss ≠ []) : rhi high told m (ends i ss) = nhi high told m i ss := by
  have ne : (ends i ss).map (fun e => -(-e.1 / e.2)) ≠ [] := fun z => ends_ne h (List.map_eq_nil_iff.mp z)
  unfold rhi nhi
  rw [mins_same (ends_up i ss) ne]
/-- a tuple of the estimate, or None -/
def optE (H : Hp) (o : Option Est) (v : V) : Prop := match o with
  | none => v = .non
  | some e => ∃ q, v = .ref q ∧ H q = some (.tup e.v)
def pdE : Option Est → PyData
  | none => .none
  | some e => .tuple ([e.x1, e.x2, e.y1, e.y2].map .int)
theorem optE.dp {K : PySem.W.Frag} {H : Hp} {o : Option Est} {v : V} (h : optE H o v) : Dp K H v (pdE o) := by
  cases o with
  | none => rw [show v = .non from h]; exact .non
  | some e =>
    obtain ⟨q, rfl, hq⟩ := h
    exact .tup (.inl (.inl hq)) (dpAll_int [e.x1, e.x2, e.y1, e.y2])
theorem optE.same {H H' : Hp} {o : Option Est} {v : V} (h : optE H o v) (s : Same H H') : optE H' o v := by
  cases o with
  | none => exact h
  | some e =>
    obtain ⟨q, rfl, hq⟩ := h
    exact ⟨q, rfl, s _ _ hq⟩
theorem optE.st {T : List Addr} {H H' : Hp} {o : Option Est} {v : V} (h : optE H o v) (s : SameT T H H') (t : Tabs T H) : optE H' o v := by
  cases o with
  | none => exact h
  | some e =>
    obtain ⟨q, rfl, hq⟩ := h
    exact ⟨q, rfl, s.t t hq⟩
theorem can_e (o : Option Est) : (pdE o).canLay0 = true := by
  cases o with
  | none => rfl
  | some e => exact can_pd _
theorem sh_e (o : Option Est) : SeqAt.shaped (pdE o) = true := by
  cases o with
  | none => rfl
  | some e => exact sh_pd _
structure PtB (H : Hp) (q : Addr) (x y z : Int) : Prop where
  t : H q = some (.tup [.int x, .int y, .int z])
def spNar (C : Addr) (TT : List Addr) : Sp := fun vs H Q _ => ∃ (ru e p b q r1 : Addr) (r : RuD) (rd : Int) (E : Est) (D : CD) (ns : List Str) (x : Bx) (px py pz : Int) (ss : List Seg), vs = [.ref ru, .ref e, .ref p, .ref b, .ref q] ∧ RuAt H ru r ∧ RrAt H ru rd ∧ H e = some (.tup E.v) ∧ H b = some x.t ∧ x.lo ≤ x.hi ∧
  H q = some (.tup [.int px, .int py, .int pz]) ∧ PathAt C H p D ns r1 ∧ Bd D ∧ 2 ≤ ns.length ∧ ns.length ≤ 20 ∧ pcs D ns x.lo x.hi = ss.map Seg.li ∧ (∀ s ∈ ss, SegBd 200 100 s ∧ 1 ≤ s.d) ∧ ss ≠ [] ∧ ss.length ≤ 100 ∧ Tabs TT H ∧
  ∀ v H', SameT TT H H' → optE H' (nar E (rd + r.ra) px py ss) v → Q v H'
/-- what the correction gives -/
def mid (a b : Int) : Int := (a + b) / 2
def side (a b : Int) : Int := if mid a b - a > b - mid a b then mid a b - a else b - mid a b
def spCor : Sp := fun vs H Q _ => ∃ (ru e q : Addr) (rd : Int) (E : Est) (px py pz : Int), vs = [.ref ru, .ref e, .ref q] ∧ RrAt H ru rd ∧ H e = some (.tup E.v) ∧ H q = some (.tup [.int px, .int py, .int pz]) ∧
  0 ≤ side E.x1 E.x2 ∧ side E.x1 E.x2 ≤ 1000000 ∧ 0 ≤ side E.y1 E.y2 ∧ side E.y1 E.y2 ≤ 1000000 ∧
  ∀ (u v : Addr) (H' : Hp), Same H H' → H' u = some (.tup [.ref v, .int (rd + rt (side E.x1 E.x2 * side E.x1 E.x2 + side E.y1 E.y2 * side E.y1 E.y2))]) → H' v = some (.tup [.int (px - mid E.x1 E.x2), .int (py - mid E.y1 E.y2), .int pz]) → Q (.ref u) H'
end Sk
namespace Sk
open PySem PySem.Spec PyProof.Rows L2 GenW GxR
section
variable {K : PySem.W.Frag} {a : Addr} {xs : List V} {g : TG} {tt : TT} {te : TE} {vs : List Nat} {σ : L2.St} {H2 : Hp} {R : List Int → Hp → Prop}
/-- over a list that the element leaves as it is -/
theorem gen_listR (Pv : Nat → List Int → Hp → Prop) (h0 : Pv 0 [] H2) (hl : ∀ i zs H, i ≤ xs.length → Pv i zs H → SqL K H a xs)
    (hs : ∀ i zs x H, xs[i]? = some x → Pv i zs H → g x (wipe σ vs) H fun σ2 H2 => wipe σ2 vs = wipe σ vs ∧ tt σ2 H2 fun b H3 => if b = true then te σ2 H3 fun y H4 => MN (Pv (i + 1)) zs y H4 else MZ (Pv (i + 1)) zs H3) (hd : ∀ zs H, Pv xs.length zs H → zs ≠ [] ∧ R zs H) :
    ∃ W : Nat → Nat → List Int → Hp → Prop, (∃ m, W 0 m [] H2) ∧ ∀ i m zs H, W i m zs H → ((Itl K a).stop i H ∧ zs ≠ [] ∧ R zs H) ∨ ((Itl K a).go i H ∧ ∃ Nx : List Int → Hp → Prop, (∀ zs' H', Nx zs' H' → ∃ m', m' < m ∧ W (i + 1) m' zs' H') ∧
      ∀ x H', (Itl K a).yld i H x H' → g x (wipe σ vs) H' fun σ2 H2 => wipe σ2 vs = wipe σ vs ∧ tt σ2 H2 fun b H3 => if b = true then te σ2 H3 fun y H4 => MN Nx zs y H4 else MZ Nx zs H3) := by
  refine ⟨fun i m zs H => m = xs.length - i ∧ i ≤ xs.length ∧ Pv i zs H, ⟨xs.length, by simp, Nat.zero_le _, h0⟩, fun i m zs H w => ?_⟩
  obtain ⟨hm, hi, p⟩ := w
  have q := hl i zs H hi p
  rcases Nat.lt_or_ge i xs.length with z | z
  · refine .inr ⟨⟨xs, xs[i], q, by simp [z]⟩, Pv (i + 1), fun zs' H' p' => ⟨xs.length - (i + 1), by omega, rfl, z, p'⟩, fun x H' y => ?_⟩
    obtain ⟨rfl, y⟩ := y
    exact hs i zs x _ (y xs q) p
  · obtain rfl : i = xs.length := by omega
    exact .inl ⟨⟨xs, q, Nat.le_refl _⟩, hd zs H p⟩
end
theorem sameU {H H' : Hp} {L : Addr} {o : HO} (hL : H L = none) (sm : Same H H') : Same H (upd H' L o) := fun b u e => by
  rw [upd_ne (ne_of_none e hL)]
  exact sm b u e
end Sk
namespace Sk
open PySem PySem.Spec PyProof.Rows L2
def aLo (E : Est) (i : Nat) : Int := if i = 0 then E.x1 else E.y1
def aHi (E : Est) (i : Nat) : Int := if i = 0 then E.x2 else E.y2
def aP (px py : Int) (i : Nat) : Int := if i = 0 then px else py
theorem est_lo (E : Est) {i : Nat} (h : i < 2) : atI E.v (2 * (0 + (i : Int))) = some (.int (aLo E i)) := by
  match i, h with
  | 0, _ => rfl
  | 1, _ => rfl
theorem est_hi (E : Est) {i : Nat} (h : i < 2) : atI E.v (2 * (0 + (i : Int)) + 1) = some (.int (aHi E i)) := by
  match i, h with
  | 0, _ => rfl
  | 1, _ => rfl
theorem plot_at (px py pz : Int) {i : Nat} (h : i < 2) : atI [V.int px, .int py, .int pz] (0 + (i : Int)) = some (.int (aP px py i)) := by
  match i, h with
  | 0, _ => rfl
  | 1, _ => rfl
theorem seg_at0 (s : Seg) {i : Nat} (h : i < 2) : atI (s.li.map V.int) (0 + (i : Int)) = some (.int (c0 i s)) := by
  match i, h with
  | 0, _ => rfl
  | 1, _ => rfl
theorem seg_at1 (s : Seg) {i : Nat} (h : i < 2) : atI (s.li.map V.int) (0 + (i : Int) + 2) = some (.int (c1 i s)) := by
  match i, h with
  | 0, _ => rfl
  | 1, _ => rfl
theorem two_step {a b : Int} {f : Int → Int} {k : Nat} {x : V} (h : ([V.int a, V.int b])[k]? = some x) : ∃ z, x = .int z ∧ ([f a, f b].take (k + 1)) = [f a, f b].take k ++ [f z] ∧ (z = a ∨ z = b) := by
  match k, h with
  | 0, h => exact ⟨a, (Option.some.inj h).symm, rfl, .inl rfl⟩
  | 1, h => exact ⟨b, (Option.some.inj h).symm, rfl, .inr rfl⟩
theorem dn_step {i j : Nat} {ss : List Seg} {s : Seg} (h : ss[j]? = some s) : dn i (ss.take (j + 1)) = dn i (ss.take j) ++ [c0 i s / s.d, c1 i s / s.d] := by
  unfold dn
  rw [List.take_add_one, h, List.flatMap_append]
  simp
theorem up_step {i j : Nat} {ss : List Seg} {s : Seg} (h : ss[j]? = some s) : up i (ss.take (j + 1)) = up i (ss.take j) ++ [-(-c0 i s / s.d), -(-c1 i s / s.d)] := by
  unfold up
  rw [List.take_add_one, h, List.flatMap_append]
  simp
theorem dn_len (i : Nat) (ss : List Seg) : (dn i ss).length = 2 * ss.length := by
  unfold dn
  induction ss with
  | nil => rfl
  | cons s ss ih => rw [List.flatMap_cons, List.length_append, ih]; simp only [List.length_cons, List.length_nil]; omega
theorem up_len (i : Nat) (ss : List Seg) : (up i ss).length = 2 * ss.length := by
  unfold up
  induction ss with
  | nil => rfl
  | cons s ss ih => rw [List.flatMap_cons, List.length_append, ih]; simp only [List.length_cons, List.length_nil]; omega
/-- both bounds along an axis -/
def axLo (E : Est) (m px py : Int) (ss : List Seg) (i : Nat) : Int := nlo (aLo E i) (aP px py i) m i ss
def axHi (E : Est) (m px py : Int) (ss : List Seg) (i : Nat) : Int := nhi (aHi E i) (aP px py i) m i ss
def axs (E : Est) (m px py : Int) (ss : List Seg) : Nat → List Int
  | 0 => []
  | i + 1 => axs E m px py ss i ++ [axLo E m px py ss i, axHi E m px py ss i]
theorem nar_none {E : Est} {m px py : Int} {ss : List Seg} {i : Nat} (h : i < 2) (c : axHi E m px py ss i < axLo E m px py ss i) : nar E m px py ss = none := by
  unfold nar
  match i, h with
  | 0, _ => rw [if_pos (.inl c)]
  | 1, _ => rw [if_pos (.inr c)]
theorem nar_some {E : Est} {m px py : Int} {ss : List Seg} (c : ∀ i, i < 2 → axLo E m px py ss i ≤ axHi E m px py ss i) : nar E m px py ss = some ⟨axLo E m px py ss 0, axHi E m px py ss 0, axLo E m px py ss 1, axHi E m px py ss 1⟩ := by
  have a : nlo E.x1 px m 0 ss ≤ nhi E.x2 px m 0 ss := c 0 (by decide)
  have b : nlo E.y1 py m 1 ss ≤ nhi E.y2 py m 1 ss := c 1 (by decide)
  unfold nar
  rw [if_neg (by omega)]
  rfl
def spVecR (K : PySem.W.Frag) : Sp := fun vs H Q _ => ∃ (d c : Addr) (m : Int), vs = [.ref d, .int m] ∧ St1 K H d c ∧ 0 ≤ m ∧ m ≤ 2000 ∧
  ∀ (q : Addr) (x y : Int) (H' : Hp), H q = none → H' q = some (.tup [.int x, .int y]) → -m ≤ x → x ≤ m → -m ≤ y → y ≤ m → St1 K H' d c → Keep d H H' → Q (.ref q) H'
def spLNar : Sp := fun vs H Q _ => ∃ (e q l : Addr) (m : Int) (E : Est) (px py pz : Int) (ss : List Seg), vs = [.ref e, .int m, .ref q, .ref l] ∧ H e = some (.tup E.v) ∧ H q = some (.tup [.int px, .int py, .int pz]) ∧ LoT H l (ss.map Seg.li) ∧ (∀ s ∈ ss, SegBd 200 100 s ∧ 1 ≤ s.d) ∧ ss ≠ [] ∧ ss.length ≤ 100 ∧
  ∀ (v : V) (H' : Hp), Same H H' → optE H' (nar E m px py ss) v → Q v H'
def nearB (px py d x y m : Int) : Bool := decide ((px - x * d) * (px - x * d) + (py - y * d) * (py - y * d) ≤ m * m * d * d)
def spNear : Sp := fun vs H Q _ => ∃ (q : Addr) (px py d x y m : Int), vs = [.ref q, .int x, .int y, .int m] ∧ H q = some (.tup [.int px, .int py, .int d]) ∧ BdN 200 px ∧ BdN 200 py ∧ BdN 30 d ∧ BdN 300 x ∧ BdN 300 y ∧ BdN 100 m ∧ Q (.bl (nearB px py d x y m)) H
def spLCor : Sp := fun vs H Q _ => ∃ (e q : Addr) (rd : Int) (E : Est) (px py pz : Int), vs = [.ref e, .ref q, .int rd] ∧ H e = some (.tup E.v) ∧ H q = some (.tup [.int px, .int py, .int pz]) ∧
  0 ≤ side E.x1 E.x2 ∧ side E.x1 E.x2 ≤ 1000000 ∧ 0 ≤ side E.y1 E.y2 ∧ side E.y1 E.y2 ≤ 1000000 ∧
  ∀ (u v : Addr) (H' : Hp), Same H H' → H' u = some (.tup [.ref v, .int (rd + rt (side E.x1 E.x2 * side E.x1 E.x2 + side E.y1 E.y2 * side E.y1 E.y2))]) → H' v = some (.tup [.int (px - mid E.x1 E.x2), .int (py - mid E.y1 E.y2), .int pz]) → Q (.ref u) H'
end Sk
namespace Sk
open PySem PySem.Spec PyProof.Rows L2
structure EstOk (E : Est) (ox oy : Int) : Prop where
  x0 : E.x1 ≤ ox
  x1 : ox ≤ E.x2
  y0 : E.y1 ≤ oy
  y1 : oy ≤ E.y2
  bx0 : -20000 ≤ E.x1
  bx1 : E.x2 ≤ 20000
  by0 : -20000 ≤ E.y1
  by1 : E.y2 ≤ 20000
theorem near_sides {px py d x y m : Int} (hd : 1 ≤ d) (hm : 0 ≤ m) (h : nearB px py d x y m = true) : ((x - m) * d ≤ px ∧ px ≤ (x + m) * d) ∧ (y - m) * d ≤ py ∧ py ≤ (y + m) * d := by
  have h := of_decide_eq_true h
  have e : m * m * d * d = (m * d) * (m * d) := by grind
  rw [e] at h
  have md : 0 ≤ m * d := Int.mul_nonneg hm (by omega)
  have a := side_of md h
  have b := side_of md (show (py - y * d) * (py - y * d) + (px - x * d) * (px - x * d) ≤ (m * d) * (m * d) by omega)
  have e1 : (x - m) * d = x * d - m * d := Int.sub_mul ..
  have e2 : (x + m) * d = x * d + m * d := Int.add_mul ..
  have e3 : (y - m) * d = y * d - m * d := Int.sub_mul ..
  have e4 : (y + m) * d = y * d + m * d := Int.add_mul ..
  omega
theorem nar_fits {E : Est} {ox oy m x y px py d : Int} {ss : List Seg} (hd : 1 ≤ d) (hm : 0 ≤ m) (ok : EstOk E ox oy) (on : ∃ s ∈ ss, OnS px py d s) (sd : ∀ s ∈ ss, SegBd 200 100 s ∧ 1 ≤ s.d) (near : nearB px py d x y m = true) :
    ∃ E2, nar E m (x + ox) (y + oy) ss = some E2 ∧ EstOk E2 ox oy ∧ E.x1 ≤ E2.x1 ∧ E2.y2 ≤ E.y2 := by
  obtain ⟨s, hs, u, v, u0, v0, uv, ex, ey⟩ := on
  obtain ⟨⟨a, b⟩, c, e⟩ := near_sides hd hm near
  have s1 := (sd s hs).2
  have p1 : x - m ≤ maxs (dn 0 ss) := below_max (i := 0) hs hd s1 u0 v0 uv ex a
  have p2 : mins (up 0 ss) ≤ x + m := above_min (i := 0) hs hd s1 u0 v0 uv ex b
  have p3 : y - m ≤ maxs (dn 1 ss) := below_max (i := 1) hs hd s1 u0 v0 uv ey c
  have p4 : mins (up 1 ss) ≤ y + m := above_min (i := 1) hs hd s1 u0 v0 uv ey e
  obtain ⟨k1, k2, k3, k4, k5, k6, k7, k8⟩ := ok
  have q1 : nlo E.x1 (x + ox) m 0 ss ≤ ox ∧ E.x1 ≤ nlo E.x1 (x + ox) m 0 ss := by unfold nlo; split <;> omega
  have q2 : ox ≤ nhi E.x2 (x + ox) m 0 ss ∧ nhi E.x2 (x + ox) m 0 ss ≤ E.x2 := by unfold nhi; split <;> omega
  have q3 : nlo E.y1 (y + oy) m 1 ss ≤ oy ∧ E.y1 ≤ nlo E.y1 (y + oy) m 1 ss := by unfold nlo; split <;> omega
  have q4 : oy ≤ nhi E.y2 (y + oy) m 1 ss ∧ nhi E.y2 (y + oy) m 1 ss ≤ E.y2 := by unfold nhi; split <;> omega
  refine ⟨⟨nlo E.x1 (x + ox) m 0 ss, nhi E.x2 (x + ox) m 0 ss, nlo E.y1 (y + oy) m 1 ss, nhi E.y2 (y + oy) m 1 ss⟩, ?_, ⟨q1.1, q2.1, q3.1, q4.1, ?_, ?_, ?_, ?_⟩, q1.2, q4.2⟩
  · unfold nar
    rw [if_neg (by omega)]
  all_goals (dsimp only; omega)
theorem side_bd {a b : Int} (h : a ≤ b) : 0 ≤ side a b ∧ side a b ≤ b - a := by
  unfold side mid
  split <;> omega
theorem side_in {a b o : Int} (h0 : a ≤ o) (h1 : o ≤ b) : -(side a b) ≤ o - mid a b ∧ o - mid a b ≤ side a b := by
  unfold side mid
  split <;> omega
theorem near_told {E : Est} {ox oy m x y px py d R : Int} (hd : 1 ≤ d) (hm : 0 ≤ m) (hR : 0 ≤ R) (ok : EstOk E ox oy) (near : nearB px py d x y m = true) (hS : side E.x1 E.x2 * side E.x1 E.x2 + side E.y1 E.y2 * side E.y1 E.y2 ≤ R * R) :
    nearB px py d (x + ox - mid E.x1 E.x2) (y + oy - mid E.y1 E.y2) (m + R) = true := by
  have near := of_decide_eq_true near
  obtain ⟨k1, k2, k3, k4, _, _, _, _⟩ := ok
  have sx := side_in k1 k2
  have sy := side_in k3 k4
  have bx := side_bd (show E.x1 ≤ E.x2 by omega)
  have by' := side_bd (show E.y1 ≤ E.y2 by omega)
  generalize side E.x1 E.x2 = sx' at *
  generalize side E.y1 E.y2 = sy' at *
  generalize ec : ox - mid E.x1 E.x2 = cx at *
  generalize ee : oy - mid E.y1 E.y2 = cy at *
  have h1 := sq_le sx.1 sx.2
  have h2 := sq_le sy.1 sy.2
  have md : 0 ≤ m * d := Int.mul_nonneg hm (by omega)
  have rdd : 0 ≤ R * d := Int.mul_nonneg hR (by omega)
  have e1 : m * m * d * d = (m * d) * (m * d) := by grind
  rw [e1] at near
  have h3 : (-(cx * d)) * (-(cx * d)) + (-(cy * d)) * (-(cy * d)) ≤ (R * d) * (R * d) := by
    have q := Int.mul_le_mul_of_nonneg_right (show cx * cx + cy * cy ≤ R * R by omega) (sq0 d)
    have e2 : (-(cx * d)) * (-(cx * d)) + (-(cy * d)) * (-(cy * d)) = (cx * cx + cy * cy) * (d * d) := by grind
    have e3 : (R * d) * (R * d) = R * R * (d * d) := by grind
    rw [e2, e3]
    exact q
  have t := tri md rdd near h3
  refine decide_eq_true ?_
  have e4 : px - (x + ox - mid E.x1 E.x2) * d = (px - x * d) + -(cx * d) := by rw [← ec]; grind
  have e5 : py - (y + oy - mid E.y1 E.y2) * d = (py - y * d) + -(cy * d) := by rw [← ee]; grind
  have e6 : (m + R) * (m + R) * d * d = (m * d + R * d) * (m * d + R * d) := by grind
  rw [e4, e5, e6]
  exact t
theorem BdN.ediv {n : Nat} {x d : Int} (h : BdN n x) (hd : 1 ≤ d) : BdN n (x / d) := by
  have a : (x / d).natAbs ≤ x.natAbs := by
    rcases Int.lt_or_le x 0 with z | z
    · have h1 : x / d < 0 := Int.ediv_neg_of_neg_of_pos z (by omega)
      have h2 : x ≤ x / d := by
        rw [Int.le_ediv_iff_mul_le (by omega)]
        have := Int.mul_le_mul_of_nonpos_left (show x ≤ 0 by omega) (show (1 : Int) ≤ d from hd)
        omega
      omega
    · have h1 : 0 ≤ x / d := Int.ediv_nonneg z (by omega)
      have h2 : x / d ≤ x := Int.ediv_le_self d z
      omega
  exact Nat.le_trans a h
theorem pdc_can (a b c n : Int) : (PyData.tuple [.tuple ([a, b, c].map .int), .int n]).canLay0 = true := by rfl
theorem pdc_sh (a b c n : Int) : SeqAt.shaped (.tuple [.tuple ([a, b, c].map .int), .int n]) = true := by
  refine sh_of (pdc_can a b c n) ?_
  show PyData.depthAll _ + 1 ≤ 64
  have : PyData.depthAll [PyData.tuple ([a, b, c].map .int), .int n] ≤ 3 := dpa fun x hx => by
    simp only [List.mem_cons, List.not_mem_nil, or_false] at hx
    rcases hx with rfl | rfl
    · exact Nat.le_trans (dep_pd [a, b, c]) (by decide)
    · exact Nat.zero_le _
  omega
theorem pdc_dp {K : PySem.W.Frag} {H : Hp} {u v : Addr} {a b c n : Int} (hu : H u = some (.tup [.ref v, .int n])) (hv : H v = some (.tup [.int a, .int b, .int c])) : Dp K H (.ref u) (.tuple [.tuple ([a, b, c].map .int), .int n]) :=
  .tup (.inl (.inl hu)) (.cons (.tup (.inl (.inl hv)) (dpAll_int [_, _, _])) (.cons (.int _) .nil))
end Sk

set_option Elab.async false
set_option linter.all false
set_option maxRecDepth 100000
set_option maxHeartbeats 4000000
namespace Sk
open PySem PySem.Spec PyProof.Rows L2
/-! segments that are not closer than r have no points that are nearer -/
/-- a point that is not nearer than r to a segment, is not nearer to any point of it -/
theorem far_all {x y cx cy dx dy r m w z : Int} (h : r * r * (sqr x y cx cy dx dy).2 ≤ (sqr x y cx cy dx dy).1) (w0 : 0 ≤ w) (z0 : 0 ≤ z) (hm : m = w + z) :
    r * r * (m * m) ≤ (m * x - (w * cx + z * dx)) * (m * x - (w * cx + z * dx)) + (m * y - (w * cy + z * dy)) * (m * y - (w * cy + z * dy)) := by
  subst hm
  unfold sqr at h
  generalize hal : (x - cx) * (dx - cx) + (y - cy) * (dy - cy) = al at h
  generalize hln : (dx - cx) * (dx - cx) + (dy - cy) * (dy - cy) = ln at h
  have ln0 : 0 ≤ ln := by have := sq0 (dx - cx); have := sq0 (dy - cy); omega
  have mm := sq0 (w + z)
  split at h
  · rename_i c
    dsimp only at h
    have e : ((w + z) * x - (w * cx + z * dx)) * ((w + z) * x - (w * cx + z * dx)) + ((w + z) * y - (w * cy + z * dy)) * ((w + z) * y - (w * cy + z * dy)) = ((w + z) * (w + z)) * ((x - cx) * (x - cx) + (y - cy) * (y - cy)) + 2 * (((w + z) * z) * (-al)) + z * z * ln := by
      rw [← hal, ← hln]; grind
    rw [e]
    have q1 := Int.mul_le_mul_of_nonneg_left h mm
    have q2 := Int.mul_nonneg (Int.mul_nonneg (show 0 ≤ w + z by omega) z0) (show 0 ≤ -al by omega)
    have q3 := Int.mul_nonneg (sq0 z) ln0
    have q4 : (w + z) * (w + z) * (r * r * 1) = r * r * ((w + z) * (w + z)) := by grind
    omega
  · rename_i c
    split at h
    · rename_i c2
      dsimp only at h
      have e : ((w + z) * x - (w * cx + z * dx)) * ((w + z) * x - (w * cx + z * dx)) + ((w + z) * y - (w * cy + z * dy)) * ((w + z) * y - (w * cy + z * dy)) = ((w + z) * (w + z)) * ((x - dx) * (x - dx) + (y - dy) * (y - dy)) + 2 * (((w + z) * w) * (al - ln)) + w * w * ln := by
        rw [← hal, ← hln]; grind
      rw [e]
      have q1 := Int.mul_le_mul_of_nonneg_left h mm
      have q2 := Int.mul_nonneg (Int.mul_nonneg (show 0 ≤ w + z by omega) w0) (show 0 ≤ al - ln by omega)
      have q3 := Int.mul_nonneg (sq0 w) ln0
      have q4 : (w + z) * (w + z) * (r * r * 1) = r * r * ((w + z) * (w + z)) := by grind
      omega
    · rename_i c2
      dsimp only at h
      have lp : 0 < ln := by omega
      generalize hD : ((w + z) * x - (w * cx + z * dx)) * ((w + z) * x - (w * cx + z * dx)) + ((w + z) * y - (w * cy + z * dy)) * ((w + z) * y - (w * cy + z * dy)) = Dd
      have e : ln * Dd = ((w + z) * al - z * ln) * ((w + z) * al - z * ln) + ((w + z) * (w + z)) * (trn cx cy dx dy x y * trn cx cy dx dy x y) := by
        rw [← hD, ← hal, ← hln]; unfold trn; grind
      have q0 := sq0 ((w + z) * al - z * ln)
      have q1 := Int.mul_le_mul_of_nonneg_left h mm
      have q4 : (w + z) * (w + z) * (r * r * ln) = ln * (r * r * ((w + z) * (w + z))) := by grind
      have q5 : ln * (r * r * ((w + z) * (w + z))) ≤ ln * Dd := by omega
      exact Int.le_of_mul_le_mul_left q5 lp
/-- squares of sizes -/
theorem sq_lt_of {a b : Int} (h : a * a < b * b) (hb : 0 ≤ b) : -b < a ∧ a < b := by
  constructor
  · rcases Int.lt_or_le (-b) a with z | z
    · exact z
    · have := Int.mul_le_mul (show b ≤ -a by omega) (show b ≤ -a by omega) hb (by omega)
      rw [Int.neg_mul_neg] at this
      omega
  · rcases Int.lt_or_le a b with z | z
    · exact z
    · have := Int.mul_le_mul z z hb (by omega)
      omega
/-- the core, in heights t and feet a over the first segment: C is the nearer end of the second one, its foot not behind the far end -/
theorem core {L R m n v w z aC tC aQ tQ : Int} (L1 : 1 ≤ L) (m1 : 1 ≤ m) (aQ0 : 0 < aQ) (hC : m * m * (tC * tC) ≤ tQ * tQ) (hQ : tQ * tQ < R * (m * m * L)) (R0 : 0 ≤ R)
    (foot : 0 ≤ aC → R * L ≤ tC * tC) (beyond : aC < 0 → R * ((aQ - aC * m) * (aQ - aC * m) * L) ≤ (aQ * tC - aC * tQ) * (aQ * tC - aC * tQ)) (same : 0 ≤ tC * tQ) : False := by
  rcases Int.lt_or_le aC 0 with c | c
  · have b := beyond c
    -- m * (aQ tC - aC tQ) is at most (aQ - aC m) tQ, by size
    have p1 : 0 ≤ aQ * (-aC) * (tC * tQ) := Int.mul_nonneg (Int.mul_nonneg (by omega) (by omega)) same
    have e1 : (m * (aQ * tC - aC * tQ)) * (m * (aQ * tC - aC * tQ)) = aQ * aQ * (m * m * (tC * tC)) + 2 * (m * m * (aQ * (-aC) * (tC * tQ))) + aC * aC * (m * m) * (tQ * tQ) := by grind
    have e2 : (aQ - aC * m) * (aQ - aC * m) * (tQ * tQ) = aQ * aQ * (tQ * tQ) + 2 * (m * (aQ * (-aC) * (tQ * tQ))) + aC * aC * (m * m) * (tQ * tQ) := by grind
    -- m tC tQ is at most tQ tQ
    have s1 : m * (tC * tQ) ≤ tQ * tQ := by
      rcases Int.lt_or_le (tQ * tQ) (m * (tC * tQ)) with k | k
      · exfalso
        have q := Int.mul_le_mul (show tQ * tQ + 1 ≤ m * (tC * tQ) by omega) (show tQ * tQ + 1 ≤ m * (tC * tQ) by omega) (by have := sq0 tQ; omega) (by have := sq0 tQ; omega)
        have q2 := Int.mul_le_mul_of_nonneg_right hC (sq0 tQ)
        have e3 : m * (tC * tQ) * (m * (tC * tQ)) = m * m * (tC * tC) * (tQ * tQ) := by grind
        have e4 : (tQ * tQ + 1) * (tQ * tQ + 1) = tQ * tQ * (tQ * tQ) + 2 * (tQ * tQ) + 1 := by grind
        have := sq0 tQ
        omega
      · exact k
    have s2 := Int.mul_le_mul_of_nonneg_left hC (sq0 aQ)
    have s3 := Int.mul_le_mul_of_nonneg_left s1 (Int.mul_nonneg (Int.mul_nonneg (show 0 ≤ aQ by omega) (show 0 ≤ -aC by omega)) (show 0 ≤ m by omega))
    have e5 : aQ * -aC * m * (m * (tC * tQ)) = m * m * (aQ * (-aC) * (tC * tQ)) := by grind
    have e6 : aQ * -aC * m * (tQ * tQ) = m * (aQ * (-aC) * (tQ * tQ)) := by grind
    have t1 : (m * (aQ * tC - aC * tQ)) * (m * (aQ * tC - aC * tQ)) ≤ (aQ - aC * m) * (aQ - aC * m) * (tQ * tQ) := by omega
    have M1 : 1 ≤ aQ - aC * m := by
      have := Int.mul_le_mul_of_nonneg_left (show 1 ≤ m from m1) (show 0 ≤ -aC by omega)
      have e : -aC * m = -(aC * m) := Int.neg_mul ..
      omega
    have MM : 1 ≤ (aQ - aC * m) * (aQ - aC * m) := by
      have := Int.mul_le_mul M1 M1 (by decide) (by omega)
      omega
    have t2 : (aQ - aC * m) * (aQ - aC * m) * (tQ * tQ) < (aQ - aC * m) * (aQ - aC * m) * (R * (m * m * L)) := Int.mul_lt_mul_of_pos_left hQ (by omega)
    have t3 := Int.mul_le_mul_of_nonneg_left b (sq0 m)
    have e7 : m * m * ((aQ * tC - aC * tQ) * (aQ * tC - aC * tQ)) = (m * (aQ * tC - aC * tQ)) * (m * (aQ * tC - aC * tQ)) := by grind
    have e8 : m * m * (R * ((aQ - aC * m) * (aQ - aC * m) * L)) = (aQ - aC * m) * (aQ - aC * m) * (R * (m * m * L)) := by grind
    omega
  · have f := foot c
    have mm : 1 ≤ m * m := by
      have := Int.mul_le_mul m1 m1 (by decide) (by omega)
      omega
    have t1 := Int.mul_le_mul_of_nonneg_left f (show 0 ≤ m * m by omega)
    have e1 : m * m * (R * L) = R * (m * m * L) := by grind
    omega
end Sk
namespace Sk
open PySem PySem.Spec PyProof.Rows L2
theorem lagr (ex ey X Y : Int) : (ex * ex + ey * ey) * (X * X + Y * Y) = (ex * X + ey * Y) * (ex * X + ey * Y) + (ex * Y - ey * X) * (ex * Y - ey * X) := by grind
/-- the same, told by feet and heights over a direction -/
theorem far_dot {x y cx cy dx dy ex ey r m w z : Int} (h : r * r * (sqr x y cx cy dx dy).2 ≤ (sqr x y cx cy dx dy).1) (w0 : 0 ≤ w) (z0 : 0 ≤ z) (hm : m = w + z) :
    (ex * ex + ey * ey) * (r * r * (m * m)) ≤ (w * ((cx - x) * ex + (cy - y) * ey) + z * ((dx - x) * ex + (dy - y) * ey)) * (w * ((cx - x) * ex + (cy - y) * ey) + z * ((dx - x) * ex + (dy - y) * ey)) + (w * (ex * (cy - y) - ey * (cx - x)) + z * (ex * (dy - y) - ey * (dx - x))) * (w * (ex * (cy - y) - ey * (cx - x)) + z * (ex * (dy - y) - ey * (dx - x))) := by
  have f := far_all h w0 z0 hm
  have l0 : 0 ≤ ex * ex + ey * ey := by have := sq0 ex; have := sq0 ey; omega
  have g := Int.mul_le_mul_of_nonneg_left f l0
  rw [lagr ex ey] at g
  have e1 : ex * (m * x - (w * cx + z * dx)) + ey * (m * y - (w * cy + z * dy)) = -(w * ((cx - x) * ex + (cy - y) * ey) + z * ((dx - x) * ex + (dy - y) * ey)) := by subst hm; grind
  have e2 : ex * (m * y - (w * cy + z * dy)) - ey * (m * x - (w * cx + z * dx)) = -(w * (ex * (cy - y) - ey * (cx - x)) + z * (ex * (dy - y) - ey * (dx - x))) := by subst hm; grind
  rw [e1, e2, Int.neg_mul_neg, Int.neg_mul_neg] at g
  exact g
theorem same_ge {a b : Int} (h : 0 ≤ a * b) (k : a * a ≤ b * b) : a * a ≤ a * b := by
  rcases Int.lt_or_le (a * b) (a * a) with z | z
  · exfalso
    have q1 := Int.mul_le_mul (show a * b + 1 ≤ a * a by omega) (show a * b + 1 ≤ a * a by omega) (by omega) (by have := sq0 a; omega)
    have q2 := Int.mul_le_mul_of_nonneg_left k (sq0 a)
    have e1 : (a * b + 1) * (a * b + 1) = a * a * (b * b) + 2 * (a * b) + 1 := by grind
    omega
  · exact z
theorem nearer {w z tC tD : Int} (w0 : 0 ≤ w) (z0 : 0 ≤ z) (s : 0 ≤ tC * tD) (k : tC * tC ≤ tD * tD) : (w + z) * (w + z) * (tC * tC) ≤ (w * tC + z * tD) * (w * tC + z * tD) ∧ 0 ≤ tC * (w * tC + z * tD) := by
  have g := same_ge s k
  have q1 := Int.mul_le_mul_of_nonneg_left g (Int.mul_nonneg w0 z0)
  have q2 := Int.mul_le_mul_of_nonneg_left k (sq0 z)
  have e1 : (w + z) * (w + z) * (tC * tC) = w * w * (tC * tC) + 2 * (w * z * (tC * tC)) + z * z * (tC * tC) := by grind
  have e2 : (w * tC + z * tD) * (w * tC + z * tD) = w * w * (tC * tC) + 2 * (w * z * (tC * tD)) + z * z * (tD * tD) := by grind
  have e3 : tC * (w * tC + z * tD) = w * (tC * tC) + z * (tC * tD) := by grind
  have q3 := Int.mul_nonneg w0 (sq0 tC)
  have q4 := Int.mul_nonneg z0 s
  constructor <;> omega
/-- both ends of the second segment on one side of the first -/
theorem one_end {L R m w z aC aD tC tD : Int} (L1 : 1 ≤ L) (R0 : 0 ≤ R) (w0 : 0 ≤ w) (z0 : 0 ≤ z) (hm : m = w + z) (m1 : 1 ≤ m) (s : 0 ≤ tC * tD) (k : tC * tC ≤ tD * tD)
    (aQ0 : 0 < w * aC + z * aD) (aQ1 : w * aC + z * aD < m * L) (hQ : (w * tC + z * tD) * (w * tC + z * tD) < R * (m * m * L))
    (farA : ∀ w' z' m' : Int, 0 ≤ w' → 0 ≤ z' → m' = w' + z' → L * (R * (m' * m')) ≤ (w' * aC + z' * aD) * (w' * aC + z' * aD) + (w' * tC + z' * tD) * (w' * tC + z' * tD))
    (farB : ∀ w' z' m' : Int, 0 ≤ w' → 0 ≤ z' → m' = w' + z' → L * (R * (m' * m')) ≤ (w' * (L - aC) + z' * (L - aD)) * (w' * (L - aC) + z' * (L - aD)) + (w' * tC + z' * tD) * (w' * tC + z' * tD))
    (foot : 0 ≤ aC → aC ≤ L → R * L ≤ tC * tC) : False := by
  obtain ⟨n1, n2⟩ := nearer w0 z0 s k
  rw [← hm] at n1
  have beyond : ∀ aC aD : Int, aC < 0 → 0 < w * aC + z * aD → (∀ w' z' m' : Int, 0 ≤ w' → 0 ≤ z' → m' = w' + z' → L * (R * (m' * m')) ≤ (w' * aC + z' * aD) * (w' * aC + z' * aD) + (w' * tC + z' * tD) * (w' * tC + z' * tD)) →
      R * (((w * aC + z * aD) - aC * m) * ((w * aC + z * aD) - aC * m) * L) ≤ ((w * aC + z * aD) * tC - aC * (w * tC + z * tD)) * ((w * aC + z * aD) * tC - aC * (w * tC + z * tD)) := fun aC aD hc hq far => by
    have c1 : 0 ≤ (w * aC + z * aD) - aC * w := by
      have := Int.mul_nonneg (show 0 ≤ -aC by omega) w0
      have e : -aC * w = -(aC * w) := Int.neg_mul ..
      omega
    have c2 : 0 ≤ -aC * z := Int.mul_nonneg (by omega) z0
    have f := far _ _ ((w * aC + z * aD) - aC * m) c1 c2 (by rw [hm]; grind)
    have e1 : ((w * aC + z * aD) - aC * w) * aC + -aC * z * aD = 0 := by grind
    have e2 : ((w * aC + z * aD) - aC * w) * tC + -aC * z * tD = (w * aC + z * aD) * tC - aC * (w * tC + z * tD) := by grind
    rw [e1, e2] at f
    have e3 : L * (R * (((w * aC + z * aD) - aC * m) * ((w * aC + z * aD) - aC * m))) = R * (((w * aC + z * aD) - aC * m) * ((w * aC + z * aD) - aC * m) * L) := by grind
    omega
  rcases Int.lt_or_le L aC with c | c
  · -- the foot is behind the far end: seen from there
    have eq : w * (L - aC) + z * (L - aD) = m * L - (w * aC + z * aD) := by rw [hm]; grind
    refine core (aC := L - aC) (aQ := w * (L - aC) + z * (L - aD)) (tC := tC) (n := 1) (v := 0) (w := 0) (z := 0) L1 m1 (by omega) n1 hQ R0 (fun h => absurd h (by omega)) (fun h => beyond (L - aC) (L - aD) h (by omega) farB) n2
  · exact core (n := 1) (v := 0) (w := 0) (z := 0) L1 m1 aQ0 n1 hQ R0 (fun h => foot h c) (fun h => beyond aC aD h aQ0 farA) n2
/-- the foot of an end within the segment -/
theorem foot_of {x y ax ay bx bw ex ey r : Int} (h : r * r * (sqr x y ax ay bx bw).2 ≤ (sqr x y ax ay bx bw).1) (eex : bx - ax = ex) (eey : bw - ay = ey) (lp : 0 < ex * ex + ey * ey) :
    0 ≤ (x - ax) * ex + (y - ay) * ey → (x - ax) * ex + (y - ay) * ey ≤ ex * ex + ey * ey → r * r * (ex * ex + ey * ey) ≤ (ex * (y - ay) - ey * (x - ax)) * (ex * (y - ay) - ey * (x - ax)) := fun h0 h1 => by
  have f := far_all (w := (ex * ex + ey * ey) - ((x - ax) * ex + (y - ay) * ey)) (z := (x - ax) * ex + (y - ay) * ey) (m := ex * ex + ey * ey) h (by omega) h0 (by omega)
  have g := Int.mul_le_mul_of_nonneg_left f (Int.le_of_lt lp)
  generalize hl : ex * ex + ey * ey = L at *
  generalize ha : (x - ax) * ex + (y - ay) * ey = aC at *
  have lg := lagr ex ey (L * x - ((L - aC) * ax + aC * bx)) (L * y - ((L - aC) * ay + aC * bw))
  rw [hl] at lg
  rw [lg] at g
  have e1 : ex * (L * x - ((L - aC) * ax + aC * bx)) + ey * (L * y - ((L - aC) * ay + aC * bw)) = 0 := by
    have : ex * (L * x - ((L - aC) * ax + aC * bx)) + ey * (L * y - ((L - aC) * ay + aC * bw)) = L * ((x - ax) * ex + (y - ay) * ey) - aC * (ex * (bx - ax) + ey * (bw - ay)) := by grind
    rw [this, ha, eex, eey, hl]; grind
  have e2 : ex * (L * y - ((L - aC) * ay + aC * bw)) - ey * (L * x - ((L - aC) * ax + aC * bx)) = L * (ex * (y - ay) - ey * (x - ax)) := by
    have : ex * (L * y - ((L - aC) * ay + aC * bw)) - ey * (L * x - ((L - aC) * ax + aC * bx)) = L * (ex * (y - ay) - ey * (x - ax)) - aC * (ex * (bw - ay) - ey * (bx - ax)) := by grind
    rw [this, eex, eey]; grind
  rw [e1, e2] at g
  have ll : 0 < L * L := Int.mul_pos lp lp
  have e3 : L * (r * r * (L * L)) = L * L * (r * r * L) := by grind
  have e4 : 0 * 0 + L * (ex * (y - ay) - ey * (x - ax)) * (L * (ex * (y - ay) - ey * (x - ax))) = L * L * ((ex * (y - ay) - ey * (x - ax)) * (ex * (y - ay) - ey * (x - ax))) := by grind
  rw [e3, e4] at g
  exact Int.le_of_mul_le_mul_left g ll
theorem side_apart {ax ay bx bw cx cy dx dy r n m u v w z : Int} (u0 : 0 ≤ u) (v0 : 0 ≤ v) (w0 : 0 ≤ w) (z0 : 0 ≤ z) (hn : n = u + v) (n1 : 1 ≤ n) (hm : m = w + z) (m1 : 1 ≤ m)
    (hA : r * r * (sqr ax ay cx cy dx dy).2 ≤ (sqr ax ay cx cy dx dy).1) (hB : r * r * (sqr bx bw cx cy dx dy).2 ≤ (sqr bx bw cx cy dx dy).1) (hC : r * r * (sqr cx cy ax ay bx bw).2 ≤ (sqr cx cy ax ay bx bw).1) (hD : r * r * (sqr dx dy ax ay bx bw).2 ≤ (sqr dx dy ax ay bx bw).1)
    (side : 0 ≤ trn ax ay bx bw cx cy * trn ax ay bx bw dx dy) :
    r * r * ((n * m) * (n * m)) ≤ (m * (u * ax + v * bx) - n * (w * cx + z * dx)) * (m * (u * ax + v * bx) - n * (w * cx + z * dx)) + (m * (u * ay + v * bw) - n * (w * cy + z * dy)) * (m * (u * ay + v * bw) - n * (w * cy + z * dy)) := by
  generalize hX : m * (u * ax + v * bx) - n * (w * cx + z * dx) = X
  generalize hY : m * (u * ay + v * bw) - n * (w * cy + z * dy) = Y
  have nn : 1 ≤ n * n := by have := Int.mul_le_mul n1 n1 (by decide) (by omega); omega
  generalize eex : bx - ax = ex at *
  generalize eey : bw - ay = ey at *
  have l0 : 0 ≤ ex * ex + ey * ey := by have := sq0 ex; have := sq0 ey; omega
  rcases Int.lt_or_le 0 (ex * ex + ey * ey) with lp | lz
  · rcases Int.lt_or_le (X * X + Y * Y) (r * r * ((n * m) * (n * m))) with c | c
    · exfalso
      -- feet and heights
      have dA : ∀ w' z' m' : Int, 0 ≤ w' → 0 ≤ z' → m' = w' + z' → _ := fun w' z' m' a b c => far_dot (ex := ex) (ey := ey) hA a b c
      have dB : ∀ w' z' m' : Int, 0 ≤ w' → 0 ≤ z' → m' = w' + z' → _ := fun w' z' m' a b c => far_dot (ex := ex) (ey := ey) hB a b c
      have tCe : trn ax ay bx bw cx cy = ex * (cy - ay) - ey * (cx - ax) := by rw [← eex, ← eey]; unfold trn; rfl
      have tDe : trn ax ay bx bw dx dy = ex * (dy - ay) - ey * (dx - ax) := by rw [← eex, ← eey]; unfold trn; rfl
      have bCa : (cx - bx) * ex + (cy - bw) * ey = ((cx - ax) * ex + (cy - ay) * ey) - (ex * ex + ey * ey) := by rw [← eex, ← eey]; grind
      have bDa : (dx - bx) * ex + (dy - bw) * ey = ((dx - ax) * ex + (dy - ay) * ey) - (ex * ex + ey * ey) := by rw [← eex, ← eey]; grind
      have bCt : ex * (cy - bw) - ey * (cx - bx) = ex * (cy - ay) - ey * (cx - ax) := by rw [← eex, ← eey]; grind
      have bDt : ex * (dy - bw) - ey * (dx - bx) = ex * (dy - ay) - ey * (dx - ax) := by rw [← eex, ← eey]; grind
      rw [bCa, bDa, bCt, bDt] at dB
      rw [tCe, tDe] at side
      have footC := foot_of (x := cx) (y := cy) hC eex eey lp
      have footD := foot_of (x := dx) (y := dy) hD eex eey lp
      -- the two places
      have eX : ex * X + ey * Y = -(n * (w * ((cx - ax) * ex + (cy - ay) * ey) + z * ((dx - ax) * ex + (dy - ay) * ey)) - m * v * (ex * ex + ey * ey)) := by
        rw [← hX, ← hY, hm, show bx = ax + ex by omega, show bw = ay + ey by omega, hn]; grind
      have eY : ex * Y - ey * X = -(n * (w * (ex * (cy - ay) - ey * (cx - ax)) + z * (ex * (dy - ay) - ey * (dx - ax)))) := by
        rw [← hX, ← hY, hm, show bx = ax + ex by omega, show bw = ay + ey by omega, hn]; grind
      have g := lagr ex ey X Y
      rw [eX, eY, Int.neg_mul_neg, Int.neg_mul_neg] at g
      generalize hl : ex * ex + ey * ey = L at *
      generalize ha : (cx - ax) * ex + (cy - ay) * ey = aC at *
      generalize hb : (dx - ax) * ex + (dy - ay) * ey = aD at *
      generalize hc : ex * (cy - ay) - ey * (cx - ax) = tC at *
      generalize hd : ex * (dy - ay) - ey * (dx - ax) = tD at *
      have g2 := Int.mul_lt_mul_of_pos_left c lp
      rw [g] at g2
      generalize haQ : w * aC + z * aD = aQ at *
      generalize htQ : w * tC + z * tD = tQ at *
      have RR : 0 ≤ r * r := sq0 r
      have kA := dA w z m w0 z0 hm
      have kB := dB w z m w0 z0 hm
      rw [haQ, htQ] at kA
      rw [show w * (aC - L) + z * (aD - L) = -(m * L - aQ) by rw [← haQ, hm]; grind, Int.neg_mul_neg, htQ] at kB
      have e1 : n * tQ * (n * tQ) = n * n * (tQ * tQ) := by grind
      have e2 : L * (r * r * (n * m * (n * m))) = n * n * (r * r * (m * m * L)) := by grind
      have e3 : L * (r * r * (m * m)) = r * r * (m * m * L) := by grind
      rw [e1, e2] at g2
      rw [e3] at kA kB
      have s0 := sq0 (n * aQ - m * v * L)
      have hQ : tQ * tQ < r * r * (m * m * L) := Int.lt_of_mul_lt_mul_left (a := n * n) (by omega) (by omega)
      have aQ0 : 0 < aQ := by
        rcases Int.lt_or_le 0 aQ with k | k
        · exact k
        · exfalso
          have q1 : 0 ≤ m * v * L := Int.mul_nonneg (Int.mul_nonneg (by omega) v0) (by omega)
          have q2 : 0 ≤ n * (-aQ) := Int.mul_nonneg (by omega) (by omega)
          have q2' : n * (-aQ) = -(n * aQ) := Int.mul_neg ..
          have q3 := Int.mul_le_mul (show -(n * aQ) ≤ -(n * aQ - m * v * L) by omega) (show -(n * aQ) ≤ -(n * aQ - m * v * L) by omega) (by omega) (by omega)
          rw [Int.neg_mul_neg, Int.neg_mul_neg] at q3
          have q4 : n * aQ * (n * aQ) = n * n * (aQ * aQ) := by grind
          have q5 := Int.mul_le_mul_of_nonneg_left kA (show 0 ≤ n * n by omega)
          rw [Int.mul_add] at q5
          omega
      have aQ1 : aQ < m * L := by
        rcases Int.lt_or_le aQ (m * L) with k | k
        · exact k
        · exfalso
          have q1 : 0 ≤ m * L * u := Int.mul_nonneg (Int.mul_nonneg (by omega) (by omega)) u0
          have q0 : n * aQ - m * v * L - n * (aQ - m * L) = m * L * u := by rw [hn]; grind
          have q2 : 0 ≤ n * (aQ - m * L) := Int.mul_nonneg (by omega) (by omega)
          have q3 := Int.mul_le_mul (show n * (aQ - m * L) ≤ n * aQ - m * v * L by omega) (show n * (aQ - m * L) ≤ n * aQ - m * v * L by omega) q2 (by omega)
          have q4 : n * (aQ - m * L) * (n * (aQ - m * L)) = n * n * ((m * L - aQ) * (m * L - aQ)) := by grind
          have q5 := Int.mul_le_mul_of_nonneg_left kB (show 0 ≤ n * n by omega)
          rw [Int.mul_add] at q5
          omega
      have dB' : ∀ w' z' m' : Int, 0 ≤ w' → 0 ≤ z' → m' = w' + z' → L * (r * r * (m' * m')) ≤ (w' * (L - aC) + z' * (L - aD)) * (w' * (L - aC) + z' * (L - aD)) + (w' * tC + z' * tD) * (w' * tC + z' * tD) := fun w' z' m' a b c => by
        have := dB w' z' m' a b c
        rw [show w' * (aC - L) + z' * (aD - L) = -(w' * (L - aC) + z' * (L - aD)) by grind, Int.neg_mul_neg] at this
        exact this
      rcases Int.lt_or_le (tD * tD) (tC * tC) with k | k
      · refine one_end (L := L) (R := r * r) (m := m) (w := z) (z := w) (aC := aD) (aD := aC) (tC := tD) (tD := tC) (by omega) RR z0 w0 (by omega) m1 (by rw [Int.mul_comm]; exact side) (by omega) (by omega) (by omega) (by rw [show z * tD + w * tC = tQ by omega]; exact hQ) (fun w' z' m' a b c => ?_) (fun w' z' m' a b c => ?_) footD
        · have := dA z' w' m' b a (by omega)
          rw [show z' * aC + w' * aD = w' * aD + z' * aC by omega, show z' * tC + w' * tD = w' * tD + z' * tC by omega] at this
          exact this
        · have := dB' z' w' m' b a (by omega)
          rw [show z' * (L - aC) + w' * (L - aD) = w' * (L - aD) + z' * (L - aC) by omega, show z' * tC + w' * tD = w' * tD + z' * tC by omega] at this
          exact this
      · exact one_end (L := L) (R := r * r) (m := m) (w := w) (z := z) (aC := aC) (aD := aD) (tC := tC) (tD := tD) (by omega) RR w0 z0 hm m1 side k (by omega) (by omega) (by rw [htQ]; exact hQ) dA dB' footC
    · exact c
  · -- the first segment is a place alone
    have x0 : ex = 0 := by
      have := sq0 ex; have := sq0 ey
      have z : ex * ex = 0 := by omega
      rcases Int.mul_eq_zero.mp z with z | z <;> exact z
    have y0 : ey = 0 := by
      have := sq0 ex; have := sq0 ey
      have z : ey * ey = 0 := by omega
      rcases Int.mul_eq_zero.mp z with z | z <;> exact z
    have f := far_all hA w0 z0 hm
    have g := Int.mul_le_mul_of_nonneg_left f (show 0 ≤ n * n by omega)
    have e1 : X = n * (m * ax - (w * cx + z * dx)) := by rw [← hX, show bx = ax by omega, hn]; grind
    have e2 : Y = n * (m * ay - (w * cy + z * dy)) := by rw [← hY, show bw = ay by omega, hn]; grind
    have e3 : X * X + Y * Y = n * n * ((m * ax - (w * cx + z * dx)) * (m * ax - (w * cx + z * dx)) + (m * ay - (w * cy + z * dy)) * (m * ay - (w * cy + z * dy))) := by rw [e1, e2]; grind
    have e4 : r * r * ((n * m) * (n * m)) = n * n * (r * r * (m * m)) := by grind
    omega
end Sk
namespace Sk
open PySem PySem.Spec PyProof.Rows L2
theorem cls_apart {ax ay bx bw cx cy dx dy r n m u v w z : Int} (r0 : 0 < r) (h : cls ax ay bx bw cx cy dx dy r = false) (u0 : 0 ≤ u) (v0 : 0 ≤ v) (w0 : 0 ≤ w) (z0 : 0 ≤ z) (hn : n = u + v) (n1 : 1 ≤ n) (hm : m = w + z) (m1 : 1 ≤ m) :
    r * r * ((n * m) * (n * m)) ≤ (m * (u * ax + v * bx) - n * (w * cx + z * dx)) * (m * (u * ax + v * bx) - n * (w * cx + z * dx)) + (m * (u * ay + v * bw) - n * (w * cy + z * dy)) * (m * (u * ay + v * bw) - n * (w * cy + z * dy)) := by
  have rr : 0 < r * r := Int.mul_pos r0 r0
  unfold cls sqs at h
  by_cases c : crs ax ay bx bw cx cy dx dy = true
  · rw [if_pos c] at h
    simp only [List.any_cons, List.any_nil, Bool.or_false, decide_eq_false_iff_not] at h
    omega
  · rw [if_neg c] at h
    simp only [List.any_cons, List.any_nil, Bool.or_false, Bool.or_eq_false_iff, decide_eq_false_iff_not, Int.not_lt] at h
    obtain ⟨hA, hB, hC, hD⟩ := h
    by_cases s : 0 ≤ trn ax ay bx bw cx cy * trn ax ay bx bw dx dy
    · exact side_apart u0 v0 w0 z0 hn n1 hm m1 hA hB hC hD s
    · have s2 : 0 ≤ trn cx cy dx dy ax ay * trn cx cy dx dy bx bw := by
        rcases Int.lt_or_le (trn cx cy dx dy ax ay * trn cx cy dx dy bx bw) 0 with k | k
        · exfalso
          refine c ?_
          unfold crs
          rw [decide_eq_true (by omega), decide_eq_true k]
          rfl
        · exact k
      have f := side_apart w0 z0 u0 v0 hm m1 hn n1 hC hD hA hB s2
      have e1 : n * (w * cx + z * dx) - m * (u * ax + v * bx) = -(m * (u * ax + v * bx) - n * (w * cx + z * dx)) := by omega
      have e2 : n * (w * cy + z * dy) - m * (u * ay + v * bw) = -(m * (u * ay + v * bw) - n * (w * cy + z * dy)) := by omega
      rw [e1, e2, Int.neg_mul_neg, Int.neg_mul_neg, Int.mul_comm m n] at f
      exact f
/-- two places on segments that are not closer -/
theorem places_apart {s t : Seg} {l px py d qx qy e : Int} (l0 : 0 < l) (sd : 1 ≤ s.d) (td : 1 ≤ t.d) (h : clo s t l = false) (d1 : 1 ≤ d) (e1 : 1 ≤ e) (hp : OnS px py d s) (hq : OnS qx qy e t) :
    l * l * ((d * e) * (d * e)) ≤ (px * e - qx * d) * (px * e - qx * d) + (py * e - qy * d) * (py * e - qy * d) := by
  obtain ⟨u, v, u0, v0, uv, hx, hy⟩ := hp
  obtain ⟨w, z, w0, z0, wz, kx, ky⟩ := hq
  unfold clo at h
  rw [if_neg (by omega)] at h
  have st : 0 < s.d * t.d := Int.mul_pos (by omega) (by omega)
  have f := cls_apart (Int.mul_pos (Int.mul_pos l0 (by omega)) (by omega)) h u0 v0 w0 z0 rfl uv rfl wz
  generalize hn : u + v = n at *
  generalize hm : w + z = m at *
  -- both sides times d d e e
  have de : 0 < d * e := Int.mul_pos (by omega) (by omega)
  have g := Int.mul_le_mul_of_nonneg_left f (show 0 ≤ (d * e) * (d * e) by have := sq0 (d * e); omega)
  have X1 : d * e * (m * (u * (s.ax * t.d) + v * (s.bx * t.d)) - n * (w * (t.ax * s.d) + z * (t.bx * s.d))) = n * m * (s.d * t.d) * (px * e - qx * d) := by
    have a1 : d * e * (m * (u * (s.ax * t.d) + v * (s.bx * t.d))) = e * m * t.d * (d * (u * s.ax + v * s.bx)) := by grind
    have a2 : d * e * (n * (w * (t.ax * s.d) + z * (t.bx * s.d))) = d * n * s.d * (e * (w * t.ax + z * t.bx)) := by grind
    rw [Int.mul_sub, a1, a2, ← hx, ← kx]; grind
  have Y1 : d * e * (m * (u * (s.ay * t.d) + v * (s.bw * t.d)) - n * (w * (t.ay * s.d) + z * (t.bw * s.d))) = n * m * (s.d * t.d) * (py * e - qy * d) := by
    have a1 : d * e * (m * (u * (s.ay * t.d) + v * (s.bw * t.d))) = e * m * t.d * (d * (u * s.ay + v * s.bw)) := by grind
    have a2 : d * e * (n * (w * (t.ay * s.d) + z * (t.bw * s.d))) = d * n * s.d * (e * (w * t.ay + z * t.bw)) := by grind
    rw [Int.mul_sub, a1, a2, ← hy, ← ky]; grind
  generalize m * (u * (s.ax * t.d) + v * (s.bx * t.d)) - n * (w * (t.ax * s.d) + z * (t.bx * s.d)) = X at *
  generalize m * (u * (s.ay * t.d) + v * (s.bw * t.d)) - n * (w * (t.ay * s.d) + z * (t.bw * s.d)) = Y at *
  have g1 : d * e * (d * e) * (X * X + Y * Y) = (d * e * X) * (d * e * X) + (d * e * Y) * (d * e * Y) := by grind
  rw [g1, X1, Y1] at g
  have q : 0 < (n * m * (s.d * t.d)) * (n * m * (s.d * t.d)) := by
    have := Int.mul_pos (Int.mul_pos (show 0 < n by omega) (show 0 < m by omega)) st
    exact Int.mul_pos this this
  have g2 : d * e * (d * e) * (l * s.d * t.d * (l * s.d * t.d) * (n * m * (n * m))) = (n * m * (s.d * t.d)) * (n * m * (s.d * t.d)) * (l * l * ((d * e) * (d * e))) := by grind
  generalize px * e - qx * d = A at *
  generalize py * e - qy * d = B at *
  have g3 : n * m * (s.d * t.d) * A * (n * m * (s.d * t.d) * A) + n * m * (s.d * t.d) * B * (n * m * (s.d * t.d) * B) = (n * m * (s.d * t.d)) * (n * m * (s.d * t.d)) * (A * A + B * B) := by grind
  rw [g2, g3] at g
  exact Int.le_of_mul_le_mul_left g q
theorem tri_lt {a b c e M N : Int} (hM : 0 ≤ M) (hN : 0 ≤ N) (h1 : a * a + b * b < M * M) (h2 : c * c + e * e ≤ N * N) : (a + c) * (a + c) + (b + e) * (b + e) < (M + N) * (M + N) := by
  have t := tri (a := a) (b := b) (c := c) (e := e) hM hN (by omega) h2
  rcases Int.lt_or_le ((a + c) * (a + c) + (b + e) * (b + e)) ((M + N) * (M + N)) with z | z
  · exact z
  · exfalso
    -- the dot product alone
    have dot : a * c + b * e ≤ M * N := by
      rcases Int.lt_or_le (M * N) (a * c + b * e) with z | z
      · exfalso
        have mn : 0 ≤ M * N := Int.mul_nonneg hM hN
        have q1 := Int.mul_le_mul (show M * N + 1 ≤ a * c + b * e by omega) (show M * N + 1 ≤ a * c + b * e by omega) (by omega) (by omega)
        have q2 := Int.mul_le_mul (show a * a + b * b ≤ M * M by omega) h2 (Int.add_nonneg (sq0 c) (sq0 e)) (Int.mul_nonneg hM hM)
        have q3 : (a * c + b * e) * (a * c + b * e) + (a * e - b * c) * (a * e - b * c) = (a * a + b * b) * (c * c + e * e) := by grind
        have q4 := sq0 (a * e - b * c)
        have q5 : (M * N + 1) * (M * N + 1) = M * M * (N * N) + 2 * (M * N) + 1 := by grind
        omega
      · exact z
    have e1 : (a + c) * (a + c) + (b + e) * (b + e) = (a * a + b * b) + (c * c + e * e) + 2 * (a * c + b * e) := by grind
    have e2 : (M + N) * (M + N) = M * M + N * N + 2 * (M * N) := by grind
    omega
/-- and each moved by at most ra -/
theorem moved_apart {la ra px py d qx qy e mx my kx ky : Int} (la0 : 0 < la) (ra0 : 0 ≤ ra) (d1 : 1 ≤ d) (e1 : 1 ≤ e) (hm : mx * mx + my * my ≤ ra * ra) (hk : kx * kx + ky * ky ≤ ra * ra)
    (h : (la + 2 * ra) * (la + 2 * ra) * ((d * e) * (d * e)) ≤ (px * e - qx * d) * (px * e - qx * d) + (py * e - qy * d) * (py * e - qy * d)) :
    ¬ ((px + mx * d) * e - (qx + kx * e) * d) * ((px + mx * d) * e - (qx + kx * e) * d) + ((py + my * d) * e - (qy + ky * e) * d) * ((py + my * d) * e - (qy + ky * e) * d) < la * la * (d * e) * (d * e) := fun c => by
  have de : 0 < d * e := Int.mul_pos (by omega) (by omega)
  have w := tri (a := mx) (b := my) (c := -kx) (e := -ky) ra0 ra0 hm (by rw [Int.neg_mul_neg, Int.neg_mul_neg]; exact hk)
  have w2 := Int.mul_le_mul_of_nonneg_left w (show 0 ≤ (d * e) * (d * e) by have := sq0 (d * e); omega)
  have a1 : (-((mx + -kx) * (d * e))) * (-((mx + -kx) * (d * e))) + (-((my + -ky) * (d * e))) * (-((my + -ky) * (d * e))) = d * e * (d * e) * ((mx + -kx) * (mx + -kx) + (my + -ky) * (my + -ky)) := by grind
  have a2 : d * e * (d * e) * ((ra + ra) * (ra + ra)) = (2 * ra * (d * e)) * (2 * ra * (d * e)) := by grind
  have a3 : la * la * (d * e) * (d * e) = (la * (d * e)) * (la * (d * e)) := by grind
  rw [a3] at c
  have t := tri_lt (Int.mul_nonneg (Int.le_of_lt la0) (Int.le_of_lt de)) (Int.mul_nonneg (show 0 ≤ 2 * ra by omega) (Int.le_of_lt de)) c (show (-((mx + -kx) * (d * e))) * (-((mx + -kx) * (d * e))) + (-((my + -ky) * (d * e))) * (-((my + -ky) * (d * e))) ≤ (2 * ra * (d * e)) * (2 * ra * (d * e)) by omega)
  have b1 : (px + mx * d) * e - (qx + kx * e) * d + -((mx + -kx) * (d * e)) = px * e - qx * d := by grind
  have b2 : (py + my * d) * e - (qy + ky * e) * d + -((my + -ky) * (d * e)) = py * e - qy * d := by grind
  have b3 : (la * (d * e) + 2 * ra * (d * e)) * (la * (d * e) + 2 * ra * (d * e)) = (la + 2 * ra) * (la + 2 * ra) * ((d * e) * (d * e)) := by grind
  rw [b1, b2, b3] at t
  omega
end Sk
namespace Sk
open PySem PySem.Spec PyProof.Rows L2
def spRulesS (K : PySem.W.Frag) : Sp := fun vs H Q _ => ∃ (d c : Addr), vs = [.ref d] ∧ St1 K H d c ∧ ∀ ru (r : RuD) H', H ru = none → RuAt H' ru r → r.ra ≤ 10 → r.ba ≤ 10 → St1 K H' d c → Keep d H H' → Q (.ref ru) H'
def spInBox (K : PySem.W.Frag) : Sp := fun vs H Q _ => ∃ (d c b q : Addr) (D : CD) (ns : List Str) (x : Bx), vs = [.ref d, .ref b, .ref q] ∧ St1 K H d c ∧ H b = some (.lst ((bgs D ns).map V.int)) ∧ H q = some x.t ∧ x.ok ∧ Bd D ∧ 2 ≤ ns.length ∧ ns.length ≤ 20 ∧
  Q .non H ∧ ∀ (p : Int) (H' : Hp), 0 ≤ p → p < bg D ns (ns.length - 1) → x.lo ≤ p → p ≤ x.hi → St1 K H' d c → Keep d H H' → Q (.int p) H'
def spVec16 (K : PySem.W.Frag) : Sp := fun vs H Q _ => ∃ (d c : Addr) (m : Int), vs = [.ref d, .int m] ∧ St1 K H d c ∧ 0 ≤ m ∧ m ≤ 10 ∧
  ∀ (q : Addr) (x y : Int) (H' : Hp), H' q = some (.tup [.int x, .int y]) → x * x + y * y ≤ m * m → St1 K H' d c → Keep d H H' → Q (.ref q) H'
def spBox16 (K : PySem.W.Frag) : Sp := fun vs H Q _ => ∃ (d c b : Addr) (lo : Int), vs = [.ref d, .ref b, .int lo] ∧ St1 K H d c ∧ -10000000 ≤ lo ∧ lo ≤ 10000000 ∧ ∀ q (x : Bx) H', H q = none → x.ok → x.dn ≤ x.up → x.up ≤ x.dn + 100 → H' q = some x.t → St1 K H' d c → Keep d H H' → Q (.ref q) H'
/-- vectors in a list -/
def VecsAt (H : Hp) (l : Addr) (m : Int) (xs : List V) : Prop := H l = some (.lst xs) ∧ ∀ v ∈ xs, ∃ (q : Addr) (x y : Int), v = .ref q ∧ H q = some (.tup [.int x, .int y]) ∧ x * x + y * y ≤ m * m
theorem bgs_bd {D : CD} {ns : List Str} (b : Bd D) (n20 : ns.length ≤ 20) {x : Int} (h : x ∈ bgs D ns) : 0 ≤ x ∧ x ≤ 6000000 := by
  obtain ⟨j, hj, rfl⟩ := List.mem_map.mp h
  have hj := List.mem_range.mp hj
  have h1 := bg_nn D ns j
  have h2 := bg_le b ns j
  omega
theorem bgs_ne {D : CD} {ns : List Str} (n2 : 2 ≤ ns.length) : (bgs D ns).map V.int ≠ [] := fun z => by
  have e := congrArg List.length z
  rw [bgs_len] at e
  exact absurd (show ns.length = 0 from e) (by omega)
end Sk

set_option Elab.async false
set_option linter.all false
set_option maxRecDepth 100000
set_option maxHeartbeats 4000000
namespace Sk
open PySem PySem.Spec PyProof.Rows L2
/-! fitted boxes: which places of a leg are near to a plot -/
def pX (D : CD) (ns : List Str) (k : Nat) (t : Int) : Int := (D.xy (rn ns k)).1 * D.len (rn ns k) (rn ns (k + 1)) + ((D.xy (rn ns (k + 1))).1 - (D.xy (rn ns k)).1) * (t - bg D ns k)
def pY (D : CD) (ns : List Str) (k : Nat) (t : Int) : Int := (D.xy (rn ns k)).2 * D.len (rn ns k) (rn ns (k + 1)) + ((D.xy (rn ns (k + 1))).2 - (D.xy (rn ns k)).2) * (t - bg D ns k)
def alwB (D : CD) (ns : List Str) (k : Nat) (x y m t : Int) : Bool := decide ((pX D ns k t - x * D.len (rn ns k) (rn ns (k + 1))) * (pX D ns k t - x * D.len (rn ns k) (rn ns (k + 1))) + (pY D ns k t - y * D.len (rn ns k) (rn ns (k + 1))) * (pY D ns k t - y * D.len (rn ns k) (rn ns (k + 1))) ≤ m * m * D.len (rn ns k) (rn ns (k + 1)) * D.len (rn ns k) (rn ns (k + 1)))
theorem edge_ok {D : CD} {ns : List Str} (pos : PosR D ns) {k : Nat} (h : k + 1 < ns.length) : 1 ≤ ((D.xy (rn ns (k + 1))).1 - (D.xy (rn ns k)).1) * ((D.xy (rn ns (k + 1))).1 - (D.xy (rn ns k)).1) + ((D.xy (rn ns (k + 1))).2 - (D.xy (rn ns k)).2) * ((D.xy (rn ns (k + 1))).2 - (D.xy (rn ns k)).2) := by
  have p := pos k h
  unfold CD.len at p
  split at p
  · rename_i a ax ay b bx by' h1 h2
    rw [CD.xy_eq h1, CD.xy_eq h2]
    dsimp only
    have s0 := sq0 (bx - ax)
    have s1 := sq0 (by' - ay)
    rcases Int.lt_or_le 0 ((bx - ax) * (bx - ax) + (by' - ay) * (by' - ay)) with z | z
    · exact z
    · have e : (bx - ax) * (bx - ax) + (by' - ay) * (by' - ay) = 0 := by omega
      rw [e] at p
      have := rt_small (n := 0) (b := 0) (by decide) (by decide) (by decide)
      omega
  · omega
/-- a square below a root -/
theorem root_iff {z q r : Int} (r0 : 0 ≤ r) (h0 : r * r ≤ q) (h1 : q < (r + 1) * (r + 1)) : z * z ≤ q ↔ -r ≤ z ∧ z ≤ r := by
  constructor
  · intro h
    have := side_of (a := z) (b := 0) (m := r) r0 (by
      rcases Int.lt_or_le (r * r) (z * z) with c | c
      · exfalso
        -- z * z lies strictly between two squares
        rcases Int.lt_or_le z 0 with s | s
        · rcases Int.lt_or_le r (-z) with k | k
          · have := Int.mul_le_mul (show r + 1 ≤ -z by omega) (show r + 1 ≤ -z by omega) (by omega) (by omega)
            rw [Int.neg_mul_neg] at this
            omega
          · have := Int.mul_le_mul k k (by omega) r0
            rw [Int.neg_mul_neg] at this
            omega
        · rcases Int.lt_or_le r z with k | k
          · have := Int.mul_le_mul (show r + 1 ≤ z by omega) (show r + 1 ≤ z by omega) (by omega) (by omega)
            omega
          · have := Int.mul_le_mul k k s r0
            omega
      · omega)
    exact this
  · rintro ⟨a, b⟩
    have := sq_le a b
    omega
/-- the quadratic's whole numbers -/
theorem quad {a b c t r : Int} (a1 : 1 ≤ a) (r0 : 0 ≤ r) (h0 : r * r ≤ b * b - a * c) (h1 : b * b - a * c < (r + 1) * (r + 1)) : a * t * t + 2 * b * t + c ≤ 0 ↔ -((b + r) / a) ≤ t ∧ t ≤ (r - b) / a := by
  have e : (a * t + b) * (a * t + b) = a * (a * t * t + 2 * b * t + c) + (b * b - a * c) := by grind
  have k : a * t * t + 2 * b * t + c ≤ 0 ↔ (a * t + b) * (a * t + b) ≤ b * b - a * c := by
    rw [e]
    constructor
    · intro h
      have := Int.mul_le_mul_of_nonneg_left h (show 0 ≤ a by omega)
      rw [Int.mul_zero] at this
      omega
    · intro h
      rcases Int.lt_or_le 0 (a * t * t + 2 * b * t + c) with z | z
      · have := Int.mul_pos (show 0 < a by omega) z
        omega
      · exact z
  rw [k, root_iff r0 h0 h1]
  have d1 : t ≤ (r - b) / a ↔ t * a ≤ r - b := Int.le_ediv_iff_mul_le (by omega)
  have d2 : -t ≤ (b + r) / a ↔ -t * a ≤ b + r := Int.le_ediv_iff_mul_le (by omega)
  have e1 : a * t = t * a := Int.mul_comm ..
  have e2 : -t * a = -(t * a) := Int.neg_mul ..
  rw [d1, show (-((b + r) / a) ≤ t ↔ -t ≤ (b + r) / a) from ⟨fun h => by omega, fun h => by omega⟩, d2]
  omega
theorem quad_none {a b c t : Int} (a1 : 1 ≤ a) (h : b * b - a * c < 0) : ¬ a * t * t + 2 * b * t + c ≤ 0 := fun k => by
  have e : (a * t + b) * (a * t + b) = a * (a * t * t + 2 * b * t + c) + (b * b - a * c) := by grind
  have := Int.mul_le_mul_of_nonneg_left k (show 0 ≤ a by omega)
  rw [Int.mul_zero] at this
  have := sq0 (a * t + b)
  omega
/-- near places of a leg, as the quadratic -/
theorem alw_quad {D : CD} {ns : List Str} {k : Nat} {x y m t ex ey n X Y : Int} (hex : (D.xy (rn ns (k + 1))).1 - (D.xy (rn ns k)).1 = ex) (hey : (D.xy (rn ns (k + 1))).2 - (D.xy (rn ns k)).2 = ey) (hn : D.len (rn ns k) (rn ns (k + 1)) = n) (hX : (D.xy (rn ns k)).1 * n - x * n = X) (hY : (D.xy (rn ns k)).2 * n - y * n = Y) :
    alwB D ns k x y m t = true ↔ (ex * ex + ey * ey) * (t - bg D ns k) * (t - bg D ns k) + 2 * (X * ex + Y * ey) * (t - bg D ns k) + (X * X + Y * Y - m * m * n * n) ≤ 0 := by
  unfold alwB pX pY
  rw [hex, hey, hn, decide_eq_true_iff]
  generalize t - bg D ns k = s
  have e1 : (D.xy (rn ns k)).1 * n + ex * s - x * n = X + ex * s := by omega
  have e2 : (D.xy (rn ns k)).2 * n + ey * s - y * n = Y + ey * s := by omega
  rw [e1, e2]
  have e3 : (X + ex * s) * (X + ex * s) + (Y + ey * s) * (Y + ey * s) = (ex * ex + ey * ey) * s * s + 2 * (X * ex + Y * ey) * s + (X * X + Y * Y) := by grind
  omega
theorem lat_begin {D : CD} {ns : List Str} (pos : PosR D ns) {k : Nat} (h : k + 1 < ns.length) : lat D ns (ns.length - 1 - 1) (bg D ns k) = k :=
  lat_eq (by omega) (fun i hi => bg_mono D ns hi) (fun _ => by have := pos.lt h; omega)
/-- which leg a place is on -/
theorem lat_iff {D : CD} {ns : List Str} (n2 : 2 ≤ ns.length) {k : Nat} {p : Int} (hk : k + 1 < ns.length) (p0 : 0 ≤ p) (p1 : p < bg D ns (ns.length - 1)) : lat D ns (ns.length - 1 - 1) p = k ↔ bg D ns k ≤ p ∧ p < bg D ns (k + 1) := by
  obtain ⟨c0, c1, c2⟩ := lat_cases D ns (ns.length - 1 - 1) p
  constructor
  · intro e
    rw [e] at c0 c1 c2
    refine ⟨?_, ?_⟩
    · match k, c1 with
      | 0, _ => exact p0
      | k + 1, c1 => exact c1 k (by omega)
    · by_cases z : k < ns.length - 1 - 1
      · exact c2 z
      · have : k + 1 = ns.length - 1 := by omega
        rw [this]; exact p1
  · rintro ⟨a, b⟩
    exact lat_eq (by omega) (fun i hi => Int.le_trans (bg_mono D ns hi) a) (fun _ => b)
/-- the places that fit -/
def InS (D : CD) (ns : List Str) (x y m lo hi p : Int) : Prop := 0 ≤ p ∧ p < bg D ns (ns.length - 1) ∧ lo ≤ p ∧ p ≤ hi ∧ alwB D ns (lat D ns (ns.length - 1 - 1) p) x y m p = true
structure EndsOf (S : Int → Prop) (es : List Int) : Prop where
  mem : ∀ e ∈ es, S e
  lo : ∀ p, S p → ∃ e ∈ es, e ≤ p
  hi : ∀ p, S p → ∃ e ∈ es, p ≤ e
/-- the fitted box, from the places that fit -/
def FitOk (S : Int → Prop) (dn up : Int) : Option Est → Prop
  | none => (∀ p, ¬ S p) ∨ up < dn
  | some e => S e.x1 ∧ S e.x2 ∧ (∀ p, S p → e.x1 ≤ p ∧ p ≤ e.x2) ∧ e.y1 = dn ∧ e.y2 = up ∧ dn ≤ up
theorem FitOk.eq {S : Int → Prop} {dn up : Int} {o o' : Option Est} (h : FitOk S dn up o) (h' : FitOk S dn up o') : o = o' := by
  cases o with
  | none =>
    cases o' with
    | none => rfl
    | some e =>
      obtain ⟨a, _, _, _, _, b⟩ := h'
      rcases h with h | h
      · exact absurd a (h _)
      · omega
  | some e =>
    obtain ⟨a1, a2, a3, a4, a5, a6⟩ := h
    cases o' with
    | none =>
      rcases h' with h' | h'
      · exact absurd a1 (h' _)
      · omega
    | some e' =>
      obtain ⟨b1, b2, b3, b4, b5, b6⟩ := h'
      obtain ⟨x1, x2, y1, y2⟩ := e
      obtain ⟨x1', x2', y1', y2'⟩ := e'
      simp only at *
      have c1 := a3 _ b1
      have c2 := b3 _ a1
      have c3 := a3 _ b2
      have c4 := b3 _ a2
      have d1 : x1 = x1' := by omega
      have d2 : x2 = x2' := by omega
      subst d1 d2 a4 a5
      rw [b4, b5]
theorem EndsOf.fit {S : Int → Prop} {dn up a b : Int} {es : List Int} (E : EndsOf S es) (ha : a ∈ es) (hb : b ∈ es) (la : ∀ e ∈ es, a ≤ e) (lb : ∀ e ∈ es, e ≤ b) (h : dn ≤ up) : FitOk S dn up (some ⟨a, b, dn, up⟩) := by
  refine ⟨E.mem _ ha, E.mem _ hb, fun p hp => ?_, rfl, rfl, h⟩
  obtain ⟨e, he, k⟩ := E.lo p hp
  obtain ⟨e', he', k'⟩ := E.hi p hp
  have := la e he
  have := lb e' he'
  dsimp only
  omega
theorem EndsOf.none {S : Int → Prop} (E : EndsOf S []) : ∀ p, ¬ S p := fun p hp => by
  obtain ⟨e, he, _⟩ := E.lo p hp
  cases he
theorem plc_small {D : CD} {ns : List Str} (b : Bd D) (n20 : ns.length ≤ 20) {k : Nat} {p : Int} (hk : k ≤ 20) (h0 : -10000000 ≤ p) (h1 : p ≤ 10000000) : BdN 45 (pX D ns k p) ∧ BdN 45 (pY D ns k p) := by
  have a1 := b (rn ns k)
  have a2 := b (rn ns (k + 1))
  have l0 := D.len_nn (rn ns k) (rn ns (k + 1))
  have l1 := D.len_le b (rn ns k) (rn ns (k + 1))
  have g0 := bg_nn D ns k
  have g1 := bg_le b ns k
  have bl : BdN 19 (D.len (rn ns k) (rn ns (k + 1))) := BdN.of (by show -(524288 : Int) ≤ _; omega) (by show _ ≤ (524288 : Int); omega)
  have bp : BdN 25 (p - bg D ns k) := BdN.of (by show -(33554432 : Int) ≤ _; omega) (by show _ ≤ (33554432 : Int); omega)
  have q : ∀ z : Int, -200000 ≤ z → z ≤ 200000 → BdN 18 z := fun z u v => BdN.of (by show -(262144 : Int) ≤ z; omega) (by show z ≤ (262144 : Int); omega)
  unfold pX pY
  exact ⟨((((q _ (by omega) (by omega)).mul bl).mono (show 37 ≤ 43 by decide)).add ((q _ (by omega) (by omega)).mul bp)).mono (by decide), ((((q _ (by omega) (by omega)).mul bl).mono (show 37 ≤ 43 by decide)).add ((q _ (by omega) (by omega)).mul bp)).mono (by decide)⟩
end Sk
namespace Sk
open PySem PySem.Spec PyProof.Rows L2
def mx3 (a b c : Int) : Int := if (if a < b then b else a) < c then c else (if a < b then b else a)
def mn3 (a b c : Int) : Int := if c < (if b < a then b else a) then c else (if b < a then b else a)
theorem numax3 (a b c : Int) : nuMax3 (.int a) (.int b) (.int c) = some (.int (mx3 a b c)) := by
  by_cases h : a < b <;> by_cases k : (if a < b then b else a) < c <;> simp [nuMax3, nuMax2, nuLt, nuCB, mx3, h] <;> split <;> simp_all
theorem numin3 (a b c : Int) : nuMin3 (.int a) (.int b) (.int c) = some (.int (mn3 a b c)) := by
  by_cases h : b < a <;> by_cases k : c < (if b < a then b else a) <;> simp [nuMin3, nuMin2, nuLt, nuCB, mn3, h] <;> split <;> simp_all
theorem mx3_le {a b c p : Int} : mx3 a b c ≤ p ↔ a ≤ p ∧ b ≤ p ∧ c ≤ p := by
  unfold mx3
  split <;> split <;> omega
theorem le_mn3 {a b c p : Int} : p ≤ mn3 a b c ↔ p ≤ a ∧ p ≤ b ∧ p ≤ c := by
  unfold mn3
  split <;> split <;> omega
/-- the rules that fitting wants -/
structure RqAt (H : Hp) (ru : Addr) (ra ba rd ht : Int) : Prop where
  ex : ∃ kvs, H ru = some (.dK kvs) ∧ valV kvs (.inr "radius") = some (.int ra) ∧ valV kvs (.inr "band") = some (.int ba) ∧ valV kvs (.inr "radar") = some (.int rd) ∧ valV kvs (.inr "height") = some (.int ht) ∧ kvs.length ≤ 40
  bd : 0 ≤ ra ∧ ra ≤ 1000 ∧ 0 ≤ ba ∧ ba ≤ 1000 ∧ 0 ≤ rd ∧ rd ≤ 1000 ∧ 0 ≤ ht ∧ ht ≤ 1000
section
variable {H H' : Hp} {ru : Addr} {ra ba rd ht : Int}
theorem RqAt.same (R : RqAt H ru ra ba rd ht) (s : Same H H') : RqAt H' ru ra ba rd ht := ⟨let ⟨kvs, e, h⟩ := R.ex; ⟨kvs, s _ _ e, h⟩, R.bd⟩
theorem RqAt.keep {d : Addr} (R : RqAt H ru ra ba rd ht) (s : Keep d H H') (n : ru ≠ d) : RqAt H' ru ra ba rd ht := ⟨let ⟨kvs, e, h⟩ := R.ex; ⟨kvs, s _ _ e n, h⟩, R.bd⟩
theorem RqAt.gra (R : RqAt H ru ra ba rd ht) : DGet H ru (.str "radius") (some (.int ra)) := let ⟨_, e, h, _⟩ := R.ex; h ▸ DGet.k (k := .inr "radius") e
theorem RqAt.gba (R : RqAt H ru ra ba rd ht) : DGet H ru (.str "band") (some (.int ba)) := let ⟨_, e, _, h, _⟩ := R.ex; h ▸ DGet.k (k := .inr "band") e
theorem RqAt.grd (R : RqAt H ru ra ba rd ht) : DGet H ru (.str "radar") (some (.int rd)) := let ⟨_, e, _, _, h, _⟩ := R.ex; h ▸ DGet.k (k := .inr "radar") e
theorem RqAt.ght (R : RqAt H ru ra ba rd ht) : DGet H ru (.str "height") (some (.int ht)) := let ⟨_, e, _, _, _, h, _⟩ := R.ex; h ▸ DGet.k (k := .inr "height") e
end
def spRulesQ (K : PySem.W.Frag) : Sp := fun vs H Q _ => ∃ (d c : Addr), vs = [.ref d] ∧ St1 K H d c ∧ ∀ ru (ra ba rd ht : Int) H', H ru = none → RqAt H' ru ra ba rd ht → (∀ kvs, H' ru = some (.dK kvs) → kvs.length ≤ 20) → ru ≠ c → St1 K H' d c → Keep d H H' → Q (.ref ru) H'
def spNearLeg (C : Addr) : Sp := fun vs H Q _ => ∃ (p q r : Addr) (D : CD) (ns : List Str) (k : Nat) (z x y pz m : Int), vs = [.ref p, .int z, .ref q, .int m] ∧ z = (k : Int) ∧ PathAt C H p D ns r ∧ Bd D ∧ PosR D ns ∧ k + 1 < ns.length ∧ ns.length ≤ 20 ∧ H q = some (.tup [.int x, .int y, .int pz]) ∧ BdN 46 x ∧ BdN 46 y ∧ 0 ≤ m ∧ m ≤ 5000 ∧
  ∀ (u : Addr) (f l : Int) (H' : Hp), Same H H' → H' u = some (.tup [.int f, .int l]) → (∀ t, alwB D ns k x y m t = true ↔ f ≤ t ∧ t ≤ l) → Q (.ref u) H'
def spNearEnds (C : Addr) : Sp := fun vs H Q _ => ∃ (p q r : Addr) (D : CD) (ns : List Str) (lo hi x y pz m : Int), vs = [.ref p, .int lo, .int hi, .ref q, .int m] ∧ PathAt C H p D ns r ∧ Bd D ∧ PosR D ns ∧ 2 ≤ ns.length ∧ ns.length ≤ 20 ∧ H q = some (.tup [.int x, .int y, .int pz]) ∧ BdN 46 x ∧ BdN 46 y ∧ 0 ≤ m ∧ m ≤ 5000 ∧
  ∀ (a : Addr) (es : List Int) (H' : Hp), Same H H' → H' a = some (.lst (es.map V.int)) → EndsOf (InS D ns x y m lo hi) es → Q (.ref a) H'
def dnF (dn pz w : Int) : Int := if pz - w > dn then pz - w else dn
def upF (up pz w : Int) : Int := if pz + w < up then pz + w else up
def spFitted (C : Addr) : Sp := fun vs H Q _ => ∃ (ru p b q r : Addr) (ra ba rd ht : Int) (D : CD) (ns : List Str) (B : Bx) (x y pz : Int), vs = [.ref ru, .ref p, .ref b, .ref q] ∧ RqAt H ru ra ba rd ht ∧ H b = some B.t ∧ PathAt C H p D ns r ∧ Bd D ∧ PosR D ns ∧ 2 ≤ ns.length ∧ ns.length ≤ 20 ∧ H q = some (.tup [.int x, .int y, .int pz]) ∧ BdN 46 x ∧ BdN 46 y ∧
  ∀ (v : V) (o : Option Est) (H' : Hp), Same H H' → optE H' o v → FitOk (InS D ns x y (rd + ra) B.lo B.hi) (dnF B.dn pz (ht + ba)) (upF B.up pz (ht + ba)) o → Q v H'
def spLFitted : Sp := fun vs H Q _ => ∃ (ch rt b ru bx q : Addr) (ra ba rd ht : Int) (D : CD) (ns : List Str) (B : Bx) (x y pz : Int), vs = [.ref ch, .ref rt, .ref b, .ref ru, .ref bx, .ref q] ∧ ChartAt H ch D ∧ Route D ns ∧ H rt = some (.tup (ns.map V.str)) ∧ H b = some (.lst ((bgs D ns).map V.int)) ∧ RqAt H ru ra ba rd ht ∧ H bx = some B.t ∧ -10000000 ≤ B.lo ∧ B.hi ≤ B.lo + 200 ∧ B.lo ≤ 10000000 ∧ -10000000 ≤ B.hi ∧ PosR D ns ∧ H q = some (.tup [.int x, .int y, .int pz]) ∧ BdN 46 x ∧ BdN 46 y ∧
  ∀ (v : V) (o : Option Est) (H' : Hp), Same H H' → optE H' o v → FitOk (InS D ns x y (rd + ra) B.lo B.hi) (dnF B.dn pz (ht + ba)) (upF B.up pz (ht + ba)) o → Q v H'
def spAllowed : Sp := fun vs H Q _ => ∃ (ch rt b q : Addr) (D : CD) (ns : List Str) (t x y pz m : Int), vs = [.ref ch, .ref rt, .ref b, .int t, .ref q, .int m] ∧ ChartAt H ch D ∧ Route D ns ∧ H rt = some (.tup (ns.map V.str)) ∧ H b = some (.lst ((bgs D ns).map V.int)) ∧ H q = some (.tup [.int x, .int y, .int pz]) ∧ BdN 46 x ∧ BdN 46 y ∧ 0 ≤ m ∧ m ≤ 5000 ∧ -10000000 ≤ t ∧ t ≤ 10000000 ∧
  ∀ H', Same H H' → Q (.bl (alwB D ns (lat D ns (ns.length - 1 - 1) t) x y m t)) H'
theorem sameU' {H H' : Hp} {L : Addr} {o : HO} (hL : H L = none) (sm : Same H H') : Same H (upd H' L o) := sameU hL sm
theorem bl19 {D : CD} (b : Bd D) (s e : Str) : BdN 19 (D.len s e) := by
  have l0 := D.len_nn s e
  have l1 := D.len_le b s e
  exact BdN.of (by show -(524288 : Int) ≤ _; omega) (by show _ ≤ (524288 : Int); omega)
theorem bm13 {m : Int} (h0 : 0 ≤ m) (h1 : m ≤ 5000) : BdN 13 m := BdN.of (by show -(8192 : Int) ≤ m; omega) (by show m ≤ (8192 : Int); omega)
theorem b18 {z : Int} (h0 : -200000 ≤ z) (h1 : z ≤ 200000) : BdN 18 z := BdN.of (by show -(262144 : Int) ≤ z; omega) (by show z ≤ (262144 : Int); omega)
end Sk

set_option Elab.async false
set_option linter.all false
set_option maxRecDepth 100000
set_option maxHeartbeats 4000000
namespace Sk
open PySem PySem.Spec PyProof.Rows L2
theorem ifNotY {c A B : Prop} [Decidable c] (h : c) (q : B) : if (!decide c) = true then A else B := by
  rw [decide_eq_true h]
  exact iteF q
/-! true plots, flights: nothing leaves its box -/
theorem low_le2 {a b x y g r : Int} (h : x ≤ y) (h1 : a ≤ r) (h2 : r ≤ b) : lowest a b x g ≤ tow y g r := by
  unfold lowest tow
  split <;> split <;> split <;> split <;> omega
theorem le_high2 {a b x y g r : Int} (h : y ≤ x) (h0 : 1 ≤ a) (h1 : a ≤ r) (h2 : r ≤ b) : tow y g r ≤ highest a b x g := by
  unfold highest tow
  split <;> split <;> split <;> split <;> omega
theorem NextOf.has {lt : Int → Nat} {lf hf af : Nat → Int} {a b low high down up v0 v1 v2 v3 : Int} (X : NextOf lt lf hf af a b low high down up v0 v1 v2 v3) {p g x r : Int} (p0 : low ≤ p) (p1 : p ≤ high) (x0 : down ≤ x) (x1 : x ≤ up) (g0 : lf (lt p) ≤ g) (g1 : g ≤ hf (lt p)) (a1 : 1 ≤ a) (r0 : a ≤ r) (r1 : r ≤ b) :
    v0 ≤ p + g ∧ p + g ≤ v1 ∧ v2 ≤ tow x (af (lt p)) r ∧ tow x (af (lt p)) r ≤ v3 := by
  have h0 := X.m0 p p0 p1
  have h1 := X.m1 p p0 p1
  have h2 := X.m2 p p0 p1
  have h3 := X.m3 p p0 p1
  have h4 := low_le2 (b := b) (g := af (lt p)) x0 r0 r1
  have h5 := le_high2 (b := b) (g := af (lt p)) x1 a1 r0 r1
  omega
def isTrue (X Y n x y m : Int) : Bool := decide ((X - x * n) * (X - x * n) + (Y - y * n) * (Y - y * n) ≤ m * m * n * n)
theorem isTrue_alw {D : CD} {ns : List Str} {k : Nat} {x y ra rd t : Int} : isTrue (pX D ns k t) (pY D ns k t) (D.len (rn ns k) (rn ns (k + 1))) x y (ra + rd) = alwB D ns k x y (rd + ra) t := by
  unfold isTrue alwB
  rw [Int.add_comm ra rd]
/-- a fitted box holds the place, and lies in the box before -/
theorem FitOk.has {S : Int → Prop} {B : Bx} {z w : Int} {o : Option Est} {p lv : Int} (F : FitOk S (dnF B.dn z w) (upF B.up z w) o) (hS : ∀ q, S q → B.lo ≤ q ∧ q ≤ B.hi) (hp : S p) (l0 : B.dn ≤ lv) (l1 : lv ≤ B.up) (z0 : lv - w ≤ z) (z1 : z ≤ lv + w) :
    ∃ e, o = some e ∧ B.lo ≤ e.x1 ∧ e.x2 ≤ B.hi ∧ B.dn ≤ e.y1 ∧ e.y2 ≤ B.up ∧ e.x1 ≤ p ∧ p ≤ e.x2 ∧ e.y1 ≤ lv ∧ lv ≤ e.y2 := by
  have u0 : dnF B.dn z w ≤ lv ∧ B.dn ≤ dnF B.dn z w := by unfold dnF; split <;> omega
  have u1 : lv ≤ upF B.up z w ∧ upF B.up z w ≤ B.up := by unfold upF; split <;> omega
  cases o with
  | none =>
    rcases F with h | h
    · exact absurd hp (h _)
    · omega
  | some e =>
    obtain ⟨a1, a2, a3, a4, a5, a6⟩ := F
    have b1 := hS _ a1
    have b2 := hS _ a2
    have b3 := a3 _ hp
    exact ⟨e, rfl, b1.1, b2.2, by omega, by omega, b3.1, b3.2, by omega, by omega⟩
theorem NIn.gap {C : Addr} {H : Hp} {N : ND} (I : NIn C H N) (hs : N.sl ≤ 1000) {k : Nat} (hk : k + 1 < N.ns.length) : N.hf k - N.lf k ≤ 1000000000000000000000000000000000000000000000000000000000000 := by
  have n1 : 1 ≤ N.ln k := I.ps k hk
  have w := I.wi.bd _ I.qm
  have a1 := I.C0.bd (rn N.ns k)
  have a2 := I.C0.bd (rn N.ns (k + 1))
  have q : ∀ z : Int, -200000 ≤ z → z ≤ 200000 → BdN 18 z := fun z u v => b18 u v
  have bx : BdN 18 (N.dx k) := by unfold ND.dx; exact b18 (by omega) (by omega)
  have bY : BdN 18 (N.dy k) := by unfold ND.dy; exact b18 (by omega) (by omega)
  have cx : (N.dx k).natAbs ≤ 262144 := bx
  have cy : (N.dy k).natAbs ≤ 262144 := bY
  have g : ∀ z : Int, -10001 ≤ z → z ≤ 10001 → BdN 14 z := fun z u v => BdN.of (by show -(16384 : Int) ≤ z; omega) (by show z ≤ (16384 : Int); omega)
  have ba : BdN 20 (ab (N.dx k) + ab (N.dy k)) := by
    have : ∀ z : Int, z.natAbs ≤ 262144 → 0 ≤ ab z ∧ ab z ≤ 262144 := fun z h => by unfold ab; split <;> omega
    have u1 := this _ cx
    have u2 := this _ cy
    exact BdN.of (by show -(1048576 : Int) ≤ _; omega) (by show _ ≤ (1048576 : Int); omega)
  have m1 : (N.qw.2.2.1 * N.dx k).natAbs ≤ 4294967296 := (g _ (by omega) (by omega)).mul bx
  have m2 : (N.qw.2.2.2.1 * N.dy k).natAbs ≤ 4294967296 := (g _ (by omega) (by omega)).mul bY
  have m3 : (N.qw.2.2.2.2 * (ab (N.dx k) + ab (N.dy k))).natAbs ≤ 17179869184 := (g _ (by omega) (by omega)).mul ba
  unfold ND.hf ND.lf hi lo
  generalize N.qw.2.2.1 * N.dx k = u1 at m1 ⊢
  generalize N.qw.2.2.2.1 * N.dy k = u2 at m2 ⊢
  generalize N.qw.2.2.2.2 * (ab (N.dx k) + ab (N.dy k)) = u3 at m3 ⊢
  generalize N.ln k = n at n1 ⊢
  have z1 : -30000000000 ≤ (u1 + u2 - u3) / n := (Int.le_ediv_iff_mul_le (by omega)).mpr (by omega)
  have z2 : (u1 + u2 + u3) / n < 30000000000 := (Int.ediv_lt_iff_lt_mul (by omega)).mpr (by omega)
  omega
/-! promises -/
def spRulesT (K : PySem.W.Frag) : Sp := fun vs H Q _ => ∃ (d c : Addr), vs = [.ref d] ∧ St1 K H d c ∧ ∀ ru (ra ba rd ht sl : Int) H', H ru = none → RqAt H' ru ra ba rd ht → (∃ kvs, H' ru = some (.dK kvs) ∧ valV kvs (.inr "slip") = some (.int sl)) → 0 ≤ sl → sl ≤ 3 → ru ≠ c → St1 K H' d c → Keep d H H' → Q (.ref ru) H'
def spExtreme (K : PySem.W.Frag) : Sp := fun vs H Q _ => ∃ (d c : Addr) (m : Int), vs = [.ref d, .int m] ∧ St1 K H d c ∧ 0 ≤ m ∧ m ≤ 1000000000000000000000000000000000000000000000000000000000000 ∧ ∀ n H', 0 ≤ n → n ≤ m → St1 K H' d c → Keep d H H' → Q (.int n) H'
def spVector (K : PySem.W.Frag) : Sp := fun vs H Q _ => ∃ (d c : Addr) (r : Int), vs = [.ref d, .int r] ∧ St1 K H d c ∧ 0 ≤ r ∧ r ≤ 1000 ∧ ∀ q x y H', H q = none → H' q = some (.tup [.int x, .int y]) → -1000 ≤ x → x ≤ 1000 → -1000 ≤ y → y ≤ 1000 → St1 K H' d c → Keep d H H' → Q (.ref q) H'
def spNearP (K : PySem.W.Frag) : Sp := fun vs H Q _ => ∃ (d c pl : Addr) (z X Y n : Int), vs = [.ref d, .int z, .ref pl] ∧ St1 K H d c ∧ H pl = some (.tup [.int X, .int Y, .int n]) ∧ 1 ≤ n ∧ n ≤ 524288 ∧ -70368743653376 ≤ z ∧ z ≤ 70368743653376 ∧ ∀ v H', BdN 46 v → St1 K H' d c → Keep d H H' → Q (.int v) H'
def spTruePlot (K : PySem.W.Frag) : Sp := fun vs H Q _ => ∃ (d c ru pl : Addr) (ra ba rd ht X Y n lv : Int), vs = [.ref d, .ref ru, .ref pl, .int lv] ∧ St1 K H d c ∧ RqAt H ru ra ba rd ht ∧ ru ≠ d ∧ H pl = some (.tup [.int X, .int Y, .int n]) ∧ BdN 45 X ∧ BdN 45 Y ∧ 1 ≤ n ∧ n ≤ 524288 ∧ ∀ q x y z H', H' q = some (.tup [.int x, .int y, .int z]) → BdN 46 x → BdN 46 y → lv - (ht + ba) ≤ z → z ≤ lv + (ht + ba) → St1 K H' d c → Keep d H H' → Q (.ref q) H'
def spIsTrue : Sp := fun vs H Q _ => ∃ (ru pl q : Addr) (ra ba rd ht X Y n x y z : Int), vs = [.ref ru, .ref pl, .ref q] ∧ RqAt H ru ra ba rd ht ∧ H pl = some (.tup [.int X, .int Y, .int n]) ∧ H q = some (.tup [.int x, .int y, .int z]) ∧ BdN 45 X ∧ BdN 45 Y ∧ BdN 19 n ∧ BdN 46 x ∧ BdN 46 y ∧ Q (.bl (isTrue X Y n x y (ra + rd))) H
def spCourse (K : PySem.W.Frag) : Sp := fun vs H Q _ => ∃ (d c ch ki : Addr) (D : CD) (w s f a b : Int), vs = [.ref d, .ref ch, .ref ki] ∧ St1 K H d c ∧ ChartAt H ch D ∧ ch ≠ d ∧ D.fx ≠ d ∧ D.ls ≠ [] ∧ H ki = some (.tup [.int w, .int s, .int f, .int a, .int b]) ∧ s ≤ f ∧ f ≤ s + 1000 ∧
  ∀ cs r (ns : List Str) pc lv H', H cs = none → H' cs = some (.tup [.ref r, .int pc, .int lv]) → Route D ns → H' r = some (.tup (ns.map V.str)) → St1 K H' d c → Keep d H H' → Q (.ref cs) H'
def spFly (K : PySem.W.Frag) (C : Addr) : Sp := fun vs H Q _ => ∃ (N : ND) (d c b : Addr) (p x : Int), vs = [.ref d, .ref N.ch, .ref N.r, .ref b, .ref N.cs, .ref N.ki, .ref N.ru, .ref N.wi, .int N.tick, .int p, .int x] ∧ St1 K H d c ∧ NIn C H N ∧ N.ch ≠ d ∧ N.D.fx ≠ d ∧ N.ru ≠ d ∧ N.b ≤ 1000 ∧ N.sl ≤ 1000 ∧ H b = some (.lst ((bgs N.D N.ns).map V.int)) ∧
  ∀ q g r H', H' q = some (.tup [.int (p + g), .int (tow x (N.af (N.lt p)) r)]) → N.lf (N.lt p) ≤ g → g ≤ N.hf (N.lt p) → N.a ≤ r → r ≤ N.b → St1 K H' d c → Keep d H H' → Q (.ref q) H'
def spKindT (K : PySem.W.Frag) : Sp := fun vs H Q _ => ∃ (d c : Addr), vs = [.ref d] ∧ St1 K H d c ∧ ∀ q w s f a b H', H q = none → 1 ≤ s → s ≤ f → f ≤ 1000 → 1 ≤ a → a ≤ b → b ≤ 1000 → H' q = some (.tup [.int w, .int s, .int f, .int a, .int b]) → St1 K H' d c → Keep d H H' → Q (.ref q) H'
def spLaw (K : PySem.W.Frag) : Sp := fun vs H Q _ => ∃ (a : Addr) (ns : List Int), vs = [.ref a] ∧ SqL K H a (ns.map V.int) ∧ ns.length ≤ 63 ∧ ∀ H', Q (.bl true) H'
/-! what the law carries -/
structure LF (K : PySem.W.Frag) (C : Addr) (H : Hp) (d c b : Addr) (ra ba rd ht : Int) (N : ND) : Prop where
  S : St1 K H d c
  I : NIn C H N
  RQ : RqAt H N.ru ra ba rd ht
  hb : H b = some (.lst ((bgs N.D N.ns).map V.int))
  n1 : N.ch ≠ d
  n2 : N.D.fx ≠ d
  n3 : N.ru ≠ d
  b1 : N.b ≤ 1000
  s1 : N.sl ≤ 1000
section
variable {K : PySem.W.Frag} {C : Addr} {H H' : Hp} {d c b : Addr} {ra ba rd ht : Int} {N : ND}
theorem LF.same (A : LF K C H d c b ra ba rd ht N) (e : Same H H') : LF K C H' d c b ra ba rd ht N :=
  { A with S := A.S.same e, I := A.I.same e, RQ := A.RQ.same e, hb := e _ _ A.hb }
theorem LF.keep (A : LF K C H d c b ra ba rd ht N) (S' : St1 K H' d c) (k : Keep d H H') : LF K C H' d c b ra ba rd ht N :=
  { A with S := S', I := A.I.keep A.S k A.n1 A.n2 A.n3, RQ := A.RQ.keep k A.n3, hb := k.l A.S A.hb }
theorem lb_some {H : Hp} {l : Addr} {qs : List WQ} (W : WAt H l qs) {t : Int} (h : 0 ≤ t) : ∃ z, (lb t qs).getLast? = some z := by
  cases e : (lb t qs).getLast? with
  | some z => exact ⟨z, rfl⟩
  | none =>
    exfalso
    have hz := List.getLast?_eq_none_iff.mp e
    obtain ⟨q0, rr, hq0, hz0⟩ := W.hd
    rw [hq0] at hz
    unfold lb at hz
    rw [List.filter_cons, if_pos (decide_eq_true (show q0.2.1 ≤ t by omega))] at hz
    cases hz
theorem LF.at (A : LF K C H d c b ra ba rd ht N) {t : Int} (h : 0 ≤ t) : ∃ q, LF K C H d c b ra ba rd ht { N with tick := t, qw := q } := by
  obtain ⟨q, hq⟩ := lb_some A.I.wi h
  exact ⟨q, A.S, ⟨A.I.P, A.I.C0, A.I.R, A.I.ps, A.I.cs, A.I.ki, A.I.ru, A.I.wi, h, hq, A.I.hab, A.I.sl0, A.I.qn⟩, A.RQ, A.hb, A.n1, A.n2, A.n3, A.b1, A.s1⟩
end
end Sk

set_option Elab.async false
set_option linter.all false
set_option maxRecDepth 100000
set_option maxHeartbeats 4000000
namespace Sk
open PySem PySem.Spec PyProof.Rows L2 NdefX
/-! own error classes over ValueError, or over an own class over it, whose __init__ begins with super().__init__(e) -/
/-- what super() in the __init__ of C wants -/
structure SupOk (P : Program) (K : PySem.W.Frag) (C cc cda : Addr) : Prop where
  cell : ∃ cl cld csl, K.lookup cc = some ⟨cl, cld, .cell (some (.ref C)), csl⟩
  code : ∃ ccl cdd vs ccs file tf, K.lookup cda = some ⟨ccl, cdd, .fields vs, ccs⟩ ∧ vs[2]? = some (.str file tf) ∧ ((P.main.file : Str) == file) = true
  top : (P.main.scope.names.lookup ("super" : Str)).isSome = false
  sub : PySem.W.mroIn K C (.ref C) = some true
  init : PySem.W.ks_superIn K C C "__init__" = some (some (.builtin "ValueError.__init__"))
  noq : PySem.W.nsIn K cStatics "thirdparty.any" = some none
  ve : PySem.W.subIn K (.ref C) (.type "ValueError") = some true
section
variable {P : Program} {w : World} {K : PySem.W.Frag} {mg : Str → Option Value} {base : Heap} {f cc cda C : Addr} {name qual : Str} {params : Arguments} {body rest : List Stmt} {scope : Scope} {kV doc pm ct oc : Value} {an od : Option Addr} {osl : Array (Option Value)} {N ps : List Str} {sp : Sp} {k : Nat}
abbrev errNF (name qual : Str) (params : Arguments) (body : List Stmt) (scope : Scope) (cc cda : Addr) : NF := ⟨name, qual, params, body, scope, [("__class__", cc)], cda⟩
/-- the wrapper at u, bound to the error at a, called -/
theorem call_mw {X : Cx} {σ : L2.St} {H : Hp} {s : Shared} {a u : Addr} {us : List Value} {Q : Value → Shared → Prop} {pins : List (Addr × Obj)} {A : Around} {E : Value → Shared → Prop} (T : OexC X.K C) (I : Inv X pins σ H s) (e : H a = some (exo a C none))
    (hu : s.heap.get? u = some (PySem.W.kxs_mw "ValueError.__init__" a)) (hl : us.length ≤ sizeLine) (h : ∀ s', Inv X pins σ H s' → Q .none s') : wpAny (model X.prog X.w) A (call (.ref u) us) Q E s := by
  obtain ⟨nm, q, N, bs, bm, sn, sub, ab, col, dd, k0, k1, k2, k3, k5, hC, hbm⟩ := T.cls
  obtain ⟨t1, ho⟩ := exo_at I.hok e
  have hC' := I.kIn _ _ hC
  obtain ⟨hp, g, d, t, os⟩ := s
  have fin : ∀ h', (∀ b o, b ≠ a → hp.get? b = some o → h'.get? b = some o) → (∃ t2 : Addr, h'.get? a = some ({ cls := .ref C, dict := none, data := .fields #[.ref t2, .none, .none, .none, .bool false, .none] } : Obj)) → Q .none ⟨h', g, d, t, os⟩ := fun h' k ⟨t2, hx⟩ => by
    have J := I.write (t' := t) (x := a) (e := a) (o := exo a C none) (by rw [e]; exact True.intro) (.inl rfl) k ⟨_, hx⟩ (exo_ok hx)
    have eu : upd H a (exo a C none) = H := by
      funext b
      by_cases hb : b = a
      · rw [hb, upd_same, e]
      · rw [upd_ne hb]
    rw [eu] at J
    exact h _ J
  refine wpAny_call (codeAny_of_tree ?_)
  show wpAny _ A.in1 (callAny (.ref u) ⟨us, []⟩) _ _ _
  simp only [callAny]
  refine wpAny_bind (wpAny_load hu ?_)
  simp only [PySem.W.kxs_mw, show (Value.type "method-wrapper" == Value.type "method" || Value.type "method-wrapper" == Value.type "builtin_function_or_method" || Value.type "method-wrapper" == Value.type "method-wrapper") = true by decide, if_true]
  refine PySem.W.KFB.if_so (by decide) ?_
  refine wpAny_bind (PySem.W.check_bound_init F.excBase_ValueError.toExcCallFacts hC' ho rfl ?_)
  refine wpAny_bind (wpAny_pure (wpAny_pure ?_))
  refine ⟨plainId_quiet F.excBase_ValueError.init.plain _, codeAny_builtin F.excBase_ValueError.initEntry ?_⟩
  exact PySem.W.exc_init_tree (cls := .ref C) (t0 := t1) (dv := none) (c2 := .none) (c3 := .none) (b4 := .bool false) ho hl fun h' k hx _ => fin h' k ⟨_, hx⟩
/-- THE RULE: an own error's __init__ -/
theorem fn_err {CX : CXT} {e : Expr} {pl : Sem Bool} {p0 p1 p2 p3 p4 : Pos} {ar : Arg} (hbd : body = .Expr (.Call (.Attribute (.Call (.Name "super" p0) [] [] p1) "__init__" p2) [e] [] p3) p4 :: rest)
    (lk : K.lookup f = some ⟨oc, od, .func (PySem.W.ksFn name qual params body scope .none kV doc pm an (.ref cda) ct cc), osl⟩) (hcd : PySem.W.codeIn K (.ref cda) qual = true) (S : NScope N ps ["__class__"] scope)
    (hp : (params.posonlyargs ++ params.args).head? = some ar) (har : ps[0]? = some ar.arg) (U : SupOk P K C cc cda) (T : OexC K C) (msup : mg "super" = none)
    (hks : scope.names.lookup ("super" : Str) = some .globalImplicit) (len : ∀ vs H Q E, sp vs H Q E → vs.length = ps.length)
    (he : ∀ env : Env, starEach [e] env = (false, eval e env) :: starEach [] env)
    (hev : ∀ env : Env, eval (.Call (.Attribute (.Call (.Name "super" p0) [] [] p1) "__init__" p2) [e] [] p3) env = (do
      let ov ← attributeBase (.Call (.Name "super" p0) [] [] p1) "__init__" env (eval (.Call (.Name "super" p0) [] [] p1) env)
      standAt p2.atName
      let (f, first) ← holding [ov] (getMethod ov "__init__" pl)
      callWith p3 f first (backTo p3 (starEach [e] env)) []))
    (hbody : ∀ (A : Around) (outer : List Env) (s : Shared) (H : Hp) (vs : List V) (Q : VK) (E : XK), Room k (A.deeper (envF (errNF name qual params body scope cc cda) f s.heap.objs.size)) → sp vs H Q E →
      ∃ (a : Addr) (vs' : List V) (te : TE) (t : TS), vs = .ref a :: vs' ∧ H a = some (exo a C none) ∧ PE (ncx CX P w K mg base N (errNF name qual params body scope cc cda) f A outer s H E) e te ∧ PSs (ncx CX P w K mg base N (errNF name qual params body scope cc cda) f A outer s H E) rest t ∧
        te (startF N vs [some (.ref C)]) H fun v H1 => [v].length ≤ 1000 ∧ H1 a = some (exo a C none) ∧ t { nx := fun _ H' => Q .non H', rt := Q } (startF N vs [some (.ref C)]) H1) :
    FnOk P w K mg base CX (k + 1) f (PySem.W.ksFn name qual params body scope .none kV doc pm an (.ref cda) ct cc) ps sp := by
  refine ⟨len, fun A outer s H args us vs Q E hr e0 hbn r hsp => ?_⟩
  have hl := len _ _ _ _ hsp
  have KX : K.In s.heap := e0.mod.kin.keeps fun b o e => (e0.bs b o e).1
  have lim : s.heap.NoLimit := e0.mod.nolimit.keeps fun b o e => (e0.bs b o e).1
  obtain ⟨cl, cld, csl, hcell⟩ := U.cell
  obtain ⟨ccl, cdd, vsc, ccs, file, tf, hcode, hvs, hfile⟩ := U.code
  obtain ⟨a, vs', te, t, rfl, ea, pe, pss, hq⟩ := hbody A outer s H vs Q E (hr.deeper _) hsp
  have hloc : ∀ y ∈ ps.zip us, scope.names.lookup y.1 = some .local := fun ⟨n, v⟩ hy => S.par n (List.of_mem_zip hy).1
  refine ks_codeAny_call_defAt (fd := PySem.W.ksFn name qual params body scope .none kV doc pm an (.ref cda) ct cc) (body := body) (binds := ps.zip us) hr.depth (KX _ _ lk) rfl lim (PySem.W.codeRec_of KX hcd) rfl hbn S.nocell hloc (fun h₁ hns kp => ?_) S.co S.gen S.kind
  have Ce : CellsAt [("__class__", cc)] ["__class__"] [some (V.ref C)] s.heap H := ⟨rfl, fun y c h => by
      have hc : c = cc := by
        by_cases z : y = "__class__"
        · subst z; simp [List.lookup] at h; exact h.symm
        · have : (y == ("__class__" : Str)) = false := by simpa using z
          simp [List.lookup, this] at h
      subst hc
      exact ⟨(e0.bs _ _ (e0.mod.kin _ _ hcell)).2, _, _, (e0.bs _ _ (e0.mod.kin _ _ hcell)).1, rfl⟩, fun x y c hx hy => by
      have one : ∀ z : Str, ([("__class__", cc)] : List (Str × Addr)).lookup z = some c → z = "__class__" := fun z h => by
        by_cases q : z = "__class__"
        · exact q
        · have : (z == ("__class__" : Str)) = false := by simpa using q
          simp [List.lookup, this] at h
      rw [one x hx, one y hy], fun i y hi => by
      have hy : i = 0 ∧ y = "__class__" := by
        match i, hi with
        | 0, h => exact ⟨rfl, (Option.some.inj h).symm⟩
        | i + 1, h => simp at h
      obtain ⟨rfl, rfl⟩ := hy
      refine ⟨cc, by simp [List.lookup], fun v hv => ?_⟩
      cases hv
      exact ⟨.ref C, rfl, _, (e0.bs _ _ (e0.mod.kin _ _ hcell)).1, rfl⟩⟩
  have I : Inv (ncx CX P w K mg base N (errNF name qual params body scope cc cda) f A outer s H E) [] (startF N (.ref a :: vs') [some (.ref C)]) H { s with heap := h₁, toks := s.toks + (ps.zip us).length } := inv_startN (F := errNF name qual params body scope cc cda) S hr.hd e0 hl r Ce hns kp
  obtain ⟨nm, q, Nn, bs, bm, sn, sub, ab, col, dd, k0, k1, k2, k3, k5, hC, hbm⟩ := T.cls
  have hcl : PySem.W.clsIn K C = some { name := nm, bases := bs, mro := .ref C :: bm, ns := Nn, qualname := q, hasDict := true, slotNames := sn, subclasses := sub, abstract := ab, collection := col, hasDel := false } := by unfold PySem.W.clsIn; rw [hC] <;> rfl
  obtain ⟨t1, ho⟩ := exo_at I.hok ea
  have XI := I.kIn
  have KI : K.In h₁ := XI
  obtain ⟨m, hn, hm⟩ := I.loc
  have hself : m ar.arg = some (.ref a) := by
    have hN : N[0]? = some ar.arg := by
      have h0 : ps.length ≠ 0 := fun z => by rw [List.getElem?_eq_none (by omega)] at har; cases har
      have q : (N.take (ps.length + (["__class__"] : List Str).length))[0]? = (ps ++ (["__class__"] : List Str))[0]? := by rw [S.pre]
      rw [List.getElem?_take_of_lt (by omega), List.getElem?_append_left (by omega), har] at q
      exact q
    have hz := S.par ar.arg (List.mem_of_getElem? har)
    obtain ⟨u, ru, lk2⟩ := hm 0 ar.arg (.ref a) hN rfl (.inl hz)
    have eu : u = .ref a := ru
    subst eu
    rcases lk2 with ⟨_, e⟩ | ⟨h, _⟩
    · exact e
    · rcases h with h | h
      · have := hz.symm.trans h; cases this
      · have := hz.symm.trans h; cases this
  have hza : scope.names.lookup ar.arg = some .local := S.par ar.arg (List.mem_of_getElem? har)
  have hzc : scope.names.lookup ("__class__" : Str) = some .free := S.frk _ (List.mem_singleton.mpr rfl)
  obtain ⟨mb, hb1, hb2⟩ := e0.mod.blt
  subst hbd
  refine ks_wpAt_execs_cons (ks_wpAt_Expr_any (ks_wpAt_MethodCall (pl := pl) ?_ (hev _)) I.quiet)
  refine ks_wpAt_super_base (cc := cda) (f := f) (env := PySem.W.ksEnv qual scope s.heap.objs.size f (.ref cda) cc) hks hzc rfl rfl (KI _ _ lk) rfl hp rfl (KI _ _ hcode) rfl hvs hfile U.top ?_
  refine PySem.W.ks_loadName_global S.kind hks (Calls.loadGlobal_builtin (e0.mod.glob.keeps fun b o e => kp b o (e0.bs b o e).1) msup (hb1.keeps fun b o e => kp b o (e0.bs b o e).1) ((hb2 _ (by decide)).trans (by decide +kernel)) ⟨rfl, ?_⟩)
  refine wpAny_loadName_free S.kind hzc rfl ⟨_, KI _ _ hcell, rfl⟩ ?_
  refine wpAny_loadName_local S.kind hza hn hself ?_
  refine ks_wpAny_isType_cls (KI _ _ hC) rfl ⟨rfl, ?_⟩
  refine ks_wpAny_call_super (KI _ _ hC) rfl ho rfl (fun c e => by cases e) (PySem.W.looks_mroIn KI U.sub) (fun h2 e2 k2 => ?_)
  have KI2 : K.In h2 := KI.keeps k2
  have ho2 := k2 _ _ ho
  have hi := U.init
  unfold PySem.W.ks_superIn at hi
  rw [hcl, Option.bind_some] at hi
  have II : PySem.W.InstAt h2 a ({ cls := .ref C, dict := none, data := .fields #[.ref t1, .none, .none, .none, .bool false, .none] } : Obj) C none := ⟨ho2, rfl, rfl, trivial⟩
  refine PySem.W.kxs_getMethod PySem.W.kxs_ValueError e2 (PySem.W.looks_opaque KI2 U.noq) (l₀ := .ref C :: bm) ?_ rfl KI2 hi (II.type.andThen (PySem.W.looks_subIn KI2 U.ve)) (PySem.W.ks_ne KI2 II hcl) rfl ?_
  · exact fun A Q E s k q => wpAny_bind ((PySem.W.looks_clsIn KI2 hcl) A _ E s k (wpAny_pure q))
  -- the super object and the wrapper stand beside what is told
  have k3 : ∀ b o, h₁.get? b = some o → (h2.push (PySem.W.kxs_mw "ValueError.__init__" a)).get? b = some o := fun b o e => Heap.get?_push_of_some _ (k2 _ _ e)
  have hu3 : (h2.push (PySem.W.kxs_mw "ValueError.__init__" a)).get? h2.objs.size = some (PySem.W.kxs_mw "ValueError.__init__" a) := Heap.get?_push_at rfl rfl
  have hsz : h₁.objs.size ≤ h2.objs.size := Nat.le_of_lt (Heap.lt_size e2)
  have I3 := (I.kept (t' := s.toks + (ps.zip us).length + 1) k3).pins_of (pins' := [(h2.objs.size, PySem.W.kxs_mw "ValueError.__init__" a)]) fun p hp => by
    rw [List.mem_singleton.mp hp]
    refine ⟨hu3, I.hok.fresh hsz, fun z => ?_, fun z => I.nofs hsz z, fun v z => by cases z⟩
    have y := I.lt
    have z' : h2.objs.size = s.heap.objs.size := z
    have y' : s.heap.objs.size < h₁.objs.size := y
    omega
  show wpAny _ _ (callWith p3 (.ref h2.objs.size) [] (backTo p3 (starEach [e] _)) []) _ _ _
  rw [he]
  refine PySem.W.kxs_callWith (i := "ValueError.__init__") (x := a) rfl (Calls.evalArgs_plain (rest := []) ?_)
  have run := (pa_cons pe pa_nil (he _)).run p3 [(h2.objs.size, PySem.W.kxs_mw "ValueError.__init__" a)] _ _ H (fun vs H1 => vs.length ≤ 1000 ∧ H1 a = some (exo a C none) ∧ t { nx := fun _ H' => Q .non H', rt := Q } (startF N (.ref a :: vs') [some (.ref C)]) H1) I3 hq
  rw [he] at run
  refine wpAny_mono run (fun us2 s4 hs4 => ?_) fun _ _ x => x
  obtain ⟨vs4, H4, I4, r4, hl4, ea4, q4⟩ := hs4
  have hu4 := (I4.pin (h2.objs.size, PySem.W.kxs_mw "ValueError.__init__" a) (by simp)).1
  refine ⟨hu4, call_mw T I4 ea4 hu4 (by show us2.length ≤ _; rw [← Paired.length r4, sizeLine_eq]; omega) fun s5 I5 => ?_⟩
  refine wpAt_of_wpAny (wpAny_mono (pss.run _ s5 _ H4 _ I5 q4) (fun fl s' hs => ?_) fun e s' hs => hs)
  cases fl with
  | ret u =>
    obtain ⟨v, σ', H', J, rv, q⟩ := hs
    exact ⟨v, H', J.os, J.bare, J.base, J.hok, rv, q⟩
  | next =>
    obtain ⟨σ', H', J, q⟩ := hs
    exact ⟨V.non, H', J.os, J.bare, J.base, J.hok, rfl, q⟩
  | brk =>
    obtain ⟨_, _, _, q⟩ := hs
    exact False.elim q
  | cont =>
    obtain ⟨_, _, _, q⟩ := hs
    exact False.elim q
end
end Sk

set_option Elab.async false
set_option linter.all false
set_option maxRecDepth 100000
set_option maxHeartbeats 4000000
namespace Sk
open PySem PySem.Spec PyProof.Rows L2 NdefX
/-! own errors, raised and caught; defs that may raise -/
/-- an own error class, ready to be made by its name -/
structure ErrD (P : Program) (w : World) (K : PySem.W.Frag) (mg : Str → Option Value) (base : Heap) (k : Nat) (x : Str) (C : Addr) (ps : List Str) (sp : Sp) : Prop where
  ex : ∃ (f : Addr) (fd : FuncData), FnOk P w K mg base CX0 k f fd ps sp ∧ Binds K fd ps [] ∧ PySem.W.findIn K (.ref C) "__init__" = some (some (.ref f)) ∧ PySem.W.typeIn K (.ref f) = some (.type "function")
  gC : mg x = some (.ref C)
  T : OexC K C
  te : PySem.W.exmOne K (.ref C) (.ref C) = some true
/-- code and tick, as the error's own dict tells them -/
def ctK (s : Str) (t : Int) : List (Str × V) := [("tick", .int t), ("code", .str s)]
def spCErr (C : Addr) : Sp := fun vs H Q _ => ∃ (a : Addr) (s : Str) (t : Int), vs = [.ref a, .str s, .int t] ∧ H a = some (exo a C none) ∧ s.length ≤ 1000 ∧ t.natAbs < 2 ^ 250 ∧
  ∀ dx, H dx = none → dx ≠ a → Q .non (upd (upd (upd H dx (exd dx [("code", .str s)])) a (exo a C (some dx))) dx (exd dx (ctK s t)))
theorem err_heap {H : Hp} {a dx C : Addr} {s : Str} {t : Int} (ha : H a = none) (hd : H dx = none) (n : dx ≠ a) :
    upd (del (upd (upd (upd (upd H a (exo a C none)) dx (exd dx [("code", .str s)])) a (exo a C (some dx))) dx (exd dx (ctK s t))) a) dx (.xd (ctK s t)) = upd H dx (.xd (ctK s t)) := by
  funext b
  by_cases h1 : b = dx
  · rw [h1, upd_same, upd_same]
  · rw [upd_ne h1, upd_ne h1]
    by_cases h2 : b = a
    · rw [h2, del_same, ha]
    · rw [del_ne h2, upd_ne h1, upd_ne h2, upd_ne h1, upd_ne h2]
section
variable {X : Cx} {k : Nat} {x : Str} {C : Addr} {p pos pos2 : Pos} {e1 e2 : Expr} {ta : TA} {W : WX}
/-- raise C(code, tick) -/
def tRaiseC (C : Addr) (W : WX) (ta : TA) : TS := fun _ σ H => ta σ H fun vs H1 => ∃ (s : Str) (t : Int), vs = [.str s, .int t] ∧ s.length ≤ 1000 ∧ t.natAbs < 2 ^ 250 ∧ ∀ d, H1 d = none → W (.ref C) (some d) σ (upd H1 d (.xd (ctK s t)))
theorem pmk_err {ps : List Str} {sp : Sp} (D : ErrD X.prog X.w X.K X.mg X.base k x C ps sp) (hr : Room (k + 1) X.A) (hg : Gl X x) (ha : PA X (e1 :: [e2]) ta) (hdb : (x == ("__debug__" : Str)) = false := by decide)
    (he : starEach (e1 :: [e2]) X.env = (false, eval e1 X.env) :: starEach [e2] X.env := by rfl) (hpl : (backTo pos (starEach [e2] X.env)).any (·.1) = false := by rfl) : PMk X (.Call (.Name x p) (e1 :: [e2]) [] pos) (tMkO C sp [] ta) := by
  obtain ⟨f, fd, F1, b, iC, tI⟩ := D.ex
  exact pmk_oex D.T iC tI F1 hr b .nil pass0 hg D.gC ha hdb he hpl
theorem tMk_of {σ : L2.St} {H : Hp} {Q : XK} (mono : ∀ σ H (R R' : List V → Hp → Prop), (∀ vs H, R vs H → R' vs H) → ta σ H R → ta σ H R') (h : ta σ H fun vs H1 => ∃ (s : Str) (t : Int), vs = [.str s, .int t] ∧ s.length ≤ 1000 ∧ t.natAbs < 2 ^ 250 ∧ ∀ d, H1 d = none → Q (.ref C) (some d) (upd H1 d (.xd (ctK s t)))) : tMkO C (spCErr C) [] ta σ H Q := by
  refine mono _ _ _ _ (fun vs H1 ⟨s, t, ev, hs, ht, q⟩ => ?_) h
  subst ev
  refine ⟨(by show 2 ≤ 1000; decide), fun a ha => ⟨a, s, t, rfl, upd_same, hs, ht, fun dx hdx n => ?_⟩⟩
  have hd1 : H1 dx = none := by rw [upd_ne n] at hdx; exact hdx
  refine ⟨rfl, dx, ctK s t, ?_, upd_same, hd1, ?_⟩
  · rw [upd_ne (Ne.symm n), upd_same]
  · rw [err_heap ha hd1 n]
    exact q dx hd1
/-- raise C(code, tick), both told by expressions -/
theorem ps_raiseC {te1 te2 : TE} (hc : X.calm = true) (D : ErrD X.prog X.w X.K X.mg X.base k x C ["self", "code", "tick"] (spCErr C)) (hr : Room (k + 1) X.A) (tk : Takes X W) (hg : Gl X x) (h1 : PE X e1 te1) (h2 : PE X e2 te2)
    (m1 : ∀ σ H (R R' : VK), (∀ v H, R v H → R' v H) → te1 σ H R → te1 σ H R') (m2 : ∀ σ H (R R' : VK), (∀ v H, R v H → R' v H) → te2 σ H R → te2 σ H R') (hdb : (x == ("__debug__" : Str)) = false := by decide)
    (he : starEach (e1 :: [e2]) X.env = (false, eval e1 X.env) :: starEach [e2] X.env := by rfl) (he2 : starEach (e2 :: []) X.env = (false, eval e2 X.env) :: starEach [] X.env := by rfl) (hpl : (backTo pos (starEach [e2] X.env)).any (·.1) = false := by rfl) :
    PS X (.Raise (some (.Call (.Name x p) (e1 :: [e2]) [] pos)) none pos2) (tRaiseC C W (tCons te1 (tCons te2 tNil))) := by
  have q := ps_raise (pos := pos2) hc tk (pmk_err (p := p) (pos := pos) D hr hg (pa_cons h1 (pa_cons h2 pa_nil he2) he) hdb he hpl)
  refine ⟨fun pins s σ H Dn I h => q.run pins s σ H Dn I ?_⟩
  exact tMk_of (fun σ H R R' im z => m1 _ _ _ _ (fun v H1 z => m2 _ _ _ _ (fun v2 H2 z => im _ _ z) z) z) h
end
/-- a def of the text that may raise, ready to be called by its name -/
structure DefX (P : Program) (w : World) (K : PySem.W.Frag) (mg : Str → Option Value) (base : Heap) (k : Nat) (x : Str) (ps : List Str) (sp : Sp) : Prop where
  ex : ∃ (f : Addr) (fd : FuncData), FnOk P w K mg base (L2.CX P w) k f fd ps sp ∧ mg x = some (.ref f) ∧ PySem.W.keepIn K (.ref f) = true ∧ Binds K fd ps []
theorem DefX.mk' {P : Program} {w : World} {K : PySem.W.Frag} {mg : Str → Option Value} {base : Heap} {k : Nat} {x qual : Str} {st : Stmt} {f : Addr} {fd : FuncData} {ps : List Str} {sp : Sp}
    (F : Fun K x qual st f fd) (b : Binds K fd ps []) (m : mg x = some (.ref f)) (G : FnOk P w K mg base (L2.CX P w) k f fd ps sp) : DefX P w K mg base k x ps sp := ⟨f, fd, G, m, F.kp, b⟩
theorem pe_defX {X : Cx} {W : WX} {k : Nat} {x : Str} {ps : List Str} {sp : Sp} {p pos : Pos} {e : Expr} {es : List Expr} {t : TA} (D : DefX X.prog X.w X.K X.mg X.base k x ps sp) (hr : Room k X.A) (hg : Gl X x) (tk : Takes X W)
    (ha : PA X (e :: es) t) (hdb : (x == ("__debug__" : Str)) = false := by decide) (he : starEach (e :: es) X.env = (false, eval e X.env) :: starEach es X.env := by rfl) (hpl : (backTo pos (starEach es X.env)).any (·.1) = false := by rfl) :
    PE X (.Call (.Name x p) (e :: es) [] pos) (tCallS sp (WE W) t) := by
  obtain ⟨f, fd, F, m, kp, b⟩ := D.ex
  exact pe_callS F hr hg m kp b (fun σ => passAt tk σ) ha hdb he hpl
/-- a def that may raise, whose code object is known -/
theorem okTX {P : Program} {w : World} {K : PySem.W.Frag} {mg : Str → Option Value} {base : Heap} {x qual : Str} {st : Stmt} {f c : Addr} {fd : FuncData} {N ps : List Str} {k : Nat} {sp : Sp} (F : Fun K x qual st f fd) (hc : fd.code = .ref c) (S : FnScope N ps (defScope st)) (len : ∀ vs H Q E, sp vs H Q E → vs.length = ps.length)
    (hbody : ∀ (A : Around) (outer : List Env) (s : Shared) (H : Hp) (vs : List V) (Q : VK) (E : XK), Room k (A.deeper (envOfC qual (defScope st) s.heap.objs.size f (.ref c))) → sp vs H Q E →
      ∃ t, PSs (cxOf (L2.CX P w) P w K mg base N qual (defScope st) f (.ref c) A outer s H E) (defBody st) t ∧ t { nx := fun _ H' => Q .non H', rt := Q } (start N vs) H) : FnOk P w K mg base (L2.CX P w) (k + 1) f fd ps sp := by
  obtain ⟨oc, od, kV, doc, pm, an, cdv, ct, osl, rfl, lk, hcd⟩ := F.ex
  have e : cdv = .ref c := hc
  subst e
  exact fn_of lk hcd S len fun A outer s H vs Q E hr hsp => hbody A outer s H vs Q E hr hsp
/-- a def that raises in one way and else promises as before -/
theorem natAbs_log {t : Int} (h : t.natAbs < 2 ^ 250) : t.natAbs.log2 < 1920 := by
  by_cases z : t.natAbs = 0
  · rw [z]; decide
  · exact (Nat.log2_lt z).mpr (Nat.lt_of_lt_of_le h (Nat.pow_le_pow_right (by decide) (by decide)))
end Sk

set_option Elab.async false
set_option linter.all false
set_option maxRecDepth 100000
set_option maxHeartbeats 4000000
namespace Sk
open PySem PySem.Spec PyProof.Rows L2
/-! tubes of courses -/
theorem op_eqDK {X : Cx} {K : PySem.W.Frag} (e : X.K = K) (hu : X.A.units + 64 < cLine) : OpR X (compareOp .Eq) (rEqD K) := e ▸ op_eqD hu
theorem ChartAt.st {T : List Addr} {H H' : Hp} {ch : Addr} {D : CD} (C : ChartAt H ch D) (s : SameT T H H') (t : Tabs T H) : ChartAt H' ch D := by
  obtain ⟨⟨kvs, h1, h2, h3⟩, h4, h5, h6, h7, h8, h8', h9⟩ := C
  exact ⟨⟨kvs, s.d t h1, h2, h3⟩, s.d t h4, s.l t h5, fun l hl => s.t t (h6 l hl), fun n a x y hp => let ⟨p1, p2, p3⟩ := h7 n a x y hp; ⟨p1, s.t t p2, p3⟩, h8, h8', h9⟩
theorem PathAt.st {T : List Addr} {C : Addr} {H H' : Hp} {p r : Addr} {D : CD} {ns : List Str} (P : PathAt C H p D ns r) (s : SameT T H H') (t : Tabs T H) : PathAt C H' p D ns r := by
  obtain ⟨dx, l1, l2, l3, l4, sa, va, P⟩ := P
  exact ⟨dx, l1, l2, l3, l4, sa, va, { P with ob := s.i t P.ob, rt := s.t t P.rt, lg := s.l t P.lg, st := s.l t P.st, ve := s.l t P.ve, bgn := s.l t P.bgn, sx := fun j h => s.t t (P.sx j h), vx := fun j h => s.t t (P.vx j h) }⟩
theorem Keep.tabsS {K : PySem.W.Frag} {d c : Addr} {TT : List Addr} {H H' : Hp} (k : Keep d H H') (S : St1 K H d c) (t : Tabs TT H) : Tabs TT H' := let ⟨_, e⟩ := S.dk; Keep.tabs k e t
section
variable {T : List Addr} {H H' : Hp}
theorem WAt.st {l : Addr} {qs : List WQ} (W : WAt H l qs) (s : SameT T H H') (t : Tabs T H) : WAt H' l qs := ⟨s.l t W.li, fun q h => s.t t (W.tu q h), W.bd, W.hd⟩
theorem NIn.st {C : Addr} {N : ND} (I : NIn C H N) (s : SameT T H H') (t : Tabs T H) : NIn C H' N :=
  { I with P := I.P.st s t, C0 := I.C0.st s t, cs := s.t t I.cs, ki := s.t t I.ki, ru := let ⟨kvs, h1, h2⟩ := I.ru; ⟨kvs, s.d t h1, h2⟩, wi := I.wi.st s t }
theorem LoT.st {l : Addr} {xss : List (List Int)} (L : LoT H l xss) (s : SameT T H H') (t : Tabs T H) : LoT H' l xss := let ⟨qs, h1, h2, h3⟩ := L; ⟨qs, s.l t h1, fun q h => s.t t (h2 q h), h3⟩
theorem SameT.app {l : Addr} {o : HO} (s : SameT T H H') (h : H l = none) : SameT T H (upd H' l o) := ⟨fun b u e n => by rw [upd_ne (ne_of_none e h)]; exact s.keep b u e n, fun t P hP => by
  obtain ⟨ps, e, r⟩ := s.tabs t P hP
  obtain ⟨ps', e', _⟩ := t P hP
  exact ⟨ps, by rw [upd_ne (ne_of_none e' h)]; exact e, r⟩⟩
theorem SameT.out {a : Addr} (s : SameT T H H') (t : Tabs T H) (h : H' a = none) : H a = none := by
  cases e : H a with
  | none => rfl
  | some o =>
    by_cases z : a ∈ T
    · obtain ⟨ps, e', _⟩ := s.tabs t a z
      rw [h] at e'; cases e'
    · rw [s.keep a o e z] at h; cases h
end
/-- for i, x in enumerate(xs) -/
theorem for_enum {K : PySem.W.Frag} {a : Addr} {xs : List V} {g : TG} {tb : TS} {D : Ends} {σ : L2.St} {H : Hp} (Pv : Nat → L2.St → Hp → Prop) (h0 : Pv 0 σ H) (hl : ∀ i σ H, i ≤ xs.length → Pv i σ H → SqL K H a xs)
    (hs : ∀ i x σ H T, xs[i]? = some x → H T = none → Pv i σ H → g (.ref T) σ (upd H T (.tup [.int (i : Nat), x])) fun σ2 H2 => tb { D with nx := Pv (i + 1), ct := Pv (i + 1), bk := D.nx } σ2 H2) (hd : ∀ σ H, Pv xs.length σ H → D.nx σ H) :
    ∃ W : Nat → Nat → L2.St → Hp → Prop, (∃ m, W 0 m σ H) ∧ ∀ i m σ H, W i m σ H →
      ((Ite K a).stop i H ∧ D.nx σ H) ∨ ((Ite K a).go i H ∧ ∃ N : L2.St → Hp → Prop, (∀ σ' H', N σ' H' → ∃ m', m' < m ∧ W (i + 1) m' σ' H') ∧ ∀ x H', (Ite K a).yld i H x H' → g x σ H' fun σ2 H2 => tb { D with nx := N, ct := N, bk := D.nx } σ2 H2) := by
  refine ⟨fun i m σ H => m = xs.length - i ∧ i ≤ xs.length ∧ Pv i σ H, ⟨xs.length, by simp, Nat.zero_le _, h0⟩, ?_⟩
  rintro i m σ H ⟨rfl, hi, p⟩
  have q := hl i σ H hi p
  by_cases hlt : i < xs.length
  · refine .inr ⟨⟨xs, xs[i], q, by simp [hlt]⟩, Pv (i + 1), fun σ' H' p' => ⟨xs.length - (i + 1), by omega, rfl, hlt, p'⟩, fun x H' y => ?_⟩
    obtain ⟨T, x, rfl, hT, rfl, y⟩ := y
    exact hs i x σ H T (y xs q) hT p
  · obtain rfl : i = xs.length := by omega
    exact .inl ⟨⟨xs, q, Nat.le_refl _⟩, hd σ H p⟩
open GenW GxR in
/-- any over a list, what follows told apart by both answers -/
theorem till_any {K : PySem.W.Frag} {a : Addr} {xs : List V} {g : TG} {tt : TT} {te : TE} {vs : List Nat} {σ : L2.St} {H2 : Hp} {Qe Qn : Hp → Prop} (Pv : Nat → Hp → Prop) (h0 : Pv 0 H2) (hl : ∀ i H, i ≤ xs.length → Pv i H → SqL K H a xs)
    (hs : ∀ i x H, xs[i]? = some x → Pv i H → g x (wipe σ vs) H fun σ2 H2 => wipe σ2 vs = wipe σ vs ∧ tt σ2 H2 fun b H3 => if b = true then te σ2 H3 fun y H4 => ∃ b, y = .bl b ∧ if b = true then Qe H4 else Pv (i + 1) H4 else Pv (i + 1) H3) (hd : ∀ H, Pv xs.length H → Qn H) :
    ∃ W : Nat → Nat → Hp → Prop, (∃ m, W 0 m H2) ∧ ∀ i m H, W i m H → ((Itl K a).stop i H ∧ Qn H) ∨ ((Itl K a).go i H ∧ ∃ Nx : Hp → Prop, (∀ H', Nx H' → ∃ m', m' < m ∧ W (i + 1) m' H') ∧
      ∀ x H', (Itl K a).yld i H x H' → g x (wipe σ vs) H' fun σ2 H2 => wipe σ2 vs = wipe σ vs ∧ tt σ2 H2 fun b H3 => if b = true then te σ2 H3 fun y H4 => ∃ b, y = .bl b ∧ if b = true then Qe H4 else Nx H4 else Nx H3) := by
  refine ⟨fun i m H => m = xs.length - i ∧ i ≤ xs.length ∧ Pv i H, ⟨xs.length, by simp, Nat.zero_le _, h0⟩, fun i m H w => ?_⟩
  obtain ⟨hm, hi, p⟩ := w
  have q := hl i H hi p
  rcases Nat.lt_or_ge i xs.length with z | z
  · refine .inr ⟨⟨xs, xs[i], q, by simp [z]⟩, Pv (i + 1), fun H' p' => ⟨xs.length - (i + 1), by omega, rfl, z, p'⟩, fun x H' y => ?_⟩
    obtain ⟨rfl, y⟩ := y
    exact hs i x _ (y xs q) p
  · obtain rfl : i = xs.length := by omega
    exact .inl ⟨⟨xs, q, Nat.le_refl _⟩, hd H p⟩
/-! the hours of a chart -/
structure HQ where
  a : Addr
  s : Str
  e : Str
  f : Int
  l : Int
def HQ.v (q : HQ) : List V := [.str q.s, .str q.e, .int q.f, .int q.l]
structure HrAt (H : Hp) (ch ho : Addr) (hs : List HQ) : Prop where
  ex : ∃ kvs, H ch = some (.dK kvs) ∧ valV kvs (.inr "hours") = some (.ref ho)
  li : H ho = some (.lst (hs.map fun q => V.ref q.a))
  tu : ∀ q ∈ hs, H q.a = some (.tup q.v)
  ok : ∀ q ∈ hs, sOk q.s ∧ sOk q.e
  n : hs.length ≤ 100
section
variable {H H' : Hp} {ch ho : Addr} {hs : List HQ}
theorem HrAt.same (R : HrAt H ch ho hs) (s : Same H H') : HrAt H' ch ho hs := ⟨let ⟨kvs, e, h⟩ := R.ex; ⟨kvs, s _ _ e, h⟩, s _ _ R.li, fun q h => s _ _ (R.tu q h), R.ok, R.n⟩
theorem HrAt.keep {K : PySem.W.Frag} {d c : Addr} (R : HrAt H ch ho hs) (S : St1 K H d c) (k : Keep d H H') (n : ch ≠ d) : HrAt H' ch ho hs := ⟨let ⟨kvs, e, h⟩ := R.ex; ⟨kvs, k _ _ e n, h⟩, k.l S R.li, fun q h => k.t S (R.tu q h), R.ok, R.n⟩
theorem HrAt.st {T : List Addr} (R : HrAt H ch ho hs) (s : SameT T H H') (t : Tabs T H) : HrAt H' ch ho hs := ⟨let ⟨kvs, e, h⟩ := R.ex; ⟨kvs, s.d t e, h⟩, s.l t R.li, fun q h => s.t t (R.tu q h), R.ok, R.n⟩
theorem HrAt.g (R : HrAt H ch ho hs) : DGet H ch (.str "hours") (some (.ref ho)) := let ⟨_, e, h⟩ := R.ex; h ▸ DGet.k (k := .inr "hours") e
end
def hitB (l : Lg) (t : Int) (q : HQ) : Bool := (decide (q.s = l.s) && decide (q.e = l.e)) && (decide (q.f ≤ t) && decide (t ≤ q.l))
def shutB (hs : List HQ) (l : Lg) (t : Int) : Bool := hs.any (hitB l t)
/-! the checks of a box -/
def ND.tot (N : ND) : Int := bg N.D N.ns (N.ns.length - 1)
def ND.at (N : ND) (t : Int) : ND := { N with tick := t, qw := ((lb t N.qs).getLast?).getD N.qw }
theorem NIn.at {C : Addr} {H : Hp} {N : ND} (I : NIn C H N) {t : Int} (h : 0 ≤ t) : NIn C H (N.at t) := by
  obtain ⟨q, hq⟩ := lb_some I.wi h
  exact ⟨I.P, I.C0, I.R, I.ps, I.cs, I.ki, I.ru, I.wi, h, by show (lb t N.qs).getLast? = some (((lb t N.qs).getLast?).getD N.qw); rw [hq]; rfl, I.hab, I.sl0, I.qn⟩
theorem NIn.atN {C : Addr} {H : Hp} {N : ND} (I : NIn C H N) : N.at N.tick = N := by
  unfold ND.at
  rw [I.qw]
  rfl
def ND.legs (N : ND) (b : Bx) : List Lg := (List.range (N.lt b.hi + 1 - N.lt b.lo)).filterMap fun j => N.D.leg (rn N.ns (N.lt b.lo + j)) (rn N.ns (N.lt b.lo + j + 1))
def lvlB (N : ND) (b : Bx) : Bool := (N.legs b).any fun l => decide (b.dn < l.lo) || decide (l.hi < b.up)
def boxB (N : ND) (hs : List HQ) (b : Bx) : Option Str := if b.hi < 0 then none else if lvlB N b then some "level" else if (N.legs b).any (fun l => shutB hs l N.tick) then some "shut" else none
def paceB (N : ND) (b : Bx) : Bool := (List.range (N.lt b.hi + 1 - N.lt b.lo)).any fun j => decide (N.lf (N.lt b.lo + j) < 1)
def codeB (N : ND) (hs : List HQ) (b : Bx) : Option Str := match boxB N hs b with | some c => some c | none => if paceB N b then some "slow" else none
def Bx.li (b : Bx) : List Int := [b.lo, b.hi, b.dn, b.up]
/-- the boxes so far, and the box at hand -/
structure Chn (N : ND) (hs : List HQ) (b0 : Bx) (bs : List Bx) (b : Bx) : Prop where
  hd : (bs ++ [b])[0]? = some b0
  st : ∀ (i : Nat) (x y : Bx), (bs ++ [b])[i]? = some x → (bs ++ [b])[i + 1]? = some y → x.lo < N.tot ∧ codeB (N.at (N.tick + (i : Int))) hs x = none ∧ (N.at (N.tick + (i : Int))).nx x.lo x.hi x.dn x.up y.lo y.hi y.dn y.up
theorem Chn.nil {N : ND} {hs : List HQ} {b : Bx} : Chn N hs b [] b := ⟨rfl, fun i x y h1 h2 => by
  have := (List.getElem?_eq_some_iff.mp h2).1
  simp at this⟩
theorem Chn.snoc {N : ND} {hs : List HQ} {b0 b b' : Bx} {bs : List Bx} (X : Chn N hs b0 bs b) (h1 : b.lo < N.tot) (h2 : codeB (N.at (N.tick + (bs.length : Int))) hs b = none) (h3 : (N.at (N.tick + (bs.length : Int))).nx b.lo b.hi b.dn b.up b'.lo b'.hi b'.dn b'.up) : Chn N hs b0 (bs ++ [b]) b' := by
  refine ⟨?_, fun i x y hx hy => ?_⟩
  · rw [List.getElem?_append_left (by simp)]
    exact X.hd
  · have hl := (List.getElem?_eq_some_iff.mp hy).1
    rw [List.length_append, List.length_append] at hl
    have hl : i + 1 < bs.length + 1 + 1 := hl
    rw [List.getElem?_append_left (by rw [List.length_append]; show i < bs.length + 1; omega)] at hx
    by_cases e : i < bs.length
    · rw [List.getElem?_append_left (by rw [List.length_append]; show i + 1 < bs.length + 1; omega)] at hy
      exact X.st i x y hx hy
    · have ei : i = bs.length := by omega
      subst ei
      rw [List.getElem?_append_right (by omega), Nat.sub_self] at hx
      have hx : x = b := (Option.some.inj hx).symm
      rw [List.getElem?_append_right (by rw [List.length_append]; show bs.length + 1 ≤ _; omega), List.length_append] at hy
      have e0 : bs.length + 1 - (bs.length + [b].length) = 0 := by show bs.length + 1 - (bs.length + 1) = 0; omega
      rw [e0] at hy
      have hy : y = b' := (Option.some.inj hy).symm
      subst hx hy
      exact ⟨h1, h2, h3⟩
theorem NIn.nx_le {C : Addr} {H : Hp} {N : ND} (I : NIn C H N) {low high down up v0 v1 v2 v3 : Int} (X : N.nx low high down up v0 v1 v2 v3) (h : low ≤ high) (h' : down ≤ up) : v0 ≤ v1 ∧ v2 ≤ v3 := by
  have q := NextOf.inner X X I.hab.1 I.hab.2 (fun p => I.lh (N.lt p) (by have := (lat_cases N.D N.ns (N.ns.length - 1 - 1) p).1; have := I.R.n2; show lat _ _ _ _ + 1 < _; omega)) (Int.le_refl _) (Int.le_refl _) (Int.le_refl _) (Int.le_refl _) h'
  exact ⟨q.2.1, q.2.2.2.2.1⟩
/-! promises -/
def spLegsOf (C : Addr) : Sp := fun vs H Q _ => ∃ (p r bx : Addr) (D : CD) (ns : List Str) (b : Bx), vs = [.ref p, .ref bx] ∧ PathAt C H p D ns r ∧ 2 ≤ ns.length ∧ ns.length ≤ 20 ∧ H bx = some b.t ∧ ∀ q, H q = none → Q (.ref q) (upd H q (.lst (rgV (lat D ns (ns.length - 1 - 1) b.lo : Nat) ((lat D ns (ns.length - 1 - 1) b.hi : Nat) + 1))))
def spShut (TT : List Addr) : Sp := fun vs H Q _ => ∃ (ch ho : Addr) (hs : List HQ) (l : Lg) (t : Int), vs = [.ref ch, .ref l.a, .int t] ∧ HrAt H ch ho hs ∧ H l.a = some (.tup l.v) ∧ sOk l.s ∧ sOk l.e ∧ Tabs TT H ∧ ∀ H', SameT TT H H' → Q (.bl (shutB hs l t)) H'
def spCheckBox (C CE : Addr) (TT : List Addr) : Sp := fun vs H Q E => ∃ (N : ND) (ho bx : Addr) (hs : List HQ) (b : Bx), vs = [.ref N.ch, .ref N.p, .int N.tick, .ref bx] ∧ NIn C H N ∧ HrAt H N.ch ho hs ∧ H bx = some b.t ∧ b.lo ≤ b.hi ∧ N.tick ≤ 1000000000 ∧ Tabs TT H ∧
  (∀ H', boxB N hs b = none → SameT TT H H' → Q .non H') ∧ ∀ c d H', boxB N hs b = some c → SameT TT H H' → H d = none → H' d = some (.xd (ctK c N.tick)) → E (.ref CE) (some d) H'
def spCheckPace (C CE : Addr) : Sp := fun vs H Q E => ∃ (N : ND) (bx : Addr) (b : Bx), vs = [.ref N.p, .ref N.cs, .ref N.ru, .ref N.wi, .int N.tick, .ref bx] ∧ NIn C H N ∧ H bx = some b.t ∧ b.lo ≤ b.hi ∧ N.tick ≤ 1000000000 ∧
  (∀ H', paceB N b = false → Same H H' → Q .non H') ∧ ∀ d H', paceB N b = true → Same H H' → H d = none → H' d = some (.xd (ctK "slow" N.tick)) → E (.ref CE) (some d) H'
/-- why there is no tube -/
def NoTube (N : ND) (hs : List HQ) (b0 : Bx) (c : Str) (t : Int) : Prop := (¬ (N.s ≤ N.pc ∧ N.pc ≤ N.f) ∧ c = "speed" ∧ t = N.tick) ∨ ((N.s ≤ N.pc ∧ N.pc ≤ N.f) ∧ ∃ bs b, Chn N hs b0 bs b ∧ b.lo < N.tot ∧ t = N.tick + (bs.length : Int) ∧ ((bs.length = 240 ∧ c = "long") ∨ (bs.length < 240 ∧ codeB (N.at t) hs b = some c)))
structure IsTube (N : ND) (hs : List HQ) (b0 : Bx) (bs : List Bx) : Prop where
  sp : N.s ≤ N.pc ∧ N.pc ≤ N.f
  ch : ∃ b, Chn N hs b0 bs b ∧ N.tot ≤ b.lo
  n : bs.length ≤ 240
def spTube (C CE : Addr) (TT : List Addr) : Sp := fun vs H Q E => ∃ (N : ND) (ho bx : Addr) (hs : List HQ) (b : Bx), vs = [.ref N.ch, .ref N.p, .ref N.cs, .ref N.ki, .ref N.ru, .ref N.wi, .int N.tick, .ref bx] ∧ NIn C H N ∧ HrAt H N.ch ho hs ∧ H bx = some b.t ∧ b.lo ≤ b.hi ∧ b.dn ≤ b.up ∧ N.tick ≤ 1000000 ∧ Tabs TT H ∧
  (∀ l bs H', SameT TT H H' → H l = none → LoT H' l (bs.map Bx.li) → IsTube N hs b bs → Q (.ref l) H') ∧ ∀ c t d H', SameT TT H H' → H d = none → H' d = some (.xd (ctK c t)) → NoTube N hs b c t → E (.ref CE) (some d) H'
/-- the ticks of a window -/
def winAt (tot : Int) (bs : List Bx) : Nat := bs.findIdx fun b => decide (tot ≤ b.hi)
def spWindow (C : Addr) : Sp := fun vs H Q _ => ∃ (p r l : Addr) (D : CD) (ns : List Str) (t : Int) (bs : List Bx), vs = [.ref p, .int t, .ref l] ∧ PathAt C H p D ns r ∧ 2 ≤ ns.length ∧ ns.length ≤ 20 ∧ LoT H l (bs.map Bx.li) ∧ bs.length ≤ 1000 ∧ ∀ q H', H q = none → Same H H' → H' q = some (.tup [.int (t + (winAt (bg D ns (ns.length - 1)) bs : Nat)), .int (t + (bs.length : Nat))]) → Q (.ref q) H'
end Sk

set_option Elab.async false
set_option linter.all false
set_option maxRecDepth 100000
set_option maxHeartbeats 4000000
namespace Sk
open PySem PySem.Spec PyProof.Rows L2
theorem nxP {D : Ends} {σ : L2.St} {H : Hp} (h : D.nx σ H) : tNext D σ H := h
theorem ifNotN {c A B : Prop} [Decidable c] (h : ¬ c) (q : A) : if (!decide c) = true then A else B := by
  rw [decide_eq_false h]
  exact iteT q
/-! a heap with some lists (that change) taken out -/
def msk (T : List Addr) (H : Hp) : Hp := fun a => if a ∈ T then none else H a
section
variable {T : List Addr} {H H' : Hp} {a d : Addr} {o : HO}
theorem msk_same : Same (msk T H) H := fun b o e => by
  unfold msk at e
  split at e
  · cases e
  · exact e
theorem msk_of (h : H a = some o) (n : a ∉ T) : msk T H a = some o := by
  unfold msk
  rw [if_neg n]
  exact h
theorem msk_mono (s : Same H H') : Same (msk T H) (msk T H') := fun b o e => by
  unfold msk at *
  split at e
  · cases e
  · rename_i n
    rw [if_neg n]
    exact s _ _ e
theorem msk_keep (s : Keep d H H') : Keep d (msk T H) (msk T H') := fun b o e nb => by
  unfold msk at *
  split at e
  · cases e
  · rename_i n
    rw [if_neg n]
    exact s _ _ e nb
theorem msk_put (h : a ∈ T) : msk T (upd H a o) = msk T H := by
  funext b
  unfold msk
  split
  · rfl
  · rename_i n
    rw [upd_ne (fun z => n (by rw [z]; exact h))]
theorem msk_put_same (h : a ∈ T) : Same (msk T H) (msk T (upd H a o)) := by
  rw [msk_put h]
  exact Same.refl _
end
/-! candidates -/
structure Cn where
  rt : Addr
  b : Addr
  p : Addr
  ns : List Str
  B : Bx
structure Pl where
  x : Int
  y : Int
  z : Int
structure CnOk (C : Addr) (H : Hp) (D : CD) (c : Cn) : Prop where
  R : Route D c.ns
  pos : PosR D c.ns
  P : PathAt C H c.p D c.ns c.rt
  rt : H c.rt = some (.tup (c.ns.map V.str))
  hb : H c.b = some (.lst ((bgs D c.ns).map V.int))
  bx : -10000000 ≤ c.B.lo ∧ c.B.hi ≤ 10000000 ∧ c.B.hi ≤ c.B.lo + 200 ∧ c.B.lo ≤ c.B.hi
theorem CnOk.same {C : Addr} {H H' : Hp} {D : CD} {c : Cn} (h : CnOk C H D c) (s : Same H H') : CnOk C H' D c := ⟨h.R, h.pos, h.P.same s, s _ _ h.rt, s _ _ h.hb, h.bx⟩
theorem CnOk.keep {K : PySem.W.Frag} {C d e : Addr} {H H' : Hp} {D : CD} {c : Cn} (h : CnOk C H D c) (S : St1 K H d e) (k : Keep d H H') : CnOk C H' D c := ⟨h.R, h.pos, h.P.keep S k, k.t S h.rt, k.l S h.hb, h.bx⟩
def Bx.e (e : Est) : Bx := ⟨e.x1, e.x2, e.y1, e.y2⟩
def Cn.nw (c : Cn) (e : Est) : Cn := { c with B := Bx.e e }
noncomputable def fitO (D : CD) (ns : List Str) (B : Bx) (p : Pl) (m w : Int) : Option Est := Classical.epsilon fun o => FitOk (InS D ns p.x p.y m B.lo B.hi) (dnF B.dn p.z w) (upF B.up p.z w) o
theorem fitO_eq {D : CD} {ns : List Str} {B : Bx} {p : Pl} {m w : Int} {o : Option Est} (h : FitOk (InS D ns p.x p.y m B.lo B.hi) (dnF B.dn p.z w) (upF B.up p.z w) o) : fitO D ns B p m w = o :=
  FitOk.eq (Classical.epsilon_spec (p := fun o => FitOk (InS D ns p.x p.y m B.lo B.hi) (dnF B.dn p.z w) (upF B.up p.z w) o) ⟨o, h⟩) h
noncomputable def fitC (D : CD) (m w : Int) (p : Pl) (c : Cn) : Option Cn := (fitO D c.ns c.B p m w).map c.nw
theorem fitC_some {D : CD} {m w : Int} {p : Pl} {c : Cn} {o : Option Est} (h : FitOk (InS D c.ns p.x p.y m c.B.lo c.B.hi) (dnF c.B.dn p.z w) (upF c.B.up p.z w) o) : fitC D m w p c = o.map c.nw := by
  unfold fitC
  rw [fitO_eq h]
theorem fit_in {D : CD} {ns : List Str} {B : Bx} {p : Pl} {m w : Int} {e : Est} (h : FitOk (InS D ns p.x p.y m B.lo B.hi) (dnF B.dn p.z w) (upF B.up p.z w) (some e)) : B.lo ≤ e.x1 ∧ e.x1 ≤ e.x2 ∧ e.x2 ≤ B.hi ∧ B.dn ≤ e.y1 ∧ e.y2 ≤ B.up ∧ e.y1 ≤ e.y2 ∧ p.z - w ≤ e.y1 ∧ e.y2 ≤ p.z + w := by
  obtain ⟨a1, a2, a3, a4, a5, a6⟩ := h
  have b1 := a3 _ a2
  have u0 : B.dn ≤ dnF B.dn p.z w ∧ p.z - w ≤ dnF B.dn p.z w := by unfold dnF; split <;> omega
  have u1 : upF B.up p.z w ≤ B.up ∧ upF B.up p.z w ≤ p.z + w := by unfold upF; split <;> omega
  have := a1.2.2.1
  have := a2.2.2.2.1
  omega
theorem CnOk.nw {C : Addr} {H : Hp} {D : CD} {c : Cn} (h : CnOk C H D c) {e : Est} (i : c.B.lo ≤ e.x1 ∧ e.x1 ≤ e.x2 ∧ e.x2 ≤ c.B.hi) : CnOk C H D (c.nw e) := ⟨h.R, h.pos, h.P, h.rt, h.hb, by
  obtain ⟨b1, b2, b3, b4⟩ := h.bx
  show -10000000 ≤ e.x1 ∧ e.x2 ≤ 10000000 ∧ e.x2 ≤ e.x1 + 200 ∧ e.x1 ≤ e.x2
  omega⟩
/-- b comes from a: the same path, within its box -/
structure Sub (b a : Cn) : Prop where
  rt : b.rt = a.rt
  p : b.p = a.p
  ns : b.ns = a.ns
  lo : a.B.lo ≤ b.B.lo
  hi : b.B.hi ≤ a.B.hi
  dn : a.B.dn ≤ b.B.dn
  up : b.B.up ≤ a.B.up
theorem Sub.refl (a : Cn) : Sub a a := ⟨rfl, rfl, rfl, Int.le_refl _, Int.le_refl _, Int.le_refl _, Int.le_refl _⟩
theorem Sub.trans {a b c : Cn} (h : Sub c b) (k : Sub b a) : Sub c a := ⟨h.rt.trans k.rt, h.p.trans k.p, h.ns.trans k.ns, Int.le_trans k.lo h.lo, Int.le_trans h.hi k.hi, Int.le_trans k.dn h.dn, Int.le_trans h.up k.up⟩
theorem fitC_sub {D : CD} {m w : Int} {p : Pl} {c c' : Cn} (h : ∃ o, FitOk (InS D c.ns p.x p.y m c.B.lo c.B.hi) (dnF c.B.dn p.z w) (upF c.B.up p.z w) o) (e : fitC D m w p c = some c') : Sub c' c ∧ ∃ q, InS D c.ns p.x p.y m c.B.lo c.B.hi q ∧ c.B.dn ≤ c'.B.dn ∧ c'.B.dn ≤ c.B.up ∧ p.z - w ≤ c'.B.dn ∧ c'.B.dn ≤ p.z + w := by
  obtain ⟨o, h⟩ := h
  rw [fitC_some h] at e
  cases o with
  | none => cases e
  | some E =>
    have e := Option.some.inj e
    subst e
    have i := fit_in h
    refine ⟨⟨rfl, rfl, rfl, i.1, i.2.2.1, i.2.2.2.1, i.2.2.2.2.1⟩, E.x1, h.1, i.2.2.2.1, ?_, i.2.2.2.2.2.2.1, ?_⟩
    · show E.y1 ≤ c.B.up
      omega
    · show E.y1 ≤ p.z + w
      omega
theorem least_nat {Pn : Nat → Prop} : ∀ n, Pn n → ∃ m, Pn m ∧ ∀ k, Pn k → m ≤ k := by
  intro n
  induction n using Nat.strongRecOn with
  | ind n ih =>
    intro h
    by_cases c : ∃ k, k < n ∧ Pn k
    · obtain ⟨k, hk, pk⟩ := c
      exact ih k hk pk
    · exact ⟨n, h, fun k pk => Nat.le_of_not_lt fun w => c ⟨k, w, pk⟩⟩
theorem fit_ex (D : CD) (ns : List Str) (x y m lo hi dn up : Int) : ∃ o, FitOk (InS D ns x y m lo hi) dn up o := by
  by_cases c : up < dn
  · exact ⟨none, .inr c⟩
  by_cases e : ∃ p, InS D ns x y m lo hi p
  · obtain ⟨p, hp⟩ := e
    have b : ∀ q, InS D ns x y m lo hi q → lo ≤ q ∧ q ≤ hi := fun q h => ⟨h.2.2.1, h.2.2.2.1⟩
    obtain ⟨a, ha, la⟩ := least_nat (Pn := fun n => InS D ns x y m lo hi (lo + (n : Int))) (p - lo).toNat (by
      have := b p hp
      show InS D ns x y m lo hi (lo + ((p - lo).toNat : Int))
      rw [show lo + ((p - lo).toNat : Int) = p by omega]; exact hp)
    obtain ⟨z, hz, lz⟩ := least_nat (Pn := fun n => InS D ns x y m lo hi (hi - (n : Int))) (hi - p).toNat (by
      have := b p hp
      show InS D ns x y m lo hi (hi - ((hi - p).toNat : Int))
      rw [show hi - ((hi - p).toNat : Int) = p by omega]; exact hp)
    refine ⟨some ⟨lo + (a : Int), hi - (z : Int), dn, up⟩, ha, hz, fun q hq => ?_, rfl, rfl, by omega⟩
    have bq := b q hq
    have h1 := la (q - lo).toNat (by
      show InS D ns x y m lo hi (lo + ((q - lo).toNat : Int))
      rw [show lo + ((q - lo).toNat : Int) = q by omega]; exact hq)
    have h2 := lz (hi - q).toNat (by
      show InS D ns x y m lo hi (hi - ((hi - q).toNat : Int))
      rw [show hi - ((hi - q).toNat : Int) = q by omega]; exact hq)
    dsimp only
    omega
  · exact ⟨none, .inl fun p hp => e ⟨p, hp⟩⟩
theorem fitC_ok {C : Addr} {H : Hp} {D : CD} {m w : Int} {p : Pl} {c c' : Cn} (h : CnOk C H D c) (e : fitC D m w p c = some c') : CnOk C H D c' := by
  obtain ⟨o, ho⟩ := fit_ex D c.ns p.x p.y m c.B.lo c.B.hi (dnF c.B.dn p.z w) (upF c.B.up p.z w)
  rw [fitC_some ho] at e
  cases o with
  | none => cases e
  | some E =>
    rw [← Option.some.inj e]
    have i := fit_in ho
    exact h.nw ⟨i.1, i.2.1, i.2.2.1⟩
abbrev rListK (K : PySem.W.Frag) (xs : List V) (H : Hp) (Q : VK) : Prop := ∃ p ys, xs = [.ref p] ∧ (SqL K H p ys ∨ SqT K H p ys) ∧ ∀ l, H l = none → Q (.ref l) (upd H l (.lst ys))
/-! one plot after the other -/
noncomputable def firstF (D : CD) (m w : Int) (p : Pl) (fs : List (List Cn)) : Option Nat := fs.findIdx? fun cs => !(cs.filterMap (fitC D m w p)).isEmpty
noncomputable def give (D : CD) (m w : Int) (p : Pl) (fs : List (List Cn)) : List (List Cn) := match firstF D m w p fs with
  | none => fs
  | some i => fs.set i ((fs.getD i []).filterMap (fitC D m w p))
noncomputable def runF (D : CD) (m w : Int) (ps : List Pl) (fs : List (List Cn)) : List (List Cn) := ps.foldl (fun fs p => give D m w p fs) fs
noncomputable def owns (D : CD) (m w : Int) : List Pl → List (List Cn) → List (Option Nat)
  | [], _ => []
  | p :: ps, fs => firstF D m w p fs :: owns D m w ps (give D m w p fs)
section
variable {D : CD} {m w : Int}
theorem runF_snoc (ps : List Pl) (p : Pl) (fs : List (List Cn)) : runF D m w (ps ++ [p]) fs = give D m w p (runF D m w ps fs) := by
  unfold runF
  rw [List.foldl_append]
  rfl
theorem owns_snoc : ∀ (ps : List Pl) (p : Pl) (fs : List (List Cn)), owns D m w (ps ++ [p]) fs = owns D m w ps fs ++ [firstF D m w p (runF D m w ps fs)]
  | [], p, fs => rfl
  | q :: ps, p, fs => by
    show firstF D m w q fs :: owns D m w (ps ++ [p]) (give D m w q fs) = _
    rw [owns_snoc ps p]
    rfl
theorem firstF_at {p : Pl} {fs : List (List Cn)} {i : Nat} (hi : i < fs.length) (h : fs[i].filterMap (fitC D m w p) ≠ []) (hb : ∀ j (hj : j < i), fs[j].filterMap (fitC D m w p) = []) : firstF D m w p fs = some i := by
  unfold firstF
  rw [List.findIdx?_eq_some_iff_getElem]
  refine ⟨hi, ?_, fun j hj => ?_⟩
  · simpa using h
  · simpa using hb j hj
theorem firstF_none {p : Pl} {fs : List (List Cn)} (hb : ∀ j (hj : j < fs.length), fs[j].filterMap (fitC D m w p) = []) : firstF D m w p fs = none := by
  unfold firstF
  rw [List.findIdx?_eq_none_iff]
  intro cs hcs
  obtain ⟨j, hj, rfl⟩ := List.getElem_of_mem hcs
  simpa using hb j hj
theorem firstF_spec {p : Pl} {fs : List (List Cn)} {i : Nat} (h : firstF D m w p fs = some i) : ∃ hi : i < fs.length, fs[i].filterMap (fitC D m w p) ≠ [] ∧ ∀ j (hj : j < i), fs[j].filterMap (fitC D m w p) = [] := by
  unfold firstF at h
  rw [List.findIdx?_eq_some_iff_getElem] at h
  obtain ⟨hi, h1, h2⟩ := h
  refine ⟨hi, by simpa using h1, fun j hj => ?_⟩
  have := h2 j hj
  simpa using this
theorem give_len (p : Pl) (fs : List (List Cn)) : (give D m w p fs).length = fs.length := by
  unfold give
  split
  · rfl
  · rw [List.length_set]
theorem runF_len : ∀ (ps : List Pl) (fs : List (List Cn)), (runF D m w ps fs).length = fs.length
  | [], fs => rfl
  | p :: ps, fs => by
    show (runF D m w ps (give D m w p fs)).length = _
    rw [runF_len ps, give_len]
theorem give_none {p : Pl} {fs : List (List Cn)} (h : firstF D m w p fs = none) : give D m w p fs = fs := by
  unfold give
  rw [h]
theorem give_some {p : Pl} {fs : List (List Cn)} {i : Nat} (h : firstF D m w p fs = some i) (hi : i < fs.length) : give D m w p fs = fs.set i (fs[i].filterMap (fitC D m w p)) := by
  unfold give
  rw [h]
  simp [hi]
/-- a property that fitting keeps -/
theorem give_all {Pd : Nat → Cn → Prop} {p : Pl} {fs : List (List Cn)} (h : ∀ i (hi : i < fs.length), ∀ c ∈ fs[i], Pd i c) (k : ∀ i c c', Pd i c → fitC D m w p c = some c' → Pd i c') : ∀ i (hi : i < (give D m w p fs).length), ∀ c ∈ (give D m w p fs)[i], Pd i c := by
  intro i hi c hc
  cases e : firstF D m w p fs with
  | none =>
    have g := give_none e
    simp only [g] at hi hc
    exact h i hi c hc
  | some j =>
    obtain ⟨hj, _, _⟩ := firstF_spec e
    have g := give_some e hj
    simp only [g] at hi hc
    rw [List.length_set] at hi
    by_cases z : j = i
    · subst z
      rw [List.getElem_set_self] at hc
      obtain ⟨c0, hc0, e0⟩ := List.mem_filterMap.mp hc
      exact k _ _ _ (h _ hj c0 hc0) e0
    · rw [List.getElem_set_ne z] at hc
      exact h i hi c hc
end
/-! as they stand in memory -/
/-- pairs (path, box) -/
def PairL (H : Hp) (l : Addr) (cs : List Cn) : Prop := ∃ qs : List (Addr × Addr × Cn), H l = some (.lst (qs.map fun q => V.ref q.1)) ∧ (∀ q ∈ qs, H q.1 = some (.tup [.ref q.2.2.p, .ref q.2.1]) ∧ H q.2.1 = some q.2.2.B.t) ∧ qs.map (fun q => q.2.2) = cs
/-- lists [route, begins, path, box] -/
def FlAt (H : Hp) (l : Addr) (cs : List Cn) : Prop := ∃ qs : List (Addr × Addr × Cn), H l = some (.lst (qs.map fun q => V.ref q.1)) ∧ (∀ q ∈ qs, H q.1 = some (.lst [.ref q.2.2.rt, .ref q.2.2.b, .ref q.2.2.p, .ref q.2.1]) ∧ H q.2.1 = some q.2.2.B.t) ∧ qs.map (fun q => q.2.2) = cs
/-- followed flights: (name, pairs); M is what does not change -/
def FoAt (M H : Hp) (fo : Addr) (nfs : List (Str × List Cn)) : Prop := ∃ ls : List (Addr × Addr × Str × List Cn), H fo = some (.lst (ls.map fun q => V.ref q.1)) ∧ (∀ q ∈ ls, M q.1 = some (.tup [.str q.2.2.1, .ref q.2.1]) ∧ PairL M q.2.1 q.2.2.2) ∧ ls.map (fun q => q.2.2) = nfs
def FsAt (M H : Hp) (fl : Addr) (fs : List (List Cn)) : Prop := ∃ ls : List (Addr × List Cn), H fl = some (.lst (ls.map fun q => V.ref q.1)) ∧ (∀ q ∈ ls, FlAt M q.1 q.2) ∧ ls.map (fun q => q.2) = fs
section
variable {H H' M M' : Hp} {l : Addr} {cs : List Cn}
theorem PairL.same (h : PairL H l cs) (s : Same H H') : PairL H' l cs := let ⟨qs, a, b, c⟩ := h; ⟨qs, s _ _ a, fun q hq => ⟨s _ _ (b q hq).1, s _ _ (b q hq).2⟩, c⟩
theorem FlAt.same (h : FlAt H l cs) (s : Same H H') : FlAt H' l cs := let ⟨qs, a, b, c⟩ := h; ⟨qs, s _ _ a, fun q hq => ⟨s _ _ (b q hq).1, s _ _ (b q hq).2⟩, c⟩
theorem FlAt.keep {K : PySem.W.Frag} {d e : Addr} (h : FlAt H l cs) (S : St1 K H d e) (k : Keep d H H') : FlAt H' l cs := let ⟨qs, a, b, c⟩ := h; ⟨qs, k.l S a, fun q hq => ⟨k.l S (b q hq).1, k.t S (b q hq).2⟩, c⟩
theorem FoAt.in {nfs : List (Str × List Cn)} (h : FoAt M H l nfs) (s : Same M M') (e : H' l = H l) : FoAt M' H' l nfs := let ⟨ls, a, b, c⟩ := h; ⟨ls, e.trans a, fun q hq => ⟨s _ _ (b q hq).1, (b q hq).2.same s⟩, c⟩
theorem FsAt.in {fs : List (List Cn)} (h : FsAt M H l fs) (s : Same M M') (e : H' l = H l) : FsAt M' H' l fs := let ⟨ls, a, b, c⟩ := h; ⟨ls, e.trans a, fun q hq => (b q hq).same s, c⟩
theorem FoAt.same {nfs : List (Str × List Cn)} (h : FoAt M H l nfs) (s : Same M M') (e : Same H H') : FoAt M' H' l nfs := let ⟨ls, a, b, c⟩ := h; ⟨ls, e _ _ a, fun q hq => ⟨s _ _ (b q hq).1, (b q hq).2.same s⟩, c⟩
theorem FsAt.same {fs : List (List Cn)} (h : FsAt M H l fs) (s : Same M M') (e : Same H H') : FsAt M' H' l fs := let ⟨ls, a, b, c⟩ := h; ⟨ls, e _ _ a, fun q hq => (b q hq).same s, c⟩
theorem PairL.len (h : PairL H l cs) : ∃ xs : List V, H l = some (.lst xs) ∧ xs.length = cs.length := let ⟨qs, a, _, c⟩ := h; ⟨_, a, by rw [List.length_map, ← c, List.length_map]⟩
theorem FlAt.len (h : FlAt H l cs) : ∃ xs : List V, H l = some (.lst xs) ∧ xs.length = cs.length := let ⟨qs, a, _, c⟩ := h; ⟨_, a, by rw [List.length_map, ← c, List.length_map]⟩
/-- new pairs lie outside what changes -/
theorem PairL.msk {T : List Addr} (h : PairL H l cs) (n : l ∉ T) (hT : ∀ t ∈ T, ∃ xs, H t = some (.lst xs)) : PairL (msk T H) l cs := by
  obtain ⟨qs, a, b, c⟩ := h
  have out : ∀ {x ys}, H x = some (.tup ys) → x ∉ T := fun e m => by
    obtain ⟨xs, e'⟩ := hT _ m
    rw [e] at e'
    cases e'
  exact ⟨qs, msk_of a n, fun q hq => ⟨msk_of (b q hq).1 (out (b q hq).1), msk_of (b q hq).2 (out (b q hq).2)⟩, c⟩
end
theorem PairL.snoc {H : Hp} {l t bx : Addr} {cs : List Cn} {c : Cn} (h : PairL H l cs) (ht : H t = some (.tup [.ref c.p, .ref bx])) (hb : H bx = some c.B.t) : ∃ xs : List V, H l = some (.lst xs) ∧ xs.length = cs.length ∧ PairL (upd H l (.lst (xs ++ [.ref t]))) l (cs ++ [c]) := by
  obtain ⟨qs, a, b, e⟩ := h
  have out : ∀ {x : Addr} {ys : List V}, H x = some (.tup ys) → x ≠ l := fun q => ne_of q a (by intro z; cases z)
  refine ⟨_, a, by rw [List.length_map, ← e, List.length_map], qs ++ [(t, bx, c)], by rw [upd_same, List.map_append]; rfl, fun q hq => ?_, by rw [List.map_append, e]; rfl⟩
  have key : H q.1 = some (.tup [.ref q.2.2.p, .ref q.2.1]) ∧ H q.2.1 = some q.2.2.B.t := by
    rcases List.mem_append.mp hq with hq | hq
    · exact b q hq
    · rw [List.mem_singleton.mp hq]; exact ⟨ht, hb⟩
  exact ⟨by rw [upd_ne (out key.1)]; exact key.1, by rw [upd_ne (out key.2)]; exact key.2⟩
theorem FlAt.snoc {H : Hp} {l t bx : Addr} {cs : List Cn} {c : Cn} (h : FlAt H l cs) (ht : H t = some (.lst [.ref c.rt, .ref c.b, .ref c.p, .ref bx])) (hb : H bx = some c.B.t) (hd : ∀ (x : Addr) (a b c d : V), H x = some (.lst [a, b, c, d]) → x ≠ l) : ∃ xs : List V, H l = some (.lst xs) ∧ xs.length = cs.length ∧ FlAt (upd H l (.lst (xs ++ [.ref t]))) l (cs ++ [c]) := by
  obtain ⟨qs, a, b, e⟩ := h
  have out : ∀ {x : Addr} {ys : List V}, H x = some (.tup ys) → x ≠ l := fun q => ne_of q a (by intro z; cases z)
  refine ⟨_, a, by rw [List.length_map, ← e, List.length_map], qs ++ [(t, bx, c)], by rw [upd_same, List.map_append]; rfl, fun q hq => ?_, by rw [List.map_append, e]; rfl⟩
  have key : H q.1 = some (.lst [.ref q.2.2.rt, .ref q.2.2.b, .ref q.2.2.p, .ref q.2.1]) ∧ H q.2.1 = some q.2.2.B.t := by
    rcases List.mem_append.mp hq with hq | hq
    · exact b q hq
    · rw [List.mem_singleton.mp hq]; exact ⟨ht, hb⟩
  exact ⟨by rw [upd_ne (hd _ _ _ _ _ key.1)]; exact key.1, by rw [upd_ne (out key.2)]; exact key.2⟩
theorem PairL.updL {H : Hp} {l E : Addr} {cs : List Cn} {xs ys : List V} (h : PairL H l cs) (n : l ≠ E) (hE : H E = some (.lst xs)) : PairL (upd H E (.lst ys)) l cs := by
  obtain ⟨qs, a, b, e⟩ := h
  have out : ∀ {x : Addr} {zs : List V}, H x = some (.tup zs) → x ≠ E := fun q => ne_of q hE (by intro z; cases z)
  exact ⟨qs, by rw [upd_ne n]; exact a, fun q hq => ⟨by rw [upd_ne (out (b q hq).1)]; exact (b q hq).1, by rw [upd_ne (out (b q hq).2)]; exact (b q hq).2⟩, e⟩
theorem FoAt.setAt {M M' H H' : Hp} {fo u l : Addr} {nfs : List (Str × List Cn)} {i : Nat} {n : Str} {cs : List Cn} {xs : List V} (h : FoAt M H fo nfs) (s : Same M M') (hx : H fo = some (.lst xs)) (hf : H' fo = some (.lst (xs.set i (.ref u)))) (hu : M' u = some (.tup [.str n, .ref l])) (hl : PairL M' l cs) : FoAt M' H' fo (nfs.set i (n, cs)) := by
  obtain ⟨ls, a, b, c⟩ := h
  rw [a] at hx
  have hx := HO.lst.inj (Option.some.inj hx)
  refine ⟨ls.set i (u, l, n, cs), by rw [hf, ← hx, List.map_set], fun q hq => ?_, by rw [List.map_set, c]⟩
  rcases List.mem_or_eq_of_mem_set hq with hq | rfl
  · exact ⟨s _ _ (b q hq).1, (b q hq).2.same s⟩
  · exact ⟨hu, hl⟩
/-- plots -/
def PlT (p : Pl) : HO := .tup [.int p.x, .int p.y, .int p.z]
def PlsAt (H : Hp) (l : Addr) (ps : List Pl) : Prop := ∃ qs : List (Addr × Pl), H l = some (.lst (qs.map fun q => V.ref q.1)) ∧ (∀ q ∈ qs, H q.1 = some (PlT q.2) ∧ BdN 46 q.2.x ∧ BdN 46 q.2.y) ∧ qs.map (fun q => q.2) = ps
theorem PlsAt.same {H H' : Hp} {l : Addr} {ps : List Pl} (h : PlsAt H l ps) (s : Same H H') : PlsAt H' l ps := let ⟨qs, a, b, c⟩ := h; ⟨qs, s _ _ a, fun q hq => ⟨s _ _ (b q hq).1, (b q hq).2⟩, c⟩
/-- plots with their flights -/
def PsAt (H : Hp) (l : Addr) (ps : List (Pl × Int)) : Prop := ∃ qs : List (Addr × Addr × Pl × Int), H l = some (.lst (qs.map fun q => V.ref q.1)) ∧ (∀ q ∈ qs, H q.1 = some (.tup [.ref q.2.1, .int q.2.2.2]) ∧ H q.2.1 = some (PlT q.2.2.1) ∧ BdN 46 q.2.2.1.x ∧ BdN 46 q.2.2.1.y) ∧ qs.map (fun q => q.2.2) = ps
theorem PsAt.same {H H' : Hp} {l : Addr} {ps : List (Pl × Int)} (h : PsAt H l ps) (s : Same H H') : PsAt H' l ps := let ⟨qs, a, b, c⟩ := h; ⟨qs, s _ _ a, fun q hq => ⟨s _ _ (b q hq).1, s _ _ (b q hq).2.1, (b q hq).2.2⟩, c⟩
/-- an aircraft, or none -/
def AcP (H : Hp) (v : V) : Option (Int × Int) → Prop
  | none => v = .non
  | some z => ∃ q, v = .ref q ∧ H q = some (.tup [.int z.1, .int z.2])
theorem AcP.same {H H' : Hp} {v : V} {o : Option (Int × Int)} (h : AcP H v o) (s : Same H H') : AcP H' v o := by
  cases o with
  | none => exact h
  | some z => obtain ⟨q, e, hq⟩ := h; exact ⟨q, e, s _ _ hq⟩
theorem AcP.keep {K : PySem.W.Frag} {d e : Addr} {H H' : Hp} {v : V} {o : Option (Int × Int)} (h : AcP H v o) (S : St1 K H d e) (k : Keep d H H') : AcP H' v o := by
  cases o with
  | none => exact h
  | some z => obtain ⟨q, e, hq⟩ := h; exact ⟨q, e, k.t S hq⟩
/-- an aircraft in a candidate -/
structure InCn (D : CD) (c : Cn) (pr lv : Int) : Prop where
  p0 : 0 ≤ pr
  p1 : pr < bg D c.ns (c.ns.length - 1)
  l : c.B.lo ≤ pr
  h : pr ≤ c.B.hi
  d : c.B.dn ≤ lv
  u : lv ≤ c.B.up
/-- a plot that is true for it -/
structure TrueP (D : CD) (ns : List Str) (m w : Int) (p : Pl) (pr lv : Int) : Prop where
  al : alwB D ns (lat D ns (ns.length - 1 - 1) pr) p.x p.y m pr = true
  z0 : lv - w ≤ p.z
  z1 : p.z ≤ lv + w
/-- candidates that are kept apart -/
def SepC (D : CD) (r : RuD) (a b : Cn) : Prop := ∀ ss ts : List Seg, pcs D a.ns a.B.lo a.B.hi = ss.map Seg.li → pcs D b.ns b.B.lo b.B.hi = ts.map Seg.li → lvA r a.B b.B = true ∨ anyC ss ts (r.la + 2 * r.ra) = false
theorem two_near {px py qx qy d e x y m l : Int} (d1 : 1 ≤ d) (e1 : 1 ≤ e) (m0 : 0 ≤ m) (hl : 2 * m < l) (hp : (px - x * d) * (px - x * d) + (py - y * d) * (py - y * d) ≤ m * m * d * d) (hq : (qx - x * e) * (qx - x * e) + (qy - y * e) * (qy - y * e) ≤ m * m * e * e)
    (far : l * l * ((d * e) * (d * e)) ≤ (px * e - qx * d) * (px * e - qx * d) + (py * e - qy * d) * (py * e - qy * d)) : False := by
  have de : 0 < d * e := Int.mul_pos (by omega) (by omega)
  have e2 : 0 ≤ e * e := sq0 e
  have d2 : 0 ≤ d * d := sq0 d
  have h1 := Int.mul_le_mul_of_nonneg_left hp e2
  have h2 := Int.mul_le_mul_of_nonneg_left hq d2
  have a1 : e * e * ((px - x * d) * (px - x * d) + (py - y * d) * (py - y * d)) = ((px - x * d) * e) * ((px - x * d) * e) + ((py - y * d) * e) * ((py - y * d) * e) := by grind
  have a2 : d * d * ((qx - x * e) * (qx - x * e) + (qy - y * e) * (qy - y * e)) = (-((qx - x * e) * d)) * (-((qx - x * e) * d)) + (-((qy - y * e) * d)) * (-((qy - y * e) * d)) := by grind
  have a3 : e * e * (m * m * d * d) = (m * (d * e)) * (m * (d * e)) := by grind
  have a4 : d * d * (m * m * e * e) = (m * (d * e)) * (m * (d * e)) := by grind
  rw [a1, a3] at h1
  rw [a2, a4] at h2
  have mm : 0 ≤ m * (d * e) := Int.mul_nonneg m0 (Int.le_of_lt de)
  have t := tri mm mm h1 h2
  have b1 : (px - x * d) * e + -((qx - x * e) * d) = px * e - qx * d := by grind
  have b2 : (py - y * d) * e + -((qy - y * e) * d) = py * e - qy * d := by grind
  have b3 : (m * (d * e) + m * (d * e)) * (m * (d * e) + m * (d * e)) = (2 * m) * (2 * m) * ((d * e) * (d * e)) := by grind
  rw [b1, b2, b3] at t
  have q : (2 * m) * (2 * m) < l * l := by
    have z1 := Int.mul_le_mul (show 2 * m + 1 ≤ l by omega) (show 2 * m + 1 ≤ l by omega) (by omega) (by omega)
    have z2 : (2 * m + 1) * (2 * m + 1) = (2 * m) * (2 * m) + 4 * m + 1 := by grind
    omega
  have dd : 0 < (d * e) * (d * e) := Int.mul_pos de de
  have q2 := Int.mul_lt_mul_of_pos_right q dd
  omega
theorem anyC_none {ss ts : List Seg} {l : Int} (h : anyC ss ts l = false) {s t : Seg} (hs : s ∈ ss) (ht : t ∈ ts) : clo s t l = false := by
  unfold anyC at h
  have h1 := List.any_eq_false.mp h s hs
  have h2 : (ts.any fun t => clo s t l) = false := by simpa using h1
  have h3 := List.any_eq_false.mp h2 t ht
  simpa using h3
/-- a plot that is true for one does not fit another that is kept apart -/
theorem not_both {D : CD} {r : RuD} {a b : Cn} {m w : Int} {p : Pl} {pr lv q lv' : Int} (bd : Bd D) (pa : PosR D a.ns) (pb : PosR D b.ns) (Ra : Route D a.ns) (Rb : Route D b.ns) (m0 : 0 ≤ m) (hm : 2 * m < r.la + 2 * r.ra) (hw : 2 * w < r.ve + 2 * r.ba) (sep : SepC D r a b)
    (ba : -10000000 ≤ a.B.lo ∧ a.B.hi ≤ 10000000 ∧ a.B.hi ≤ a.B.lo + 200 ∧ a.B.lo ≤ a.B.hi) (bb : -10000000 ≤ b.B.lo ∧ b.B.hi ≤ 10000000 ∧ b.B.hi ≤ b.B.lo + 200 ∧ b.B.lo ≤ b.B.hi)
    (ia : InCn D a pr lv) (t : TrueP D a.ns m w p pr lv) (iq : InS D b.ns p.x p.y m b.B.lo b.B.hi q) (d0 : b.B.dn ≤ lv') (d1 : lv' ≤ b.B.up) (w0 : p.z - w ≤ lv') (w1 : lv' ≤ p.z + w) : False := by
  obtain ⟨ss, es, gs⟩ := pcs_segs bd pa Ra.n2 Ra.n20 (lo := a.B.lo) (hi := a.B.hi) (by omega) (by omega) (by omega) (by omega)
  obtain ⟨ts, et, gt⟩ := pcs_segs bd pb Rb.n2 Rb.n20 (lo := b.B.lo) (hi := b.B.hi) (by omega) (by omega) (by omega) (by omega)
  obtain ⟨q0, q1, q2, q3, al⟩ := iq
  rcases sep ss ts es et with lv0 | far
  · unfold lvA at lv0
    have := ia.d
    have := ia.u
    have := t.z0
    have := t.z1
    rcases Bool.or_eq_true_iff.mp lv0 with z | z
    · have z := of_decide_eq_true z
      omega
    · have z := of_decide_eq_true z
      omega
  · have la := (lat_cases D a.ns (a.ns.length - 1 - 1) pr).1
    have lb := (lat_cases D b.ns (b.ns.length - 1 - 1) q).1
    have n2a := Ra.n2
    have n2b := Rb.n2
    have dn1 := pa (lat D a.ns (a.ns.length - 1 - 1) pr) (by omega)
    have en1 := pb (lat D b.ns (b.ns.length - 1 - 1) q) (by omega)
    obtain ⟨s, hs, os⟩ := place_on_piece pa Ra.n2 es ia.p0 ia.p1 ia.l ia.h (px := pX D a.ns (lat D a.ns (a.ns.length - 1 - 1) pr) pr) (py := pY D a.ns (lat D a.ns (a.ns.length - 1 - 1) pr) pr) rfl
    obtain ⟨u, hu, ou⟩ := place_on_piece pb Rb.n2 et q0 q1 q2 q3 (px := pX D b.ns (lat D b.ns (b.ns.length - 1 - 1) q) q) (py := pY D b.ns (lat D b.ns (b.ns.length - 1 - 1) q) q) rfl
    have c := anyC_none far hs hu
    have f := places_apart (by omega) (gs s hs).2 (gt u hu).2 c dn1 en1 os ou
    have al1 := t.al
    unfold alwB at al1 al
    exact two_near dn1 en1 m0 hm (of_decide_eq_true al1) (of_decide_eq_true al) f
/-- the aircraft stays in what is fitted to a true plot -/
theorem true_keeps {D : CD} {c : Cn} {m w : Int} {p : Pl} {pr lv : Int} (i : InCn D c pr lv) (t : TrueP D c.ns m w p pr lv) {o : Option Est} (h : FitOk (InS D c.ns p.x p.y m c.B.lo c.B.hi) (dnF c.B.dn p.z w) (upF c.B.up p.z w) o) : ∃ c', fitC D m w p c = some c' ∧ Sub c' c ∧ InCn D c' pr lv := by
  obtain ⟨e, rfl, f1, f2, f3, f4, f5, f6, f7, f8⟩ := h.has (p := pr) (lv := lv) (fun q h => ⟨h.2.2.1, h.2.2.2.1⟩) ⟨i.p0, i.p1, i.l, i.h, t.al⟩ i.d i.u t.z0 t.z1
  exact ⟨_, fitC_some h, ⟨rfl, rfl, rfl, f1, f2, f3, f4⟩, ⟨i.p0, i.p1, f5, f6, f7, f8⟩⟩
def FlM (M H : Hp) (l : Addr) (cs : List Cn) : Prop := ∃ qs : List (Addr × Addr × Cn), H l = some (.lst (qs.map fun q => V.ref q.1)) ∧ (∀ q ∈ qs, M q.1 = some (.lst [.ref q.2.2.rt, .ref q.2.2.b, .ref q.2.2.p, .ref q.2.1]) ∧ M q.2.1 = some q.2.2.B.t) ∧ qs.map (fun q => q.2.2) = cs
theorem FlM.same {M M' H H' : Hp} {l : Addr} {cs : List Cn} (h : FlM M H l cs) (s : Same M M') (e : Same H H') : FlM M' H' l cs := let ⟨qs, a, b, c⟩ := h; ⟨qs, e _ _ a, fun q hq => ⟨s _ _ (b q hq).1, s _ _ (b q hq).2⟩, c⟩
theorem FlM.len {M H : Hp} {l : Addr} {cs : List Cn} (h : FlM M H l cs) : ∃ xs : List V, H l = some (.lst xs) ∧ xs.length = cs.length := let ⟨qs, a, _, c⟩ := h; ⟨_, a, by rw [List.length_map, ← c, List.length_map]⟩
theorem FlM.snoc {M M' H H' : Hp} {l t bx : Addr} {cs : List Cn} {c : Cn} {xs : List V} (h : FlM M H l cs) (s : Same M M') (hx : H l = some (.lst xs)) (hl : H' l = some (.lst (xs ++ [.ref t]))) (ht : M' t = some (.lst [.ref c.rt, .ref c.b, .ref c.p, .ref bx])) (hb : M' bx = some c.B.t) : FlM M' H' l (cs ++ [c]) := by
  obtain ⟨qs, a, b, e⟩ := h
  rw [a] at hx
  have hx := HO.lst.inj (Option.some.inj hx)
  refine ⟨qs ++ [(t, bx, c)], by rw [hl, ← hx, List.map_append]; rfl, fun q hq => ?_, by rw [List.map_append, e]; rfl⟩
  rcases List.mem_append.mp hq with hq | hq
  · exact ⟨s _ _ (b q hq).1, s _ _ (b q hq).2⟩
  · rw [List.mem_singleton.mp hq]; exact ⟨ht, hb⟩
theorem FlM.at {M H N : Hp} {l : Addr} {cs : List Cn} (h : FlM M H l cs) (s : Same M N) (e : N l = H l) : FlAt N l cs := let ⟨qs, a, b, c⟩ := h; ⟨qs, e.trans a, fun q hq => ⟨s _ _ (b q hq).1, s _ _ (b q hq).2⟩, c⟩
theorem msk_sub {T T' : List Addr} {H : Hp} (h : ∀ x ∈ T, x ∈ T') : Same (msk T' H) (msk T H) := fun b o e => by
  unfold msk at *
  split at e
  · cases e
  · rename_i n
    rw [if_neg fun z => n (h b z)]
    exact e
theorem msk_at {T : List Addr} {H : Hp} {a : Addr} (n : a ∉ T) : msk T H a = H a := by
  unfold msk
  rw [if_neg n]
theorem St1.msk {K : PySem.W.Frag} {T : List Addr} {H : Hp} {d c : Addr} (S : St1 K H d c) (n1 : d ∉ T) (n2 : c ∉ T) : St1 K (msk T H) d c := S.of (msk_at n1) (msk_at n2)
theorem segs_inj {ss ts : List Seg} (h : ss.map Seg.li = ts.map Seg.li) : ss = ts := (List.map_inj_right (fun a b e => li_inj e)).mp h
theorem FsAt.keep {K : PySem.W.Frag} {d c l : Addr} {H H' : Hp} {fs : List (List Cn)} (h : FsAt H H l fs) (S : St1 K H d c) (k : Keep d H H') : FsAt H' H' l fs := let ⟨ls, a, b, e⟩ := h; ⟨ls, k.l S a, fun q hq => (b q hq).keep S k, e⟩
/-! promises -/
def spRulesP (K : PySem.W.Frag) : Sp := fun vs H Q _ => ∃ (d c : Addr), vs = [.ref d] ∧ St1 K H d c ∧ ∀ ru (r : RuD) (rd ht : Int) H', H ru = none → RuAt H' ru r → RqAt H' ru r.ra r.ba rd ht → 2 * rd < r.la → 2 * ht < r.ve → (r.ve ≤ 60 ∧ r.ba ≤ 3 ∧ r.ra ≤ 3 ∧ rd ≤ 30 ∧ ht ≤ 30) → ru ≠ c → St1 K H' d c → Keep d H H' → Q (.ref ru) H'
def spFitting (C : Addr) : Sp := fun vs H Q _ => ∃ (ru l q : Addr) (ra ba rd ht : Int) (D : CD) (cs : List Cn) (p : Pl), vs = [.ref ru, .ref l, .ref q] ∧ RqAt H ru ra ba rd ht ∧ PairL H l cs ∧ (∀ c ∈ cs, CnOk C H D c) ∧ cs.length ≤ 100 ∧ Bd D ∧ H q = some (PlT p) ∧ BdN 46 p.x ∧ BdN 46 p.y ∧
  ∀ l' H', H l' = none → Same H H' → PairL H' l' (cs.filterMap (fitC D (rd + ra) (ht + ba) p)) → Q (.ref l') H'
def spFirst (C : Addr) : Sp := fun vs H Q _ => ∃ (ru fo q : Addr) (ra ba rd ht : Int) (D : CD) (nfs : List (Str × List Cn)) (p : Pl), vs = [.ref ru, .ref fo, .ref q] ∧ RqAt H ru ra ba rd ht ∧ FoAt H H fo nfs ∧ (∀ nf ∈ nfs, nf.2.length ≤ 100 ∧ ∀ c ∈ nf.2, CnOk C H D c) ∧ nfs.length ≤ 100 ∧ Bd D ∧ H q = some (PlT p) ∧ BdN 46 p.x ∧ BdN 46 p.y ∧
  ∀ t l' v H', Same H H' → H' t = some (.tup [v, .ref l']) → (firstF D (rd + ra) (ht + ba) p (nfs.map fun z => z.2) = none → v = .non) → (∀ i, firstF D (rd + ra) (ht + ba) p (nfs.map fun z => z.2) = some i → v = .int (i : Nat) ∧ H l' = none ∧ PairL H' l' (((nfs.map fun z => z.2).getD i []).filterMap (fitC D (rd + ra) (ht + ba) p))) → Q (.ref t) H'
def ownS (ns : List Str) : Option Nat → Str
  | none => ""
  | some i => ns.getD i ""
def spAssign (C : Addr) : Sp := fun vs H Q _ => ∃ (ru fo ps : Addr) (ra ba rd ht : Int) (D : CD) (nfs : List (Str × List Cn)) (pls : List Pl), vs = [.ref ru, .ref fo, .ref ps] ∧ RqAt H ru ra ba rd ht ∧ FoAt H H fo nfs ∧ (∀ nf ∈ nfs, nf.2.length ≤ 100 ∧ ∀ c ∈ nf.2, CnOk C H D c) ∧ nfs.length ≤ 100 ∧ Bd D ∧ PlsAt H ps pls ∧ pls.length ≤ 100 ∧
  ∀ t nm fo' nfs' H', Same H H' → H' t = some (.tup [.ref nm, .ref fo']) → H' nm = some (.lst ((owns D (rd + ra) (ht + ba) pls (nfs.map fun z => z.2)).map fun o => V.str (ownS (nfs.map fun z => z.1) o))) → FoAt H' H' fo' nfs' → nfs'.map (fun z => z.1) = nfs.map (fun z => z.1) → nfs'.map (fun z => z.2) = runF D (rd + ra) (ht + ba) pls (nfs.map fun z => z.2) → Q (.ref t) H'
def spFlight (K : PySem.W.Frag) (C : Addr) : Sp := fun vs H Q _ => ∃ (d c ch ld : Addr) (D : CD) (lev : Int), vs = [.ref d, .ref ch, .ref ld, .int lev] ∧ St1 K H d c ∧ ChartAt H ch D ∧ ch ≠ d ∧ D.fx ≠ d ∧ D.ls ≠ [] ∧ (∀ l ∈ D.ls, 1 ≤ D.len l.s l.e) ∧ LenAt H ld D ∧ -100000 ≤ lev ∧ lev ≤ 100000 ∧
  ∀ l cs H', H l = none → FlAt H' l cs → cs ≠ [] → cs.length ≤ 2 → (∀ c ∈ cs, CnOk C H' D c ∧ c.B.dn = lev ∧ lev ≤ c.B.up ∧ c.B.up ≤ lev + 3) → St1 K H' d c → Keep d H H' → Q (.ref l) H'
def spAircraft (K : PySem.W.Frag) (C : Addr) : Sp := fun vs H Q _ => ∃ (d c l : Addr) (D : CD) (c0 : Cn) (cs : List Cn), vs = [.ref d, .ref l] ∧ St1 K H d c ∧ FlAt H l (c0 :: cs) ∧ CnOk C H D c0 ∧ Bd D ∧ c0.B.dn ≤ c0.B.up ∧ c0.B.up ≤ c0.B.dn + 1000 ∧
  ∀ v (o : Option (Int × Int)) H', AcP H' v o → (∀ z, o = some z → InCn D c0 z.1 z.2) → St1 K H' d c → Keep d H H' → Q v H'
def spApart (C : Addr) : Sp := fun vs H Q _ => ∃ (ch ru l1 l2 : Addr) (D : CD) (r : RuD) (as bs : List Cn), vs = [.ref ch, .ref ru, .ref l1, .ref l2] ∧ ChartAt H ch D ∧ RuAt H ru r ∧ FlAt H l1 as ∧ FlAt H l2 bs ∧ (∀ c ∈ as, CnOk C H D c) ∧ (∀ c ∈ bs, CnOk C H D c) ∧
  ∀ (g : Bool) H', Same H H' → (g = true → ∀ a ∈ as, ∀ b ∈ bs, SepC D r a b) → Q (.bl g) H'
def spGive (C : Addr) : Sp := fun vs H Q _ => ∃ (ch ru fl q : Addr) (ra ba rd ht : Int) (D : CD) (fs : List (List Cn)) (p : Pl), vs = [.ref ch, .ref ru, .ref fl, .ref q] ∧ ChartAt (msk [fl] H) ch D ∧ RqAt (msk [fl] H) ru ra ba rd ht ∧ FsAt (msk [fl] H) H fl fs ∧ (∀ cs ∈ fs, cs.length ≤ 100 ∧ ∀ c ∈ cs, CnOk C (msk [fl] H) D c) ∧ fs.length ≤ 100 ∧ msk [fl] H q = some (PlT p) ∧ BdN 46 p.x ∧ BdN 46 p.y ∧
  ∀ (z : Int) H', Same (msk [fl] H) (msk [fl] H') → (∀ b o, H b = some o → b ≠ fl → H' b = some o) → FsAt (msk [fl] H') H' fl (give D (rd + ra) (ht + ba) p fs) → (firstF D (rd + ra) (ht + ba) p fs = none → z = -1) → (∀ i, firstF D (rd + ra) (ht + ba) p fs = some i → z = (i : Nat)) → Q (.int z) H'
def spTold (C : Addr) : Sp := fun vs H Q _ => ∃ (fo fl nm : Addr) (D : CD) (nfs : List (Str × List Cn)) (M1 M2 : Hp), vs = [.ref fo, .ref fl, .ref nm] ∧ Same M1 H ∧ Same M2 H ∧ FoAt M1 H fo nfs ∧ FsAt M2 H fl (nfs.map fun z => z.2) ∧ H nm = some (.lst (nfs.map fun z => V.str z.1)) ∧ (∀ nf ∈ nfs, nf.2.length ≤ 100 ∧ ∀ c ∈ nf.2, CnOk C H D c) ∧ nfs.length ≤ 100 ∧ (∀ nf ∈ nfs, ∀ c ∈ nf.2, ∀ n ∈ c.ns, sOk n) ∧ ∀ H', Same H H' → Q (.bl true) H'
def PlOk (D : CD) (m w : Int) (fs : List (List Cn)) (acs : List (Option (Int × Int))) (p : Pl × Int) : Prop := p.2 = -1 ∨ ∃ (i : Nat) (pr lv : Int) (c0 : Cn) (cs : List Cn), p.2 = (i : Nat) ∧ acs[i]? = some (some (pr, lv)) ∧ fs[i]? = some (c0 :: cs) ∧ TrueP D c0.ns m w p.1 pr lv
def AcsAt (H : Hp) (l : Addr) (acs : List (Option (Int × Int))) : Prop := ∃ vs : List (V × Option (Int × Int)), H l = some (.lst (vs.map fun z => z.1)) ∧ (∀ z ∈ vs, AcP H z.1 z.2) ∧ vs.map (fun z => z.2) = acs
def spPlots (K : PySem.W.Frag) (C : Addr) : Sp := fun vs H Q _ => ∃ (d c ch ru fl al : Addr) (D : CD) (ra ba rd ht : Int) (fs : List (List Cn)) (acs : List (Option (Int × Int))), vs = [.ref d, .ref ch, .ref ru, .ref fl, .ref al] ∧ St1 K H d c ∧ ChartAt H ch D ∧ ch ≠ d ∧ D.fx ≠ d ∧ RqAt H ru ra ba rd ht ∧ ru ≠ d ∧ rd ≤ 1000 ∧ ra ≤ 1000 ∧ FsAt H H fl fs ∧ (∀ cs ∈ fs, cs ≠ [] ∧ ∀ c ∈ cs, CnOk C H D c) ∧ fs.length ≤ 4 ∧ AcsAt H al acs ∧ acs.length = fs.length ∧ (∀ (i : Nat) (z : Int × Int), acs[i]? = some (some z) → ∃ c0 cs, fs[i]? = some (c0 :: cs) ∧ InCn D c0 z.1 z.2 ∧ -100000 ≤ z.2 ∧ z.2 ≤ 100000) ∧
  ∀ l ps H', H l = none → PsAt H' l ps → ps.length ≤ 50 → (∀ p ∈ ps, PlOk D (rd + ra) (ht + ba) fs acs p) → St1 K H' d c → Keep d H H' → Q (.ref l) H'
theorem AcsAt.keep {K : PySem.W.Frag} {d c l : Addr} {H H' : Hp} {acs : List (Option (Int × Int))} (h : AcsAt H l acs) (S : St1 K H d c) (k : Keep d H H') : AcsAt H' l acs := let ⟨vs, a, b, e⟩ := h; ⟨vs, k.l S a, fun z hz => (b z hz).keep S k, e⟩
theorem AcsAt.same {l : Addr} {H H' : Hp} {acs : List (Option (Int × Int))} (h : AcsAt H l acs) (s : Same H H') : AcsAt H' l acs := let ⟨vs, a, b, e⟩ := h; ⟨vs, s _ _ a, fun z hz => (b z hz).same s, e⟩
/-- all that the plots are drawn from -/
structure WPl (C : Addr) (H : Hp) (ch ru fl al : Addr) (D : CD) (ra ba rd ht : Int) (fs : List (List Cn)) (acs : List (Option (Int × Int))) : Prop where
  C0 : ChartAt H ch D
  RQ : RqAt H ru ra ba rd ht
  F : FsAt H H fl fs
  ok : ∀ cs ∈ fs, ∀ c ∈ cs, CnOk C H D c
  A : AcsAt H al acs
section
variable {K : PySem.W.Frag} {C d c ch ru fl al : Addr} {H H' : Hp} {D : CD} {ra ba rd ht : Int} {fs : List (List Cn)} {acs : List (Option (Int × Int))}
theorem WPl.same (h : WPl C H ch ru fl al D ra ba rd ht fs acs) (s : Same H H') : WPl C H' ch ru fl al D ra ba rd ht fs acs := ⟨h.C0.same s, h.RQ.same s, h.F.same s s, fun cs hcs c hc => (h.ok cs hcs c hc).same s, h.A.same s⟩
theorem WPl.keep (h : WPl C H ch ru fl al D ra ba rd ht fs acs) (S : St1 K H d c) (k : Keep d H H') (n1 : ch ≠ d) (n2 : D.fx ≠ d) (n3 : ru ≠ d) : WPl C H' ch ru fl al D ra ba rd ht fs acs := ⟨h.C0.keep S k n1 n2, h.RQ.keep k n3, h.F.keep S k, fun cs hcs c hc => (h.ok cs hcs c hc).keep S k, h.A.keep S k⟩
end
end Sk

set_option Elab.async false
set_option linter.all false
set_option maxRecDepth 100000
set_option maxHeartbeats 4000000
namespace Sk
open PySem PySem.Spec PyProof.Rows L2
def top (i : Nat) : Stmt := PySem.Challenge.pw_skyapart_k21_whole_nameless_plots.main.body.getD i (.Pass ⟨0, 0, 0, 0⟩)
abbrev s_law_start : Stmt := top 18
abbrev s_law_draw : Stmt := top 19
abbrev s_law_pick : Stmt := top 20
abbrev s_law_is_number : Stmt := top 21
section
variable {P : Program} {w : World} {K : PySem.W.Frag} {mg : Str → Option Value} {base : Heap}
theorem sc_law_start : FnScope ["script", "cell"] ["script"] (defScope s_law_start) := ⟨rfl, rfl, rfl, by decide +kernel, rfl, by decide +kernel, by decide +kernel⟩
theorem ok_law_start {f : Addr} {fd : FuncData} (F : Fun K "_law_start" "_law_start" s_law_start f fd) (T : Txt0 mg) : FnOk P w K mg base CX0 1 f fd ["script"] (spStart K) := by
  refine F.ok sc_law_start (fun vs H Q E h => ?_) (fun cdv A outer s H vs Q E hr h => ?_)
  · obtain ⟨a, ns, rfl, _⟩ := h
    rfl
  · obtain ⟨a, ns, rfl, hS, hl, k⟩ := h
    refine ⟨_, (pss_one (ps_ret (pe_disp (pps_cons pe_str (pe_lc (own := [("cell", 1)]) (g := gName 1) (by rfl) sc_law_start.nd (pi_list (pv 0)) (blkOk_by (own := [("cell", 1)]) (N := ["script", "cell"]) (sc := defScope s_law_start) (by decide +kernel)) (fun _ _ _ _ _ => (pg_name (i := 1) sc_law_start.nd rfl (Or.inl rfl))) (fun _ _ _ _ _ => pts_nil) (fun _ _ _ _ _ => (pe_callB call_abs (by rfl) T.abs boot_abs (pa_cons (pe_callTy call_int1 (by rfl) T.int boot_int (pa_cons (pv 1) pa_nil)) pa_nil)))) (pps_cons pe_str pe_int (pps_cons pe_str pe_int (pps_cons pe_str (pe_op op_add pe_int (pe_callB call_len_seq (by rfl) T.len boot_len (pa_cons (pv 0) pa_nil))) pps_nil)))) (by rfl) (by rfl) (fun z => by cases z) (by decide)))), ?_⟩
    -- the dict
    intro d hd
    have s0 : Same H (upd H d (.dK [])) := same_new hd
    refine ⟨_, rfl, a, rfl, ⟨_, s0.seq hS⟩, fun D hD => ?_⟩
    have nDd : d ≠ D := fun z => by rw [← z, upd_same] at hD; cases hD
    refine lc_list (K := K) (a := a) (xs := ns.map V.int) (fun i H' => ∃ cs : List Int, H' D = some (.lst (cs.map V.int)) ∧ cs.length = i ∧ (∀ x ∈ cs, 0 ≤ x) ∧ Same H H' ∧ H' d = some (.dK []))
      ⟨[], upd_same, rfl, (fun _ h => nomatch h), fun b o e => (same_new hD) b o (s0 b o e), by rw [upd_ne nDd, upd_same]⟩ (fun i H' _ ⟨_, _, _, _, s2, _⟩ => s2.seq hS) ?_ ?_
    · rintro i x H' hx ⟨cs, hc, hi, hn, s2, h2⟩
      obtain ⟨z, rfl⟩ : ∃ z, x = V.int z := by
        rw [List.getElem?_map] at hx
        cases e : ns[i]? with
        | none => rw [e] at hx; cases hx
        | some z => rw [e] at hx; exact ⟨z, (Option.some.inj hx).symm⟩
      have hil : i < (ns.map V.int).length := (List.getElem?_eq_some_iff.mp hx).1
      rw [List.length_map] at hil
      refine ⟨rfl, ?_⟩
      refine ⟨_, rfl, .inl ⟨_, rfl, _, rfl, _, hc, ?_, cs ++ [if z < 0 then -z else z], ?_, ?_, ?_, ?_, ?_⟩⟩
      · rw [List.length_map]; exact small1000 (by omega)
      · rw [upd_same, List.map_append]; rfl
      · rw [List.length_append, hi]; rfl
      · intro y hy
        rcases List.mem_append.mp hy with hy | hy
        · exact hn y hy
        · rw [List.mem_singleton.mp hy]; split <;> omega
      · intro b o e
        rw [upd_ne (ne_of_none e (s0.free hD))]
        exact s2 b o e
      · rw [upd_ne nDd]; exact h2
    · rintro H' ⟨cs, hc, hi, hn, s2, h2⟩
      refine ⟨_, rfl, a, _, rfl, .inl (s2.seq hS), _, _, rfl, rfl, h2, stK D 0 0 (7 + ((ns.map V.int).length : Int)), rfl, (by show 4 ≤ 15; decide), ?_⟩
      rw [merge_st]
      have hDd : D ≠ d := fun z => nDd z.symm
      refine k d D _ hd (s0.free hD) ⟨cs, 0, 0, _, upd_same, (by rw [upd_ne hDd]; exact hc), hn, by omega, by omega, ?_, ?_⟩ fun b o e => ?_
      · omega
      · rw [List.length_map]; omega
      · rw [upd_ne (ne_of_none e hd)]
        exact s2 b o e
theorem sc_law_draw : FnScope ["state", "bound", "cell", "number"] ["state", "bound"] (defScope s_law_draw) := ⟨rfl, rfl, rfl, by decide +kernel, rfl, by decide +kernel, by decide +kernel⟩
theorem ok_law_draw {f : Addr} {fd : FuncData} (F : Fun K "_law_draw" "_law_draw" s_law_draw f fd) (T : Txt0 mg) : FnOk P w K mg base CX0 1 f fd ["state", "bound"] (spDraw K) := by
  refine F.ok sc_law_draw (fun vs H Q E h => ?_) (fun cdv A outer s H vs Q E hr h => ?_)
  · obtain ⟨d, c, b, rfl, _⟩ := h
    rfl
  · obtain ⟨d, c, b, rfl, S1, b0, b1, k⟩ := h
    have hu := hu_of hr
    have hm : ∀ x : Int, 0 ≤ x % b ∧ x % b < b := fun x => ⟨Int.emod_nonneg x (by omega), Int.emod_lt_of_pos x b0⟩
    have hmx : ∀ x : Int, 0 ≤ x % 2147483647 ∧ x % 2147483647 < 2147483648 := fun x => by omega
    refine ⟨_, (pss_cons (ps_if (PW.pt (pw_and (pt_cmpR op_eq (pe_dget hu (pv 0) pe_str (fun _ _ => rfl)) pe_int (nomark _)) (pw_and1 (pt_cmpR op_lt (pe_dget hu (pv 0) pe_str (fun _ _ => rfl)) (pe_callB call_len_seq (by rfl) T.len boot_len (pa_cons (pe_dget hu (pv 0) pe_str (fun _ _ => rfl)) pa_nil)) (nomark _))))) (pss_cons (ps_set (i := 2) sc_law_draw.nd rfl (Or.inl rfl) (pe_ix ix_list (pe_dget hu (pv 0) pe_str (fun _ _ => rfl)) (pe_dget hu (pv 0) pe_str (fun _ _ => rfl)) (fun _ _ => rfl)))
    (pss_cons (ps_dput hu (pv 0) pe_str (pe_op op_add (pe_dget hu (pv 0) pe_str (fun _ _ => rfl)) pe_int) rfl)
    (pss_cons (ps_dput hu (pv 0) pe_str (pe_op op_mod (pe_callTy call_int1 (by rfl) T.int boot_int (pa_cons (pe_op op_add (pe_op op_add (pe_op op_mul (pe_dget hu (pv 0) pe_str (fun _ _ => rfl)) pe_int) (pv 2)) pe_int) pa_nil)) pe_int) rfl)
    (pss_cons (ps_if (pt_cmpR op_lt (pv 2) (pe_op op_pow pe_int pe_int) (nomark _)) (pss_one (ps_ret (pe_op op_mod (pe_callTy call_int1 (by rfl) T.int boot_int (pa_cons (pv 2) pa_nil)) (pv 1))))
      pss_nil)
    (pss_one (ps_dput hu (pv 0) pe_str (pv 2) rfl))))))
      pss_nil)
    (pss_cons (ps_if (pt_cmpR op_gt (pe_dget hu (pv 0) pe_str (fun _ _ => rfl)) pe_int (nomark _)) (pss_cons (ps_set (i := 3) sc_law_draw.nd rfl (Or.inl rfl) (pe_op op_mod (pe_callTy call_int1 (by rfl) T.int boot_int (pa_cons (pe_dget hu (pv 0) pe_str (fun _ _ => rfl)) pa_nil)) (pv 1)))
    (pss_cons (ps_dput hu (pv 0) pe_str (pe_op op_fdivW (pe_dget hu (pv 0) pe_str (fun _ _ => rfl)) (pv 1)) rfl)
    (pss_one (ps_ret (pv 3)))))
      pss_nil)
    (pss_cons (ps_dput hu (pv 0) pe_str (pe_op op_mod (pe_callTy call_int1 (by rfl) T.int boot_int (pa_cons (pe_op op_add (pe_op op_mul (pe_dget hu (pv 0) pe_str (fun _ _ => rfl)) pe_int) pe_int) pa_nil)) pe_int) rfl)
    (pss_one (ps_ret (pe_op op_mod (pe_callTy call_int1 (by rfl) T.int boot_int (pa_cons (pe_op op_mod (pe_callTy call_int1 (by rfl) T.int boot_int (pa_cons (pe_op op_add (pe_op op_mul (pe_dget hu (pv 0) pe_str (fun _ _ => rfl)) pe_int) pe_int) pa_nil)) pe_int) pa_nil)) (pv 1))))))), ?_⟩
    refine cut (fun σ' H' => ∃ v2 v3, σ' = [some (.ref d), some (.int b), v2, v3] ∧ St1 K H' d c ∧ Keep d H H') ?_ (fun rest => ?_)
    · -- the rest: from a number that is left, or from the mix
      rintro σ' H' ⟨v2, v3, rfl, ⟨ns, i, l, m, S⟩, kp⟩
      refine ⟨_, rfl, _, _, rfl, dg_left S.dc, _, _, rfl, rfl, _, rfl, ite2 (fun e => ?_) (fun e => ?_)⟩
      · refine ⟨_, rfl, _, _, rfl, dg_left S.dc, .inl ⟨_, rfl, _, rfl, _, _, rfl, rfl, b0, ?_⟩⟩
        refine ⟨_, rfl, _, _, rfl, dg_left S.dc, _, rfl, _, _, rfl, rfl, log_of b0 b1, _, rfl, _, _, rfl, dp_left S.dc, ?_⟩
        refine ⟨_, rfl, ?_⟩
        exact k _ _ (hm l).1 (hm l).2 ⟨_, _, _, _, S.put S.i0 (Int.ediv_nonneg S.l0 (by omega)) S.m0 S.m1⟩ (kp.trans (Keep.upd _ _ _))
      · refine ⟨_, rfl, _, _, rfl, dg_mix S.dc, _, _, rfl, rfl, .inr ⟨by decide, by decide⟩, _, _, rfl, rfl, .inl ⟨_, rfl, _, _, rfl, rfl, (by show (0:Int) < 2147483647; decide), _, rfl, _, _, rfl, dp_mix S.dc, ?_⟩⟩
        have S2 := S.put (i' := i) (l' := l) S.i0 S.l0 (hmx (m * 48271 + 11)).1 (hmx (m * 48271 + 11)).2
        refine ⟨_, rfl, _, _, rfl, dg_mix S2.dc, _, _, rfl, rfl, .inr ⟨by decide, by decide⟩, _, _, rfl, rfl, .inl ⟨_, rfl, _, _, rfl, rfl, (by show (0:Int) < 2147483629; decide), .inl ⟨_, rfl, _, rfl, _, _, rfl, rfl, b0, ?_⟩⟩⟩
        exact k _ _ (hm _).1 (hm _).2 ⟨_, _, _, _, S2⟩ (kp.trans (Keep.upd _ _ _))
    · -- the first if
      obtain ⟨ns, i, l, m, S⟩ := id S1
      refine ⟨_, rfl, _, _, rfl, dg_left S.dc, rfl, _, rfl, ite2 (fun e => ?_) (fun e => ?_)⟩
      · refine ⟨_, rfl, _, _, rfl, dg_at S.dc, _, rfl, _, _, rfl, dg_cells S.dc, _, _, rfl, .inl (.inl (.inl S.cs)), _, _, rfl, rfl, _, rfl, ite2 (fun e => ?_) (fun e => ?_)⟩
        · have hi : i < (ns.length : Int) := by
            have := of_decide_eq_true e
            rw [List.length_map] at this
            exact this
          obtain ⟨j, rfl⟩ : ∃ j : Nat, i = (j : Int) := ⟨i.toNat, by have := S.i0; omega⟩
          have hj : j < ns.length := by omega
          refine ⟨_, rfl, _, _, rfl, dg_cells S.dc, _, rfl, _, _, rfl, dg_at S.dc, _, _, _, _, rfl, rfl, .inl (.inl S.cs), atI_nat (j := j) (v := .int ns[j]) (by simp [hj]), ?_⟩
          have S2 := S.put (i' := (j : Int) + 1) (l' := l) (m' := m) (by omega) S.l0 S.m0 S.m1
          refine ⟨_, rfl, _, _, rfl, dg_at S.dc, _, _, rfl, rfl, _, rfl, _, _, rfl, dp_at S.dc, ?_⟩
          refine ⟨_, rfl, _, _, rfl, dg_mix S2.dc, _, _, rfl, rfl, .inr ⟨by decide, by decide⟩, _, rfl, _, _, rfl, rfl, _, _, rfl, rfl, .inl ⟨_, rfl, _, _, rfl, rfl, (by show (0:Int) < 2147483647; decide), _, rfl, _, _, rfl, dp_mix S2.dc, ?_⟩⟩
          have S3 := S2.put (i' := (j : Int) + 1) (l' := l) S2.i0 S.l0 (hmx (m * 48271 + ns[j] + 11)).1 (hmx (m * 48271 + ns[j] + 11)).2
          refine ⟨_, rfl, _, _, rfl, rfl, ⟨by decide, by decide, by decide⟩, _, _, rfl, rfl, _, rfl, ite2 (fun e => ?_) (fun e => ?_)⟩
          · refine ⟨_, rfl, .inl ⟨_, rfl, _, rfl, _, _, rfl, rfl, b0, ?_⟩⟩
            exact k _ _ (hm _).1 (hm _).2 ⟨_, _, _, _, S3⟩ ((Keep.upd _ _ _).trans (Keep.upd _ _ _))
          · refine ⟨_, rfl, _, rfl, _, _, rfl, dp_left S3.dc, ?_⟩
            have S4 := S3.put (i' := (j : Int) + 1) (l' := ns[j]) S2.i0 (S.nn _ (List.getElem_mem hj)) S3.m0 S3.m1
            exact rest _ _ ⟨_, _, rfl, ⟨_, _, _, _, S4⟩, ((Keep.upd _ _ _).trans (Keep.upd _ _ _)).trans (Keep.upd _ _ _)⟩
        · exact rest _ _ ⟨_, _, rfl, S1, Keep.refl _ _⟩
      · refine iteF ?_
        exact rest _ _ ⟨_, _, rfl, S1, Keep.refl _ _⟩
theorem sc_law_pick : FnScope ["state", "things"] ["state", "things"] (defScope s_law_pick) := ⟨rfl, rfl, rfl, by decide +kernel, rfl, by decide +kernel, by decide +kernel⟩
theorem ok_law_pick {f : Addr} {fd : FuncData} (F : Fun K "_law_pick" "_law_pick" s_law_pick f fd) (T : Txt0 mg) (D_law_draw : Def P w K mg base 1 "_law_draw" ["state", "bound"] (spDraw K)) : FnOk P w K mg base CX0 2 f fd ["state", "things"] (spPick K) := by
  refine F.ok sc_law_pick (fun vs H Q E h => ?_) (fun cdv A outer s H vs Q E hr h => ?_)
  · obtain ⟨d, c, l, xs, rfl, _⟩ := h
    rfl
  · obtain ⟨d, c, l, xs, rfl, S, hl, hn, hz, k⟩ := h
    refine ⟨_, (pss_one (ps_ret (pe_ix ix_list (pv 1) (pe_def D_law_draw (hr.mono (by decide)) (by rfl) (pa_cons (pv 0) (pa_cons (pe_callB call_len_seq (by rfl) T.len boot_len (pa_cons (pv 1) pa_nil)) pa_nil))) (fun _ _ => rfl)))), ?_⟩
    have hp : 0 < xs.length := List.length_pos_iff.mpr hn
    refine ⟨_, rfl, _, rfl, _, rfl, _, _, rfl, .inl hl, d, c, _, rfl, S, by omega, by omega, fun n H' n0 n1 S' kp => ?_⟩
    obtain ⟨kvs, hd⟩ := S.dk
    obtain ⟨j, rfl⟩ : ∃ j : Nat, n = (j : Int) := ⟨n.toNat, by omega⟩
    have hj : j < xs.length := by omega
    refine ⟨_, _, _, _, rfl, rfl, kp.seq hd hl, atI_nat (j := j) (v := xs[j]) (by simp [hj]), ?_⟩
    exact k _ _ (List.getElem_mem hj) S' kp
theorem sc_law_is_number : FnScope ["thing"] ["thing"] (defScope s_law_is_number) := ⟨rfl, rfl, rfl, by decide +kernel, rfl, by decide +kernel, by decide +kernel⟩
theorem ok_law_is_number {f : Addr} {fd : FuncData} (F : Fun K "_law_is_number" "_law_is_number" s_law_is_number f fd) (T : Txt0 mg) : FnOk P w K mg base CX0 1 f fd ["thing"] spIsNum := by
  refine F.ok sc_law_is_number (fun vs H Q E h => ?_) (fun cdv A outer s H vs Q E hr h => ?_)
  · obtain ⟨n, rfl, _⟩ := h
    rfl
  · obtain ⟨n, rfl, k⟩ := h
    refine ⟨_, (pss_one (ps_ret (pe_and (pe_callB call_isi (by rfl) T.isinstance boot_isinstance (pa_cons (pv 0) (pa_cons (pe_bltn (v := .ty "int") (by rfl) T.int boot_int rfl) pa_nil))) (pe_one (pe_not (pe_callB call_isi (by rfl) T.isinstance boot_isinstance (pa_cons (pv 0) (pa_cons (pe_bltn (v := .ty "bool") (by rfl) T.bool boot_bool rfl) pa_nil)))))))), ?_⟩
    refine ⟨_, rfl, _, _, _, _, true, rfl, ClsV.ty _, .base (.int n), kit_ty (by decide +kernel), true, rfl, ?_⟩
    refine iteT ?_
    refine ⟨_, rfl, _, _, _, _, false, rfl, ClsV.ty _, .base (.int n), kit_ty (by decide +kernel), false, rfl, ?_⟩
    exact k
end
end Sk

set_option Elab.async false
set_option linter.all false
set_option maxRecDepth 100000
set_option maxHeartbeats 4000000
namespace Sk
open PySem PySem.Spec PyProof.Rows L2
local macro_rules | `(tactic| walk_at "ms") => `(tactic| first | exact .inl ⟨by decide, by decide⟩ | exact .inl ⟨by omega, by omega⟩ | exact .inr ⟨by omega, by omega⟩ | exact wm (by omega) (by omega) | exact log_of (by omega) (by omega) | (show (0:Int) < _; omega) | exact ⟨by decide, by decide, by decide⟩)
def RV (kvs : List (Key × V)) (la ve ra ba : Int) : Prop := valV kvs (.inr "lateral") = some (.int la) ∧ valV kvs (.inr "vertical") = some (.int ve) ∧ valV kvs (.inr "radius") = some (.int ra) ∧ valV kvs (.inr "band") = some (.int ba)
theorem RV.put {kvs : List (Key × V)} {la ve ra ba : Int} {n : Str} {v : V} (h : RV kvs la ve ra ba) (n1 : ¬ ("lateral" : Str) = n) (n2 : ¬ ("vertical" : Str) = n) (n3 : ¬ ("radius" : Str) = n) (n4 : ¬ ("band" : Str) = n) : RV (putK kvs (.inr n) v) la ve ra ba := by
  unfold RV
  rw [valV_put, valV_put, valV_put, valV_put, if_neg (kr n1), if_neg (kr n2), if_neg (kr n3), if_neg (kr n4)]
  exact h
theorem RV.start {la ve ra ba : Int} : RV (mergeK [] [((.inr "lateral" : Key), V.int la), (.inr "vertical", .int ve), (.inr "radius", .int ra), (.inr "band", .int ba)]) la ve ra ba := by
  unfold RV
  simp only [mergeK, List.foldl]
  have n1 : ¬ ("lateral" : Str) = "vertical" := by decide +kernel
  have n2 : ¬ ("lateral" : Str) = "radius" := by decide +kernel
  have n3 : ¬ ("lateral" : Str) = "band" := by decide +kernel
  have n4 : ¬ ("vertical" : Str) = "radius" := by decide +kernel
  have n5 : ¬ ("vertical" : Str) = "band" := by decide +kernel
  have n6 : ¬ ("radius" : Str) = "band" := by decide +kernel
  refine ⟨?_, ?_, ?_, ?_⟩
  · rw [valV_put, if_neg (kr n3), valV_put, if_neg (kr n2), valV_put, if_neg (kr n1), valV_put, if_pos rfl]
  · rw [valV_put, if_neg (kr n5), valV_put, if_neg (kr n4), valV_put, if_pos rfl]
  · rw [valV_put, if_neg (kr n6), valV_put, if_pos rfl]
  · rw [valV_put, if_pos rfl]
abbrev rTupT (K : PySem.W.Frag) (xs : List V) (H : Hp) (Q : VK) : Prop := ∃ a zs, xs = [.ref a] ∧ ((SqL K H a zs ∧ ∀ b, H b = none → Q (.ref b) (upd H b (.tup zs))) ∨ (SqT K H a zs ∧ Q (.ref a) H))
abbrev s_law_rules : Stmt := top 40
section
variable {P : Program} {w : World} {K : PySem.W.Frag} {mg : Str → Option Value} {base : Heap}
theorem sc_law_rules : FnScope ["state", "lateral", "vertical", "rules", "j", "k"] ["state"] (defScope s_law_rules) := ⟨rfl, rfl, rfl, by decide +kernel, rfl, by decide +kernel, by decide +kernel⟩
theorem ok_law_rules {f : Addr} {fd : FuncData} (F : Fun K "_law_rules" "_law_rules" s_law_rules f fd) (T : TxtA mg)
    (D_law_draw : Def P w K mg base 1 "_law_draw" ["state", "bound"] (spDraw K))
    (D_law_pick : Def P w K mg base 2 "_law_pick" ["state", "things"] (spPick K)) : FnOk P w K mg base CX0 3 f fd ["state"] (spRulesP K) := by
  refine F.ok sc_law_rules (fun vs H Q E h => ?_) (fun cdv A outer s H vs Q E hr h => ?_)
  · obtain ⟨_, _, rfl, _⟩ := h
    rfl
  · obtain ⟨d, c, rfl, S, k⟩ := h
    have hu := hu_of hr
    refine ⟨_, (pss_cons (ps_set (i := 1) sc_law_rules.nd rfl (Or.inl rfl) (pe_op op_add pe_int (pe_def D_law_draw (hr.mono (by decide)) (by rfl) (pa_cons (pv 0) (pa_cons (pe_def D_law_pick (hr.mono (by decide)) (by rfl) (pa_cons (pv 0) (pa_cons (pe_lst (pa_cons pe_int (pa_cons pe_int (pa_cons pe_int pa_nil)))) pa_nil))) pa_nil)))))
    (pss_cons (ps_set (i := 2) sc_law_rules.nd rfl (Or.inl rfl) (pe_op op_add pe_int (pe_def D_law_draw (hr.mono (by decide)) (by rfl) (pa_cons (pv 0) (pa_cons (pe_def D_law_pick (hr.mono (by decide)) (by rfl) (pa_cons (pv 0) (pa_cons (pe_lst (pa_cons pe_int (pa_cons pe_int (pa_cons pe_int pa_nil)))) pa_nil))) pa_nil)))))
    (pss_cons (ps_set (i := 3) sc_law_rules.nd rfl (Or.inl rfl) (pe_disp (pps_cons pe_str (pv 1) (pps_cons pe_str (pv 2) (pps_cons pe_str (pe_def D_law_draw (hr.mono (by decide)) (by rfl) (pa_cons (pv 0) (pa_cons pe_int pa_nil))) (pps_cons pe_str (pe_def D_law_draw (hr.mono (by decide)) (by rfl) (pa_cons (pv 0) (pa_cons pe_int pa_nil))) pps_nil)))) (by rfl) (by rfl) (fun z => by cases z) (by decide)))
    (pss_cons (ps_dput hu (pv 3) pe_str (pe_def D_law_draw (hr.mono (by decide)) (by rfl) (pa_cons (pv 0) (pa_cons pe_int pa_nil))) rfl)
    (pss_cons (ps_dput hu (pv 3) pe_str (pe_def D_law_draw (hr.mono (by decide)) (by rfl) (pa_cons (pv 0) (pa_cons (pe_op op_fdivW (pe_op op_add (pv 1) pe_int) pe_int) pa_nil))) rfl)
    (pss_cons (ps_dput hu (pv 3) pe_str (pe_def D_law_draw (hr.mono (by decide)) (by rfl) (pa_cons (pv 0) (pa_cons (pe_op op_fdivW (pe_op op_add (pv 2) pe_int) pe_int) pa_nil))) rfl)
    (pss_cons (ps_dput hu (pv 3) pe_str (pe_def D_law_draw (hr.mono (by decide)) (by rfl) (pa_cons (pv 0) (pa_cons pe_int pa_nil))) rfl)
    (pss_cons (ps_dput hu (pv 3) pe_str (pe_def D_law_draw (hr.mono (by decide)) (by rfl) (pa_cons (pv 0) (pa_cons pe_int pa_nil))) rfl)
    (pss_cons (ps_dput hu (pv 3) pe_str (pe_op op_add pe_int (pe_def D_law_draw (hr.mono (by decide)) (by rfl) (pa_cons (pv 0) (pa_cons pe_int pa_nil)))) rfl)
    (pss_cons (ps_dput hu (pv 3) pe_str (pe_def D_law_draw (hr.mono (by decide)) (by rfl) (pa_cons (pv 0) (pa_cons pe_int pa_nil))) rfl)
    (pss_cons (ps_dput hu (pv 3) pe_str (pe_callTy call_tuple_of (by rfl) T.tuple boot_tuple (pa_cons (pe_lc (own := [("j", 4)]) (g := gName 4) (by rfl) sc_law_rules.nd (pi_range1 (by rfl) T.range (pa_cons pe_int pa_nil)) (blkOk_by (own := [("j", 4)]) (N := ["state", "lateral", "vertical", "rules", "j", "k"]) (sc := defScope s_law_rules) (by decide +kernel)) (fun _ _ _ _ _ => (pg_name (i := 4) sc_law_rules.nd rfl (Or.inl rfl))) (fun _ _ _ _ _ => pts_nil) (fun _ _ _ _ _ => (pe_callTy (r := rTupT K) call_tuple_of (by rfl) T.tuple boot_tuple (pa_cons (pe_lc (own := [("k", 5)]) (g := gName 5) (by rfl) sc_law_rules.nd (pi_range1 (by rfl) T.range (pa_cons pe_int pa_nil)) (by apply blkOk_by; with_unfolding_all rfl) (fun _ _ _ _ _ => (pg_name (i := 5) sc_law_rules.nd rfl (Or.inl rfl))) (fun _ _ _ _ _ => pts_nil) (fun _ _ _ _ _ => (pe_op op_add pe_int (pe_def D_law_draw (hr.mono (by decide)) (by rfl) (pa_cons (pv 0) (pa_cons pe_int pa_nil)))))) pa_nil)))) pa_nil)) rfl)
    (pss_one (ps_ret (pv 3)))))))))))))), ?_⟩
    refine ⟨_, rfl, _, rfl, szOk rfl, fun p1 hp1 => ?_⟩
    refine ⟨d, c, _, _, rfl, (S.new hp1), .inl (.inl upd_same), (fun z => nomatch z), (by show 3 ≤ 1000; decide), fun v2 H2 hv2 S2 kp2 => ?_⟩
    obtain ⟨x2, rfl, x2a, x2b⟩ : ∃ z : Int, v2 = .int z ∧ 3 ≤ z ∧ z ≤ 60 := by
      simp only [List.mem_cons, List.not_mem_nil, or_false] at hv2
      rcases hv2 with rfl | rfl | rfl <;> exact ⟨_, rfl, by decide, by decide⟩
    refine ⟨d, c, _, rfl, S2, (by omega), (by omega), fun x3 H3 x3a x3b S3 kp3 => ?_⟩
    refine ⟨_, _, rfl, rfl, _, rfl, _, rfl, szOk rfl, fun p4 hp4 => ?_⟩
    refine ⟨d, c, _, _, rfl, (S3.new hp4), .inl (.inl upd_same), (fun z => nomatch z), (by show 3 ≤ 1000; decide), fun v5 H5 hv5 S5 kp5 => ?_⟩
    obtain ⟨x5, rfl, x5a, x5b⟩ : ∃ z : Int, v5 = .int z ∧ 3 ≤ z ∧ z ≤ 60 := by
      simp only [List.mem_cons, List.not_mem_nil, or_false] at hv5
      rcases hv5 with rfl | rfl | rfl <;> exact ⟨_, rfl, by decide, by decide⟩
    refine ⟨d, c, _, rfl, S5, (by omega), (by omega), fun x6 H6 x6a x6b S6 kp6 => ?_⟩
    refine ⟨_, _, rfl, rfl, ?_⟩
    have k0 : Keep d H _ := ((((((Keep.of (same_new hp1)).trans kp2).trans kp3).trans (Keep.of (same_new hp4))).trans kp5).trans kp6)
    intro ru hru
    have nrd : ru ≠ d := St1.nd S6 hru
    have nrc : ru ≠ c := St1.nc S6 hru
    have hruH : H ru = none := k0.none nrd hru
    have kU : ∀ (Hx : Hp) (kv : List (Key × V)), Keep d H Hx → Keep d H (upd Hx ru (.dK kv)) := fun Hx kv w b o e nb => by
      rw [upd_ne (ne_of_none e hruH)]
      exact w b o e nb
    have kS : ∀ a x, (Str.ofString a == Str.ofString x) = false → True := fun _ _ _ => trivial
    refine ⟨_, rfl, _, rfl, _, rfl, d, c, _, rfl, St1.new S6 hru, by decide, by decide, fun xr Hr xra xrb Sr kpr => ?_⟩
    refine ⟨_, rfl, d, c, _, rfl, Sr, by decide, by decide, fun xb Hb xba xbb Sb kpb => ?_⟩
    have kb : Keep d H Hb := ((k0.trans (Keep.of (same_new hru))).trans kpr).trans kpb
    refine ⟨kpb _ _ (kpr _ _ upd_same nrd) nrd, [(.inr "lateral", .int (1 + x3)), (.inr "vertical", .int (1 + x6)), (.inr "radius", .int xr), (.inr "band", .int xb)], rfl, (by show 4 ≤ 15; decide), ?_⟩
    have len0 : (mergeK [] [((.inr "lateral" : Key), V.int (1 + x3)), (.inr "vertical", .int (1 + x6)), (.inr "radius", .int xr), (.inr "band", .int xb)]).length ≤ 4 := by
      simp only [mergeK, List.foldl]
      have l1 := putK_len (kvs := ([] : List (Key × V))) (k := (.inr "lateral" : Key)) (v := .int (1 + x3))
      have l2 := putK_len (kvs := putK ([] : List (Key × V)) (.inr "lateral" : Key) (.int (1 + x3))) (k := (.inr "vertical" : Key)) (v := .int (1 + x6))
      have l3 := putK_len (kvs := putK (putK ([] : List (Key × V)) (.inr "lateral" : Key) (.int (1 + x3))) (.inr "vertical" : Key) (.int (1 + x6))) (k := (.inr "radius" : Key)) (v := .int xr)
      have l4 := putK_len (kvs := putK (putK (putK ([] : List (Key × V)) (.inr "lateral" : Key) (.int (1 + x3))) (.inr "vertical" : Key) (.int (1 + x6))) (.inr "radius" : Key) (.int xr)) (k := (.inr "band" : Key)) (v := .int xb)
      simp only [List.length_nil] at l1
      omega
    have S0 := Sb.put (o := .dK (mergeK [] [((.inr "lateral" : Key), V.int (1 + x3)), (.inr "vertical", .int (1 + x6)), (.inr "radius", .int xr), (.inr "band", .int xb)])) nrd nrc
    have h0 : (upd Hb ru (.dK (mergeK [] [((.inr "lateral" : Key), V.int (1 + x3)), (.inr "vertical", .int (1 + x6)), (.inr "radius", .int xr), (.inr "band", .int xb)]))) ru = _ := upd_same
    have w0 := kU Hb (mergeK [] [((.inr "lateral" : Key), V.int (1 + x3)), (.inr "vertical", .int (1 + x6)), (.inr "radius", .int xr), (.inr "band", .int xb)]) kb
    have sl0 : RV (mergeK [] [((.inr "lateral" : Key), V.int (1 + x3)), (.inr "vertical", .int (1 + x6)), (.inr "radius", .int xr), (.inr "band", .int xb)]) (1 + x3) (1 + x6) xr xb := RV.start
    generalize mergeK [] [((.inr "lateral" : Key), V.int (1 + x3)), (.inr "vertical", .int (1 + x6)), (.inr "radius", .int xr), (.inr "band", .int xb)] = kv0 at *
    generalize upd Hb ru (.dK kv0) = G0 at *
    refine ⟨_, rfl, d, c, _, rfl, S0, (by decide), (by decide), fun y0 T0 y0a y0b U0 kq0 => ?_⟩
    refine ⟨_, rfl, _, _, rfl, DPut.k (k := .inr "slip") (kq0 _ _ h0 nrd) (small1000 (by omega)), ?_⟩
    have S1 := U0.put (o := .dK (putK kv0 (.inr "slip") (.int (y0)))) nrd nrc
    have h1 : (upd T0 ru (.dK (putK kv0 (.inr "slip") (.int (y0))))) ru = _ := upd_same
    have w1 := kU T0 (putK kv0 (.inr "slip") (.int (y0))) (w0.trans kq0)
    have len1 : (putK kv0 (.inr "slip") (.int (y0))).length ≤ 5 := Nat.le_trans putK_len (by omega)
    have sl1 : RV (putK kv0 (.inr "slip") (.int (y0))) (1 + x3) (1 + x6) xr xb := sl0.put (by decide +kernel) (by decide +kernel) (by decide +kernel) (by decide +kernel)
    have rs1 : valV (putK kv0 (.inr "slip") (.int (y0))) (.inr "slip") = some (.int y0) := by rw [valV_put, if_pos rfl]
    generalize putK kv0 (.inr "slip") (.int (y0)) = kv1 at *
    generalize upd T0 ru (.dK kv1) = G1 at *
    refine ⟨_, rfl, _, rfl, _, _, rfl, rfl, _, _, rfl, rfl, (by walk_at "ms"), d, c, _, rfl, S1, (by omega), (by omega), fun y1 T1 y1a y1b U1 kq1 => ?_⟩
    refine ⟨_, rfl, _, _, rfl, DPut.k (k := .inr "radar") (kq1 _ _ h1 nrd) (small1000 (by omega)), ?_⟩
    have S2 := U1.put (o := .dK (putK kv1 (.inr "radar") (.int (y1)))) nrd nrc
    have h2 : (upd T1 ru (.dK (putK kv1 (.inr "radar") (.int (y1))))) ru = _ := upd_same
    have w2 := kU T1 (putK kv1 (.inr "radar") (.int (y1))) (w1.trans kq1)
    have len2 : (putK kv1 (.inr "radar") (.int (y1))).length ≤ 6 := Nat.le_trans putK_len (by omega)
    have sl2 : RV (putK kv1 (.inr "radar") (.int (y1))) (1 + x3) (1 + x6) xr xb := sl1.put (by decide +kernel) (by decide +kernel) (by decide +kernel) (by decide +kernel)
    have rs2 : valV (putK kv1 (.inr "radar") (.int (y1))) (.inr "slip") = some (.int y0) := by rw [valV_put, if_neg (kr (by decide +kernel))]; exact rs1
    have rq2 : valV (putK kv1 (.inr "radar") (.int (y1))) (.inr "radar") = some (.int y1) := by rw [valV_put, if_pos rfl]
    generalize putK kv1 (.inr "radar") (.int (y1)) = kv2 at *
    generalize upd T1 ru (.dK kv2) = G2 at *
    refine ⟨_, rfl, _, rfl, _, _, rfl, rfl, _, _, rfl, rfl, (by walk_at "ms"), d, c, _, rfl, S2, (by omega), (by omega), fun y2 T2 y2a y2b U2 kq2 => ?_⟩
    refine ⟨_, rfl, _, _, rfl, DPut.k (k := .inr "height") (kq2 _ _ h2 nrd) (small1000 (by omega)), ?_⟩
    have S3 := U2.put (o := .dK (putK kv2 (.inr "height") (.int (y2)))) nrd nrc
    have h3 : (upd T2 ru (.dK (putK kv2 (.inr "height") (.int (y2))))) ru = _ := upd_same
    have w3 := kU T2 (putK kv2 (.inr "height") (.int (y2))) (w2.trans kq2)
    have len3 : (putK kv2 (.inr "height") (.int (y2))).length ≤ 7 := Nat.le_trans putK_len (by omega)
    have sl3 : RV (putK kv2 (.inr "height") (.int (y2))) (1 + x3) (1 + x6) xr xb := sl2.put (by decide +kernel) (by decide +kernel) (by decide +kernel) (by decide +kernel)
    have rs3 : valV (putK kv2 (.inr "height") (.int (y2))) (.inr "slip") = some (.int y0) := by rw [valV_put, if_neg (kr (by decide +kernel))]; exact rs2
    have rq3 : valV (putK kv2 (.inr "height") (.int (y2))) (.inr "radar") = some (.int y1) := by rw [valV_put, if_neg (kr (by decide +kernel))]; exact rq2
    have rh3 : valV (putK kv2 (.inr "height") (.int (y2))) (.inr "height") = some (.int y2) := by rw [valV_put, if_pos rfl]
    generalize putK kv2 (.inr "height") (.int (y2)) = kv3 at *
    generalize upd T2 ru (.dK kv3) = G3 at *
    refine ⟨_, rfl, d, c, _, rfl, S3, (by decide), (by decide), fun y3 T3 y3a y3b U3 kq3 => ?_⟩
    refine ⟨_, rfl, _, _, rfl, DPut.k (k := .inr "foreign") (kq3 _ _ h3 nrd) (small1000 (by omega)), ?_⟩
    have S4 := U3.put (o := .dK (putK kv3 (.inr "foreign") (.int (y3)))) nrd nrc
    have h4 : (upd T3 ru (.dK (putK kv3 (.inr "foreign") (.int (y3))))) ru = _ := upd_same
    have w4 := kU T3 (putK kv3 (.inr "foreign") (.int (y3))) (w3.trans kq3)
    have len4 : (putK kv3 (.inr "foreign") (.int (y3))).length ≤ 8 := Nat.le_trans putK_len (by omega)
    have sl4 : RV (putK kv3 (.inr "foreign") (.int (y3))) (1 + x3) (1 + x6) xr xb := sl3.put (by decide +kernel) (by decide +kernel) (by decide +kernel) (by decide +kernel)
    have rs4 : valV (putK kv3 (.inr "foreign") (.int (y3))) (.inr "slip") = some (.int y0) := by rw [valV_put, if_neg (kr (by decide +kernel))]; exact rs3
    have rq4 : valV (putK kv3 (.inr "foreign") (.int (y3))) (.inr "radar") = some (.int y1) := by rw [valV_put, if_neg (kr (by decide +kernel))]; exact rq3
    have rh4 : valV (putK kv3 (.inr "foreign") (.int (y3))) (.inr "height") = some (.int y2) := by rw [valV_put, if_neg (kr (by decide +kernel))]; exact rh3
    generalize putK kv3 (.inr "foreign") (.int (y3)) = kv4 at *
    generalize upd T3 ru (.dK kv4) = G4 at *
    refine ⟨_, rfl, d, c, _, rfl, S4, (by decide), (by decide), fun y4 T4 y4a y4b U4 kq4 => ?_⟩
    refine ⟨_, rfl, _, _, rfl, DPut.k (k := .inr "climb") (kq4 _ _ h4 nrd) (small1000 (by omega)), ?_⟩
    have S5 := U4.put (o := .dK (putK kv4 (.inr "climb") (.int (y4)))) nrd nrc
    have h5 : (upd T4 ru (.dK (putK kv4 (.inr "climb") (.int (y4))))) ru = _ := upd_same
    have w5 := kU T4 (putK kv4 (.inr "climb") (.int (y4))) (w4.trans kq4)
    have len5 : (putK kv4 (.inr "climb") (.int (y4))).length ≤ 9 := Nat.le_trans putK_len (by omega)
    have sl5 : RV (putK kv4 (.inr "climb") (.int (y4))) (1 + x3) (1 + x6) xr xb := sl4.put (by decide +kernel) (by decide +kernel) (by decide +kernel) (by decide +kernel)
    have rs5 : valV (putK kv4 (.inr "climb") (.int (y4))) (.inr "slip") = some (.int y0) := by rw [valV_put, if_neg (kr (by decide +kernel))]; exact rs4
    have rq5 : valV (putK kv4 (.inr "climb") (.int (y4))) (.inr "radar") = some (.int y1) := by rw [valV_put, if_neg (kr (by decide +kernel))]; exact rq4
    have rh5 : valV (putK kv4 (.inr "climb") (.int (y4))) (.inr "height") = some (.int y2) := by rw [valV_put, if_neg (kr (by decide +kernel))]; exact rh4
    generalize putK kv4 (.inr "climb") (.int (y4)) = kv5 at *
    generalize upd T4 ru (.dK kv5) = G5 at *
    refine ⟨_, rfl, d, c, _, rfl, S5, (by decide), (by decide), fun y5 T5 y5a y5b U5 kq5 => ?_⟩
    refine ⟨_, _, rfl, rfl, _, rfl, _, _, rfl, DPut.k (k := .inr "memory") (kq5 _ _ h5 nrd) (small1000 (by omega)), ?_⟩
    have S6 := U5.put (o := .dK (putK kv5 (.inr "memory") (.int (1 + y5)))) nrd nrc
    have h6 : (upd T5 ru (.dK (putK kv5 (.inr "memory") (.int (1 + y5))))) ru = _ := upd_same
    have w6 := kU T5 (putK kv5 (.inr "memory") (.int (1 + y5))) (w5.trans kq5)
    have len6 : (putK kv5 (.inr "memory") (.int (1 + y5))).length ≤ 10 := Nat.le_trans putK_len (by omega)
    have sl6 : RV (putK kv5 (.inr "memory") (.int (1 + y5))) (1 + x3) (1 + x6) xr xb := sl5.put (by decide +kernel) (by decide +kernel) (by decide +kernel) (by decide +kernel)
    have rs6 : valV (putK kv5 (.inr "memory") (.int (1 + y5))) (.inr "slip") = some (.int y0) := by rw [valV_put, if_neg (kr (by decide +kernel))]; exact rs5
    have rq6 : valV (putK kv5 (.inr "memory") (.int (1 + y5))) (.inr "radar") = some (.int y1) := by rw [valV_put, if_neg (kr (by decide +kernel))]; exact rq5
    have rh6 : valV (putK kv5 (.inr "memory") (.int (1 + y5))) (.inr "height") = some (.int y2) := by rw [valV_put, if_neg (kr (by decide +kernel))]; exact rh5
    generalize putK kv5 (.inr "memory") (.int (1 + y5)) = kv6 at *
    generalize upd T5 ru (.dK kv6) = G6 at *
    refine ⟨_, rfl, d, c, _, rfl, S6, (by decide), (by decide), fun y6 T6 y6a y6b U6 kq6 => ?_⟩
    refine ⟨_, rfl, _, _, rfl, DPut.k (k := .inr "ahead") (kq6 _ _ h6 nrd) (small1000 (by omega)), ?_⟩
    have S7 := U6.put (o := .dK (putK kv6 (.inr "ahead") (.int (y6)))) nrd nrc
    have h7 : (upd T6 ru (.dK (putK kv6 (.inr "ahead") (.int (y6))))) ru = _ := upd_same
    have w7 := kU T6 (putK kv6 (.inr "ahead") (.int (y6))) (w6.trans kq6)
    have len7 : (putK kv6 (.inr "ahead") (.int (y6))).length ≤ 11 := Nat.le_trans putK_len (by omega)
    have sl7 : RV (putK kv6 (.inr "ahead") (.int (y6))) (1 + x3) (1 + x6) xr xb := sl6.put (by decide +kernel) (by decide +kernel) (by decide +kernel) (by decide +kernel)
    have rs7 : valV (putK kv6 (.inr "ahead") (.int (y6))) (.inr "slip") = some (.int y0) := by rw [valV_put, if_neg (kr (by decide +kernel))]; exact rs6
    have rq7 : valV (putK kv6 (.inr "ahead") (.int (y6))) (.inr "radar") = some (.int y1) := by rw [valV_put, if_neg (kr (by decide +kernel))]; exact rq6
    have rh7 : valV (putK kv6 (.inr "ahead") (.int (y6))) (.inr "height") = some (.int y2) := by rw [valV_put, if_neg (kr (by decide +kernel))]; exact rh6
    generalize putK kv6 (.inr "ahead") (.int (y6)) = kv7 at *
    generalize upd T6 ru (.dK kv7) = G7 at *
    refine ⟨_, rfl, by decide, by decide, fun E1 hE1 => ?_⟩
    have nE1d : E1 ≠ d := S7.nd hE1
    have nE1c : E1 ≠ c := S7.nc hE1
    have nE1r : ru ≠ E1 := ne_of_none h7 hE1
    refine lc_range (lo := 0) (n := (4 : Int).toNat) (fun i H' => St1 K H' d c ∧ Keep2 d E1 G7 H' ∧ ∃ ys : List V, H' E1 = some (.lst ys) ∧ ys.length = i) ⟨S7.new hE1, (Keep2.refl d E1 _).new hE1, [], upd_same, rfl⟩ ?_ ?_
    · rintro i H' hi ⟨Si, ki, ys, hys, hyl⟩
      refine ⟨rfl, ?_⟩
      refine ⟨_, rfl, by decide, by decide, fun E2 hE2 => ?_⟩
      have nE2d : E2 ≠ d := Si.nd hE2
      have nE2c : E2 ≠ c := Si.nc hE2
      have nE12 : E1 ≠ E2 := ne_of_none hys hE2
      refine lc_range (lo := 0) (n := (4 : Int).toNat) (fun j H2 => St1 K H2 d c ∧ Keep2 d E2 H' H2 ∧ ∃ zs : List V, H2 E2 = some (.lst zs) ∧ zs.length = j) ⟨Si.new hE2, (Keep2.refl d E2 _).new hE2, [], upd_same, rfl⟩ ?_ ?_
      · rintro j H2 hj ⟨Sj, kj, zs, hzs, hzl⟩
        refine ⟨rfl, ?_⟩
        refine ⟨_, rfl, d, c, _, rfl, Sj, by decide, by decide, fun x5 H5 x5a x5b S5 kp5 => ?_⟩
        refine ⟨_, _, rfl, rfl, zs, kp5.l Sj hzs, small1000 (by omega), S5.put nE2d nE2c, (kj.k kp5).put, _, upd_same, by rw [List.length_append, hzl]; rfl⟩
      rintro H2 ⟨Sj, kj, zs, hzs, hzl⟩
      refine ⟨E2, zs, rfl, .inl ⟨.inl (.inl hzs), fun l hl => ?_⟩⟩
      have h1 : H2 E1 = some (.lst ys) := kj _ _ hys nE1d nE12
      have kk : Keep2 d E1 G7 (upd H2 l (.tup zs)) := fun b o e nb nb2 => by
        have q1 := ki b o e nb nb2
        exact same_new hl _ _ (kj b o q1 nb (ne_of_none q1 hE2))
      refine ⟨ys, same_new hl _ _ h1, small1000 (by omega), (Sj.new hl).put nE1d nE1c, kk.put, _, upd_same, by rw [List.length_append, hyl]; rfl⟩
    rintro H' ⟨Si, ki, ys, hys, hyl⟩
    refine ⟨E1, ys, rfl, .inl ⟨.inl (.inl hys), fun l hl => ?_⟩⟩
    have hf := ki _ _ h7 nrd nE1r
    refine ⟨_, rfl, _, _, rfl, DPut.k (k := .inr "gaps") (same_new hl _ _ hf) (small1000 (by omega)), ?_⟩
    have nE1H : H E1 = none := w7.none nE1d hE1
    have sl8 : RV (putK kv7 (.inr "gaps") (.ref l)) (1 + x3) (1 + x6) xr xb := sl7.put (by decide +kernel) (by decide +kernel) (by decide +kernel) (by decide +kernel)
    refine ⟨_, rfl, k ru ⟨1 + x3, 1 + x6, xr, xb⟩ y1 y2 _ hruH ⟨⟨_, upd_same, sl8.1, sl8.2.1, sl8.2.2.1, sl8.2.2.2⟩, by dsimp only; omega⟩ ⟨⟨_, upd_same, sl8.2.2.1, sl8.2.2.2, by rw [valV_put, if_neg (kr (by decide +kernel))]; exact rq7, by rw [valV_put, if_neg (kr (by decide +kernel))]; exact rh7, Nat.le_trans putK_len (by omega)⟩, by dsimp only; omega⟩ (by show 2 * y1 < 1 + x3; omega) (by show 2 * y2 < 1 + x6; omega) (by dsimp only; omega) nrc ((Si.new hl).put nrd nrc) ?_⟩
    refine kU _ _ fun b o e nb => ?_
    exact same_new hl _ _ (ki _ _ (w7 _ _ e nb) nb (ne_of_none e nE1H))
end
end Sk

set_option Elab.async false
set_option linter.all false
set_option maxRecDepth 100000
set_option maxHeartbeats 4000000
namespace Sk
open PySem PySem.Spec PyProof.Rows L2
abbrev s_root_down : Stmt := top 2
abbrev s_root_up : Stmt := top 3
abbrev s_leg_length : Stmt := top 13
abbrev s_leg_between : Stmt := top 14
abbrev s_law_is : Stmt := top 22
abbrev s_law_root_up : Stmt := top 23
abbrev s_law_names : Stmt := top 28
abbrev s_law_legs : Stmt := top 29
abbrev s_law_chart : Stmt := top 30
abbrev s_law_leg : Stmt := top 31
abbrev s_law_lengths : Stmt := top 32
abbrev s_law_walk : Stmt := top 34
local macro_rules | `(tactic| walk_at "ms") => `(tactic| first | exact .inl ⟨by decide, by decide⟩ | exact .inl ⟨by omega, by omega⟩ | exact .inr ⟨by omega, by omega⟩ | exact wm (by omega) (by omega) | exact log_of (by omega) (by omega) | (show (0:Int) < _; omega) | exact ⟨by decide, by decide, by decide⟩)
/-- the places of a chart, by name -/
def CE (D : CD) : Prop := ∃ ns : List Str, D.fs.map (·.1) = ns.map Sum.inr ∧ ns.Nodup ∧ 2 ≤ ns.length ∧ ns.length ≤ 7 ∧ (∀ n ∈ ns, sOk n ∧ ∃ a x y, D.pt n = some (a, x, y)) ∧ ∀ s ∈ ns, ∀ e ∈ ns, s ≠ e → 1 ≤ D.len s e
def spChartB (K : PySem.W.Frag) : Sp := fun vs H Q _ => ∃ (d c : Addr) (m z : Int), vs = [.ref d, .int m, .int z] ∧ St1 K H d c ∧ 2 ≤ m ∧ m ≤ 7 ∧ 1 ≤ z ∧ z ≤ 9000 ∧
  ∀ (D : CD) ch H', CE D → H D.lg = none → (∀ l ∈ D.ls, 1 ≤ D.len l.s l.e) → ChartAt H' ch D → H ch = none → H D.fx = none → St1 K H' d c → Keep d H H' → Q (.ref ch) H'
theorem keys_put {kvs : List (Key × V)} {ns : List Str} {i : Nat} {v : V} (h : kvs.map (·.1) = (ns.take i).map Sum.inr) (nd : ns.Nodup) (hi : i < ns.length) : (putK kvs (.inr ns[i]) v).map (·.1) = (ns.take i ++ [ns[i]]).map Sum.inr := by
  unfold putK
  rw [if_neg, List.map_append, h, List.map_append]
  · rfl
  · intro w
    obtain ⟨kv, hkv, e⟩ := List.any_eq_true.mp w
    have e := of_decide_eq_true e
    have m : (Sum.inr ns[i] : Key) ∈ kvs.map (·.1) := List.mem_map.mpr ⟨kv, hkv, e⟩
    rw [h] at m
    obtain ⟨n, hn, en⟩ := List.mem_map.mp m
    obtain rfl := Sum.inr.inj en
    obtain ⟨j, hj, ej⟩ := List.getElem_of_mem hn
    rw [List.length_take] at hj
    rw [List.getElem_take] at ej
    exact nodup_ne nd (show j < ns.length by omega) hi (by omega) ej
def spSmall (K : PySem.W.Frag) : Sp := fun vs H Q _ => ∃ (d c : Addr), vs = [.ref d] ∧ St1 K H d c ∧
  ∀ (D : CD) ch H', D.ls ≠ [] → (∀ l ∈ D.ls, 1 ≤ D.len l.s l.e) → ChartAt H' ch D → H ch = none → H D.fx = none → St1 K H' d c → Keep d H H' → Q (.ref ch) H'
section
variable {P : Program} {w : World} {K : PySem.W.Frag} {mg : Str → Option Value} {base : Heap}
theorem sc_root_down : FnScope ["n"] ["n"] (defScope s_root_down) := ⟨rfl, rfl, rfl, by decide +kernel, rfl, by decide +kernel, by decide +kernel⟩
theorem ok_root_down {f : Addr} {fd : FuncData} (F : Fun K "root_down" "root_down" s_root_down f fd) (T : TxtA mg) (Tq : mg "isqrt" = some (.builtin "math.isqrt")) : FnOk P w K mg base CX0 1 f fd ["n"] (spDownR) := by
  refine F.ok sc_root_down (fun vs H Q E h => ?_) (fun cdv A outer s H vs Q E hr h => ?_)
  · obtain ⟨n, rfl, _⟩ := h
    rfl
  · obtain ⟨n, rfl, hn, k⟩ := h
    refine ⟨_, (pss_cons (ps_if (pt_cmpR op_le (pv 0) pe_int (nomark _)) (pss_one (ps_ret pe_int))
      pss_nil)
    (pss_one (ps_ret (pe_callBfun cr_isqrt (by rfl) Tq (pa_cons (pv 0) pa_nil))))), ?_⟩
    refine ⟨_, rfl, _, _, rfl, rfl, _, rfl, ite2 (fun e => ?_) (fun e => ?_)⟩
    · have e := of_decide_eq_true e
      exact k 0 (by omega) (fun _ => rfl) (fun h => by omega)
    · have e : ¬ n ≤ 0 := fun z => e (decide_eq_true z)
      exact ⟨_, rfl, n, rfl, by omega, hn, fun r h0 h1 h2 => k r h0 (fun z => absurd z e) (fun _ => ⟨h1, h2⟩)⟩
theorem sc_root_up : FnScope ["n", "low"] ["n"] (defScope s_root_up) := ⟨rfl, rfl, rfl, by decide +kernel, rfl, by decide +kernel, by decide +kernel⟩
theorem ok_root_up {f : Addr} {fd : FuncData} (F : Fun K "root_up" "root_up" s_root_up f fd) (T : TxtA mg)
    (D_root_down : Def P w K mg base 1 "root_down" ["n"] (spDownR)) : FnOk P w K mg base CX0 2 f fd ["n"] (spUpR) := by
  refine F.ok sc_root_up (fun vs H Q E h => ?_) (fun cdv A outer s H vs Q E hr h => ?_)
  · obtain ⟨n, rfl, _⟩ := h
    rfl
  · obtain ⟨n, rfl, hn0, hn, k⟩ := h
    refine ⟨_, (pss_cons (ps_set (i := 1) sc_root_up.nd rfl (Or.inl rfl) (pe_def D_root_down (hr.mono (by decide)) (by rfl) (pa_cons (pv 0) pa_nil)))
    (pss_cons (ps_if (pt_cmpR op_lt (pe_op op_mulW (pv 1) (pv 1)) (pv 0) (nomark _)) (pss_one (ps_ret (pe_op op_add (pv 1) pe_int)))
      pss_nil)
    (pss_one (ps_ret (pv 1))))), ?_⟩
    refine ⟨_, rfl, n, rfl, by omega, fun r h0 h1 h2 => ?_⟩
    obtain ⟨h3, h4⟩ := h2 hn0
    have hr' : r.natAbs < 2 ^ 249 := by
      rcases ltge r 1 with h3 | h3
      · have : r = 0 := by omega
        subst this; decide
      · have := Int.mul_le_mul_of_nonneg_left h3 h0
        omega
    refine ⟨_, rfl, _, rfl, _, _, rfl, rfl, wm (by omega) (by omega), _, rfl, _, _, rfl, rfl, _, rfl, ite2 (fun e => ?_) (fun e => ?_)⟩
    · have e := of_decide_eq_true e
      have hq : IsRt n (r + 1) := ⟨by omega, by omega, .inr (by rw [show r + 1 - 1 = r by omega]; exact e)⟩
      refine ⟨_, rfl, _, _, rfl, rfl, ?_⟩
      show Q (.int (r + 1)) H
      rw [hq.eq (rt_is hn0)]
      exact k
    · have e : ¬ r * r < n := fun z => e (decide_eq_true z)
      have hq : IsRt n r := by
        refine ⟨h0, by omega, ?_⟩
        rcases ltge 0 r with w | w
        · right
          have : (r - 1) * (r - 1) = r * r - 2 * r + 1 := by
            rw [Int.sub_mul, Int.mul_sub, Int.mul_sub]; omega
          omega
        · left; omega
      refine ⟨_, rfl, ?_⟩
      show Q (.int r) H
      rw [hq.eq (rt_is hn0)]
      exact k
theorem sc_leg_length : FnScope ["chart", "start", "end", "ax", "ay", "bx", "by"] ["chart", "start", "end"] (defScope s_leg_length) := ⟨rfl, rfl, rfl, by decide +kernel, rfl, by decide +kernel, by decide +kernel⟩
theorem ok_leg_length {f : Addr} {fd : FuncData} (F : Fun K "leg_length" "leg_length" s_leg_length f fd) (T : TxtA mg)
    (D_root_up : Def P w K mg base 2 "root_up" ["n"] (spUpR)) : FnOk P w K mg base CX0 3 f fd ["chart", "start", "end"] (spLegLen) := by
  refine F.ok sc_leg_length (fun vs H Q E h => ?_) (fun cdv A outer s H vs Q E hr h => ?_)
  · obtain ⟨_, _, _, _, _, _, _, _, _, _, rfl, _⟩ := h
    rfl
  · obtain ⟨ch, D, s', e', a, b, ax, ay, bx, by', rfl, C, h1, h2, k⟩ := h
    have hu := hu_of hr
    refine ⟨_, (pss_cons (ps_asg (pe_dget hu (pe_dget hu (pv 0) pe_str (fun _ _ => rfl)) (pv 1) (fun _ _ => rfl)) (pg_tup (by rfl) (pgs_cons (pg_name (i := 3) sc_leg_length.nd rfl (Or.inl rfl)) (pgs_cons (pg_name (i := 4) sc_leg_length.nd rfl (Or.inl rfl)) pgs_nil))))
    (pss_cons (ps_asg (pe_dget hu (pe_dget hu (pv 0) pe_str (fun _ _ => rfl)) (pv 2) (fun _ _ => rfl)) (pg_tup (by rfl) (pgs_cons (pg_name (i := 5) sc_leg_length.nd rfl (Or.inl rfl)) (pgs_cons (pg_name (i := 6) sc_leg_length.nd rfl (Or.inl rfl)) pgs_nil))))
    (pss_one (ps_ret (pe_def D_root_up (hr.mono (by decide)) (by rfl) (pa_cons (pe_op op_add (pe_op op_mul (pe_op op_sub (pv 5) (pv 3)) (pe_op op_sub (pv 5) (pv 3))) (pe_op op_mul (pe_op op_sub (pv 6) (pv 4)) (pe_op op_sub (pv 6) (pv 4)))) pa_nil)))))), ?_⟩
    have hz0 : 0 ≤ (bx - ax) * (bx - ax) + (by' - ay) * (by' - ay) := Int.add_nonneg (sq0 _) (sq0 _)
    obtain ⟨p1, p2, p3, p4, p5, p6⟩ := C.pf _ _ _ _ h1
    obtain ⟨q1, q2, q3, q4, q5, q6⟩ := C.pf _ _ _ _ h2
    have hz1 : ((bx - ax) * (bx - ax) + (by' - ay) * (by' - ay)).natAbs < 2 ^ 240 := by
      have e1 := sq_le (show -200000 ≤ bx - ax by omega) (show bx - ax ≤ 200000 by omega)
      have e2 := sq_le (show -200000 ≤ by' - ay by omega) (show by' - ay ≤ 200000 by omega)
      omega
    refine ⟨_, rfl, _, _, rfl, C.gf, _, rfl, _, _, rfl, C.gp h1, _, _, rfl, .inl (.inl p2), rfl, _, _, rfl, _, _, rfl, rfl, ?_⟩
    refine ⟨_, rfl, _, _, rfl, C.gf, _, rfl, _, _, rfl, C.gp h2, _, _, rfl, .inl (.inl q2), rfl, _, _, rfl, _, _, rfl, rfl, ?_⟩
    refine ⟨_, rfl, _, rfl, _, _, rfl, rfl, _, rfl, _, rfl, _, _, rfl, rfl, _, _, rfl, rfl, (by walk_at "ms"), _, rfl, _, rfl, _, _, rfl, rfl, _, rfl, _, rfl, _, _, rfl, rfl, _, _, rfl, rfl, (by walk_at "ms"), _, _, rfl, rfl, _, rfl, hz0, hz1, ?_⟩
    rw [← D.len_eq h1 h2]
    exact k
theorem sc_leg_between : FnScope ["chart", "start", "end", "leg"] ["chart", "start", "end"] (defScope s_leg_between) := ⟨rfl, rfl, rfl, by decide +kernel, rfl, by decide +kernel, by decide +kernel⟩
theorem ok_leg_between {f : Addr} {fd : FuncData} (F : Fun K "leg_between" "leg_between" s_leg_between f fd) (T : TxtA mg) : FnOk P w K mg base CX0 1 f fd ["chart", "start", "end"] (spLegBt) := by
  refine F.ok sc_leg_between (fun vs H Q E h => ?_) (fun cdv A outer s H vs Q E hr h => ?_)
  · obtain ⟨_, _, _, _, rfl, _⟩ := h
    rfl
  · obtain ⟨ch, D, s', e', rfl, C, k⟩ := h
    have hu := hu_of hr
    refine ⟨_, (pss_cons (ps_for PassesOwn.never rfl (pi_list (pe_dget hu (pv 0) pe_str (fun _ _ => rfl))) (pg_name (i := 3) sc_leg_between.nd rfl (Or.inl rfl))
      (pss_one (ps_if (PW.pt (pw_and (pt_cmpR op_eq (pe_ix (r := rIxT K) ix_tup (pv 3) pe_int (fun _ _ => rfl)) (pv 1) (nomark _)) (pw_and1 (pt_cmpR op_eq (pe_ix (r := rIxT K) ix_tup (pv 3) pe_int (fun _ _ => rfl)) (pv 2) (nomark _))))) (pss_one (ps_ret (pv 3)))
      pss_nil)))
    (pss_one (ps_ret pe_non))), ?_⟩
    refine ⟨_, rfl, _, _, rfl, C.gl, _, rfl, ⟨_, .inl (.inl C.lg)⟩, for_list (K := K) (a := D.lg) (xs := D.ls.map fun l => V.ref l.a) (fun i σ H2 => ∃ v, σ = [some (.ref ch), some (.str s'), some (.str e'), v] ∧ H2 = H ∧ (D.ls.take i).find? (fun l => decide (l.s = s') && decide (l.e = e')) = none)
      ⟨none, rfl, rfl, rfl⟩ (fun i σ H2 _ ⟨_, _, e, _⟩ => .inl (.inl (e ▸ C.lg))) ?_ ?_⟩
    · rintro i y σ H2 hi ⟨v, rfl, rfl, hf⟩
      obtain ⟨l, rfl, hl, hil, ht⟩ := getMap hi
      have hq := C.lt l hl
      refine ⟨_, rfl, _, _, _, .str l.s, rfl, rfl, .inl (.inl hq), rfl, _, rfl, rfl, _, rfl, ite2 (fun e1 => ?_) (fun e1 => ?_)⟩
      · have e1 := V.str.inj (of_decide_eq_true e1)
        refine ⟨_, rfl, _, _, _, .str l.e, rfl, rfl, .inl (.inl hq), rfl, _, rfl, rfl, _, rfl, ite2 (fun e2 => ?_) (fun e2 => ?_)⟩
        · have e2 := V.str.inj (of_decide_eq_true e2)
          refine ⟨_, rfl, ?_⟩
          have e3 : D.leg s' e' = some l := by
            unfold CD.leg
            rw [← List.take_append_drop (i + 1) D.ls, List.find?_append, ht, List.find?_append, hf]
            simp [e1, e2]
          rw [e3] at k
          exact k
        · refine ⟨_, rfl, rfl, ?_⟩
          rw [ht, List.find?_append, hf]
          have : ¬ l.e = e' := fun z => e2 (decide_eq_true (congrArg V.str z))
          simp [this]
      · refine iteF ?_
        refine ⟨_, rfl, rfl, ?_⟩
        rw [ht, List.find?_append, hf]
        have : ¬ l.s = s' := fun z => e1 (decide_eq_true (congrArg V.str z))
        simp [this]
    · rintro σ H2 ⟨v, rfl, rfl, hf⟩
      rw [List.length_map, List.take_length] at hf
      have e3 : D.leg s' e' = none := hf
      rw [e3] at k
      exact k
theorem sc_law_is : FnScope ["actual", "due"] ["actual", "due"] (defScope s_law_is) := ⟨rfl, rfl, rfl, by decide +kernel, rfl, by decide +kernel, by decide +kernel⟩
theorem ok_law_is {f : Addr} {fd : FuncData} (F : Fun K "_law_is" "_law_is" s_law_is f fd) (T : TxtA mg) : FnOk P w K mg base CX0 1 f fd ["actual", "due"] (spIs) := by
  refine F.ok sc_law_is (fun vs H Q E h => ?_) (fun cdv A outer s H vs Q E hr h => ?_)
  · obtain ⟨_, _, rfl, _⟩ := h
    rfl
  · obtain ⟨a, b, rfl, k⟩ := h
    refine ⟨_, (pss_one (ps_ret (pe_and (pe_callB call_isi (by rfl) T.isinstance boot_isinstance (pa_cons (pv 0) (pa_cons (pe_bltn (v := .ty "bool") (by rfl) T.bool boot_bool rfl) pa_nil))) (pe_one (pe_cmpR op_eq (pv 0) (pv 1) (nomark _)))))), ?_⟩
    refine ⟨_, rfl, _, _, _, _, true, rfl, ClsV.ty _, .base (.bl a), kit_ty (by decide +kernel), true, rfl, ?_⟩
    refine iteT ?_
    refine ⟨_, rfl, _, rfl, rfl, ?_⟩
    have e : decide (V.bl a = V.bl b) = decide (a = b) := by
      by_cases h : a = b
      · rw [h]; simp
      · rw [decide_eq_false h, decide_eq_false fun z => h (V.bl.inj z)]
    show Q (.bl (decide (V.bl a = V.bl b))) H
    rw [e]
    exact k
theorem sc_law_root_up : FnScope ["n", "low", "high", "k", "middle"] ["n"] (defScope s_law_root_up) := ⟨rfl, rfl, rfl, by decide +kernel, rfl, by decide +kernel, by decide +kernel⟩
theorem ok_law_root_up {f : Addr} {fd : FuncData} (F : Fun K "_law_root_up" "_law_root_up" s_law_root_up f fd) (T : TxtA mg) : FnOk P w K mg base CX0 1 f fd ["n"] (spRootR) := by
  refine F.ok sc_law_root_up (fun vs H Q E h => ?_) (fun cdv A outer s H vs Q E hr h => ?_)
  · obtain ⟨n, rfl, _⟩ := h
    rfl
  · obtain ⟨n, rfl, hn0, hn1, k⟩ := h
    refine ⟨_, (pss_cons (ps_set (i := 1) sc_law_root_up.nd rfl (Or.inl rfl) pe_int)
    (pss_cons (ps_set (i := 2) sc_law_root_up.nd rfl (Or.inl rfl) (pe_op op_pow pe_int pe_int))
    (pss_cons (ps_for PassesOwn.never rfl (pi_range1 (by rfl) T.range (pa_cons pe_int pa_nil)) (pg_name (i := 3) sc_law_root_up.nd rfl (Or.inl rfl))
      (pss_cons (ps_set (i := 4) sc_law_root_up.nd rfl (Or.inl rfl) (pe_op op_fdivW (pe_op op_add (pv 1) (pv 2)) pe_int))
    (pss_one (ps_if (pt_cmpR op_ge (pe_op op_mul (pv 4) (pv 4)) (pv 0) (nomark _)) (pss_one (ps_set (i := 2) sc_law_root_up.nd rfl (Or.inl rfl) (pv 4)))
      (pss_one (ps_set (i := 1) sc_law_root_up.nd rfl (Or.inl rfl) (pe_op op_add (pv 4) pe_int)))))))
    (pss_one (ps_ret (pv 2)))))), ?_⟩
    refine ⟨_, _, rfl, rfl, ⟨by decide, by decide, by decide⟩, ?_⟩
    refine ⟨_, rfl, by decide, by decide, for_range (n := 24) (fun i σ H2 => ∃ lw hg v3 v4, σ = [some (.int n), some (.int lw), some (.int hg), v3, v4] ∧ 0 ≤ lw ∧ lw ≤ hg ∧ hg ≤ 10000000 ∧ hg - lw < pw i ∧ n ≤ hg * hg ∧ (lw = 0 ∨ (lw - 1) * (lw - 1) < n) ∧ H2 = H) ⟨0, 10000000, none, none, rfl, by omega, by omega, by omega, by decide, by omega, .inl rfl, rfl⟩ ?_ ?_⟩
    · rintro i σ H2 hi ⟨lw, hg, v3, v4, rfl, l0, l1, h0, hw, hu', hl', rfl⟩
      have hp := pw_step hi
      refine ⟨_, rfl, _, rfl, _, _, rfl, rfl, _, _, rfl, rfl, log_of (by decide) (by decide), ?_⟩
      refine ⟨_, rfl, _, rfl, _, _, rfl, rfl, .inl ⟨by omega, by omega⟩, _, rfl, _, _, rfl, rfl, _, rfl, ite2 (fun e => ?_) (fun e => ?_)⟩
      · have e := of_decide_eq_true e
        refine ⟨_, rfl, lw, (lw + hg) / 2, _, _, rfl, by omega, by omega, by omega, by omega, e, hl', rfl⟩
      · have e : ¬ n ≤ (lw + hg) / 2 * ((lw + hg) / 2) := fun z => e (decide_eq_true z)
        have hlt : (lw + hg) / 2 < hg := by
          rcases ltge ((lw + hg) / 2) hg with w | w
          · exact w
          · have := mono_sq (show 0 ≤ hg by omega) w
            omega
        refine ⟨_, rfl, _, _, rfl, rfl, (lw + hg) / 2 + 1, hg, _, _, rfl, by omega, by omega, by omega, by omega, hu', .inr ?_, rfl⟩
        rw [show (lw + hg) / 2 + 1 - 1 = (lw + hg) / 2 by omega]
        omega
    · rintro σ H2 ⟨lw, hg, v3, v4, rfl, l0, l1, h0, hw, hu', hl', rfl⟩
      have hp : pw 24 = 1 := by decide
      have hq : IsRt n hg := ⟨by omega, hu', by rw [show hg = lw by omega]; exact hl'⟩
      refine ⟨_, rfl, ?_⟩
      show Q (.int hg) H2
      rw [hq.eq (rt_is hn0)]
      exact k
theorem sc_law_names : FnScope ["state", "many", "shift", "names", "k", "letter"] ["state", "many"] (defScope s_law_names) := ⟨rfl, rfl, rfl, by decide +kernel, rfl, by decide +kernel, by decide +kernel⟩
theorem ok_law_names {f : Addr} {fd : FuncData} (F : Fun K "_law_names" "_law_names" s_law_names f fd) (T : TxtA mg)
    (D_law_draw : Def P w K mg base 1 "_law_draw" ["state", "bound"] (spDraw K))
    (D_law_pick : Def P w K mg base 2 "_law_pick" ["state", "things"] (spPick K)) : FnOk P w K mg base CX0 3 f fd ["state", "many"] (spNames K) := by
  refine F.ok sc_law_names (fun vs H Q E h => ?_) (fun cdv A outer s H vs Q E hr h => ?_)
  · obtain ⟨_, _, _, rfl, _⟩ := h
    rfl
  · obtain ⟨d, c, m, rfl, S, m0, m1, k⟩ := h
    refine ⟨_, (pss_cons (ps_set (i := 2) sc_law_names.nd rfl (Or.inl rfl) (pe_def D_law_draw (hr.mono (by decide)) (by rfl) (pa_cons (pv 0) (pa_cons pe_int pa_nil))))
    (pss_cons (ps_set (i := 3) sc_law_names.nd rfl (Or.inl rfl) (pe_lst pa_nil))
    (pss_cons (ps_for PassesOwn.never rfl (pi_range1 (by rfl) T.range (pa_cons (pv 1) pa_nil)) (pg_name (i := 4) sc_law_names.nd rfl (Or.inl rfl))
      (pss_cons (ps_set (i := 5) sc_law_names.nd rfl (Or.inl rfl) (pe_ix ix_str pe_str (pe_op op_mod (pe_callTy call_int1 (by rfl) T.int boot_int (pa_cons (pe_op op_add (pv 4) (pv 2)) pa_nil)) pe_int) (fun _ _ => rfl)))
    (pss_one (ps_expr (pe_bm PySem.F.plainAttrs_list PySem.F.slot_list_append PySem.F.type_list_append mt_append (pv 3) (pa_cons (pe_op op_add_str (pv 5) (pe_def D_law_pick (hr.mono (by decide)) (by rfl) (pa_cons (pv 0) (pa_cons (pe_lst (pa_cons pe_str (pa_cons pe_str (pa_cons pe_str (pa_cons pe_str (pa_cons pe_str (pa_cons pe_str pa_nil))))))) pa_nil)))) pa_nil))))))
    (pss_one (ps_ret (pv 3)))))), ?_⟩
    refine ⟨_, rfl, d, c, _, rfl, S, (by omega), (by omega), fun x1 H1 x1a x1b S1 kp1 => ?_⟩
    refine ⟨szOk rfl, fun p2 hp2 => ?_⟩
    have npd : p2 ≠ d := S1.nd hp2
    have npc : p2 ≠ c := S1.nc hp2
    refine ⟨_, rfl, _, rfl, by omega, by omega, for_range (n := m.toNat) (fun i σ H2 => ∃ (ns : List Str) (v4 v5 : Option V), σ = [some (.ref d), some (.int m), some (.int x1), some (.ref p2), v4, v5] ∧ St1 K H2 d c ∧ H2 p2 = some (.lst (ns.map V.str)) ∧ ns.length = i ∧ (∀ n ∈ ns, sOk n) ∧ Let1 ns x1 ∧ ∀ b o, H b = some o → b ≠ d → H2 b = some o)
      ⟨[], none, none, rfl, (S1.new hp2), upd_same, rfl, (fun _ h => nomatch h), (fun j h => absurd h (Nat.not_lt_zero j)), fun b o e nb => same_new hp2 _ _ (kp1 b o e nb)⟩ ?_ ?_⟩
    · rintro i σ H2 hi ⟨ns, v4, v5, rfl, S0, hL, hlen, hok, hlet, hk⟩
      have nHp : H p2 = none := by
        cases e : H p2 with
        | none => rfl
        | some o => rw [kp1 _ _ e npd] at hp2; cases hp2
      obtain ⟨c1, hc1, hc2⟩ : ∃ c1, atI ("QXAMBZKCTDRE" : Str).cps.toList ((0 + (i : Int) + x1) % 12) = some c1 ∧ c1 < 1114112 := by
        obtain ⟨j, hj⟩ : ∃ j : Nat, (0 + (i : Int) + x1) % 12 = (j : Int) := ⟨((0 + (i : Int) + x1) % 12).toNat, by omega⟩
        rw [hj]
        have hj2 : j < 12 := by omega
        have hall : ∀ c ∈ ("QXAMBZKCTDRE" : Str).cps.toList, c < 1114112 := by decide +kernel
        exact ⟨_, atI_nat (List.getElem?_eq_getElem (by show j < 12; exact hj2)), hall _ (List.getElem_mem _)⟩
      refine ⟨_, rfl, _, rfl, _, _, rfl, rfl, .inl ⟨_, rfl, _, _, rfl, rfl, (by show (0:Int) < 12; decide), _, _, _, rfl, rfl, (by show 12 ≤ sizeLine; decide), hc1, ?_⟩⟩
      refine ⟨_, rfl, (.inl ⟨rfl, _, .inl (.inl hL)⟩), _, rfl, _, rfl, szOk rfl, fun p3 hp3 => ?_⟩
      refine ⟨d, c, _, _, rfl, (S0.new hp3), .inl (.inl upd_same), (fun z => nomatch z), (by show 6 ≤ 1000; decide), fun v4 H4 hv4 S4 kp4 => ?_⟩
      have hL := kp4.l (S0.new hp3) (same_new hp3 _ _ hL)
      obtain ⟨z4, rfl, hz4, hzk4⟩ : ∃ z : Str, v4 = .str z ∧ z.length ≤ 4 ∧ sOk z := by
        simp only [List.mem_cons, List.not_mem_nil, or_false] at hv4
        rcases hv4 with rfl | rfl | rfl | rfl | rfl | rfl <;> exact ⟨_, rfl, by decide +kernel, by decide +kernel⟩
      refine ⟨_, _, rfl, rfl, Nat.le_trans (Nat.add_le_add (show (1 : Nat) ≤ 1 from Nat.le_refl 1) hz4) (by decide), ?_⟩
      refine ⟨_, _, _, rfl, rfl, hL, (by rw [List.length_map]; exact small1000 (by omega)), ?_⟩
      refine ⟨ns ++ [⟨#[c1]⟩ ++ z4], _, _, rfl, St1.put S4 npd npc, by rw [upd_same, List.map_append]; rfl, by rw [List.length_append, hlen]; rfl, fun n hn => ?_, fun j hj => ?_, fun b o e nb => ?_⟩
      · rcases List.mem_append.mp hn with h | h
        · exact hok n h
        · rw [List.mem_singleton.mp h]
          exact sOk_app (by show PySem.PyData.strOk ⟨#[c1]⟩ = true; simp [PySem.PyData.strOk, hc2]) hzk4
      · rw [List.length_append, List.length_singleton] at hj
        by_cases ej : j < ns.length
        · obtain ⟨c, y1, y2⟩ := hlet j ej
          exact ⟨c, by rw [List.getElem_append_left ej]; exact y1, y2⟩
        · have ej2 : j = i := by omega
          subst ej2
          refine ⟨c1, ?_, by rw [← Int.zero_add (j : Int)]; exact hc1⟩
          rw [List.getElem_append_right (by omega)]
          simp only [hlen, Nat.sub_self, List.getElem_cons_zero]
          show ((#[c1] ++ z4.cps : Array Nat).toList).head? = some c1
          rw [Array.toList_append]
          rfl
      rw [upd_ne (fun z => by rw [z, nHp] at e; cases e)]
      exact kp4 _ _ (same_new hp3 _ _ (hk b o e nb)) nb
    · rintro σ H2 ⟨ns, v4, v5, rfl, S0, hL, hlen, hok, hlet, hk⟩
      have nHp : H p2 = none := by
        cases e : H p2 with
        | none => rfl
        | some o => rw [kp1 _ _ e npd] at hp2; cases hp2
      refine ⟨_, rfl, k ns p2 H2 (by omega) hok (let_nodup hlet (by omega)) nHp hL S0 fun b o e nb => hk b o e nb⟩
theorem sc_law_legs : FnScope ["state", "names", "legs", "many", "k", "j", "other", "levels", "leg"] ["state", "names"] (defScope s_law_legs) := ⟨rfl, rfl, rfl, by decide +kernel, rfl, by decide +kernel, by decide +kernel⟩
theorem ok_law_legs {f : Addr} {fd : FuncData} (F : Fun K "_law_legs" "_law_legs" s_law_legs f fd) (T : TxtA mg)
    (D_law_draw : Def P w K mg base 1 "_law_draw" ["state", "bound"] (spDraw K))
    (D_law_pick : Def P w K mg base 2 "_law_pick" ["state", "things"] (spPick K)) : FnOk P w K mg base CX0 3 f fd ["state", "names"] (spLegs K) := by
  refine F.ok sc_law_legs (fun vs H Q E h => ?_) (fun cdv A outer s H vs Q E hr h => ?_)
  · obtain ⟨_, _, _, _, rfl, _⟩ := h
    rfl
  · obtain ⟨d, c, l, ns, rfl, S, hN, n2, n12, k⟩ := h
    refine ⟨_, (pss_cons (ps_set (i := 2) sc_law_legs.nd rfl (Or.inl rfl) (pe_lst pa_nil))
    (pss_cons (ps_set (i := 3) sc_law_legs.nd rfl (Or.inl rfl) (pe_callB (r := rLenK K) call_len_seq (by rfl) T.len boot_len (pa_cons (pv 1) pa_nil)))
    (pss_cons (ps_for PassesOwn.never rfl (pi_range1 (by rfl) T.range (pa_cons (pv 3) pa_nil)) (pg_name (i := 4) sc_law_legs.nd rfl (Or.inr rfl))
      (pss_one (ps_for PassesOwn.never rfl (pi_range1 (by rfl) T.range (pa_cons (pe_def D_law_pick (hr.mono (by decide)) (by rfl) (pa_cons (pv 0) (pa_cons (pe_lst (pa_cons pe_int (pa_cons pe_int (pa_cons pe_int (pa_cons pe_int (pa_cons pe_int pa_nil)))))) pa_nil))) pa_nil)) (pg_name (i := 5) sc_law_legs.nd rfl (Or.inl rfl))
      (pss_cons (ps_set (i := 6) sc_law_legs.nd rfl (Or.inr rfl) (pe_ix (r := rIxL K) ix_list (pv 1) (pe_op op_mod (pe_callTy call_int1 (by rfl) T.int boot_int (pa_cons (pe_op op_add (pe_op op_add (pv 4) pe_int) (pe_def D_law_draw (hr.mono (by decide)) (by rfl) (pa_cons (pv 0) (pa_cons (pe_op op_sub (pv 3) pe_int) pa_nil)))) pa_nil)) (pv 3)) (fun _ _ => rfl)))
    (pss_one (ps_if (pt_not (pt_val (pe_callB (cr_any rfl) (by rfl) T.any boot_any (pa_cons (pe_lc (own := [("leg", 8)]) (g := gName 8) (by rfl) sc_law_legs.nd (pi_list (pv 2)) (blkOk_by (own := [("leg", 8)]) (N := ["state", "names", "legs", "many", "k", "j", "other", "levels", "leg"]) (sc := defScope s_law_legs) (by decide +kernel)) (fun _ _ _ _ _ => (pg_name (i := 8) sc_law_legs.nd rfl (Or.inl rfl))) (fun _ _ _ _ _ => pts_nil) (fun _ _ _ _ _ => (pe_and (pe_cmpR op_eq (pe_ix (r := rIxT K) ix_tup (pv 8) pe_int (fun _ _ => rfl)) (pe_ix (r := rIxL K) ix_list (pv 1) (pv 4) (fun _ _ => rfl)) (nomark _)) (pe_one (pe_cmpR op_eq (pe_ix (r := rIxT K) ix_tup (pv 8) pe_int (fun _ _ => rfl)) (pv 6) (nomark _)))))) pa_nil)))) (pss_cons (ps_set (i := 7) sc_law_legs.nd rfl (Or.inl rfl) (pe_def D_law_pick (hr.mono (by decide)) (by rfl) (pa_cons (pv 0) (pa_cons (pe_lst (pa_cons (pe_tup (pa_cons pe_int (pa_cons pe_int pa_nil))) (pa_cons (pe_tup (pa_cons pe_int (pa_cons pe_int pa_nil))) (pa_cons (pe_tup (pa_cons pe_int (pa_cons pe_int pa_nil))) (pa_cons (pe_tup (pa_cons pe_int (pa_cons pe_int pa_nil))) (pa_cons (pe_tup (pa_cons pe_int (pa_cons pe_int pa_nil))) pa_nil)))))) pa_nil))))
    (pss_one (ps_expr (pe_bm PySem.F.plainAttrs_list PySem.F.slot_list_append PySem.F.type_list_append mt_append (pv 2) (pa_cons (pe_tup (pa_cons (pe_ix (r := rIxL K) ix_list (pv 1) (pv 4) (fun _ _ => rfl)) (pa_cons (pv 6) (pa_cons (pe_def D_law_pick (hr.mono (by decide)) (by rfl) (pa_cons (pv 0) (pa_cons (pe_lst (pa_cons pe_str (pa_cons pe_str (pa_cons pe_str pa_nil)))) pa_nil))) (pa_cons (pe_ix (r := rIxT K) ix_tup (pv 7) pe_int (fun _ _ => rfl)) (pa_cons (pe_ix (r := rIxT K) ix_tup (pv 7) pe_int (fun _ _ => rfl)) pa_nil)))))) pa_nil)))))
      pss_nil))))))
    (pss_one (ps_ret (pv 2)))))), ?_⟩
    refine ⟨szOk rfl, fun p1 hp1 => ?_⟩
    refine ⟨_, rfl, _, _, rfl, (.inl (.inl (.inl (same_new hp1 _ _ hN)))), ?_⟩
    have npd : p1 ≠ d := S.nd hp1
    have npc : p1 ≠ c := S.nc hp1
    have npl : l ≠ p1 := ne_of_none hN hp1
    have nHp : H p1 = none := hp1
    refine ⟨_, rfl, _, rfl, by rw [List.length_map]; omega, by rw [List.length_map]; omega, for_range (n := ((ns.map V.str).length : Int).toNat) (fun i σ H2 => ∃ (ls : List Lg) (v_k v_j v_other v_levels v_leg : Option V), σ = [some (.ref d), some (.ref l), some (.ref p1), some (.int (ns.length : Int)), v_k, v_j, v_other, v_levels, v_leg] ∧ St1 K H2 d c ∧ H2 l = some (.lst (ns.map V.str)) ∧ LegsAt H2 p1 ns ls ∧ ls.length ≤ 3 * i ∧ Keep d H H2)
      ⟨[], none, none, none, none, none, by rw [List.length_map]; rfl, (S.new hp1), (same_new hp1 _ _ hN), ⟨upd_same, (fun _ h => nomatch h), (fun _ h => nomatch h), (fun _ h => nomatch h), fun _ _ h => nomatch h⟩, Nat.le_refl _, Keep.of (same_new hp1)⟩ ?_ ?_⟩
    · rintro i σ H2 hi ⟨ls, v_k, v_j, v_other, v_levels, v_leg, rfl, S0, hN, hL, hlen, hk⟩
      have hik : i < ns.length := by rw [List.length_map] at hi; omega
      refine ⟨_, rfl, szOk rfl, fun p2 hp2 => ?_⟩
      refine ⟨d, c, _, _, rfl, (S0.new hp2), .inl (.inl upd_same), (fun z => nomatch z), (by show 5 ≤ 1000; decide), fun v3 H3 hv3 S3 kp3 => ?_⟩
      have hN := kp3.l (S0.new hp2) (same_new hp2 _ _ hN)
      have hL := (hL.same (same_new hp2)).keep (S0.new hp2) kp3
      obtain ⟨x3, rfl, x3a, x3b⟩ : ∃ z : Int, v3 = .int z ∧ 0 ≤ z ∧ z ≤ 3 := by
        simp only [List.mem_cons, List.not_mem_nil, or_false] at hv3
        rcases hv3 with rfl | rfl | rfl | rfl | rfl <;> exact ⟨_, rfl, by decide, by decide⟩
      refine ⟨_, rfl, by omega, by omega, for_range (n := x3.toNat) (fun j σ H2 => ∃ (ls : List Lg) (v_j v_other v_levels v_leg : Option V), σ = [some (.ref d), some (.ref l), some (.ref p1), some (.int (ns.length : Int)), some (.int (0 + (i : Int))), v_j, v_other, v_levels, v_leg] ∧ St1 K H2 d c ∧ H2 l = some (.lst (ns.map V.str)) ∧ LegsAt H2 p1 ns ls ∧ ls.length ≤ 3 * i + j ∧ Keep d H H2)
        ⟨ls, _, _, _, _, rfl, S3, hN, hL, by omega, hk.trans ((Keep.of (same_new hp2)).trans kp3)⟩ ?_ ?_⟩
      · rintro j σ H2 hj ⟨ls, v_j, v_other, v_levels, v_leg, rfl, S0, hN, hL, hlen, hk⟩
        refine ⟨_, rfl, _, rfl, _, _, rfl, rfl, _, rfl, _, rfl, _, _, rfl, rfl, d, c, _, rfl, S0, (by omega), (by omega), fun x4 H4 x4a x4b S4 kp4 => ?_⟩
        have hN := kp4.l S0 hN
        have hL := hL.keep S0 kp4
        obtain ⟨oj, hoj, hoe, hat⟩ := at_mod2 (f := V.str) (ns := ns) (z := 0 + (i : Int) + 1 + x4) (m := (ns.length : Int)) rfl (by omega)
        have hone : ns.Nodup → ns[i] ≠ ns[oj] := fun nd => nodup_ne nd hik hoj (mod_ne (by omega) x4a x4b hoe)
        have hoth : ns[oj] ∈ ns := List.getElem_mem hoj
        generalize ns[oj] = oth at hat hone hoth
        refine ⟨_, _, rfl, rfl, .inl ⟨_, rfl, _, rfl, _, _, rfl, rfl, (by show 0 < (ns.length : Int); omega), _, _, _, _, rfl, rfl, .inl (.inl hN), hat, ?_⟩⟩
        refine ⟨_, rfl, p1, rfl, ⟨_, .inl (.inl hL.li)⟩, fun D hD => ?_⟩
        refine lc_list (K := K) (a := p1) (xs := ls.map fun l => V.ref l.a) (fun u H' => ∃ bs : List Bool, H' = upd H4 D (.lst (bs.map V.bl)) ∧ bs.length = u) ⟨[], rfl, rfl⟩ (fun u H' _ ⟨_, e, _⟩ => .inl (.inl (by rw [e, upd_ne (ne_of_none hL.li hD)]; exact hL.li))) ?_ ?_
        · rintro u y H' hu1 ⟨bs, rfl, hbs⟩
          obtain ⟨q, rfl, hq, hul, _⟩ := getMap hu1
          have ht := same_new (o := .lst (bs.map V.bl)) hD _ _ (hL.tu q hq)
          have hN2 := same_new (o := .lst (bs.map V.bl)) hD _ _ hN
          refine ⟨rfl, ?_⟩
          refine ⟨_, rfl, _, _, _, .str q.s, rfl, rfl, .inl (.inl ht), rfl, _, rfl, _, rfl, _, _, _, _, rfl, rfl, .inl (.inl hN2), atI0 (mapAt hik), rfl, _, rfl, ite2 (fun e1 => ?_) (fun e1 => ?_)⟩
          · refine ⟨_, rfl, _, _, _, .str q.e, rfl, rfl, .inl (.inl ht), rfl, _, rfl, rfl, _, upd_same, (by rw [List.length_map]; exact small1000 (by omega)), bs ++ [decide (V.str q.e = V.str oth)], ?_, by rw [List.length_append, hbs]; rfl⟩
            rw [upd_upd, List.map_append]
            rfl
          · refine ⟨_, upd_same, (by rw [List.length_map]; exact small1000 (by omega)), bs ++ [false], ?_, by rw [List.length_append, hbs]; rfl⟩
            rw [upd_upd, List.map_append]
            rfl
        rintro H' ⟨bs, rfl, hbs⟩
        refine ⟨D, bs, rfl, .inl (.inl upd_same), _, rfl, ?_⟩
        have hk1 : Keep d H (upd H4 D (.lst (bs.map V.bl))) := (hk.trans kp4).trans (Keep.of (same_new hD))
        have S1 := S4.new (o := .lst (bs.map V.bl)) hD
        have hN1 := same_new (o := .lst (bs.map V.bl)) hD _ _ hN
        have hL1 := hL.same (same_new (o := .lst (bs.map V.bl)) hD)
        generalize upd H4 D (.lst (bs.map V.bl)) = Hb at hk1 S1 hN1 hL1 ⊢
        cases hb : bs.any id with
        | true => exact ⟨ls, _, _, _, _, rfl, S1, hN1, hL1, by omega, hk1⟩
        | false =>
          refine ⟨_, rfl, szOk rfl, fun p5 hp5 => ?_⟩
          refine ⟨szOk rfl, fun p6 hp6 => ?_⟩
          refine ⟨szOk rfl, fun p7 hp7 => ?_⟩
          refine ⟨szOk rfl, fun p8 hp8 => ?_⟩
          refine ⟨szOk rfl, fun p9 hp9 => ?_⟩
          refine ⟨szOk rfl, fun p10 hp10 => ?_⟩
          refine ⟨d, c, _, _, rfl, ((((((S1.new hp5).new hp6).new hp7).new hp8).new hp9).new hp10), .inl (.inl upd_same), (fun z => nomatch z), (by show 5 ≤ 1000; decide), fun v11 H11 hv11 S11 kp11 => ?_⟩
          obtain ⟨lv, lo', hi', rfl, hlv⟩ : ∃ a lo' hi', v11 = .ref a ∧ H11 a = some (.tup [.int lo', .int hi']) := by
            simp only [List.mem_cons, List.not_mem_nil, or_false] at hv11
            rcases hv11 with rfl | rfl | rfl | rfl | rfl
            · exact ⟨_, _, _, rfl, kp11.t ((((((S1.new hp5).new hp6).new hp7).new hp8).new hp9).new hp10) (same_new hp10 _ _ (same_new hp9 _ _ (same_new hp8 _ _ (same_new hp7 _ _ (same_new hp6 _ _ upd_same)))))⟩
            · exact ⟨_, _, _, rfl, kp11.t ((((((S1.new hp5).new hp6).new hp7).new hp8).new hp9).new hp10) (same_new hp10 _ _ (same_new hp9 _ _ (same_new hp8 _ _ (same_new hp7 _ _ upd_same))))⟩
            · exact ⟨_, _, _, rfl, kp11.t ((((((S1.new hp5).new hp6).new hp7).new hp8).new hp9).new hp10) (same_new hp10 _ _ (same_new hp9 _ _ (same_new hp8 _ _ upd_same)))⟩
            · exact ⟨_, _, _, rfl, kp11.t ((((((S1.new hp5).new hp6).new hp7).new hp8).new hp9).new hp10) (same_new hp10 _ _ (same_new hp9 _ _ upd_same))⟩
            · exact ⟨_, _, _, rfl, kp11.t ((((((S1.new hp5).new hp6).new hp7).new hp8).new hp9).new hp10) (same_new hp10 _ _ upd_same)⟩
          have hN1 := kp11.l ((((((S1.new hp5).new hp6).new hp7).new hp8).new hp9).new hp10) (same_new hp10 _ _ (same_new hp9 _ _ (same_new hp8 _ _ (same_new hp7 _ _ (same_new hp6 _ _ (same_new hp5 _ _ hN1))))))
          have hL1 := ((((((hL1.same (same_new hp5)).same (same_new hp6)).same (same_new hp7)).same (same_new hp8)).same (same_new hp9)).same (same_new hp10)).keep ((((((S1.new hp5).new hp6).new hp7).new hp8).new hp9).new hp10) kp11
          have hk2 : Keep d H H11 := ((((((hk1.trans (Keep.of (same_new hp5))).trans (Keep.of (same_new hp6))).trans (Keep.of (same_new hp7))).trans (Keep.of (same_new hp8))).trans (Keep.of (same_new hp9))).trans (Keep.of (same_new hp10))).trans kp11
          refine ⟨_, rfl, (.inl ⟨rfl, _, .inl (.inl hL1.li)⟩), _, rfl, _, rfl, _, _, _, _, rfl, rfl, (.inl (.inl hN1)), (atI0 (mapAt hik)), _, rfl, _, rfl, szOk rfl, fun p12 hp12 => ?_⟩
          refine ⟨d, c, _, _, rfl, (S11.new hp12), .inl (.inl upd_same), (fun z => nomatch z), (by show 3 ≤ 1000; decide), fun v13 H13 hv13 S13 kp13 => ?_⟩
          have hN1 := kp13.l (S11.new hp12) (same_new hp12 _ _ hN1)
          have hL1 := (hL1.same (same_new hp12)).keep (S11.new hp12) kp13
          have hlv := kp13.t (S11.new hp12) (same_new hp12 _ _ hlv)
          obtain ⟨sec, rfl, hsec⟩ : ∃ z : Str, v13 = .str z ∧ sOk z := by
            simp only [List.mem_cons, List.not_mem_nil, or_false] at hv13
            rcases hv13 with rfl | rfl | rfl <;> exact ⟨_, rfl, by decide +kernel⟩
          refine ⟨_, rfl, _, _, _, _, rfl, rfl, (.inl (.inl hlv)), rfl, _, rfl, _, _, _, _, rfl, rfl, (.inl (.inl hlv)), rfl, szOk rfl, fun p14 hp14 => ?_⟩
          refine ⟨_, _, _, rfl, rfl, (hL1.same (same_new hp14)).li, (by rw [List.length_map]; exact small1000 (by omega)), ?_⟩
          have hk3 : Keep d H (upd H13 p14 (.tup (Lg.v (Lg.mk p14 ns[i] oth sec lo' hi')))) := ((hk2.trans (Keep.of (same_new hp12))).trans kp13).trans (Keep.of (same_new hp14))
          refine ⟨ls ++ [(Lg.mk p14 ns[i] oth sec lo' hi')], _, _, _, _, rfl, St1.put (S13.new hp14) npd npc, by rw [upd_ne npl]; exact (same_new hp14 _ _ hN1), LegsAt.snoc (q := (Lg.mk p14 ns[i] oth sec lo' hi')) (hL1.same (same_new hp14)) upd_same (List.getElem_mem hik) hoth hsec hone, by rw [List.length_append, List.length_singleton]; omega, fun b o e nb => ?_⟩
          rw [upd_ne (fun z => by rw [z, nHp] at e; cases e)]
          exact hk3 b o e nb
      · rintro σ H2 ⟨ls, v_j, v_other, v_levels, v_leg, rfl, S0, hN, hL, hlen, hk⟩
        exact ⟨ls, _, _, _, _, _, rfl, S0, hN, hL, by omega, hk⟩
    · rintro σ H2 ⟨ls, v_k, v_j, v_other, v_levels, v_leg, rfl, S0, hN, hL, hlen, hk⟩
      refine ⟨_, rfl, k ls p1 H2 hL ?_ nHp S0 hk⟩
      have : ((ns.map V.str).length : Int).toNat = ns.length := by rw [List.length_map]; omega
      omega
theorem sc_law_chart : FnScope ["state", "many", "size", "names", "fixes", "k", "legs", "holds", "leg", "back", "runways", "chart", "name", "other"] ["state", "many", "size"] (defScope s_law_chart) := ⟨rfl, rfl, rfl, by decide +kernel, rfl, by decide +kernel, by decide +kernel⟩
theorem ok_law_chart {f : Addr} {fd : FuncData} (F : Fun K "_law_chart" "_law_chart" s_law_chart f fd) (T : TxtA mg)
    (D_law_draw : Def P w K mg base 1 "_law_draw" ["state", "bound"] (spDraw K))
    (D_law_names : Def P w K mg base 3 "_law_names" ["state", "many"] (spNames K))
    (D_law_legs : Def P w K mg base 3 "_law_legs" ["state", "names"] (spLegs K)) : FnOk P w K mg base CX0 4 f fd ["state", "many", "size"] (spChartB K) := by
  refine F.ok sc_law_chart (fun vs H Q E h => ?_) (fun cdv A outer s H vs Q E hr h => ?_)
  · obtain ⟨_, _, _, _, rfl, _⟩ := h
    rfl
  · obtain ⟨d, c, m, z, rfl, S, m0, m1, z0, z1, k⟩ := h
    have hu := hu_of hr
    refine ⟨_, (pss_cons (ps_set (i := 3) sc_law_chart.nd rfl (Or.inl rfl) (pe_def D_law_names (hr.mono (by decide)) (by rfl) (pa_cons (pv 0) (pa_cons (pv 1) pa_nil))))
    (pss_cons (ps_set (i := 4) sc_law_chart.nd rfl (Or.inl rfl) pe_dnewK)
    (pss_cons (ps_for PassesOwn.never rfl (pi_range1 (by rfl) T.range (pa_cons (pv 1) pa_nil)) (pg_name (i := 5) sc_law_chart.nd rfl (Or.inl rfl))
      (pss_one (ps_dput hu (pv 4) (pe_ix (r := rIxL K) ix_list (pv 3) (pv 5) (fun _ _ => rfl)) (pe_tup (pa_cons (pe_op op_sub (pe_def D_law_draw (hr.mono (by decide)) (by rfl) (pa_cons (pv 0) (pa_cons (pe_op op_add (pe_op op_mul pe_int (pv 2)) pe_int) pa_nil))) (pv 2)) (pa_cons (pe_op op_add (pe_op op_mul (pv 1) (pe_op op_sub (pe_def D_law_draw (hr.mono (by decide)) (by rfl) (pa_cons (pv 0) (pa_cons (pe_op op_add (pe_op op_mul pe_int (pv 2)) pe_int) pa_nil))) (pv 2))) (pv 5)) pa_nil))) rfl)))
    (pss_cons (ps_set (i := 6) sc_law_chart.nd rfl (Or.inl rfl) (pe_def D_law_legs (hr.mono (by decide)) (by rfl) (pa_cons (pv 0) (pa_cons (pv 3) pa_nil))))
    (pss_cons (ps_set (i := 7) sc_law_chart.nd rfl (Or.inl rfl) pe_dnewK)
    (pss_cons (ps_for PassesOwn.never rfl (pi_list (pv 6)) (pg_name (i := 8) sc_law_chart.nd rfl (Or.inr rfl))
      (pss_cons (ps_setLc (i := 9) (own := [("other", 13)]) (g := gName 13) (by rfl) sc_law_chart.nd rfl rfl (sw_true rfl rfl rfl (by decide +kernel)) (pi_list (pv 6)) (blkOk_by (own := [("other", 13)]) (N := ["state", "many", "size", "names", "fixes", "k", "legs", "holds", "leg", "back", "runways", "chart", "name", "other"]) (sc := defScope s_law_chart) (by decide +kernel)) (fun _ _ _ _ _ => (pg_name (i := 13) sc_law_chart.nd rfl (Or.inl rfl))) (fun _ _ _ _ _ => pts_one (PW.pt (pw_and (pt_cmpR op_eq (pe_ix (r := rIxT K) ix_tup (pv 13) pe_int (fun _ _ => rfl)) (pe_ix (r := rIxT K) ix_tup (pv 8) pe_int (fun _ _ => rfl)) (nomark _)) (pw_and1 (pt_cmpR op_eq (pe_ix (r := rIxT K) ix_tup (pv 13) pe_int (fun _ _ => rfl)) (pe_ix (r := rIxT K) ix_tup (pv 8) pe_int (fun _ _ => rfl)) (nomark _)))))) (fun _ _ _ _ _ => (pv 13)))
    (pss_one (ps_if (PW.pt (pw_and (pt_cmpR op_gt (pe_callB (r := rLenK K) call_len_seq (by rfl) T.len boot_len (pa_cons (pv 9) pa_nil)) pe_int (nomark _)) (pw_and1 (pt_cmpR op_eq (pe_def D_law_draw (hr.mono (by decide)) (by rfl) (pa_cons (pv 0) (pa_cons pe_int pa_nil))) pe_int (nomark _))))) (pss_one (ps_dput hu (pv 7) (pe_ix (r := rIxT K) ix_tup (pv 8) pe_int (fun _ _ => rfl)) (pe_ix (r := rIxT K) ix_tup (pv 8) pe_int (fun _ _ => rfl)) rfl))
      pss_nil))))
    (pss_cons (ps_setLc (i := 10) (own := [("name", 12)]) (g := gName 12) (by rfl) sc_law_chart.nd rfl rfl (sw_true rfl rfl rfl (by decide +kernel)) (pi_list (pv 3)) (blkOk_by (own := [("name", 12)]) (N := ["state", "many", "size", "names", "fixes", "k", "legs", "holds", "leg", "back", "runways", "chart", "name", "other"]) (sc := defScope s_law_chart) (by decide +kernel)) (fun _ _ _ _ _ => (pg_name (i := 12) sc_law_chart.nd rfl (Or.inl rfl))) (fun _ _ _ _ _ => pts_one (pt_cmpR op_eq (pe_def D_law_draw (hr.mono (by decide)) (by rfl) (pa_cons (pv 0) (pa_cons pe_int pa_nil))) pe_int (nomark _))) (fun _ _ _ _ _ => (pv 12)))
    (pss_cons (ps_set (i := 11) sc_law_chart.nd rfl (Or.inl rfl) (pe_disp (pps_cons pe_str (pv 4) (pps_cons pe_str (pv 6) (pps_cons pe_str (pe_lst pa_nil) (pps_cons pe_str (pe_slice sl_list (pv 10) po_none (po_some pe_int)) (pps_cons pe_str (pv 7) pps_nil))))) (by rfl) (by rfl) (fun z => by cases z) (by decide)))
    (pss_cons (ps_dput hu (pv 11) pe_str (pe_lst pa_nil) rfl)
    (pss_cons (ps_dput hu (pv 11) pe_str pe_dnewK rfl)
    (pss_one (ps_ret (pv 11))))))))))))), ?_⟩
    refine ⟨_, rfl, _, rfl, d, c, m, rfl, S, by omega, by omega, fun ns ln Hn hns hnok hnd hln hN Sn kpn => ?_⟩
    have hnl : ns.length ≤ 7 ∧ 2 ≤ ns.length := by omega
    intro fd hfd
    have nfd : fd ≠ d := Sn.nd hfd
    have nfc : fd ≠ c := Sn.nc hfd
    have nfl : ln ≠ fd := ne_of_none hN hfd
    have nHf : H fd = none := kpn.none nfd hfd
    refine ⟨_, rfl, _, rfl, by omega, by omega, for_range (n := m.toNat) (fun i σ H2 => ∃ (kvs : List (Key × V)) (pt : Str → Option (Addr × Int × Int)) (v_k v_legs v_holds v_leg v_back v_runways v_chart v_name v_other : Option V), σ = [some (.ref d), some (.int m), some (.int z), some (.ref ln), some (.ref fd), v_k, v_legs, v_holds, v_leg, v_back, v_runways, v_chart, v_name, v_other] ∧ St1 K H2 d c ∧ H2 ln = some (.lst (ns.map V.str)) ∧ FixAt H2 fd kvs pt (ns.take i) ∧ kvs.length ≤ i ∧ Keep2 d fd Hn H2 ∧ Sep pt ns m i ∧ kvs.map (·.1) = (ns.take i).map Sum.inr)
      ⟨[], fun _ => none, none, none, none, none, none, none, none, none, none, rfl, (Sn.new hfd), (same_new hfd _ _ hN), ⟨upd_same, (fun _ _ _ _ h => nomatch h), fun _ h => nomatch h⟩, Nat.le_refl _, (Keep2.refl d fd Hn).new hfd, fun j _ h => absurd h (Nat.not_lt_zero j), rfl⟩ ?_ ?_⟩
    · rintro i σ H2 hi ⟨kvs, pt, v_k, v_legs, v_holds, v_leg, v_back, v_runways, v_chart, v_name, v_other, rfl, S0, hN, hF, hlen, hk, hsep, hks⟩
      have hik : i < ns.length := by omega
      have e1 : ns.take (i + 1) = ns.take i ++ [ns[i]] := by rw [List.take_add_one, List.getElem?_eq_getElem hik]; rfl
      refine ⟨_, rfl, _, rfl, _, _, rfl, rfl, (by walk_at "ms"), _, _, rfl, rfl, d, c, _, rfl, S0, (by omega), (by omega), fun x2 H2 x2a x2b S2 kp2 => ?_⟩
      have hF := hF.keep S0 kp2 nfd
      have hN := kp2.l S0 hN
      refine ⟨_, rfl, _, _, rfl, rfl, _, rfl, _, rfl, _, rfl, _, _, rfl, rfl, (by walk_at "ms"), _, _, rfl, rfl, d, c, _, rfl, S2, (by omega), (by omega), fun x3 H3 x3a x3b S3 kp3 => ?_⟩
      have hF := hF.keep S2 kp3 nfd
      have hN := kp3.l S2 hN
      refine ⟨_, rfl, _, _, rfl, rfl, _, _, rfl, rfl, .inl ⟨by omega, by omega⟩, _, rfl, _, _, rfl, rfl, szOk rfl, fun p4 hp4 => ?_⟩
      have hb : -100000 ≤ (x2 - z) ∧ (x2 - z) ≤ 100000 ∧ -100000 ≤ (m * (x3 - z) + (0 + (i : Int))) ∧ (m * (x3 - z) + (0 + (i : Int))) ≤ 100000 := by
        have h1 : m * (x3 - z) ≤ 7 * 9000 := by
          rcases ltge (x3 - z) 0 with w | w
          · have := Int.mul_nonneg (show 0 ≤ m by omega) (show 0 ≤ -(x3 - z) by omega)
            rw [Int.mul_neg] at this
            omega
          · exact Int.mul_le_mul (by omega) (by omega) w (by decide)
        have h2 : m * -(x3 - z) ≤ 7 * 9000 := by
          rcases ltge (-(x3 - z)) 0 with w | w
          · have := Int.mul_nonneg (show 0 ≤ m by omega) (show 0 ≤ (x3 - z) by omega)
            rw [Int.mul_neg]
            omega
          · exact Int.mul_le_mul (by omega) (by omega) w (by decide)
        rw [Int.mul_neg] at h2
        omega
      refine ⟨_, rfl, _, rfl, _, rfl, _, _, _, _, rfl, rfl, .inl (.inl (same_new hp4 _ _ hN)), atI0 (mapAt hik), _, _, rfl, DPut.k (k := .inr ns[i]) (hF.same (same_new hp4)).dc (small1000 (by omega)), ?_⟩
      refine ⟨_, _, _, _, _, _, _, _, _, _, _, rfl, St1.put (S3.new hp4) nfd nfc, by rw [upd_ne nfl]; exact (same_new hp4 _ _ hN), by rw [e1]; exact FixAt.put (hF.same (same_new hp4)) upd_same hb, Nat.le_trans putK_len (by omega), (((hk.k kp2).k kp3).new hp4).put, Sep.put hnd hsep hik (y_mod (by omega) (by omega)), by rw [e1]; exact keys_put hks hnd hik⟩
    rintro σ H2 ⟨kvs, pt, v_k, v_legs, v_holds, v_leg, v_back, v_runways, v_chart, v_name, v_other, rfl, S0, hN, hF, hlen, hk, hsep, hks⟩
    have hm0 : ns.take m.toNat = ns := List.take_of_length_le (by omega)
    rw [hm0] at hF hks
    refine ⟨_, rfl, _, rfl, d, c, ln, ns, rfl, S0, hN, by omega, by omega, fun ls lg Hl hL hls nlg Sl kpl => ?_⟩
    have hF := hF.keep S0 kpl nfd
    have hN := kpl.l S0 hN
    have nlgd : lg ≠ d := let ⟨_, w⟩ := Sl.dk; ne_of hL.li w (by intro w; cases w)
    have nHl : H2 lg = none := nlg
    intro hd hhd
    have nhd : hd ≠ d := Sl.nd hhd
    have nhc : hd ≠ c := Sl.nc hhd
    have nhf : fd ≠ hd := ne_of_none hF.dc hhd
    have Sl0 := Sl
    refine ⟨_, rfl, lg, rfl, ⟨_, .inl (.inl (same_new hhd _ _ hL.li))⟩, for_list (K := K) (a := lg) (xs := ls.map fun l => V.ref l.a) (fun i σ H3 => ∃ (hv : List (Key × V)) (v_k v_leg v_back v_runways v_chart v_name v_other : Option V), σ = [some (.ref d), some (.int m), some (.int z), some (.ref ln), some (.ref fd), v_k, some (.ref lg), some (.ref hd), v_leg, v_back, v_runways, v_chart, v_name, v_other] ∧ St1 K H3 d c ∧ H3 hd = some (.dK hv) ∧ hv.length ≤ i ∧ Keep2 d hd Hl H3)
      ⟨[], _, _, _, _, _, _, _, rfl, Sl.new hhd, upd_same, Nat.le_refl _, (Keep2.refl d hd Hl).new hhd⟩ (fun i σ H3 _ ⟨hv, _, _, _, _, _, _, _, _, _, _, _, hk3⟩ => .inl (.inl (hk3 _ _ hL.li nlgd (ne_of_none hL.li hhd)))) ?_ ?_⟩
    · rintro i y σ H3 hi ⟨hv, v_k, v_leg, v_back, v_runways, v_chart, v_name, v_other, rfl, S3, hH, hvl, hk3⟩
      obtain ⟨q, rfl, hq, hil, _⟩ := getMap hi
      have hL3 : H3 lg = some (.lst (ls.map fun l => V.ref l.a)) := hk3 _ _ hL.li nlgd (ne_of_none hL.li hhd)
      have hT3 : ∀ q ∈ ls, H3 q.a = some (.tup q.v) := fun q hq => hk3 _ _ (hL.tu q hq) (let ⟨_, w⟩ := Sl.dk; ne_of (hL.tu q hq) w (by intro w; cases w)) (ne_of_none (hL.tu q hq) hhd)
      refine ⟨_, rfl, lg, rfl, ⟨_, .inl (.inl hL3)⟩, fun D hD => ?_⟩
      refine lc_list (K := K) (a := lg) (xs := ls.map fun l => V.ref l.a) (fun u H' => ∃ xs : List V, H' = upd H3 D (.lst xs) ∧ xs.length ≤ u) ⟨[], rfl, Nat.le_refl _⟩ (fun u H' _ ⟨_, e, _⟩ => .inl (.inl (by rw [e, upd_ne (ne_of_none hL3 hD)]; exact hL3))) ?_ ?_
      · rintro u y H' hu1 ⟨xs, rfl, hxs⟩
        obtain ⟨o, rfl, ho, hul, _⟩ := getMap hu1
        have ht := same_new (o := .lst xs) hD _ _ (hT3 o ho)
        have htq := same_new (o := .lst xs) hD _ _ (hT3 q hq)
        refine ⟨rfl, ?_⟩
        refine ⟨_, rfl, _, _, _, .str o.s, rfl, rfl, .inl (.inl ht), rfl, _, rfl, _, _, _, .str q.e, rfl, rfl, .inl (.inl htq), rfl, rfl, _, rfl, ite2 (fun e1 => ?_) (fun e1 => ?_)⟩
        · refine ⟨_, rfl, _, _, _, .str o.e, rfl, rfl, .inl (.inl ht), rfl, _, rfl, _, _, _, .str q.s, rfl, rfl, .inl (.inl htq), rfl, rfl, _, rfl, ite2 (fun e2 => ?_) (fun e2 => ?_)⟩
          · refine ⟨_, rfl, _, upd_same, small1000 (by omega), xs ++ [.ref o.a], by rw [upd_upd], by rw [List.length_append, List.length_singleton]; omega⟩
          · exact ⟨xs, rfl, by omega⟩
        · refine iteF ?_
          exact ⟨xs, rfl, by omega⟩
      rintro H' ⟨xs, rfl, hxs⟩
      have S4 := S3.new (o := .lst xs) hD
      have hk4 := hk3.new (o := .lst xs) hD
      have hH4 := same_new (o := .lst xs) hD _ _ hH
      refine ⟨_, rfl, _, _, rfl, .inl (.inl (.inl upd_same)), _, _, rfl, rfl, _, rfl, ite2 (fun e1 => ?_) (fun e1 => ?_)⟩
      · refine ⟨_, rfl, d, c, _, rfl, S4, by decide, by decide, fun x5 H5 _ _ S5 kp5 => ⟨rfl, _, rfl, ite2 (fun e2 => ?_) (fun e2 => ?_)⟩⟩
        · have hT5 := kp5.t S4 (same_new (o := .lst xs) hD _ _ (hT3 q hq))
          have hH5 := kp5 _ _ hH4 nhd
          refine ⟨_, rfl, _, _, _, .str q.e, rfl, rfl, .inl (.inl hT5), rfl, _, rfl, _, rfl, _, _, _, .str q.s, rfl, rfl, .inl (.inl hT5), rfl, _, _, rfl, DPut.k (k := .inr q.s) hH5 (small1000 (by omega)), ?_⟩
          exact ⟨_, _, _, _, _, _, _, _, rfl, S5.put nhd nhc, upd_same, Nat.le_trans putK_len (by omega), (hk4.k kp5).put⟩
        · exact ⟨_, _, _, _, _, _, _, _, rfl, S5, kp5 _ _ hH4 nhd, by omega, hk4.k kp5⟩
      · exact ⟨_, _, _, _, _, _, _, _, rfl, S4, hH4, by omega, hk4⟩
    rintro σ H3 ⟨hv, v_k, v_leg, v_back, v_runways, v_chart, v_name, v_other, rfl, S3, hH, hvl, hk3⟩
    have hN3 : H3 ln = some (.lst (ns.map V.str)) := hk3 _ _ hN (let ⟨_, w⟩ := Sl.dk; ne_of hN w (by intro w; cases w)) (ne_of_none hN hhd)
    refine ⟨_, rfl, ln, rfl, ⟨_, .inl (.inl hN3)⟩, fun D hD => ?_⟩
    have nDd : D ≠ d := S3.nd hD
    have nDc : D ≠ c := S3.nc hD
    have nDl : ln ≠ D := ne_of_none hN3 hD
    have nDh : hd ≠ D := ne_of_none hH hD
    refine lc_list (K := K) (a := ln) (xs := ns.map V.str) (fun u H' => ∃ xs : List V, H' D = some (.lst xs) ∧ xs.length ≤ u ∧ St1 K H' d c ∧ Keep2 d D H3 H') ⟨[], upd_same, Nat.le_refl _, S3.new hD, (Keep2.refl d D H3).new hD⟩
      (fun u H' _ ⟨_, _, _, _, e⟩ => .inl (.inl (e _ _ hN3 (let ⟨_, w⟩ := S3.dk; ne_of hN3 w (by intro w; cases w)) nDl))) ?_ ?_
    · rintro u y H' hu1 ⟨xs, hxs, hxl, S4, hk4⟩
      obtain ⟨o, rfl, ho, hul, _⟩ := getMap hu1
      refine ⟨rfl, ?_⟩
      refine ⟨_, rfl, d, c, _, rfl, S4, by decide, by decide, fun x5 H5 _ _ S5 kp5 => ⟨rfl, _, rfl, ite2 (fun e2 => ?_) (fun e2 => ?_)⟩⟩
      · refine ⟨_, rfl, _, kp5.l S4 hxs, small1000 (by omega), _, upd_same, by rw [List.length_append, List.length_singleton]; omega, S5.put nDd nDc, (hk4.k kp5).put⟩
      · exact ⟨xs, kp5.l S4 hxs, by omega, S5, hk4.k kp5⟩
    rintro H' ⟨xs, hxs, hxl, S4, hk4⟩
    -- the chart
    intro ch hch
    refine ⟨_, rfl, _, rfl, szOk rfl, fun zo hzo => ?_⟩
    refine ⟨_, rfl, _, rfl, D, xs, rfl, .inl (.inl (same_new hzo _ _ (same_new hch _ _ hxs))), fun ru hru => ?_⟩
    refine ⟨_, rfl, same_new hru _ _ (same_new hzo _ _ upd_same), [(.inr "fixes", .ref fd), (.inr "legs", .ref lg), (.inr "zones", .ref zo), (.inr "runways", .ref ru), (.inr "holds", .ref hd)], rfl, (by show 5 ≤ 15; decide), ?_⟩
    have nchd : ch ≠ d := S4.nd hch
    have nchc : ch ≠ c := S4.nc hch
    have hlen5 := ch_len (f := V.ref fd) (l := .ref lg) (z := .ref zo) (r := .ref ru) (h := .ref hd)
    have nHd : H3 hd ≠ none := by rw [hH]; intro w; cases w
    refine ⟨szOk rfl, fun ho hho => ⟨_, rfl, _, _, rfl, DPut.k (k := .inr "hours") (same_new hho _ _ upd_same) (small1000 (Nat.le_trans hlen5 (by decide))), ?_⟩⟩
    intro ca hca
    refine ⟨_, rfl, _, _, rfl, DPut.k (k := .inr "capacities") (same_new hca _ _ upd_same) (small1000 (Nat.le_trans putK_len (by omega))), ?_⟩
    refine ⟨_, rfl, ?_⟩
    have E : ∀ b o, H' b = some o → b ≠ ch → (upd (upd (upd (upd (upd (upd (upd (upd H' ch (.dK [])) zo (.lst [])) ru (.lst (cutV xs none (some 4)))) ch (.dK (mergeK [] [(.inr "fixes", V.ref fd), (.inr "legs", .ref lg), (.inr "zones", .ref zo), (.inr "runways", .ref ru), (.inr "holds", .ref hd)]))) ho (.lst [])) ch (.dK (putK (mergeK [] [(.inr "fixes", V.ref fd), (.inr "legs", .ref lg), (.inr "zones", .ref zo), (.inr "runways", .ref ru), (.inr "holds", .ref hd)]) (.inr "hours") (.ref ho)))) ca (.dK [])) ch (.dK (chK (.ref fd) (.ref lg) (.ref zo) (.ref ru) (.ref hd) (.ref ho) (.ref ca)))) b = some o := fun b o e n => by
      rw [upd_ne n]
      refine same_new hca _ _ ?_
      rw [upd_ne n]
      refine same_new hho _ _ ?_
      rw [upd_ne n]
      exact same_new hru _ _ (same_new hzo _ _ (same_new hch _ _ e))
    have tneD : ∀ (a : Addr) xs0, H3 a = some (.tup xs0) → a ≠ d := fun a xs0 e => let ⟨_, w⟩ := S3.dk; ne_of e w (by intro w; cases w)
    have A : ∀ b o, Hl b = some o → b ≠ d → H' b = some o := fun b o e n => hk4 _ _ (hk3 _ _ e n (ne_of_none e hhd)) n (fun w => by have := hk3 _ _ e n (ne_of_none e hhd); rw [w, hD] at this; cases this)
    have nlc : ∀ b o, Hl b = some o → b ≠ d → b ≠ ch := fun b o e n => ne_of_none (A b o e n) hch
    have tl : ∀ (a : Addr) xs0, Hl a = some (.tup xs0) → a ≠ d := fun a xs0 e => let ⟨_, w⟩ := Sl.dk; ne_of e w (by intro w; cases w)
    have back : ∀ b, b ≠ d → H' b = none → H b = none := fun b n e => by
      cases w : H b with
      | none => rfl
      | some o =>
        exfalso
        have w1 := kpn _ _ w n
        have w2 := hk _ _ w1 n (ne_of_none w1 hfd)
        have w3 := A _ _ (kpl _ _ w2 n) n
        rw [e] at w3
        cases w3
    have hlgH : H lg = none := by
      cases w : H lg with
      | none => rfl
      | some o =>
        exfalso
        have w1 := kpn _ _ w nlgd
        have w2 := hk _ _ w1 nlgd (ne_of_none w1 hfd)
        rw [nHl] at w2
        cases w2
    refine k ⟨fd, lg, kvs, pt, ls⟩ ch _ ⟨ns, hks, hnd, by omega, by omega, fun n hn => ⟨hnok n hn, hF.nm n hn⟩, fun s hs e he n => Sep.len (D := ⟨fd, lg, kvs, pt, ls⟩) (m := m) (by rw [show ns.length = m.toNat by omega]; exact hsep) hnd hs he n⟩ hlgH (fun l hl => Sep.len (D := ⟨fd, lg, kvs, pt, ls⟩) (m := m) (by rw [show ns.length = m.toNat by omega]; exact hsep) hnd (hL.nm l hl).1 (hL.nm l hl).2 (hL.ne hnd l hl)) ⟨⟨_, upd_same, ch_fix, ch_leg⟩, E _ _ (A _ _ hF.dc nfd) (nlc _ _ hF.dc nfd), E _ _ (A _ _ hL.li nlgd) (nlc _ _ hL.li nlgd), (fun l hl => E _ _ (A _ _ (hL.tu l hl) (tl _ _ (hL.tu l hl))) (nlc _ _ (hL.tu l hl) (tl _ _ (hL.tu l hl)))),
      (fun n a x y h => let ⟨h1, h2, h3⟩ := hF.pf n a x y h; ⟨h1, E _ _ (A _ _ h2 (tl _ _ h2)) (nlc _ _ h2 (tl _ _ h2)), h3⟩), (fun l hl => ⟨hF.nm _ (hL.nm l hl).1, hF.nm _ (hL.nm l hl).2⟩), (fun l hl => ⟨hnok _ (hL.nm l hl).1, hnok _ (hL.nm l hl).2, hL.ck l hl⟩), hls⟩ (back ch nchd hch) nHf ?_ ?_
    · obtain ⟨_, w1⟩ := S4.dk
      obtain ⟨_, w2⟩ := S4.cl
      exact S4.of ((E _ _ w1 nchd.symm).trans w1.symm) ((E _ _ w2 nchc.symm).trans w2.symm)
    · intro b o e n
      have w1 := kpn _ _ e n
      have w2 := hk _ _ w1 n (ne_of_none w1 hfd)
      have w3 := A _ _ (kpl _ _ w2 n) n
      exact E _ _ w3 (ne_of_none w3 hch)
theorem sc_law_leg : FnScope ["chart", "start", "end", "found", "leg"] ["chart", "start", "end"] (defScope s_law_leg) := ⟨rfl, rfl, rfl, by decide +kernel, rfl, by decide +kernel, by decide +kernel⟩
theorem ok_law_leg {f : Addr} {fd : FuncData} (F : Fun K "_law_leg" "_law_leg" s_law_leg f fd) (T : TxtA mg) : FnOk P w K mg base CX0 1 f fd ["chart", "start", "end"] (spLegS) := by
  refine F.ok sc_law_leg (fun vs H Q E h => ?_) (fun cdv A outer s H vs Q E hr h => ?_)
  · obtain ⟨_, _, _, _, rfl, _⟩ := h
    rfl
  · obtain ⟨ch, D, s', e', rfl, C, k⟩ := h
    have hu := hu_of hr
    refine ⟨_, (pss_cons (ps_setLc (i := 3) (own := [("leg", 4)]) (g := gName 4) (by rfl) sc_law_leg.nd rfl rfl (sw_true rfl rfl rfl (by decide +kernel)) (pi_list (pe_dget hu (pv 0) pe_str (fun _ _ => rfl))) (blkOk_by (own := [("leg", 4)]) (N := ["chart", "start", "end", "found", "leg"]) (sc := defScope s_law_leg) (by decide +kernel)) (fun _ _ _ _ _ => (pg_name (i := 4) sc_law_leg.nd rfl (Or.inl rfl))) (fun _ _ _ _ _ => pts_one (PW.pt (pw_and (pt_cmpR op_eq (pe_ix (r := rIxT K) ix_tup (pv 4) pe_int (fun _ _ => rfl)) (pv 1) (nomark _)) (pw_and1 (pt_cmpR op_eq (pe_ix (r := rIxT K) ix_tup (pv 4) pe_int (fun _ _ => rfl)) (pv 2) (nomark _)))))) (fun _ _ _ _ _ => (pv 4)))
    (pss_one (ps_ret (pe_ifExp (pt_cmpR op_gt (pe_callB (r := rLenK K) call_len_seq (by rfl) T.len boot_len (pa_cons (pv 3) pa_nil)) pe_int (nomark _)) (pe_ix (r := rIxL K) ix_list (pv 3) pe_int (fun _ _ => rfl)) pe_non)))), ?_⟩
    refine ⟨_, rfl, _, _, rfl, C.gl, _, rfl, ⟨_, .inl (.inl C.lg)⟩, fun B hB => ?_⟩
    refine lc_list (K := K) (a := D.lg) (xs := D.ls.map fun l => V.ref l.a) (fun u H' => H' = upd H B (.lst (((D.ls.take u).filter fun l => decide (l.s = s') && decide (l.e = e')).map fun l => V.ref l.a))) rfl (fun u H' _ e => .inl (.inl (by rw [e, upd_ne (ne_of_none C.lg hB)]; exact C.lg))) ?_ ?_
    · rintro u y H' hu1 rfl
      obtain ⟨q, rfl, hq, hul, ht⟩ := getMap hu1
      have htq := same_new (o := .lst (((D.ls.take u).filter fun l => decide (l.s = s') && decide (l.e = e')).map fun l => V.ref l.a)) hB _ _ (C.lt q hq)
      have hle : (((D.ls.take u).filter fun l => decide (l.s = s') && decide (l.e = e')).map fun l => V.ref l.a).length ≤ 100 := by
        rw [List.length_map]
        have h1 := List.length_filter_le (fun l : Lg => decide (l.s = s') && decide (l.e = e')) (D.ls.take u)
        have h2 := List.length_take_le' u D.ls
        have h3 := C.n
        omega
      refine ⟨rfl, ?_⟩
      refine ⟨_, rfl, _, _, _, .str q.s, rfl, rfl, .inl (.inl htq), rfl, _, rfl, rfl, _, rfl, ite2 (fun e1 => ?_) (fun e1 => ?_)⟩
      · have e1 := V.str.inj (of_decide_eq_true e1)
        refine ⟨_, rfl, _, _, _, .str q.e, rfl, rfl, .inl (.inl htq), rfl, _, rfl, rfl, _, rfl, ite2 (fun e2 => ?_) (fun e2 => ?_)⟩
        · have e2 := V.str.inj (of_decide_eq_true e2)
          refine ⟨_, rfl, _, upd_same, small1000 (by omega), ?_⟩
          rw [upd_upd, ht, List.filter_append, List.map_append]
          simp [e1, e2]
        · have e2 : ¬ q.e = e' := fun z => e2 (decide_eq_true (congrArg V.str z))
          show _ = _
          rw [ht, List.filter_append]
          simp [e2]
      · refine iteF ?_
        have e1 : ¬ q.s = s' := fun z => e1 (decide_eq_true (congrArg V.str z))
        show _ = _
        rw [ht, List.filter_append]
        simp [e1]
    rintro H' rfl
    rw [List.length_map, List.take_length]
    have hfd := head_find (fun l : Lg => decide (l.s = s') && decide (l.e = e')) D.ls
    have hsm := same_new (o := .lst ((D.ls.filter fun l => decide (l.s = s') && decide (l.e = e')).map fun l => V.ref l.a)) hB
    refine ⟨_, rfl, _, _, rfl, .inl (.inl (.inl upd_same)), _, _, rfl, rfl, _, rfl, ite2 (fun e1 => ?_) (fun e1 => ?_)⟩
    · have e1 := of_decide_eq_true e1
      cases hf : D.ls.filter fun l => decide (l.s = s') && decide (l.e = e') with
      | nil => rw [hf] at e1; simp at e1
      | cons l r =>
        rw [hf] at hfd hsm
        have e2 : D.leg s' e' = some l := hfd.symm
        refine ⟨_, rfl, _, _, _, .ref l.a, rfl, rfl, .inl (.inl upd_same), atI_nat (j := 0) rfl, ?_⟩
        have := k _ hsm
        rw [e2] at this
        exact this
    · have e1 : ¬ _ := fun z => e1 (decide_eq_true z)
      cases hf : D.ls.filter fun l => decide (l.s = s') && decide (l.e = e') with
      | cons l r => rw [hf] at e1; simp at e1
      | nil =>
        rw [hf] at hfd hsm
        have e2 : D.leg s' e' = none := hfd.symm
        have := k _ hsm
        rw [e2] at this
        exact this
theorem sc_law_lengths : FnScope ["chart", "lengths", "leg", "a", "b"] ["chart"] (defScope s_law_lengths) := ⟨rfl, rfl, rfl, by decide +kernel, rfl, by decide +kernel, by decide +kernel⟩
theorem ok_law_lengths {f : Addr} {fd : FuncData} (F : Fun K "_law_lengths" "_law_lengths" s_law_lengths f fd) (T : TxtA mg)
    (D_law_root_up : Def P w K mg base 1 "_law_root_up" ["n"] (spRootR)) : FnOk P w K mg base CX0 2 f fd ["chart"] (spLens) := by
  refine F.ok sc_law_lengths (fun vs H Q E h => ?_) (fun cdv A outer s H vs Q E hr h => ?_)
  · obtain ⟨_, _, rfl, _⟩ := h
    rfl
  · obtain ⟨ch, D, rfl, C, k⟩ := h
    have hu := hu_of hr
    refine ⟨_, (pss_cons (ps_set (i := 1) sc_law_lengths.nd rfl (Or.inl rfl) pe_dnewT)
    (pss_cons (ps_for PassesOwn.never rfl (pi_list (pe_dget hu (pv 0) pe_str (fun _ _ => rfl))) (pg_name (i := 2) sc_law_lengths.nd rfl (Or.inl rfl))
      (pss_cons (ps_set (i := 3) sc_law_lengths.nd rfl (Or.inl rfl) (pe_dget hu (pe_dget hu (pv 0) pe_str (fun _ _ => rfl)) (pe_ix (r := rIxT K) ix_tup (pv 2) pe_int (fun _ _ => rfl)) (fun _ _ => rfl)))
    (pss_cons (ps_set (i := 4) sc_law_lengths.nd rfl (Or.inl rfl) (pe_dget hu (pe_dget hu (pv 0) pe_str (fun _ _ => rfl)) (pe_ix (r := rIxT K) ix_tup (pv 2) pe_int (fun _ _ => rfl)) (fun _ _ => rfl)))
    (pss_one (ps_dput hu (pv 1) (pe_tup (pa_cons (pe_ix (r := rIxT K) ix_tup (pv 2) pe_int (fun _ _ => rfl)) (pa_cons (pe_ix (r := rIxT K) ix_tup (pv 2) pe_int (fun _ _ => rfl)) pa_nil))) (pe_def D_law_root_up (hr.mono (by decide)) (by rfl) (pa_cons (pe_op op_add (pe_op op_mul (pe_op op_sub (pe_ix (r := rIxT K) ix_tup (pv 3) pe_int (fun _ _ => rfl)) (pe_ix (r := rIxT K) ix_tup (pv 4) pe_int (fun _ _ => rfl))) (pe_op op_sub (pe_ix (r := rIxT K) ix_tup (pv 3) pe_int (fun _ _ => rfl)) (pe_ix (r := rIxT K) ix_tup (pv 4) pe_int (fun _ _ => rfl)))) (pe_op op_mul (pe_op op_sub (pe_ix (r := rIxT K) ix_tup (pv 3) pe_int (fun _ _ => rfl)) (pe_ix (r := rIxT K) ix_tup (pv 4) pe_int (fun _ _ => rfl))) (pe_op op_sub (pe_ix (r := rIxT K) ix_tup (pv 3) pe_int (fun _ _ => rfl)) (pe_ix (r := rIxT K) ix_tup (pv 4) pe_int (fun _ _ => rfl))))) pa_nil)) rfl)))))
    (pss_one (ps_ret (pv 1))))), ?_⟩
    intro ld hld
    refine ⟨_, rfl, _, _, rfl, (C.same (same_new hld)).gl, _, rfl, ⟨_, .inl (.inl (same_new hld _ _ C.lg))⟩, for_list (K := K) (a := D.lg) (xs := D.ls.map fun l => V.ref l.a) (fun i σ H2 => ∃ (kvs : List (List Key × V)) (v_leg v_a v_b : Option V), σ = [some (.ref ch), some (.ref ld), v_leg, v_a, v_b] ∧ H2 ld = some (.dT kvs) ∧ kvs.length ≤ i ∧ Same H H2 ∧ ∀ l ∈ D.ls.take i, valV kvs [(.inr l.s : Key), .inr l.e] = some (.int (D.len l.s l.e)))
      ⟨[], none, none, none, rfl, upd_same, Nat.le_refl _, same_new hld, fun _ h => nomatch h⟩ (fun i σ H2 _ ⟨_, _, _, _, _, _, _, e, _⟩ => .inl (.inl (e _ _ C.lg))) ?_ ?_⟩
    · rintro i y σ H2 hi ⟨kvs, v_leg, v_a, v_b, rfl, hd, hl, sm, hv⟩
      obtain ⟨q, rfl, hq, hil, ht⟩ := getMap hi
      have C2 := C.same sm
      have htq := C2.lt q hq
      obtain ⟨⟨a1, x1, y1, h1⟩, a2, x2, y2, h2⟩ := C.wf q hq
      obtain ⟨p1, p2, p3, p4, p5, p6⟩ := C2.pf _ _ _ _ h1
      obtain ⟨q1, q2, q3, q4, q5, q6⟩ := C2.pf _ _ _ _ h2
      have b1 := sq_le (show -200000 ≤ x1 - x2 by omega) (show x1 - x2 ≤ 200000 by omega)
      have b2 := sq_le (show -200000 ≤ y1 - y2 by omega) (show y1 - y2 ≤ 200000 by omega)
      refine ⟨_, rfl, _, _, rfl, C2.gf, _, rfl, _, _, _, .str q.s, rfl, rfl, .inl (.inl htq), rfl, _, _, rfl, C2.gp h1, ?_⟩
      refine ⟨_, rfl, _, _, rfl, C2.gf, _, rfl, _, _, _, .str q.e, rfl, rfl, .inl (.inl htq), rfl, _, _, rfl, C2.gp h2, ?_⟩
      refine ⟨_, rfl, _, _, _, _, rfl, rfl, (.inl (.inl p2)), rfl, _, rfl, _, _, _, _, rfl, rfl, (.inl (.inl q2)), rfl, _, _, rfl, rfl, _, rfl, _, _, _, _, rfl, rfl, (.inl (.inl p2)), rfl, _, rfl, _, _, _, _, rfl, rfl, (.inl (.inl q2)), rfl, _, _, rfl, rfl, _, _, rfl, rfl, (by walk_at "ms"), _, rfl, _, _, _, _, rfl, rfl, (.inl (.inl p2)), rfl, _, rfl, _, _, _, _, rfl, rfl, (.inl (.inl q2)), rfl, _, _, rfl, rfl, _, rfl, _, _, _, _, rfl, rfl, (.inl (.inl p2)), rfl, _, rfl, _, _, _, _, rfl, rfl, (.inl (.inl q2)), rfl, _, _, rfl, rfl, _, _, rfl, rfl, (by walk_at "ms"), _, _, rfl, rfl, _, rfl, Int.add_nonneg (sq0 _) (sq0 _), (by omega), ?_⟩
      rw [sq_swap x1, sq_swap y1, ← D.len_eq h1 h2]
      refine ⟨_, rfl, _, rfl, _, _, _, .str q.s, rfl, rfl, .inl (.inl htq), rfl, _, rfl, _, _, _, .str q.e, rfl, rfl, .inl (.inl htq), rfl, szOk rfl, fun p5 hp5 => ?_⟩
      have nld : ld ≠ p5 := ne_of_none hd hp5
      refine ⟨_, _, rfl, DPut.t (k := [(.inr q.s : Key), .inr q.e]) (same_new hp5 _ _ hd) upd_same (small1000 (by have := C.n; omega)), ?_⟩
      refine ⟨_, _, _, _, rfl, upd_same, ?_, fun b o e => ?_, fun l hl' => ?_⟩
      · unfold putK
        split
        · rw [List.length_map]; (try omega)
        · rw [List.length_append, List.length_singleton]; (try omega)
      · rw [upd_ne (ne_of_none e hld)]
        exact same_new hp5 _ _ (sm _ _ e)
      · rw [valV_put]
        by_cases e : [(Sum.inr l.s : Key), Sum.inr l.e] = [Sum.inr q.s, Sum.inr q.e]
        · rw [if_pos e]
          have e1 : l.s = q.s := Sum.inr.inj (List.cons.inj e).1
          have e2 : l.e = q.e := Sum.inr.inj (List.cons.inj (List.cons.inj e).2).1
          rw [e1, e2]
        · rw [if_neg e]
          rw [ht] at hl'
          rcases List.mem_append.mp hl' with h | h
          · exact hv l h
          · rw [List.mem_singleton.mp h] at e
            exact absurd rfl e
    · rintro σ H2 ⟨kvs, v_leg, v_a, v_b, rfl, hd, hl, sm, hv⟩
      rw [List.length_map, List.take_length] at hv
      refine ⟨_, rfl, k ld H2 hld ⟨kvs, hd, fun a b l h => ?_⟩ sm⟩
      obtain ⟨h1, h2, h3⟩ := CD.leg_mem h
      have := hv l h1
      rw [h2, h3] at this
      exact this
theorem sc_law_walk : FnScope ["state", "chart", "most", "starts", "route", "k", "ends", "leg"] ["state", "chart", "most"] (defScope s_law_walk) := ⟨rfl, rfl, rfl, by decide +kernel, rfl, by decide +kernel, by decide +kernel⟩
theorem ok_law_walk {f : Addr} {fd : FuncData} (F : Fun K "_law_walk" "_law_walk" s_law_walk f fd) (T : TxtA mg)
    (D_law_draw : Def P w K mg base 1 "_law_draw" ["state", "bound"] (spDraw K))
    (D_law_pick : Def P w K mg base 2 "_law_pick" ["state", "things"] (spPick K)) : FnOk P w K mg base CX0 3 f fd ["state", "chart", "most"] (spWalk K) := by
  refine F.ok sc_law_walk (fun vs H Q E h => ?_) (fun cdv A outer s H vs Q E hr h => ?_)
  · obtain ⟨_, _, _, _, _, rfl, _⟩ := h
    rfl
  · obtain ⟨d, c, ch, D, m, rfl, S, C, n1, n2, hls, m0, m1, k⟩ := h
    have hu := hu_of hr
    refine ⟨_, (pss_cons (ps_setLc (i := 3) (own := [("leg", 7)]) (g := gName 7) (by rfl) sc_law_walk.nd rfl rfl (sw_true rfl rfl rfl (by decide +kernel)) (pi_list (pe_dget hu (pv 1) pe_str (fun _ _ => rfl))) (blkOk_by (own := [("leg", 7)]) (N := ["state", "chart", "most", "starts", "route", "k", "ends", "leg"]) (sc := defScope s_law_walk) (by decide +kernel)) (fun _ _ _ _ _ => (pg_name (i := 7) sc_law_walk.nd rfl (Or.inl rfl))) (fun _ _ _ _ _ => pts_nil) (fun _ _ _ _ _ => (pe_ix (r := rIxT K) ix_tup (pv 7) pe_int (fun _ _ => rfl))))
    (pss_cons (ps_set (i := 4) sc_law_walk.nd rfl (Or.inr rfl) (pe_lst (pa_cons (pe_def D_law_pick (hr.mono (by decide)) (by rfl) (pa_cons (pv 0) (pa_cons (pv 3) pa_nil))) pa_nil)))
    (pss_cons (ps_for PassesOwn.never rfl (pi_range1 (by rfl) T.range (pa_cons (pe_op op_add pe_int (pe_def D_law_draw (hr.mono (by decide)) (by rfl) (pa_cons (pv 0) (pa_cons (pv 2) pa_nil)))) pa_nil)) (pg_name (i := 5) sc_law_walk.nd rfl (Or.inl rfl))
      (pss_cons (ps_setLc (i := 6) (own := [("leg", 7)]) (g := gName 7) (by rfl) sc_law_walk.nd rfl rfl (sw_true rfl rfl rfl (by decide +kernel)) (pi_list (pe_dget hu (pv 1) pe_str (fun _ _ => rfl))) (blkOk_by (own := [("leg", 7)]) (N := ["state", "chart", "most", "starts", "route", "k", "ends", "leg"]) (sc := defScope s_law_walk) (by decide +kernel)) (fun _ _ _ _ _ => (pg_name (i := 7) sc_law_walk.nd rfl (Or.inl rfl))) (fun _ _ _ _ _ => pts_one (pt_cmpR op_eq (pe_ix (r := rIxT K) ix_tup (pv 7) pe_int (fun _ _ => rfl)) (pe_ix (r := rIxL K) ix_list (pv 4) (pe_op op_sub (pe_callB (r := rLenK K) call_len_seq (by rfl) T.len boot_len (pa_cons (pv 4) pa_nil)) pe_int) (fun _ _ => rfl)) (nomark _))) (fun _ _ _ _ _ => (pe_ix (r := rIxT K) ix_tup (pv 7) pe_int (fun _ _ => rfl))))
    (pss_one (ps_if (pt_cmpR op_gt (pe_callB (r := rLenK K) call_len_seq (by rfl) T.len boot_len (pa_cons (pv 6) pa_nil)) pe_int (nomark _)) (pss_one (ps_expr (pe_bm PySem.F.plainAttrs_list PySem.F.slot_list_append PySem.F.type_list_append mt_append (pv 4) (pa_cons (pe_def D_law_pick (hr.mono (by decide)) (by rfl) (pa_cons (pv 0) (pa_cons (pv 6) pa_nil))) pa_nil))))
      pss_nil))))
    (pss_one (ps_ret (pe_callTy call_tuple_of (by rfl) T.tuple boot_tuple (pa_cons (pv 4) pa_nil))))))), ?_⟩
    refine ⟨_, rfl, _, _, rfl, C.gl, _, rfl, ⟨_, .inl (.inl C.lg)⟩, fun B hB => ?_⟩
    refine lc_list (K := K) (a := D.lg) (xs := D.ls.map fun l => V.ref l.a) (fun u H' => H' = upd H B (.lst ((D.ls.take u).map fun l => V.str l.s))) rfl (fun u H' _ e => .inl (.inl (by rw [e, upd_ne (ne_of_none C.lg hB)]; exact C.lg))) ?_ ?_
    · rintro u y H' hu1 rfl
      obtain ⟨q, rfl, hq, hul, ht⟩ := getMap hu1
      have htq := same_new (o := .lst ((D.ls.take u).map fun l => V.str l.s)) hB _ _ (C.lt q hq)
      have hn := C.n
      refine ⟨rfl, ?_⟩
      refine ⟨_, rfl, _, _, _, .str q.s, rfl, rfl, .inl (.inl htq), rfl, _, upd_same, (by rw [List.length_map]; have := List.length_take_le' u D.ls; exact small1000 (by omega)), ?_⟩
      rw [upd_upd, ht, List.map_append]
      rfl
    rintro H' rfl
    rw [List.length_map, List.take_length]
    have C1 := C.same (same_new (o := .lst (D.ls.map fun l => V.str l.s)) hB)
    refine ⟨_, rfl, _, rfl, d, c, _, _, rfl, S.new hB, .inl (.inl upd_same), (fun z => hls (List.map_eq_nil_iff.mp z)), (by rw [List.length_map]; have := C.n; omega), fun v2 H2 hv2 S2 kp2 => ?_⟩
    obtain ⟨l0, hl0, rfl⟩ := List.mem_map.mp hv2
    have C2 := C1.keep (S.new hB) kp2 n1 n2
    have k2 : Keep d H H2 := (Keep.of (same_new hB)).trans kp2
    refine ⟨szOk rfl, fun rl hrl => ?_⟩
    have nrd : rl ≠ d := S2.nd hrl
    have nrc : rl ≠ c := S2.nc hrl
    have nHr : H rl = none := k2.none nrd hrl
    refine ⟨_, rfl, _, rfl, d, c, _, rfl, (S2.new hrl), (by omega), (by omega), fun x1 H1 x1a x1b S1 kp1 => ?_⟩
    refine ⟨_, _, rfl, rfl, ?_⟩
    have hRl := kp1.l (S2.new hrl) (upd_same (H := H2) (a := rl) (o := .lst [.str l0.s]))
    refine ⟨_, rfl, by omega, by omega, for_range (n := (1 + x1).toNat) (fun i σ H3 => ∃ (ns : List Str) (v_k v_ends v_leg : Option V), σ = [some (.ref d), some (.ref ch), some (.int m), some (.ref B), some (.ref rl), v_k, v_ends, v_leg] ∧ St1 K H3 d c ∧ ChartAt H3 ch D ∧ H3 rl = some (.lst (ns.map V.str)) ∧ ns.length ≤ i + 1 ∧ Chain D ns ∧ (∃ a, ns.getLast? = some a ∧ (i = 0 → ∃ l ∈ D.ls, l.s = a)) ∧ (1 ≤ i → 2 ≤ ns.length) ∧ Keep d H H3)
      ⟨[l0.s], none, none, none, rfl, S1, (C2.same (same_new hrl)).keep (S2.new hrl) kp1 n1 n2, hRl, by simp, (fun j hj => by simp at hj), ⟨_, rfl, fun _ => ⟨l0, hl0, rfl⟩⟩, (fun h => by omega), (k2.trans (Keep.of (same_new hrl))).trans kp1⟩ ?_ ?_⟩
    · rintro i σ H3 hi ⟨ns, v_k, v_ends, v_leg, rfl, S0, C0, hR, hln, hch, hst, h2, hk⟩
      obtain ⟨a, ha, ha0⟩ := hst
      refine ⟨_, rfl, _, _, rfl, C0.gl, _, rfl, ⟨_, .inl (.inl C0.lg)⟩, fun B1 hB1 => ?_⟩
      refine lc_list (K := K) (a := D.lg) (xs := D.ls.map fun l => V.ref l.a) (fun u H' => H' = upd H3 B1 (.lst (((D.ls.take u).filter fun l => decide (l.s = a)).map fun l => V.str l.e))) rfl (fun u H' _ e => .inl (.inl (by rw [e, upd_ne (ne_of_none C0.lg hB1)]; exact C0.lg))) ?_ ?_
      · rintro u y H' hu1 rfl
        obtain ⟨q, rfl, hq, hul, ht⟩ := getMap hu1
        have htq := same_new (o := .lst (((D.ls.take u).filter fun l => decide (l.s = a)).map fun l => V.str l.e)) hB1 _ _ (C0.lt q hq)
        have hR1 := same_new (o := .lst (((D.ls.take u).filter fun l => decide (l.s = a)).map fun l => V.str l.e)) hB1 _ _ hR
        have hn := C0.n
        have h1 := List.length_filter_le (fun l : Lg => decide (l.s = a)) (D.ls.take u)
        have h3 := List.length_take_le' u D.ls
        refine ⟨rfl, ?_⟩
        refine ⟨_, rfl, _, _, _, .str q.s, rfl, rfl, .inl (.inl htq), rfl, _, rfl, _, rfl, _, _, rfl, .inl (.inl (.inl hR1)), _, _, rfl, rfl, _, _, _, .str a, rfl, rfl, .inl (.inl hR1), atI_lastn rfl (by rw [List.getLast?_map, ha]; rfl), rfl, _, rfl, ite2 (fun e1 => ?_) (fun e1 => ?_)⟩
        · have e1 := V.str.inj (of_decide_eq_true e1)
          refine ⟨_, rfl, _, _, _, .str q.e, rfl, rfl, .inl (.inl htq), rfl, _, upd_same, (by rw [List.length_map]; exact small1000 (by omega)), ?_⟩
          rw [upd_upd, ht, List.filter_append, List.map_append]
          simp [e1]
        · have e1 : ¬ q.s = a := fun z => e1 (decide_eq_true (congrArg V.str z))
          show _ = _
          rw [ht, List.filter_append]
          simp [e1]
      rintro H' rfl
      rw [List.length_map, List.take_length]
      have S4 := S0.new (o := .lst ((D.ls.filter fun l => decide (l.s = a)).map fun l => V.str l.e)) hB1
      have C4 := C0.same (same_new (o := .lst ((D.ls.filter fun l => decide (l.s = a)).map fun l => V.str l.e)) hB1)
      have hR4 := same_new (o := .lst ((D.ls.filter fun l => decide (l.s = a)).map fun l => V.str l.e)) hB1 _ _ hR
      have k4 := hk.trans (Keep.of (same_new (o := .lst ((D.ls.filter fun l => decide (l.s = a)).map fun l => V.str l.e)) hB1))
      refine ⟨_, rfl, _, _, rfl, .inl (.inl (.inl upd_same)), _, _, rfl, rfl, _, rfl, ite2 (fun e1 => ?_) (fun e1 => ?_)⟩
      · have e1 := of_decide_eq_true e1
        have hn := C0.n
        have h1 := List.length_filter_le (fun l : Lg => decide (l.s = a)) D.ls
        refine ⟨_, rfl, .inl ⟨rfl, _, .inl (.inl hR4)⟩, _, rfl, _, rfl, d, c, _, _, rfl, S4, .inl (.inl upd_same), (fun z => by rw [z] at e1; simp at e1), (by rw [List.length_map]; omega), fun v5 H5 hv5 S5 kp5 => ?_⟩
        obtain ⟨l1, hl1, rfl⟩ := List.mem_map.mp hv5
        obtain ⟨hm1, hs1⟩ := List.mem_filter.mp hl1
        have hs1 := of_decide_eq_true hs1
        have hR5 := kp5.l S4 hR4
        refine ⟨_, _, _, rfl, rfl, hR5, (by rw [List.length_map]; exact small1000 (by omega)), ?_⟩
        refine ⟨ns ++ [l1.e], _, _, _, rfl, S5.put nrd nrc, ?_, by rw [upd_same, List.map_append]; rfl, by rw [List.length_append, List.length_singleton]; omega, hch.snoc ha (hs1 ▸ CD.leg_some hm1), ⟨l1.e, by simp, fun h => by omega⟩, (fun _ => ?_), ?_⟩
        · have C5 := C4.keep S4 kp5 n1 n2
          obtain ⟨⟨kvs, q1, q2, q3⟩, q4, q5, q6, q7, q8, q8', q9⟩ := C5
          have hRx : ∀ b o, H5 b = some o → (∀ xs, o ≠ .lst xs) → (upd H5 rl (.lst (ns.map V.str ++ [.str l1.e]))) b = some o := fun b o e n => by
            rw [upd_ne (ne_of e hR5 (n _))]
            exact e
          have nlg : D.lg ≠ rl := fun w => by
            have w1 := C.lg
            rw [w, nHr] at w1
            cases w1
          exact ⟨⟨kvs, hRx _ _ q1 (by intro _ z; cases z), q2, q3⟩, hRx _ _ q4 (by intro _ z; cases z), by rw [upd_ne nlg]; exact q5, fun l hl => hRx _ _ (q6 l hl) (by intro _ z; cases z), fun n a x y h => let ⟨z1, z2, z3⟩ := q7 n a x y h; ⟨z1, hRx _ _ z2 (by intro _ z; cases z), z3⟩, q8, q8', q9⟩
        · rw [List.length_append, List.length_singleton]
          obtain ⟨ys, rfl⟩ := List.getLast?_eq_some_iff.mp ha
          simp
        · intro b o e nb
          rw [upd_ne (fun w => by rw [w, nHr] at e; cases e)]
          exact kp5 _ _ (k4 _ _ e nb) nb
      · refine ⟨ns, _, _, _, rfl, S4, C4, hR4, by omega, hch, ⟨a, ha, fun h => by omega⟩, (fun _ => ?_), k4⟩
        by_cases h0 : i = 0
        · exfalso
          obtain ⟨l, hl, e⟩ := ha0 h0
          refine e1 (decide_eq_true ?_)
          rw [List.length_map]
          have : l ∈ D.ls.filter fun l => decide (l.s = a) := List.mem_filter.mpr ⟨hl, decide_eq_true e⟩
          have := List.length_pos_of_mem this
          omega
        · exact h2 (by omega)
    · rintro σ H3 ⟨ns, v_k, v_ends, v_leg, rfl, S0, C0, hR, hln, hch, hst, h2, hk⟩
      refine ⟨_, rfl, rl, _, rfl, .inl ⟨.inl (.inl hR), fun r hr' => ?_⟩⟩
      refine k ns r _ ⟨h2 (by omega), by omega, hch⟩ ?_ upd_same (S0.new hr') (hk.trans (Keep.of (same_new hr')))
      exact hk.none (S0.nd hr') hr'
end
end Sk

set_option Elab.async false
set_option linter.all false
set_option maxRecDepth 100000
set_option maxHeartbeats 4000000
namespace Sk
open PySem PySem.Spec PyProof.Rows L2
section
variable {P : Program} {w : World} {K : PySem.W.Frag} {mg : Str → Option Value} {base : Heap}
abbrev s_law_small_chart : Stmt := top 46
theorem sc_law_small_chart : FnScope ["state", "chart", "names"] ["state"] (defScope s_law_small_chart) := ⟨rfl, rfl, rfl, by decide +kernel, rfl, by decide +kernel, by decide +kernel⟩
theorem ok_law_small_chart {f : Addr} {fd : FuncData} (F : Fun K "_law_small_chart" "_law_small_chart" s_law_small_chart f fd) (T : TxtA mg)
    (D_law_draw : Def P w K mg base 1 "_law_draw" ["state", "bound"] (spDraw K))
    (D_law_pick : Def P w K mg base 2 "_law_pick" ["state", "things"] (spPick K))
    (D_law_chart : Def P w K mg base 4 "_law_chart" ["state", "many", "size"] (spChartB K)) : FnOk P w K mg base CX0 5 f fd ["state"] (spSmall K) := by
  refine F.ok sc_law_small_chart (fun vs H Q E h => ?_) (fun cdv A outer s H vs Q E hr h => ?_)
  · obtain ⟨_, _, rfl, _⟩ := h
    rfl
  · obtain ⟨d, c, rfl, S, k⟩ := h
    have hu := hu_of hr
    refine ⟨_, (pss_cons (ps_set (i := 1) sc_law_small_chart.nd rfl (Or.inl rfl) (pe_def D_law_chart (hr.mono (by decide)) (by rfl) (pa_cons (pv 0) (pa_cons (pe_op op_add pe_int (pe_def D_law_draw (hr.mono (by decide)) (by rfl) (pa_cons (pv 0) (pa_cons pe_int pa_nil)))) (pa_cons (pe_def D_law_pick (hr.mono (by decide)) (by rfl) (pa_cons (pv 0) (pa_cons (pe_lst (pa_cons pe_int (pa_cons pe_int (pa_cons pe_int (pa_cons pe_int pa_nil))))) pa_nil))) pa_nil)))))
    (pss_cons (ps_if (pt_cmpR op_eq (pe_callB (r := rLenK K) call_len_seq (by rfl) T.len boot_len (pa_cons (pe_dget hu (pv 1) pe_str (fun _ _ => rfl)) pa_nil)) pe_int (nomark _)) (pss_cons (ps_set (i := 2) sc_law_small_chart.nd rfl (Or.inl rfl) (pe_callB (call_sortedD rfl) (by rfl) T.sorted boot_sorted (pa_cons (pe_dget hu (pv 1) pe_str (fun _ _ => rfl)) pa_nil)))
    (pss_one (ps_expr (pe_bm PySem.F.plainAttrs_list PySem.F.slot_list_append PySem.F.type_list_append mt_append (pe_dget hu (pv 1) pe_str (fun _ _ => rfl)) (pa_cons (pe_tup (pa_cons (pe_ix (r := rIxL K) ix_list (pv 2) pe_int (fun _ _ => rfl)) (pa_cons (pe_ix (r := rIxL K) ix_list (pv 2) pe_int (fun _ _ => rfl)) (pa_cons pe_str (pa_cons pe_int (pa_cons pe_int pa_nil)))))) pa_nil)))))
      pss_nil)
    (pss_one (ps_ret (pv 1))))), ?_⟩
    refine ⟨_, rfl, _, rfl, d, c, _, rfl, S, (by decide), (by decide), fun x1 H1 x1a x1b S1 kp1 => ?_⟩
    refine ⟨_, _, rfl, rfl, _, rfl, szOk rfl, fun p2 hp2 => ?_⟩
    refine ⟨d, c, _, _, rfl, (S1.new hp2), .inl (.inl upd_same), (fun z => nomatch z), (by show 4 ≤ 1000; decide), fun v2 H2 hv2 S2 kp2 => ?_⟩
    obtain ⟨x2, rfl, x2a, x2b⟩ : ∃ z : Int, v2 = .int z ∧ 2 ≤ z ∧ z ≤ 40 := by
      simp only [List.mem_cons, List.not_mem_nil, or_false] at hv2
      rcases hv2 with rfl | rfl | rfl | rfl <;> exact ⟨_, rfl, by decide, by decide⟩
    refine ⟨d, c, _, _, rfl, S2, (by omega), (by omega), (by omega), (by omega), fun D ch H4 ce hlg hpos C4 hch hfx S4 kp4 => ?_⟩
    have kA : Keep d H H2 := (kp1.trans (Keep.of (same_new hp2))).trans kp2
    have kB := kA.trans kp4
    have hch0 := kA.none (S2.nd hch) hch
    have hfx0 := kA.none (S2.nd hfx) hfx
    have hlg0 := kA.none (S2.nd hlg) hlg
    refine ⟨_, rfl, _, _, rfl, C4.gl, _, _, rfl, .inl (.inl (.inl C4.lg)), rfl, _, rfl, ite2 (fun e => ?_) (fun e => ?_)⟩
    rotate_left
    · exact ⟨_, rfl, k D ch H4 (fun z => e (decide_eq_true (by rw [z]; rfl))) hpos C4 hch0 hfx0 S4 kB⟩
    obtain ⟨ns, hks, hnd, n2, n7, hpt, hsep⟩ := ce
    refine ⟨_, rfl, _, _, rfl, C4.gf, D.fx, D.fs, ns, rfl, .inl C4.fx, hks, (by omega), fun ys p hpm hso hp => ?_⟩
    have hyl := hpm.length_eq
    have hynd : ys.Nodup := hpm.nodup_iff.mpr hnd
    obtain ⟨n0, n1, rest, rfl⟩ : ∃ n0 n1 rest, ys = n0 :: n1 :: rest := by
      match ys, hyl with
      | [], h => exact absurd h (by show ¬ 0 = ns.length; omega)
      | [a], h => exact absurd h (by show ¬ 1 = ns.length; omega)
      | a :: b :: l, _ => exact ⟨a, b, l, rfl⟩
    have m0 : n0 ∈ ns := hpm.mem_iff.mp List.mem_cons_self
    have m1 : n1 ∈ ns := hpm.mem_iff.mp (List.mem_cons_of_mem _ List.mem_cons_self)
    have n01 : n0 ≠ n1 := fun z => by
      have := (List.nodup_cons.mp hynd).1
      rw [z] at this
      exact this List.mem_cons_self
    have ls0 : D.ls = [] := by
      have := V.int.inj (of_decide_eq_true e)
      rw [List.length_map] at this
      exact List.eq_nil_of_length_eq_zero (by omega)
    have C5 := C4.same (same_new (o := .lst ((n0 :: n1 :: rest).map V.str)) hp)
    have hys : (upd H4 p (.lst ((n0 :: n1 :: rest).map V.str))) p = _ := upd_same
    have S5 := S4.new (o := .lst ((n0 :: n1 :: rest).map V.str)) hp
    have k5 := kB.trans (Keep.of (same_new (o := .lst ((n0 :: n1 :: rest).map V.str)) hp))
    generalize upd H4 p (.lst ((n0 :: n1 :: rest).map V.str)) = H5 at *
    refine nm ?_
    dsimp only
    have e0 : (List.map V.str (n0 :: n1 :: rest))[0]? = some (.str n0) := rfl
    have e1 : (List.map V.str (n0 :: n1 :: rest))[1]? = some (.str n1) := rfl
    have a0 : atI (List.map V.str (n0 :: n1 :: rest)) 0 = some (.str n0) := atI_nat e0
    have a1 : atI (List.map V.str (n0 :: n1 :: rest)) 1 = some (.str n1) := atI_nat e1
    refine ⟨_, rfl, _, _, rfl, C5.gl, .inl ⟨rfl, _, .inl (.inl C5.lg)⟩, _, rfl, _, _, _, _, rfl, rfl, (.inl (.inl hys)), a0, _, rfl, _, _, _, _, rfl, rfl, (.inl (.inl hys)), a1, szOk rfl, fun t ht => ?_⟩
    have C6 := C5.same (same_new (o := .tup [.str n0, .str n1, .str "N", .int 0, .int 600]) ht)
    have htt : (upd H5 t (.tup [.str n0, .str n1, .str "N", .int 0, .int 600])) t = _ := upd_same
    have S6 := S5.new (o := .tup [.str n0, .str n1, .str "N", .int 0, .int 600]) ht
    have k6 := k5.trans (Keep.of (same_new (o := .tup [.str n0, .str n1, .str "N", .int 0, .int 600]) ht))
    generalize upd H5 t (.tup [.str n0, .str n1, .str "N", .int 0, .int 600]) = H6 at *
    refine ⟨_, _, _, rfl, rfl, C6.lg, (by rw [ls0]; exact small1000 (by decide)), ?_⟩
    have el : (D.ls.map fun l => V.ref l.a) ++ [V.ref t] = [V.ref t] := by rw [ls0]; rfl
    have hw := C6.lg
    have ne : ∀ (a : Addr) o, H6 a = some o → (∀ xs, o ≠ .lst xs) → a ≠ D.lg := fun a o e n => ne_of e hw (n _)
    refine ⟨_, rfl, k ⟨D.fx, D.lg, D.fs, D.pt, [⟨t, n0, n1, "N", 0, 600⟩]⟩ ch _ (by intro z; cases z) (fun l hl => ?_) ⟨?_, ?_, ?_, fun l hl => ?_, fun n a x y h => ?_, fun l hl => ?_, fun l hl => ?_, (by show 1 ≤ 100; decide)⟩ hch0 hfx0 (S6.put (S2.nd hlg) (S2.nc hlg)) (fun b o e n => ?_)⟩
    · rw [List.mem_singleton.mp hl]
      exact hsep n0 m0 n1 m1 n01
    · obtain ⟨kvs, h1, h2, h3⟩ := C6.ch
      exact ⟨kvs, by rw [upd_ne (ne _ _ h1 (by intro _ z; cases z))]; exact h1, h2, h3⟩
    · rw [upd_ne (ne _ _ C6.fx (by intro _ z; cases z))]; exact C6.fx
    · rw [upd_same]; exact congrArg (fun z => some (HO.lst z)) el
    · rw [List.mem_singleton.mp hl, upd_ne (ne _ _ htt (by intro _ z; cases z))]; exact htt
    · obtain ⟨q1, q2, q3⟩ := C6.pf n a x y h
      exact ⟨q1, by rw [upd_ne (ne _ _ q2 (by intro _ z; cases z))]; exact q2, q3⟩
    · rw [List.mem_singleton.mp hl]
      exact ⟨(hpt n0 m0).2, (hpt n1 m1).2⟩
    · rw [List.mem_singleton.mp hl]
      exact ⟨(hpt n0 m0).1, (hpt n1 m1).1, (by show sOk "N"; decide +kernel)⟩
    · rw [upd_ne (ne_of_none e hlg0)]
      exact k6 b o e n
end
end Sk

set_option Elab.async false
set_option linter.all false
set_option maxRecDepth 100000
set_option maxHeartbeats 4000000
namespace Sk
open PySem PySem.Spec PyProof.Rows L2
abbrev s_Path_total : Stmt := inClass (top 16) 2
abbrev s_Path_leg_at : Stmt := inClass (top 16) 3
abbrev s_Path_begin : Stmt := inClass (top 16) 4
abbrev s_Path_leg : Stmt := inClass (top 16) 5
abbrev s_Path_vector : Stmt := inClass (top 16) 6
abbrev s_Path_route : Stmt := inClass (top 16) 9
abbrev s_Path__point : Stmt := inClass (top 16) 12
abbrev s_Path_place : Stmt := inClass (top 16) 7
abbrev s_Path__join : Stmt := inClass (top 16) 1
abbrev s_Path___init__ : Stmt := inClass (top 16) 0
section
variable {P : Program} {w : World} {K : PySem.W.Frag} {mg : Str → Option Value} {base : Heap}
theorem sc_Path_total : FnScope ["self"] ["self"] (defScope s_Path_total) := ⟨rfl, rfl, rfl, by decide +kernel, rfl, by decide +kernel, by decide +kernel⟩
theorem ok_Path_total {f : Addr} {fd : FuncData} {C : Addr} (F : Fun K "total" "Path.total" s_Path_total f fd) (T : TxtA mg) (Y : PathY K mg C) : FnOk P w K mg base CX0 1 f fd ["self"] (spTotal C) := by
  refine F.ok sc_Path_total (fun vs H Q E h => ?_) (fun cdv A outer s H vs Q E hr h => ?_)
  · obtain ⟨_, _, _, _, _, _, _, _, _, _, rfl, _⟩ := h
    rfl
  · obtain ⟨p, r, dx, l1, l2, l3, l4, D, ns, i, rfl, ho, hb, k⟩ := h
    refine ⟨_, (pss_one (ps_ret (pe_ix (r := rIxL K) ix_list (pe_fld (pv 0) rfl) (pe_un un_neg pe_int) (fun _ _ => rfl)))), ?_⟩
    refine ⟨_, rfl, _, _, _, _, _, rfl, ho, Y.cl, Y.n5, pf5, _, rfl, _, _, _, _, rfl, rfl, .inl (.inl hb), atI_back (v := .int (bg D ns i)) (by simp [List.range_succ]), ?_⟩
    exact k
theorem sc_Path_leg_at : FnScope ["self", "progress", "last", "index"] ["self", "progress"] (defScope s_Path_leg_at) := ⟨rfl, rfl, rfl, by decide +kernel, rfl, by decide +kernel, by decide +kernel⟩
theorem ok_Path_leg_at {f : Addr} {fd : FuncData} {C : Addr} (F : Fun K "leg_at" "Path.leg_at" s_Path_leg_at f fd) (T : TxtA mg) (Y : PathY K mg C) : FnOk P w K mg base CX0 1 f fd ["self", "progress"] (spLegAt C) := by
  refine F.ok sc_Path_leg_at (fun vs H Q E h => ?_) (fun cdv A outer s H vs Q E hr h => ?_)
  · obtain ⟨_, _, _, _, _, rfl, _⟩ := h
    rfl
  · obtain ⟨p, r, D, ns, x, rfl, PA, n2, n20, k⟩ := h
    refine ⟨_, (pss_cons (ps_set (i := 2) sc_Path_leg_at.nd rfl (Or.inl rfl) (pe_op op_sub (pe_callB (r := rLenK K) call_len_seq (by rfl) T.len boot_len (pa_cons (pe_fld (pv 0) rfl) pa_nil)) pe_int))
    (pss_cons (ps_for PassesOwn.never rfl (pi_range1 (by rfl) T.range (pa_cons (pv 2) pa_nil)) (pg_name (i := 3) sc_Path_leg_at.nd rfl (Or.inl rfl))
      (pss_one (ps_if (pt_cmpR op_lt (pv 1) (pe_ix (r := rIxL K) ix_list (pe_fld (pv 0) rfl) (pe_op op_add (pv 3) pe_int) (fun _ _ => rfl)) (nomark _)) (pss_one (ps_ret (pv 3)))
      pss_nil)))
    (pss_one (ps_ret (pv 2))))), ?_⟩
    obtain ⟨dx, l1, l2, l3, l4, sa, va, P⟩ := id PA
    refine ⟨_, rfl, _, _, _, _, _, rfl, P.ob, Y.cl, Y.n2, pf2, _, _, rfl, .inl (.inl (.inl P.lg)), _, _, rfl, rfl, ?_⟩
    refine nm ?_
    dsimp only
    rw [List.length_map, List.length_range]
    have e0 : ((ns.length - 1 : Nat) : Int) - 1 = ((ns.length - 1 - 1 : Nat) : Int) := by omega
    rw [e0]
    generalize hm : ns.length - 1 - 1 = m at k ⊢
    refine ⟨_, rfl, _, rfl, by omega, by omega, for_range (n := ((m : Nat) : Int).toNat) (fun i σ H2 => ∃ v3, σ = [some (.ref p), some (.int x), some (.int (m : Int)), v3] ∧ H2 = H ∧ ∀ j, j < i → bg D ns (j + 1) ≤ x)
      ⟨none, rfl, rfl, fun j hj => by omega⟩ ?_ ?_⟩
    · rintro i σ H2 hi ⟨v3, rfl, rfl, hj⟩
      have hi : i < m := by omega
      refine ⟨_, rfl, _, rfl, _, _, _, _, _, rfl, P.ob, Y.cl, Y.n5, pf5, _, rfl, _, _, rfl, rfl, _, _, _, .int (bg D ns (i + 1)), rfl, rfl, .inl (.inl P.bgn), ?_, _, _, rfl, rfl, _, rfl, ite2 (fun e => ?_) (fun e => ?_)⟩
      · have e1 : 0 + (i : Int) + 1 = ((i + 1 : Nat) : Int) := by omega
        rw [e1]
        refine atI_nat ?_
        rw [List.getElem?_map, List.getElem?_range (by omega)]
        rfl
      · have e := of_decide_eq_true e
        rw [lat_eq (Nat.le_of_lt hi) hj fun _ => e] at k
        refine ⟨_, rfl, ?_⟩
        show Q (.int (0 + (i : Int))) H2
        rw [Int.zero_add]
        exact k
      · have e : ¬ x < bg D ns (i + 1) := fun z => e (decide_eq_true z)
        refine ⟨_, rfl, rfl, fun j h => ?_⟩
        by_cases w : j = i
        · rw [w]; omega
        · exact hj j (by omega)
    · rintro σ H2 ⟨v3, rfl, rfl, hj⟩
      rw [lat_eq (Nat.le_refl m) (fun i hi => hj i (by omega)) fun z => absurd z (Nat.lt_irrefl _)] at k
      exact ⟨_, rfl, k⟩
theorem sc_Path_begin : FnScope ["self", "index"] ["self", "index"] (defScope s_Path_begin) := ⟨rfl, rfl, rfl, by decide +kernel, rfl, by decide +kernel, by decide +kernel⟩
theorem ok_Path_begin {f : Addr} {fd : FuncData} {C : Addr} (F : Fun K "begin" "Path.begin" s_Path_begin f fd) (T : TxtA mg) (Y : PathY K mg C) : FnOk P w K mg base CX0 1 f fd ["self", "index"] (spBegin C) := by
  refine F.ok sc_Path_begin (fun vs H Q E h => ?_) (fun cdv A outer s H vs Q E hr h => ?_)
  · obtain ⟨_, _, _, _, _, _, rfl, _⟩ := h
    rfl
  · obtain ⟨p, r, D, ns, j, z, rfl, rfl, PA, hj, k⟩ := h
    refine ⟨_, (pss_one (ps_ret (pe_ix (r := rIxL K) ix_list (pe_fld (pv 0) rfl) (pv 1) (fun _ _ => rfl)))), ?_⟩
    obtain ⟨dx, l1, l2, l3, l4, sa, va, P⟩ := id PA
    refine ⟨_, rfl, _, _, _, _, _, rfl, P.ob, Y.cl, Y.n5, pf5, _, rfl, _, _, _, .int (bg D ns j), rfl, rfl, .inl (.inl P.bgn), atI_nat (by rw [List.getElem?_map, List.getElem?_range (by omega)]; rfl), ?_⟩
    exact k
theorem sc_Path_leg : FnScope ["self", "index"] ["self", "index"] (defScope s_Path_leg) := ⟨rfl, rfl, rfl, by decide +kernel, rfl, by decide +kernel, by decide +kernel⟩
theorem ok_Path_leg {f : Addr} {fd : FuncData} {C : Addr} (F : Fun K "leg" "Path.leg" s_Path_leg f fd) (T : TxtA mg) (Y : PathY K mg C) : FnOk P w K mg base CX0 1 f fd ["self", "index"] (spLegI C) := by
  refine F.ok sc_Path_leg (fun vs H Q E h => ?_) (fun cdv A outer s H vs Q E hr h => ?_)
  · obtain ⟨_, _, _, _, _, _, rfl, _⟩ := h
    rfl
  · obtain ⟨p, r, D, ns, j, z, rfl, rfl, PA, hj, k⟩ := h
    refine ⟨_, (pss_one (ps_ret (pe_ix (r := rIxL K) ix_list (pe_fld (pv 0) rfl) (pv 1) (fun _ _ => rfl)))), ?_⟩
    obtain ⟨dx, l1, l2, l3, l4, sa, va, P⟩ := id PA
    refine ⟨_, rfl, _, _, _, _, _, rfl, P.ob, Y.cl, Y.n2, pf2, _, rfl, _, _, _, optL (D.leg (rn ns j) (rn ns (j + 1))), rfl, rfl, .inl (.inl P.lg), atI_nat (by rw [List.getElem?_map, List.getElem?_range hj]; rfl), ?_⟩
    exact k
theorem sc_Path_vector : FnScope ["self", "index"] ["self", "index"] (defScope s_Path_vector) := ⟨rfl, rfl, rfl, by decide +kernel, rfl, by decide +kernel, by decide +kernel⟩
theorem ok_Path_vector {f : Addr} {fd : FuncData} {C : Addr} (F : Fun K "vector" "Path.vector" s_Path_vector f fd) (T : TxtA mg) (Y : PathY K mg C) : FnOk P w K mg base CX0 1 f fd ["self", "index"] (spVec C) := by
  refine F.ok sc_Path_vector (fun vs H Q E h => ?_) (fun cdv A outer s H vs Q E hr h => ?_)
  · obtain ⟨_, _, _, _, _, _, rfl, _⟩ := h
    rfl
  · obtain ⟨p, r, D, ns, j, z, rfl, rfl, PA, hj, k⟩ := h
    refine ⟨_, (pss_one (ps_ret (pe_ix (r := rIxL K) ix_list (pe_fld (pv 0) rfl) (pv 1) (fun _ _ => rfl)))), ?_⟩
    obtain ⟨dx, l1, l2, l3, l4, sa, va, P⟩ := id PA
    have hv : j < va.length := by rw [P.vl]; exact hj
    refine ⟨_, rfl, _, _, _, _, _, rfl, P.ob, Y.cl, Y.n4, pf4, _, rfl, _, _, _, _, rfl, rfl, .inl (.inl P.ve), atI_nat (mapAt hv), ?_⟩
    exact k _ (P.vx j hv)
theorem sc_Path_route : FnScope ["self"] ["self"] (defScope s_Path_route) := ⟨rfl, rfl, rfl, by decide +kernel, rfl, by decide +kernel, by decide +kernel⟩
theorem ok_Path_route {f : Addr} {fd : FuncData} {C : Addr} (F : Fun K "route" "Path.route" s_Path_route f fd) (T : TxtA mg) (Y : PathY K mg C) : FnOk P w K mg base CX0 1 f fd ["self"] (spRoute C) := by
  refine F.ok sc_Path_route (fun vs H Q E h => ?_) (fun cdv A outer s H vs Q E hr h => ?_)
  · obtain ⟨_, _, _, _, rfl, _⟩ := h
    rfl
  · obtain ⟨p, r, D, ns, rfl, PA, k⟩ := h
    refine ⟨_, (pss_one (ps_ret (pe_fld (pv 0) rfl))), ?_⟩
    obtain ⟨dx, l1, l2, l3, l4, sa, va, P⟩ := id PA
    refine ⟨_, rfl, _, _, _, _, _, rfl, P.ob, Y.cl, Y.n1, pf1, ?_⟩
    exact k
theorem sc_Path__point : FnScope ["self", "index", "progress", "x", "y", "dx", "dy", "length", "along"] ["self", "index", "progress"] (defScope s_Path__point) := ⟨rfl, rfl, rfl, by decide +kernel, rfl, by decide +kernel, by decide +kernel⟩
theorem ok_Path__point {f : Addr} {fd : FuncData} {C : Addr} (F : Fun K "_point" "Path._point" s_Path__point f fd) (T : TxtA mg) (Y : PathY K mg C) : FnOk P w K mg base CX0 1 f fd ["self", "index", "progress"] (spPoint C) := by
  refine F.ok sc_Path__point (fun vs H Q E h => ?_) (fun cdv A outer s H vs Q E hr h => ?_)
  · obtain ⟨_, _, _, _, _, _, _, rfl, _⟩ := h
    rfl
  · obtain ⟨p, r, D, ns, j, z, x, rfl, rfl, PA, hB, hj, k⟩ := h
    refine ⟨_, (pss_cons (ps_asg (pe_ix (r := rIxL K) ix_list (pe_fld (pv 0) rfl) (pv 1) (fun _ _ => rfl)) (pg_tup (by rfl) (pgs_cons (pg_name (i := 3) sc_Path__point.nd rfl (Or.inl rfl)) (pgs_cons (pg_name (i := 4) sc_Path__point.nd rfl (Or.inl rfl)) pgs_nil))))
    (pss_cons (ps_asg (pe_ix (r := rIxL K) ix_list (pe_fld (pv 0) rfl) (pv 1) (fun _ _ => rfl)) (pg_tup (by rfl) (pgs_cons (pg_name (i := 5) sc_Path__point.nd rfl (Or.inl rfl)) (pgs_cons (pg_name (i := 6) sc_Path__point.nd rfl (Or.inl rfl)) (pgs_cons (pg_name (i := 7) sc_Path__point.nd rfl (Or.inl rfl)) pgs_nil)))))
    (pss_cons (ps_set (i := 8) sc_Path__point.nd rfl (Or.inl rfl) (pe_op op_sub (pv 2) (pe_ix (r := rIxL K) ix_list (pe_fld (pv 0) rfl) (pv 1) (fun _ _ => rfl))))
    (pss_one (ps_ret (pe_tup (pa_cons (pe_op op_add (pe_op op_mul (pv 3) (pv 7)) (pe_op op_mul (pv 5) (pv 8))) (pa_cons (pe_op op_add (pe_op op_mul (pv 4) (pv 7)) (pe_op op_mul (pv 6) (pv 8))) pa_nil)))))))), ?_⟩
    obtain ⟨dx, l1, l2, l3, l4, sa, va, P⟩ := id PA
    have hs : j < sa.length := by rw [P.sl]; exact hj
    have hv : j < va.length := by rw [P.vl]; exact hj
    have b1 := hB (rn ns j)
    have b2 := hB (rn ns (j + 1))
    refine ⟨_, rfl, _, _, _, _, _, rfl, P.ob, Y.cl, Y.n3, pf3, _, rfl, _, _, _, _, rfl, rfl, .inl (.inl P.st), atI_nat (mapAt hs), _, _, rfl, .inl (.inl (P.sx j hs)), rfl, _, _, rfl, _, _, rfl, rfl, ?_⟩
    refine ⟨_, rfl, _, _, _, _, _, rfl, P.ob, Y.cl, Y.n4, pf4, _, rfl, _, _, _, _, rfl, rfl, .inl (.inl P.ve), atI_nat (mapAt hv), _, _, rfl, .inl (.inl (P.vx j hv)), rfl, _, _, rfl, _, _, rfl, _, _, rfl, rfl, ?_⟩
    refine ⟨_, rfl, _, rfl, _, _, _, _, _, rfl, P.ob, Y.cl, Y.n5, pf5, _, rfl, _, _, _, .int (bg D ns j), rfl, rfl, .inl (.inl P.bgn), atI_nat (by rw [List.getElem?_map, List.getElem?_range (by omega)]; rfl), _, _, rfl, rfl, ?_⟩
    refine ⟨_, rfl, _, rfl, _, _, rfl, rfl, .inl ⟨by omega, by omega⟩, _, rfl, _, rfl, _, _, rfl, rfl, .inl ⟨by omega, by omega⟩, _, _, rfl, rfl, _, rfl, _, rfl, _, _, rfl, rfl, .inl ⟨by omega, by omega⟩, _, rfl, _, rfl, _, _, rfl, rfl, .inl ⟨by omega, by omega⟩, _, _, rfl, rfl, szOk rfl, fun q hq => ?_⟩
    exact k q _ hq (same_new hq) upd_same


theorem sc_Path_place : FnScope ["self", "progress", "index", "x", "y"] ["self", "progress"] (defScope s_Path_place) := ⟨rfl, rfl, rfl, by decide +kernel, rfl, by decide +kernel, by decide +kernel⟩
theorem ok_Path_place {f : Addr} {fd : FuncData} {C : Addr} (F : Fun K "place" "Path.place" s_Path_place f fd) (T : TxtA mg) (Y : PathY K mg C)
    (M_leg_at : MDef P w K mg base 1 C "leg_at" ["self", "progress"] (spLegAt C))
    (M_point : MDef P w K mg base 1 C "_point" ["self", "index", "progress"] (spPoint C)) : FnOk P w K mg base CX0 2 f fd ["self", "progress"] (spPlace C) := by
  refine F.ok sc_Path_place (fun vs H Q E h => ?_) (fun cdv A outer s H vs Q E hr h => ?_)
  · obtain ⟨_, _, _, _, _, rfl, _⟩ := h
    rfl
  · obtain ⟨p, r, D, ns, x, rfl, PA, hB, n2, n20, k⟩ := h
    refine ⟨_, (pss_cons (ps_set (i := 2) sc_Path_place.nd rfl (Or.inl rfl) (pe_mdef M_leg_at Y.cl (hr.mono (by decide)) (pv 0) (pa_cons (pv 1) pa_nil)))
    (pss_cons (ps_asg (pe_mdef M_point Y.cl (hr.mono (by decide)) (pv 0) (pa_cons (pv 2) (pa_cons (pv 1) pa_nil))) (pg_tup (by rfl) (pgs_cons (pg_name (i := 3) sc_Path_place.nd rfl (Or.inl rfl)) (pgs_cons (pg_name (i := 4) sc_Path_place.nd rfl (Or.inl rfl)) pgs_nil))))
    (pss_one (ps_ret (pe_tup (pa_cons (pv 3) (pa_cons (pv 4) (pa_cons (pe_ix (r := rIxT K) ix_tup (pe_ix (r := rIxL K) ix_list (pe_fld (pv 0) rfl) (pv 2) (fun _ _ => rfl)) pe_int (fun _ _ => rfl)) pa_nil)))))))), ?_⟩
    obtain ⟨dx, l1, l2, l3, l4, sa, va, P⟩ := id PA
    obtain ⟨a1, b1, c1⟩ := lat_cases D ns (ns.length - 1 - 1) x
    refine ⟨_, rfl, _, _, _, rfl, P.ob, rfl, _, rfl, p, r, D, ns, x, rfl, PA, n2, n20, ?_⟩
    generalize hu : lat D ns (ns.length - 1 - 1) x = u at *
    refine ⟨_, rfl, _, _, _, rfl, P.ob, rfl, _, rfl, _, rfl, p, r, D, ns, u, _, _, rfl, rfl, PA, hB, by omega, fun q1 H1 hq1 sm1 ht1 => ?_⟩
    have P1 := P.same sm1
    have hv : u < va.length := by rw [P.vl]; omega
    refine ⟨_, _, rfl, .inl (.inl ht1), rfl, _, _, rfl, _, _, rfl, rfl, ?_⟩
    refine ⟨_, rfl, _, rfl, _, rfl, _, _, _, _, _, rfl, P1.ob, Y.cl, Y.n4, pf4, _, rfl, _, _, _, _, rfl, rfl, .inl (.inl P1.ve), atI_nat (mapAt hv), _, _, _, .int (D.len (rn ns u) (rn ns (u + 1))), rfl, rfl, .inl (.inl (P1.vx u hv)), rfl, szOk rfl, fun q hq => ?_⟩
    exact k q _ (sm1.free hq) (fun b o e => same_new hq _ _ (sm1 _ _ e)) upd_same

theorem sc_Path__join : FnScope ["self", "chart", "start", "end", "ax", "ay", "bx", "by", "length"] ["self", "chart", "start", "end"] (defScope s_Path__join) := ⟨rfl, rfl, rfl, by decide +kernel, rfl, by decide +kernel, by decide +kernel⟩
theorem ok_Path__join {f : Addr} {fd : FuncData} {C : Addr} (F : Fun K "_join" "Path._join" s_Path__join f fd) (T : TxtA mg) (Y : PathY K mg C)
    (D_leg_length : Def P w K mg base 3 "leg_length" ["chart", "start", "end"] (spLegLen))
    (D_leg_between : Def P w K mg base 1 "leg_between" ["chart", "start", "end"] (spLegBt))
    (M_total : MDef P w K mg base 1 C "total" ["self"] (spTotal C)) : FnOk P w K mg base CX0 4 f fd ["self", "chart", "start", "end"] (spJoin C) := by
  refine F.ok sc_Path__join (fun vs H Q E h => ?_) (fun cdv A outer s H vs Q E hr h => ?_)
  · obtain ⟨_, _, _, _, _, _, _, _, _, _, _, _, _, rfl, _⟩ := h
    rfl
  · obtain ⟨p, ch, r, dx, l1, l2, l3, l4, D, ns, i, sa, va, rfl, C0, P, hlg, hi, k⟩ := h
    have hu := hu_of hr
    refine ⟨_, (pss_cons (ps_asg (pe_dget hu (pe_dget hu (pv 1) pe_str (fun _ _ => rfl)) (pv 2) (fun _ _ => rfl)) (pg_tup (by rfl) (pgs_cons (pg_name (i := 4) sc_Path__join.nd rfl (Or.inl rfl)) (pgs_cons (pg_name (i := 5) sc_Path__join.nd rfl (Or.inl rfl)) pgs_nil))))
    (pss_cons (ps_asg (pe_dget hu (pe_dget hu (pv 1) pe_str (fun _ _ => rfl)) (pv 3) (fun _ _ => rfl)) (pg_tup (by rfl) (pgs_cons (pg_name (i := 6) sc_Path__join.nd rfl (Or.inl rfl)) (pgs_cons (pg_name (i := 7) sc_Path__join.nd rfl (Or.inl rfl)) pgs_nil))))
    (pss_cons (ps_set (i := 8) sc_Path__join.nd rfl (Or.inl rfl) (pe_def D_leg_length (hr.mono (by decide)) (by rfl) (pa_cons (pv 1) (pa_cons (pv 2) (pa_cons (pv 3) pa_nil)))))
    (pss_cons (ps_expr (pe_bm PySem.F.plainAttrs_list PySem.F.slot_list_append PySem.F.type_list_append mt_append (pe_fld (pv 0) rfl) (pa_cons (pe_def D_leg_between (hr.mono (by decide)) (by rfl) (pa_cons (pv 1) (pa_cons (pv 2) (pa_cons (pv 3) pa_nil)))) pa_nil)))
    (pss_cons (ps_expr (pe_bm PySem.F.plainAttrs_list PySem.F.slot_list_append PySem.F.type_list_append mt_append (pe_fld (pv 0) rfl) (pa_cons (pe_tup (pa_cons (pv 4) (pa_cons (pv 5) pa_nil))) pa_nil)))
    (pss_cons (ps_expr (pe_bm PySem.F.plainAttrs_list PySem.F.slot_list_append PySem.F.type_list_append mt_append (pe_fld (pv 0) rfl) (pa_cons (pe_tup (pa_cons (pe_op op_sub (pv 6) (pv 4)) (pa_cons (pe_op op_sub (pv 7) (pv 5)) (pa_cons (pv 8) pa_nil)))) pa_nil)))
    (pss_one (ps_expr (pe_bm PySem.F.plainAttrs_list PySem.F.slot_list_append PySem.F.type_list_append mt_append (pe_fld (pv 0) rfl) (pa_cons (pe_op op_add (pe_mdef0 M_total Y.cl (hr.mono (by decide)) (pv 0)) (pv 8)) pa_nil)))))))))), ?_⟩
    obtain ⟨lg, hlg'⟩ := hlg
    obtain ⟨hm, hs, he⟩ := CD.leg_mem hlg'
    obtain ⟨⟨a1, x1, y1, h1⟩, a2, x2, y2, h2⟩ := C0.wf lg hm
    rw [hs] at h1
    rw [he] at h2
    obtain ⟨p1, p2, _⟩ := C0.pf _ _ _ _ h1
    obtain ⟨q1, q2, _⟩ := C0.pf _ _ _ _ h2
    refine ⟨_, rfl, _, _, rfl, C0.gf, _, rfl, _, _, rfl, C0.gp h1, _, _, rfl, .inl (.inl p2), rfl, _, _, rfl, _, _, rfl, rfl, ?_⟩
    refine ⟨_, rfl, _, _, rfl, C0.gf, _, rfl, _, _, rfl, C0.gp h2, _, _, rfl, .inl (.inl q2), rfl, _, _, rfl, _, _, rfl, rfl, ?_⟩
    refine ⟨_, rfl, _, rfl, _, rfl, ch, D, rn ns i, rn ns (i + 1), _, _, _, _, _, _, rfl, C0, h1, h2, ?_⟩
    have npl : ∀ l xs, H l = some (.lst xs) → p ≠ l := fun l xs e => ne_of P.ob e (by intro z; cases z)
    refine ⟨_, rfl, _, _, _, _, _, rfl, P.ob, Y.cl, Y.n2, pf2, .inl ⟨rfl, _, .inl (.inl P.lg)⟩, _, rfl, _, rfl, _, rfl, ch, D, rn ns i, rn ns (i + 1), rfl, C0, ?_⟩
    refine ⟨_, _, _, rfl, rfl, P.lg, small1000 (by rw [List.length_map, List.length_range]; omega), ?_⟩
    -- starts
    have ob1 : ∀ o, (upd H l1 o) p = some (.ins C dx (pfl r l1 l2 l3 l4)) := fun o => by rw [upd_ne (npl _ _ P.lg)]; exact P.ob
    have st1 : ∀ o, (upd H l1 o) l2 = some (.lst (sa.map V.ref)) := fun o => by rw [upd_ne P.d12.symm]; exact P.st
    refine ⟨_, rfl, _, _, _, _, _, rfl, ob1 _, Y.cl, Y.n3, pf3, .inl ⟨rfl, _, .inl (.inl (st1 _))⟩, _, rfl, _, rfl, szOk rfl, fun t1 ht1 => ?_⟩
    have hH1 : ∀ b, (upd H l1 (.lst ((List.range i).map (fun j => optL (D.leg (rn ns j) (rn ns (j + 1)))) ++ [optL (D.leg (rn ns i) (rn ns (i + 1)))]))) b = none → H b = none := fun b e => by
      by_cases w : b = l1
      · rw [w, upd_same] at e; cases e
      · rw [upd_ne w] at e; exact e
    have n1H : H t1 = none := hH1 _ ht1
    refine ⟨_, _, _, rfl, rfl, same_new ht1 _ _ (st1 _), small1000 (by rw [List.length_map, P.sl]; omega), ?_⟩
    generalize hA : upd H l1 (.lst ((List.range i).map (fun j => optL (D.leg (rn ns j) (rn ns (j + 1)))) ++ [optL (D.leg (rn ns i) (rn ns (i + 1)))])) = HA at ht1 ⊢
    generalize hB : upd (upd HA t1 (.tup [.int x1, .int y1])) l2 (.lst (sa.map V.ref ++ [.ref t1])) = HB
    have fB : ∀ b o, H b = some o → b ≠ l1 → b ≠ l2 → HB b = some o := fun b o e m1 m2 => by
      rw [← hB, upd_ne m2]
      refine same_new ht1 _ _ ?_
      rw [← hA, upd_ne m1]
      exact e
    have B1 : HB l1 = some (.lst ((List.range (i + 1)).map fun j => optL (D.leg (rn ns j) (rn ns (j + 1))))) := by
      rw [← hB, upd_ne P.d12]
      refine same_new ht1 _ _ ?_
      rw [← hA, upd_same, List.range_succ, List.map_append]
      rfl
    have B2 : HB l2 = some (.lst ((sa ++ [t1]).map V.ref)) := by rw [← hB, upd_same, List.map_append]; rfl
    have Bt : HB t1 = some (.tup [.int x1, .int y1]) := by
      rw [← hB, upd_ne (fun w => by rw [w, P.st] at n1H; cases n1H), upd_same]
    -- vectors
    have obB := fB _ _ P.ob (npl _ _ P.lg) (npl _ _ P.st)
    have veB := fB _ _ P.ve P.d13.symm P.d23.symm
    have bgB := fB _ _ P.bgn P.d14.symm P.d24.symm
    refine ⟨_, rfl, _, _, _, _, _, rfl, obB, Y.cl, Y.n4, pf4, .inl ⟨rfl, _, .inl (.inl veB)⟩, _, rfl, _, rfl, _, _, rfl, rfl, _, rfl, _, rfl, _, _, rfl, rfl, _, rfl, szOk rfl, fun t2 ht2 => ?_⟩
    refine ⟨_, _, _, rfl, rfl, same_new ht2 _ _ veB, small1000 (by rw [List.length_map, P.vl]; omega), ?_⟩
    generalize hE : upd (upd HB t2 (.tup [.int (x2 - x1), .int (y2 - y1), .int (D.len (rn ns i) (rn ns (i + 1)))])) l3 (.lst (va.map V.ref ++ [.ref t2])) = HE
    have fE : ∀ b o, HB b = some o → b ≠ l3 → HE b = some o := fun b o e m => by
      rw [← hE, upd_ne m]
      exact same_new ht2 _ _ e
    have E3 : HE l3 = some (.lst ((va ++ [t2]).map V.ref)) := by rw [← hE, upd_same, List.map_append]; rfl
    have Et : HE t2 = some (.tup [.int (x2 - x1), .int (y2 - y1), .int (D.len (rn ns i) (rn ns (i + 1)))]) := by
      rw [← hE, upd_ne (fun w => by rw [w, veB] at ht2; cases ht2), upd_same]
    have obE := fE _ _ obB (npl _ _ P.ve)
    have bgE := fE _ _ bgB P.d34.symm
    -- begins
    refine ⟨_, rfl, _, _, _, _, _, rfl, obE, Y.cl, Y.n5, pf5, .inl ⟨rfl, _, .inl (.inl bgE)⟩, _, rfl, _, _, _, rfl, obE, rfl, p, r, dx, l1, l2, l3, l4, D, ns, i, rfl, obE, bgE, _, rfl, _, _, rfl, rfl, ?_⟩
    refine ⟨_, _, _, rfl, rfl, bgE, small1000 (by rw [List.length_map, List.length_range]; omega), ?_⟩
    generalize hG : upd HE l4 (.lst ((List.range (i + 1)).map (fun j => V.int (bg D ns j)) ++ [.int (bg D ns i + D.len (rn ns i) (rn ns (i + 1)))])) = HG
    have fG : ∀ b o, HE b = some o → b ≠ l4 → HG b = some o := fun b o e m => by
      rw [← hG, upd_ne m]
      exact e
    have G4 : HG l4 = some (.lst ((List.range (i + 1 + 1)).map fun j => V.int (bg D ns j))) := by
      rw [← hG, upd_same, List.range_succ (n := i + 1), List.map_append]
      rfl
    have tup3 : ∀ b xs, HB b = some (.tup xs) → HG b = some (.tup xs) := fun b xs e => fG _ _ (fE _ _ e (ne_of e veB (by intro z; cases z))) (ne_of e bgB (by intro z; cases z))
    have tup0 : ∀ b xs, H b = some (.tup xs) → HG b = some (.tup xs) := fun b xs e => tup3 _ _ (fB _ _ e (ne_of e P.lg (by intro z; cases z)) (ne_of e P.st (by intro z; cases z)))
    refine k t1 t2 HG ⟨fG _ _ obE (npl _ _ P.bgn), tup0 _ _ P.rt, fG _ _ (fE _ _ B1 P.d13) P.d14, fG _ _ (fE _ _ B2 P.d23) P.d24, fG _ _ E3 P.d34, G4, by rw [List.length_append, P.sl]; rfl, by rw [List.length_append, P.vl]; rfl, fun j hj => ?_, fun j hj => ?_, P.d12, P.d13, P.d14, P.d23, P.d24, P.d34⟩ fun b o e m1 m2 m3 m4 => fG _ _ (fE _ _ (fB _ _ e m1 m2) m3) m4
    · by_cases w : j < sa.length
      · rw [List.getElem_append_left w]
        exact tup0 _ _ (P.sx j w)
      · rw [List.length_append, List.length_singleton] at hj
        have ej : j = sa.length := by omega
        subst ej
        have e : (sa ++ [t1])[sa.length] = t1 := by simp
        rw [e, P.sl, CD.xy_eq h1]
        exact tup3 _ _ Bt
    · by_cases w : j < va.length
      · rw [List.getElem_append_left w]
        exact tup0 _ _ (P.vx j w)
      · rw [List.length_append, List.length_singleton] at hj
        have ej : j = va.length := by omega
        subst ej
        have e : (va ++ [t2])[va.length] = t2 := by simp
        rw [e, P.vl, CD.xy_eq h1, CD.xy_eq h2]
        exact fG _ _ Et (ne_of Et bgE (by intro z; cases z))
theorem sc_Path___init__ : FnScope ["self", "chart", "route", "index"] ["self", "chart", "route"] (defScope s_Path___init__) := ⟨rfl, rfl, rfl, by decide +kernel, rfl, by decide +kernel, by decide +kernel⟩
theorem ok_Path___init__ {f : Addr} {fd : FuncData} {C : Addr} (F : Fun K "__init__" "Path.__init__" s_Path___init__ f fd) (T : TxtA mg) (Y : PathY K mg C)
    (M_join : MDef P w K mg base 4 C "_join" ["self", "chart", "start", "end"] (spJoin C)) : FnOk P w K mg base CX0 5 f fd ["self", "chart", "route"] (spPInit C) := by
  refine F.ok sc_Path___init__ (fun vs H Q E h => ?_) (fun cdv A outer s H vs Q E hr h => ?_)
  · obtain ⟨_, _, _, _, _, _, rfl, _⟩ := h
    rfl
  · obtain ⟨p, ch, r, dx, D, ns, rfl, hp, C0, hr0, R, k⟩ := h
    refine ⟨_, (pss_cons (ps_fld (pv 0) (pv 2) rfl)
    (pss_cons (ps_fld (pv 0) (pe_lst pa_nil) rfl)
    (pss_cons (ps_fld (pv 0) (pe_lst pa_nil) rfl)
    (pss_cons (ps_fld (pv 0) (pe_lst pa_nil) rfl)
    (pss_cons (ps_fld (pv 0) (pe_lst (pa_cons pe_int pa_nil)) rfl)
    (pss_one (ps_for PassesOwn.never rfl (pi_range1 (by rfl) T.range (pa_cons (pe_op op_sub (pe_callB (r := rLenK K) call_len_seq (by rfl) T.len boot_len (pa_cons (pv 2) pa_nil)) pe_int) pa_nil)) (pg_name (i := 3) sc_Path___init__.nd rfl (Or.inl rfl))
      (pss_one (ps_expr (pe_mdef M_join Y.cl (hr.mono (by decide)) (pv 0) (pa_cons (pv 1) (pa_cons (pe_ix (r := rIxT K) ix_tup (pv 2) (pv 3) (fun _ _ => rfl)) (pa_cons (pe_ix (r := rIxT K) ix_tup (pv 2) (pe_op op_add (pv 3) pe_int) (fun _ _ => rfl)) pa_nil))))))))))))), ?_⟩
    have pr : p ≠ r := ne_of hp hr0 (by intro z; cases z)
    refine ⟨_, rfl, _, rfl, p, C, dx, [], rfl, hp, Y.cl, Y.n1, (by show 0 < 1000; decide), ?_⟩
    refine ⟨szOk rfl, fun l1 hl1 => ⟨_, rfl, p, C, dx, _, rfl, same_new hl1 _ _ upd_same, Y.cl, Y.n2, (by show 1 < 1000; decide), ?_⟩⟩
    refine ⟨szOk rfl, fun l2 hl2 => ⟨_, rfl, p, C, dx, _, rfl, same_new hl2 _ _ upd_same, Y.cl, Y.n3, (by show 2 < 1000; decide), ?_⟩⟩
    refine ⟨szOk rfl, fun l3 hl3 => ⟨_, rfl, p, C, dx, _, rfl, same_new hl3 _ _ upd_same, Y.cl, Y.n4, (by show 3 < 1000; decide), ?_⟩⟩
    refine ⟨szOk rfl, fun l4 hl4 => ⟨_, rfl, p, C, dx, _, rfl, same_new hl4 _ _ upd_same, Y.cl, Y.n5, (by show 4 < 1000; decide), ?_⟩⟩
    have np : ∀ (Hx : Hp) l o, (upd Hx p o) l = none → p ≠ l ∧ Hx l = none := fun Hx l o e => by
      have w : p ≠ l := fun w => by rw [← w, upd_same] at e; cases e
      exact ⟨w, by rw [upd_ne w.symm] at e; exact e⟩
    obtain ⟨m1, e1⟩ := np _ _ _ hl1
    obtain ⟨m2, e2⟩ := np _ _ _ hl2
    obtain ⟨m3, e3⟩ := np _ _ _ hl3
    obtain ⟨m4, e4⟩ := np _ _ _ hl4
    have nn : ∀ (Hx : Hp) l o b, (upd Hx l o) b = none → b ≠ l ∧ Hx b = none := fun Hx l o b e => by
      have w : b ≠ l := fun w => by rw [w, upd_same] at e; cases e
      exact ⟨w, by rw [upd_ne w] at e; exact e⟩
    obtain ⟨d12, e2a⟩ := nn _ _ _ _ e2
    obtain ⟨d23, e3a⟩ := nn _ _ _ _ e3
    obtain ⟨_, e3b⟩ := np _ _ _ e3a
    obtain ⟨d13, e3c⟩ := nn _ _ _ _ e3b
    obtain ⟨d34, e4a⟩ := nn _ _ _ _ e4
    obtain ⟨_, e4b⟩ := np _ _ _ e4a
    obtain ⟨d24, e4c⟩ := nn _ _ _ _ e4b
    obtain ⟨_, e4d⟩ := np _ _ _ e4c
    obtain ⟨d14, e4e⟩ := nn _ _ _ _ e4d
    obtain ⟨_, f2⟩ := np _ _ _ e2a
    obtain ⟨_, f3⟩ := np _ _ _ e3c
    obtain ⟨_, f4⟩ := np _ _ _ e4e
    generalize hG : upd (upd (upd (upd (upd (upd (upd (upd (upd H p _) l1 _) p _) l2 _) p _) l3 _) p _) l4 _) p _ = HG
    have fr : ∀ b o, H b = some o → b ≠ p → HG b = some o := fun b o e n => by
      rw [← hG, upd_ne n, upd_ne (ne_of_none e f4), upd_ne n, upd_ne (ne_of_none e f3), upd_ne n, upd_ne (ne_of_none e f2), upd_ne n, upd_ne (ne_of_none e e1), upd_ne n]
      exact e
    have g1 : HG l1 = some (.lst []) := by rw [← hG, upd_ne m1.symm, upd_ne d14.symm, upd_ne m1.symm, upd_ne d13.symm, upd_ne m1.symm, upd_ne d12.symm, upd_ne m1.symm, upd_same]
    have g2 : HG l2 = some (.lst []) := by rw [← hG, upd_ne m2.symm, upd_ne d24.symm, upd_ne m2.symm, upd_ne d23.symm, upd_ne m2.symm, upd_same]
    have g3 : HG l3 = some (.lst []) := by rw [← hG, upd_ne m3.symm, upd_ne d34.symm, upd_ne m3.symm, upd_same]
    have g4 : HG l4 = some (.lst [.int 0]) := by rw [← hG, upd_ne m4.symm, upd_same]
    have gp : HG p = some (.ins C dx (pfl r l1 l2 l3 l4)) := by rw [← hG, upd_same]; rfl
    have P0 : PathP C HG p D ns r 0 dx l1 l2 l3 l4 [] [] := ⟨gp, fr _ _ hr0 pr.symm, g1, g2, g3, g4, rfl, rfl, (fun j h => by simp at h), (fun j h => by simp at h), d12.symm, d13.symm, d14.symm, d23.symm, d24.symm, d34.symm⟩
    refine ⟨_, rfl, _, _, rfl, .inr (.inl (.inl P0.rt)), _, _, rfl, rfl, ?_⟩
    refine ⟨_, rfl, by rw [List.length_map]; have := R.n2; omega, by rw [List.length_map]; have := R.n20; omega, for_range (n := (((ns.map V.str).length : Int) - 1).toNat) (fun i σ H2 => ∃ sa va v3, σ = [some (.ref p), some (.ref ch), some (.ref r), v3] ∧ PathP C H2 p D ns r i dx l1 l2 l3 l4 sa va ∧ ∀ b o, H b = some o → b ≠ p → H2 b = some o)
      ⟨[], [], none, rfl, P0, fr⟩ ?_ ?_⟩
    · rintro i σ H2 hi ⟨sa, va, v3, rfl, P, hk⟩
      have hi : i + 1 < ns.length := by rw [List.length_map] at hi; omega
      have eu : 0 + (i : Int) + 1 = ((i + 1 : Nat) : Int) := by omega
      refine ⟨_, rfl, _, _, _, rfl, P.ob, rfl, _, rfl, _, rfl, _, rfl, _, _, _, _, rfl, rfl, .inl (.inl P.rt), atI0 (rn_at (by omega)), _, rfl, _, rfl, _, _, rfl, rfl, _, _, _, .str (rn ns (i + 1)), rfl, rfl, .inl (.inl P.rt), by rw [eu]; exact atI_nat (rn_at hi), p, ch, r, dx, l1, l2, l3, l4, D, ns, i, sa, va, rfl, C0.fr hp hk, P, R.ch i hi, by have := R.n20; omega, fun s v H' P' fr' => ?_⟩
      exact ⟨_, _, _, rfl, P', fun b o e n => fr' _ _ (hk _ _ e n) (ne_of_none e e1) (ne_of_none e f2) (ne_of_none e f3) (ne_of_none e f4)⟩
    · rintro σ H2 ⟨sa, va, v3, rfl, P, hk⟩
      rw [List.length_map] at P
      rw [show ((ns.length : Int) - 1).toNat = ns.length - 1 by omega] at P
      exact k H2 ⟨_, _, _, _, _, _, _, P⟩ hk
end
end Sk

set_option Elab.async false
set_option linter.all false
set_option maxRecDepth 100000
set_option maxHeartbeats 4000000
namespace Sk
open PySem PySem.Spec PyProof.Rows L2
local macro_rules | `(tactic| walk_at "ms") => `(tactic| first | exact .inl ⟨by decide, by decide⟩ | exact .inl ⟨by omega, by omega⟩ | exact .inr ⟨by omega, by omega⟩ | exact wm (by omega) (by omega) | exact log_of (by omega) (by omega) | (show (0:Int) < _; omega) | exact ⟨by decide, by decide, by decide⟩)
abbrev s_law_begins : Stmt := top 35
abbrev s_law_leg_at : Stmt := top 36
abbrev s_law_place_on : Stmt := top 37
abbrev s_law_piece : Stmt := top 38
theorem two_at (f : Nat → Addr) {j : Nat} (h : j < 2) : atI [V.ref (f 0), V.ref (f 1)] (j : Int) = some (.ref (f j)) := by
  match j, h with
  | 0, _ => rfl
  | 1, _ => rfl
theorem LoT.off {H : Hp} {l p : Addr} {o : HO} {xss : List (List Int)} {ys : List V} (L : LoT H l xss) (hp : H p = some (.lst ys)) (n : l ≠ p) : LoT (upd H p o) l xss := by
  obtain ⟨qs, h1, h2, h3⟩ := L
  exact ⟨qs, by rw [upd_ne n]; exact h1, fun q hq => by rw [upd_ne (ne_of (h2 q hq) hp (by intro z; cases z))]; exact h2 q hq, h3⟩
theorem PathAt.off {C H p D ns r ch E o} (P : PathAt C H p D ns r) (R : Route D ns) (C0 : ChartAt H ch D) {ps : List Addr} (hE : H E = some (.lst (ps.map V.ref))) (hp : ∀ q ∈ ps, ∃ dx fs, H q = some (.ins C dx fs)) : PathAt C (upd H E o) p D ns r := by
  obtain ⟨dx, l1, l2, l3, l4, sa, va, P⟩ := P
  have n2 := R.n2
  have nt : ∀ q xs, H q = some (.tup xs) → q ∉ ps := fun q xs e hq => by
    obtain ⟨_, _, z⟩ := hp q hq
    rw [z] at e
    cases e
  have hd : ∀ l (ys : List V), H l = some (.lst ys) → (∃ y, y ∈ ys ∧ ∀ q, y = .ref q → ∃ xs, H q = some (.tup xs)) → l ≠ E := fun l ys hl ⟨y, hy, z⟩ w => by
    rw [w, hE] at hl
    cases hl
    obtain ⟨q, hq, rfl⟩ := List.mem_map.mp hy
    obtain ⟨xs, hx⟩ := z q rfl
    exact nt q xs hx hq
  have e1 : l1 ≠ E := hd l1 _ P.lg ⟨_, List.mem_map.mpr ⟨0, List.mem_range.mpr (by omega), rfl⟩, fun q hq => by
    obtain ⟨g, hg⟩ := R.ch 0 (by omega)
    rw [hg] at hq
    cases hq
    exact ⟨_, C0.lt g (CD.leg_mem hg).1⟩⟩
  have e2 : l2 ≠ E := hd l2 _ P.st ⟨V.ref (sa[0]'(by have := P.sl; omega)), List.mem_map.mpr ⟨_, List.getElem_mem _, rfl⟩, fun q hq => by cases hq; exact ⟨_, P.sx 0 (by have := P.sl; omega)⟩⟩
  have e3 : l3 ≠ E := hd l3 _ P.ve ⟨V.ref (va[0]'(by have := P.vl; omega)), List.mem_map.mpr ⟨_, List.getElem_mem _, rfl⟩, fun q hq => by cases hq; exact ⟨_, P.vx 0 (by have := P.vl; omega)⟩⟩
  have e4 : l4 ≠ E := hd l4 _ P.bgn ⟨_, List.mem_map.mpr ⟨0, List.mem_range.mpr (by omega), rfl⟩, fun q hq => by cases hq⟩
  have et : ∀ q xs, H q = some (.tup xs) → upd H E o q = some (.tup xs) := fun q xs e => by
    rw [upd_ne (ne_of e hE (by intro z; cases z))]
    exact e
  exact ⟨dx, l1, l2, l3, l4, sa, va, { P with
    ob := by rw [upd_ne (ne_of P.ob hE (by intro z; cases z))]; exact P.ob
    rt := et _ _ P.rt
    lg := by rw [upd_ne e1]; exact P.lg
    st := by rw [upd_ne e2]; exact P.st
    ve := by rw [upd_ne e3]; exact P.ve
    bgn := by rw [upd_ne e4]; exact P.bgn
    sx := fun j h => et _ _ (P.sx j h)
    vx := fun j h => et _ _ (P.vx j h) }⟩
theorem nx_ {D : Ends} {σ : L2.St} {H : Hp} (h : D.nx σ H) : tNext D σ H := h
theorem same_app {H H1 : Hp} {a : Addr} {o : HO} (h : H a = none) (s : Same H H1) : Same H (upd H1 a o) := fun b x e => by
  rw [upd_ne (ne_of_none e h)]
  exact s _ _ e
section
variable {P : Program} {w : World} {K : PySem.W.Frag} {mg : Str → Option Value} {base : Heap}
theorem sc_law_begins : FnScope ["lengths", "route", "begins", "k"] ["lengths", "route"] (defScope s_law_begins) := ⟨rfl, rfl, rfl, by decide +kernel, rfl, by decide +kernel, by decide +kernel⟩
theorem ok_law_begins {f : Addr} {fd : FuncData} (F : Fun K "_law_begins" "_law_begins" s_law_begins f fd) (T : TxtA mg) : FnOk P w K mg base CX0 1 f fd ["lengths", "route"] (spBegins) := by
  refine F.ok sc_law_begins (fun vs H Q E h => ?_) (fun cdv A outer s H vs Q E hr h => ?_)
  · obtain ⟨_, _, _, _, rfl, _⟩ := h
    rfl
  · obtain ⟨ld, r, D, ns, rfl, L, hr0, R, k⟩ := h
    have hu := hu_of hr
    refine ⟨_, (pss_cons (ps_set (i := 2) sc_law_begins.nd rfl (Or.inl rfl) (pe_lst (pa_cons pe_int pa_nil)))
    (pss_cons (ps_for PassesOwn.never rfl (pi_range1 (by rfl) T.range (pa_cons (pe_op op_sub (pe_callB (r := rLenK K) call_len_seq (by rfl) T.len boot_len (pa_cons (pv 1) pa_nil)) pe_int) pa_nil)) (pg_name (i := 3) sc_law_begins.nd rfl (Or.inl rfl))
      (pss_one (ps_expr (pe_bm PySem.F.plainAttrs_list PySem.F.slot_list_append PySem.F.type_list_append mt_append (pv 2) (pa_cons (pe_op op_add (pe_ix (r := rIxL K) ix_list (pv 2) (pv 3) (fun _ _ => rfl)) (pe_dget hu (pv 0) (pe_tup (pa_cons (pe_ix (r := rIxT K) ix_tup (pv 1) (pv 3) (fun _ _ => rfl)) (pa_cons (pe_ix (r := rIxT K) ix_tup (pv 1) (pe_op op_add (pv 3) pe_int) (fun _ _ => rfl)) pa_nil))) (fun _ _ => rfl))) pa_nil)))))
    (pss_one (ps_ret (pv 2))))), ?_⟩
    refine ⟨szOk rfl, fun b hb => ?_⟩
    have sm0 : Same H (upd H b (.lst [.int 0])) := same_new hb
    have n2 := R.n2
    have n20 := R.n20
    refine ⟨_, rfl, _, _, rfl, .inr (.inl (.inl (sm0 _ _ hr0))), _, _, rfl, rfl, ?_⟩
    refine ⟨_, rfl, by rw [List.length_map]; omega, by rw [List.length_map]; omega, for_range (n := (((ns.map V.str).length : Int) - 1).toNat) (fun i σ H2 => ∃ v3, σ = [some (.ref ld), some (.ref r), some (.ref b), v3] ∧ Same H H2 ∧ H2 b = some (.lst (((List.range (i + 1)).map (bg D ns)).map V.int)))
      ⟨none, rfl, sm0, upd_same⟩ ?_ ?_⟩
    · rintro i σ H2 hi ⟨v3, rfl, sm, hB⟩
      have hi : i + 1 < ns.length := by rw [List.length_map] at hi; omega
      have eu : 0 + (i : Int) + 1 = ((i + 1 : Nat) : Int) := by omega
      have hr2 := sm _ _ hr0
      refine ⟨_, rfl, .inl ⟨rfl, _, .inl (.inl hB)⟩, _, rfl, _, rfl, _, _, _, .int (bg D ns i), rfl, rfl, .inl (.inl hB), atI0 (by rw [List.getElem?_map, List.getElem?_map, List.getElem?_range (by omega)]; rfl), _, rfl, _, rfl, _, rfl, _, _, _, _, rfl, rfl, .inl (.inl hr2), atI0 (rn_at (by omega)), _, rfl, _, rfl, _, _, rfl, rfl, _, _, _, .str (rn ns (i + 1)), rfl, rfl, .inl (.inl hr2), by rw [eu]; exact atI_nat (rn_at hi), szOk rfl, fun q hq => ?_⟩
      have L2' := (L.same sm).same (same_new (o := .tup [.str (rn ns i), .str (rn ns (i + 1))]) hq)
      refine ⟨_, _, rfl, L2'.g (R.ch i hi) upd_same, _, _, rfl, rfl, ?_⟩
      refine ⟨_, _, _, rfl, rfl, same_new hq _ _ hB, small1000 (by rw [List.length_map, List.length_map, List.length_range]; omega), ?_⟩
      refine ⟨_, rfl, fun c o e => ?_, ?_⟩
      · rw [upd_ne (ne_of_none e hb)]
        exact same_new hq _ _ (sm _ _ e)
      · rw [upd_same, List.range_succ (n := i + 1), List.map_append, List.map_append]
        rfl
    · rintro σ H2 ⟨v3, rfl, sm, hB⟩
      rw [List.length_map, show ((ns.length : Int) - 1).toNat + 1 = ns.length by omega] at hB
      exact ⟨_, rfl, k b H2 hb sm hB⟩
theorem sc_law_leg_at : FnScope ["begins", "progress", "found", "k"] ["begins", "progress"] (defScope s_law_leg_at) := ⟨rfl, rfl, rfl, by decide +kernel, rfl, by decide +kernel, by decide +kernel⟩
theorem ok_law_leg_at {f : Addr} {fd : FuncData} (F : Fun K "_law_leg_at" "_law_leg_at" s_law_leg_at f fd) (T : TxtA mg) : FnOk P w K mg base CX0 1 f fd ["begins", "progress"] (spLawLegAt) := by
  refine F.ok sc_law_leg_at (fun vs H Q E h => ?_) (fun cdv A outer s H vs Q E hr h => ?_)
  · obtain ⟨_, _, _, _, rfl, _⟩ := h
    rfl
  · obtain ⟨b, x, D, ns, rfl, hb, n2, n20, k⟩ := h
    refine ⟨_, (pss_cons (ps_set (i := 2) sc_law_leg_at.nd rfl (Or.inl rfl) pe_int)
    (pss_cons (ps_for PassesOwn.never rfl (pi_range2 (by rfl) T.range (pa_cons pe_int (pa_cons (pe_op op_sub (pe_callB (r := rLenK K) call_len_seq (by rfl) T.len boot_len (pa_cons (pv 0) pa_nil)) pe_int) pa_nil))) (pg_name (i := 3) sc_law_leg_at.nd rfl (Or.inl rfl))
      (pss_one (ps_if (pt_cmpR op_le (pe_ix (r := rIxL K) ix_list (pv 0) (pv 3) (fun _ _ => rfl)) (pv 1) (nomark _)) (pss_one (ps_set (i := 2) sc_law_leg_at.nd rfl (Or.inl rfl) (pv 3)))
      pss_nil)))
    (pss_one (ps_ret (pv 2))))), ?_⟩
    refine ⟨_, rfl, _, _, rfl, .inl (.inl (.inl hb)), _, _, rfl, rfl, ?_⟩
    rw [bgs_len]
    refine ⟨_, _, rfl, ⟨by omega, by omega, by omega, by omega⟩, for_range (lo := 1) (n := ((ns.length : Int) - 1 - 1).toNat) (fun i σ H2 => ∃ v3, σ = [some (.ref b), some (.int x), some (.int (lat D ns i x : Nat)), v3] ∧ H2 = H)
      ⟨none, rfl, rfl⟩ ?_ ?_⟩
    · rintro i σ H2 hi ⟨v3, rfl, rfl⟩
      have e1 : (1 : Int) + (i : Int) = ((i + 1 : Nat) : Int) := by omega
      refine ⟨_, rfl, _, rfl, _, _, _, .int (bg D ns (i + 1)), rfl, rfl, .inl (.inl hb), by rw [e1]; exact atI_nat (bgs_at (by omega)), _, rfl, _, _, rfl, rfl, _, rfl, ite2 (fun e => ?_) (fun e => ?_)⟩
      · have e := of_decide_eq_true e
        refine ⟨_, rfl, some (.int (1 + (i : Int))), ?_, rfl⟩
        rw [lat_succ, if_pos e, e1]
        rfl
      · have e : ¬ bg D ns (i + 1) ≤ x := fun z => e (decide_eq_true z)
        refine ⟨some (.int (1 + (i : Int))), ?_, rfl⟩
        rw [lat_succ, if_neg e]
        rfl
    · rintro σ H2 ⟨v3, rfl, rfl⟩
      rw [show ((ns.length : Int) - 1 - 1).toNat = ns.length - 1 - 1 by omega]
      exact ⟨_, rfl, k⟩
theorem sc_law_place_on : FnScope ["chart", "route", "begins", "k", "progress", "a", "b", "length", "way"] ["chart", "route", "begins", "k", "progress"] (defScope s_law_place_on) := ⟨rfl, rfl, rfl, by decide +kernel, rfl, by decide +kernel, by decide +kernel⟩
theorem ok_law_place_on {f : Addr} {fd : FuncData} (F : Fun K "_law_place_on" "_law_place_on" s_law_place_on f fd) (T : TxtA mg) : FnOk P w K mg base CX0 1 f fd ["chart", "route", "begins", "k", "progress"] (spPlaceOn) := by
  refine F.ok sc_law_place_on (fun vs H Q E h => ?_) (fun cdv A outer s H vs Q E hr h => ?_)
  · obtain ⟨_, _, _, _, _, _, _, _, rfl, _⟩ := h
    rfl
  · obtain ⟨ch, r, b, z, x, D, ns, j, rfl, rfl, C0, hr0, hb, R, hj, k⟩ := h
    have hu := hu_of hr
    refine ⟨_, (pss_cons (ps_set (i := 5) sc_law_place_on.nd rfl (Or.inl rfl) (pe_dget hu (pe_dget hu (pv 0) pe_str (fun _ _ => rfl)) (pe_ix (r := rIxT K) ix_tup (pv 1) (pv 3) (fun _ _ => rfl)) (fun _ _ => rfl)))
    (pss_cons (ps_set (i := 6) sc_law_place_on.nd rfl (Or.inl rfl) (pe_dget hu (pe_dget hu (pv 0) pe_str (fun _ _ => rfl)) (pe_ix (r := rIxT K) ix_tup (pv 1) (pe_op op_add (pv 3) pe_int) (fun _ _ => rfl)) (fun _ _ => rfl)))
    (pss_cons (ps_set (i := 7) sc_law_place_on.nd rfl (Or.inl rfl) (pe_op op_sub (pe_ix (r := rIxL K) ix_list (pv 2) (pe_op op_add (pv 3) pe_int) (fun _ _ => rfl)) (pe_ix (r := rIxL K) ix_list (pv 2) (pv 3) (fun _ _ => rfl))))
    (pss_cons (ps_set (i := 8) sc_law_place_on.nd rfl (Or.inl rfl) (pe_op op_sub (pv 4) (pe_ix (r := rIxL K) ix_list (pv 2) (pv 3) (fun _ _ => rfl))))
    (pss_one (ps_ret (pe_tup (pa_cons (pe_op op_add (pe_op op_mul (pe_ix (r := rIxT K) ix_tup (pv 5) pe_int (fun _ _ => rfl)) (pv 7)) (pe_op op_mul (pe_op op_sub (pe_ix (r := rIxT K) ix_tup (pv 6) pe_int (fun _ _ => rfl)) (pe_ix (r := rIxT K) ix_tup (pv 5) pe_int (fun _ _ => rfl))) (pv 8))) (pa_cons (pe_op op_add (pe_op op_mul (pe_ix (r := rIxT K) ix_tup (pv 5) pe_int (fun _ _ => rfl)) (pv 7)) (pe_op op_mul (pe_op op_sub (pe_ix (r := rIxT K) ix_tup (pv 6) pe_int (fun _ _ => rfl)) (pe_ix (r := rIxT K) ix_tup (pv 5) pe_int (fun _ _ => rfl))) (pv 8))) (pa_cons (pv 7) pa_nil)))))))))), ?_⟩
    obtain ⟨⟨a1, x1, y1, h1⟩, a2, x2, y2, h2⟩ := R.pt C0 hj
    obtain ⟨p1, p2, p3, p4, p5, p6⟩ := C0.pf _ _ _ _ h1
    obtain ⟨q1, q2, q3, q4, q5, q6⟩ := C0.pf _ _ _ _ h2
    have eu : (j : Int) + 1 = ((j + 1 : Nat) : Int) := by omega
    refine ⟨_, rfl, _, _, rfl, C0.gf, _, rfl, _, rfl, _, _, _, _, rfl, rfl, .inl (.inl hr0), atI_nat (rn_at (by omega)), _, _, rfl, C0.gp h1, ?_⟩
    refine ⟨_, rfl, _, _, rfl, C0.gf, _, rfl, _, rfl, _, _, rfl, rfl, _, _, _, .str (rn ns (j + 1)), rfl, rfl, .inl (.inl hr0), by rw [eu]; exact atI_nat (rn_at hj), _, _, rfl, C0.gp h2, ?_⟩
    refine ⟨_, rfl, _, rfl, _, _, rfl, rfl, _, _, _, .int (bg D ns (j + 1)), rfl, rfl, .inl (.inl hb), by rw [eu]; exact atI_nat (bgs_at hj), _, rfl, _, rfl, _, _, _, .int (bg D ns j), rfl, rfl, .inl (.inl hb), atI_nat (bgs_at (by omega)), _, _, rfl, rfl, ?_⟩
    refine ⟨_, rfl, _, rfl, _, rfl, _, _, _, .int (bg D ns j), rfl, rfl, .inl (.inl hb), atI_nat (bgs_at (by omega)), _, _, rfl, rfl, ?_⟩
    refine nm ?_
    dsimp only
    have el : bg D ns (j + 1) - bg D ns j = D.len (rn ns j) (rn ns (j + 1)) := by
      show bg D ns j + D.len (rn ns j) (rn ns (j + 1)) - bg D ns j = _
      omega
    rw [el]
    refine ⟨_, rfl, _, _, _, _, rfl, rfl, (.inl (.inl p2)), rfl, _, rfl, _, _, rfl, rfl, (by walk_at "ms"), _, rfl, _, _, _, _, rfl, rfl, (.inl (.inl q2)), rfl, _, rfl, _, _, _, _, rfl, rfl, (.inl (.inl p2)), rfl, _, _, rfl, rfl, _, rfl, _, _, rfl, rfl, (by walk_at "ms"), _, _, rfl, rfl, _, rfl, _, _, _, _, rfl, rfl, (.inl (.inl p2)), rfl, _, rfl, _, _, rfl, rfl, (by walk_at "ms"), _, rfl, _, _, _, _, rfl, rfl, (.inl (.inl q2)), rfl, _, rfl, _, _, _, _, rfl, rfl, (.inl (.inl p2)), rfl, _, _, rfl, rfl, _, rfl, _, _, rfl, rfl, (by walk_at "ms"), _, _, rfl, rfl, _, rfl, ?_⟩
    refine ⟨szOk rfl, fun q hq => k q _ hq (same_new hq) ?_⟩
    rw [upd_same]
    unfold plc
    rw [CD.xy_eq h1, CD.xy_eq h2]
    rfl
theorem sc_law_piece : FnScope ["chart", "route", "begins", "low", "high", "total", "first", "last", "place", "line", "k", "start", "end", "a", "b"] ["chart", "route", "begins", "low", "high"] (defScope s_law_piece) := ⟨rfl, rfl, rfl, by decide +kernel, rfl, by decide +kernel, by decide +kernel⟩
theorem ok_law_piece {f : Addr} {fd : FuncData} (F : Fun K "_law_piece" "_law_piece" s_law_piece f fd) (T : TxtA mg)
    (D_law_place_on : Def P w K mg base 1 "_law_place_on" ["chart", "route", "begins", "k", "progress"] (spPlaceOn))
    (D_law_leg_at : Def P w K mg base 1 "_law_leg_at" ["begins", "progress"] (spLawLegAt)) : FnOk P w K mg base CX0 2 f fd ["chart", "route", "begins", "low", "high"] (spLawPiece) := by
  refine F.ok sc_law_piece (fun vs H Q E h => ?_) (fun cdv A outer s H vs Q E hr h => ?_)
  · obtain ⟨_, _, _, _, _, _, _, rfl, _⟩ := h
    rfl
  · obtain ⟨ch, r, b, lo0, hi0, D, ns, rfl, C0, hr0, hb, R, hlh, k⟩ := h
    refine ⟨_, (pss_cons (ps_set (i := 5) sc_law_piece.nd rfl (Or.inl rfl) (pe_ix (r := rIxL K) ix_list (pv 2) (pe_op op_sub (pe_callB (r := rLenK K) call_len_seq (by rfl) T.len boot_len (pa_cons (pv 2) pa_nil)) pe_int) (fun _ _ => rfl)))
    (pss_cons (ps_if (PW.pt (pw_or (pt_cmpR op_lt (pv 4) pe_int (nomark _)) (pw_or1 (pt_cmpR op_ge (pv 3) (pv 5) (nomark _))))) (pss_one (ps_ret (pe_lst pa_nil)))
      pss_nil)
    (pss_cons (ps_set (i := 6) sc_law_piece.nd rfl (Or.inl rfl) (pe_callB (call_max2 rfl) (by rfl) T.max boot_max (pa_cons (pv 3) (pa_cons pe_int pa_nil))))
    (pss_cons (ps_set (i := 7) sc_law_piece.nd rfl (Or.inl rfl) (pe_callB (call_min2 rfl) (by rfl) T.min boot_min (pa_cons (pv 4) (pa_cons (pv 5) pa_nil))))
    (pss_cons (ps_if (pt_cmpR op_eq (pv 6) (pv 7) (nomark _)) (pss_cons (ps_set (i := 8) sc_law_piece.nd rfl (Or.inl rfl) (pe_def D_law_place_on (hr.mono (by decide)) (by rfl) (pa_cons (pv 0) (pa_cons (pv 1) (pa_cons (pv 2) (pa_cons (pe_def D_law_leg_at (hr.mono (by decide)) (by rfl) (pa_cons (pv 2) (pa_cons (pv 6) pa_nil))) (pa_cons (pv 6) pa_nil)))))))
    (pss_one (ps_ret (pe_lst (pa_cons (pe_tup (pa_cons (pe_ix (r := rIxT K) ix_tup (pv 8) pe_int (fun _ _ => rfl)) (pa_cons (pe_ix (r := rIxT K) ix_tup (pv 8) pe_int (fun _ _ => rfl)) (pa_cons (pe_ix (r := rIxT K) ix_tup (pv 8) pe_int (fun _ _ => rfl)) (pa_cons (pe_ix (r := rIxT K) ix_tup (pv 8) pe_int (fun _ _ => rfl)) (pa_cons (pe_ix (r := rIxT K) ix_tup (pv 8) pe_int (fun _ _ => rfl)) pa_nil)))))) pa_nil)))))
      pss_nil)
    (pss_cons (ps_set (i := 9) sc_law_piece.nd rfl (Or.inl rfl) (pe_lst pa_nil))
    (pss_cons (ps_for PassesOwn.never rfl (pi_range1 (by rfl) T.range (pa_cons (pe_op op_sub (pe_callB (r := rLenK K) call_len_seq (by rfl) T.len boot_len (pa_cons (pv 1) pa_nil)) pe_int) pa_nil)) (pg_name (i := 10) sc_law_piece.nd rfl (Or.inl rfl))
      (pss_cons (ps_set (i := 11) sc_law_piece.nd rfl (Or.inl rfl) (pe_callB (call_max2 rfl) (by rfl) T.max boot_max (pa_cons (pv 6) (pa_cons (pe_ix (r := rIxL K) ix_list (pv 2) (pv 10) (fun _ _ => rfl)) pa_nil))))
    (pss_cons (ps_set (i := 12) sc_law_piece.nd rfl (Or.inl rfl) (pe_callB (call_min2 rfl) (by rfl) T.min boot_min (pa_cons (pv 7) (pa_cons (pe_ix (r := rIxL K) ix_list (pv 2) (pe_op op_add (pv 10) pe_int) (fun _ _ => rfl)) pa_nil))))
    (pss_one (ps_if (pt_cmpR op_lt (pv 11) (pv 12) (nomark _)) (pss_cons (ps_set (i := 13) sc_law_piece.nd rfl (Or.inl rfl) (pe_def D_law_place_on (hr.mono (by decide)) (by rfl) (pa_cons (pv 0) (pa_cons (pv 1) (pa_cons (pv 2) (pa_cons (pv 10) (pa_cons (pv 11) pa_nil)))))))
    (pss_cons (ps_set (i := 14) sc_law_piece.nd rfl (Or.inl rfl) (pe_def D_law_place_on (hr.mono (by decide)) (by rfl) (pa_cons (pv 0) (pa_cons (pv 1) (pa_cons (pv 2) (pa_cons (pv 10) (pa_cons (pv 12) pa_nil)))))))
    (pss_one (ps_expr (pe_bm PySem.F.plainAttrs_list PySem.F.slot_list_append PySem.F.type_list_append mt_append (pv 9) (pa_cons (pe_tup (pa_cons (pe_ix (r := rIxT K) ix_tup (pv 13) pe_int (fun _ _ => rfl)) (pa_cons (pe_ix (r := rIxT K) ix_tup (pv 13) pe_int (fun _ _ => rfl)) (pa_cons (pe_ix (r := rIxT K) ix_tup (pv 14) pe_int (fun _ _ => rfl)) (pa_cons (pe_ix (r := rIxT K) ix_tup (pv 14) pe_int (fun _ _ => rfl)) (pa_cons (pe_ix (r := rIxT K) ix_tup (pv 13) pe_int (fun _ _ => rfl)) pa_nil)))))) pa_nil))))))
      pss_nil)))))
    (pss_one (ps_ret (pv 9)))))))))), ?_⟩
    have n2 := R.n2
    have n20 := R.n20
    refine ⟨_, rfl, _, rfl, _, _, rfl, .inl (.inl (.inl hb)), _, _, rfl, rfl, _, _, _, .int (bg D ns (ns.length - 1)), rfl, rfl, .inl (.inl hb), atI_lastn rfl (bgs_last (by omega)), ?_⟩
    have nl0 : ∀ H' : Hp, ∀ q, H q = none → H' = upd H q (.lst []) → (hi0 < 0 ∨ bg D ns (ns.length - 1) ≤ lo0) → Q (.ref q) H' := fun H' q hq e h => by
      subst e
      refine k q _ hq (same_new hq) ?_
      unfold pcs
      dsimp only
      rw [if_pos h]
      exact LoT.nil upd_same
    refine ⟨_, rfl, _, _, rfl, rfl, _, rfl, ite2 (fun e => ?_) (fun e => ?_)⟩
    · have e := of_decide_eq_true e
      exact ⟨szOk rfl, fun q hq => nl0 _ q hq rfl (.inl e)⟩
    have e : ¬ hi0 < 0 := fun z => e (decide_eq_true z)
    refine ⟨_, rfl, _, rfl, _, _, rfl, rfl, _, rfl, ite2 (fun e2 => ?_) (fun e2 => ?_)⟩
    · have e2 := of_decide_eq_true e2
      exact ⟨szOk rfl, fun q hq => nl0 _ q hq rfl (.inr e2)⟩
    have e2 : ¬ bg D ns (ns.length - 1) ≤ lo0 := fun z => e2 (decide_eq_true z)
    have hpc : pcs D ns lo0 hi0 = if (if 0 > lo0 then 0 else lo0) = (if bg D ns (ns.length - 1) < hi0 then bg D ns (ns.length - 1) else hi0) then [seg D ns (lat D ns (ns.length - 1 - 1) (if 0 > lo0 then 0 else lo0)) (if 0 > lo0 then 0 else lo0) (if 0 > lo0 then 0 else lo0)] else segsOf D ns (if 0 > lo0 then 0 else lo0) (if bg D ns (ns.length - 1) < hi0 then bg D ns (ns.length - 1) else hi0) (List.range (ns.length - 1)) := by
      unfold pcs
      dsimp only
      rw [if_neg (by omega)]
    rw [hpc] at k
    refine ⟨_, rfl, _, _, rfl, ?_⟩
    refine ⟨_, rfl, _, rfl, _, _, rfl, ?_⟩
    refine nm ?_
    dsimp only
    generalize (if 0 > lo0 then 0 else lo0) = f1 at *
    generalize (if bg D ns (ns.length - 1) < hi0 then bg D ns (ns.length - 1) else hi0) = l at *
    refine ⟨_, rfl, _, rfl, rfl, _, rfl, ite2 (fun e3 => ?_) (fun e3 => ?_)⟩
    · have e3 := V.int.inj (of_decide_eq_true e3)
      rw [if_pos e3] at k
      obtain ⟨a1, b1, c1⟩ := lat_cases D ns (ns.length - 1 - 1) f1
      refine ⟨_, rfl, _, rfl, _, rfl, _, rfl, _, rfl, b, f1, D, ns, rfl, hb, n2, n20, ?_⟩
      refine ⟨_, rfl, ch, r, b, _, f1, D, ns, lat D ns (ns.length - 1 - 1) f1, rfl, rfl, C0, hr0, hb, R, by omega, fun q1 H1 hq1 sm1 ht1 => ?_⟩
      refine ⟨_, rfl, _, _, _, _, rfl, rfl, .inl (.inl ht1), rfl, _, rfl, _, _, _, _, rfl, rfl, .inl (.inl ht1), rfl, _, rfl, _, _, _, _, rfl, rfl, .inl (.inl ht1), rfl, _, rfl, _, _, _, _, rfl, rfl, .inl (.inl ht1), rfl, _, rfl, _, _, _, _, rfl, rfl, .inl (.inl ht1), rfl, szOk rfl, fun q2 hq2 => ⟨szOk rfl, fun q hq => ?_⟩⟩
      refine k q _ (sm1.free ((same_new hq2).free hq)) (fun b o e => same_new hq _ _ (same_new hq2 _ _ (sm1 _ _ e))) ?_
      exact ⟨[(q2, _)], upd_same, fun z hz => by rw [List.mem_singleton.mp hz]; exact same_new hq _ _ upd_same, rfl⟩
    have e3 : ¬ f1 = l := fun z => e3 (decide_eq_true (congrArg V.int z))
    rw [if_neg e3] at k
    refine ⟨szOk rfl, fun ln hln => ?_⟩
    have sm0 : Same H (upd H ln (.lst [])) := same_new hln
    refine ⟨_, rfl, _, _, rfl, .inr (.inl (.inl (sm0 _ _ hr0))), _, _, rfl, rfl, ?_⟩
    refine ⟨_, rfl, by rw [List.length_map]; omega, by rw [List.length_map]; omega, for_range (n := (((ns.map V.str).length : Int) - 1).toNat) (fun i σ H2 => ∃ v8 v10 v11 v12 v13 v14, σ = [some (.ref ch), some (.ref r), some (.ref b), some (.int lo0), some (.int hi0), some (.int (bg D ns (ns.length - 1))), some (.int f1), some (.int l), v8, some (.ref ln), v10, v11, v12, v13, v14] ∧ Same H H2 ∧ LoT H2 ln (segsOf D ns f1 l (List.range i)))
      ⟨none, none, none, none, none, none, rfl, sm0, LoT.nil upd_same⟩ ?_ ?_⟩
    · rintro i σ H2 hi ⟨v8, v10, v11, v12, v13, v14, rfl, sm, hL⟩
      have hi : i + 1 < ns.length := by rw [List.length_map] at hi; omega
      have eu : 0 + (i : Int) + 1 = ((i + 1 : Nat) : Int) := by omega
      have hb2 := sm _ _ hb
      have hsn : segsOf D ns f1 l (List.range (i + 1)) = segsOf D ns f1 l (List.range i) ++ (match segOf D ns f1 l i with | some x => [x] | none => []) := by
        unfold segsOf
        rw [List.range_succ, List.filterMap_append]
        congr 1
        show List.filterMap (segOf D ns f1 l) [i] = _
        cases e : segOf D ns f1 l i <;> simp [e]
      refine ⟨_, rfl, _, rfl, _, rfl, _, _, _, .int (bg D ns i), rfl, rfl, .inl (.inl hb2), atI0 (bgs_at (by omega)), _, _, rfl, ?_⟩
      refine ⟨_, rfl, _, rfl, _, rfl, _, _, rfl, rfl, _, _, _, .int (bg D ns (i + 1)), rfl, rfl, .inl (.inl hb2), by rw [eu]; exact atI_nat (bgs_at hi), _, _, rfl, ?_⟩
      refine ⟨_, rfl, _, rfl, _, _, rfl, rfl, _, rfl, ite2 (fun e => ?_) (fun e => ?_)⟩
      · have e := of_decide_eq_true e
        have es : segOf D ns f1 l i = some (seg D ns i (if bg D ns i > f1 then bg D ns i else f1) (if bg D ns (i + 1) < l then bg D ns (i + 1) else l)) := by
          unfold segOf
          dsimp only
          rw [if_pos e]
        obtain ⟨ys, hy, hyl⟩ := hL.li
        have hys : ys.length ≤ 100 := by
          rw [hyl]
          have := segsOf_len D ns f1 l (List.range i)
          rw [List.length_range] at this
          omega
        refine ⟨_, rfl, _, rfl, _, rfl, _, rfl, _, rfl, ch, r, b, _, _, D, ns, i, rfl, Int.zero_add _, C0.same sm, sm _ _ hr0, hb2, R, hi, fun q1 H3 hq1 sm1 ht1 => ?_⟩
        have sm3 : Same H H3 := fun b o e => sm1 _ _ (sm _ _ e)
        refine ⟨_, rfl, _, rfl, _, rfl, _, rfl, _, rfl, ch, r, b, _, _, D, ns, i, rfl, Int.zero_add _, C0.same sm3, sm3 _ _ hr0, sm1 _ _ hb2, R, hi, fun q2 H4 hq2 sm2 ht2 => ?_⟩
        have ht1' := sm2 _ _ ht1
        have hy4 := sm2 _ _ (sm1 _ _ hy)
        refine ⟨_, rfl, .inl ⟨rfl, _, .inl (.inl hy4)⟩, _, rfl, _, _, _, _, rfl, rfl, .inl (.inl ht1'), rfl, _, rfl, _, _, _, _, rfl, rfl, .inl (.inl ht1'), rfl, _, rfl, _, _, _, _, rfl, rfl, .inl (.inl ht2), rfl, _, rfl, _, _, _, _, rfl, rfl, .inl (.inl ht2), rfl, _, rfl, _, _, _, _, rfl, rfl, .inl (.inl ht1'), rfl, szOk rfl, fun q3 hq3 => ?_⟩
        refine ⟨_, _, _, rfl, rfl, same_new hq3 _ _ hy4, small1000 (by omega), ?_⟩
        refine ⟨_, _, _, _, _, _, rfl, fun b o e => ?_, ?_⟩
        · rw [upd_ne (ne_of_none e hln)]
          exact same_new hq3 _ _ (sm2 _ _ (sm3 _ _ e))
        · rw [hsn, es]
          exact LoT.snoc (((hL.same sm1).same sm2).same (same_new hq3)) (same_new hq3 _ _ hy4) upd_same
      · have e : ¬ _ := fun z => e (decide_eq_true z)
        have es : segOf D ns f1 l i = none := by
          unfold segOf
          dsimp only
          rw [if_neg e]
        refine ⟨_, _, _, _, _, _, rfl, sm, ?_⟩
        rw [hsn, es, List.append_nil]
        exact hL
    · rintro σ H2 ⟨v8, v10, v11, v12, v13, v14, rfl, sm, hL⟩
      refine ⟨_, rfl, k ln H2 hln sm ?_⟩
      rw [List.length_map, show ((ns.length : Int) - 1).toNat = ns.length - 1 by omega] at hL
      exact hL
end
end Sk

set_option Elab.async false
set_option linter.all false
set_option maxRecDepth 100000
set_option maxHeartbeats 4000000
namespace Sk
open PySem PySem.Spec PyProof.Rows L2
section
variable {P : Program} {w : World} {K : PySem.W.Frag} {mg : Str → Option Value} {base : Heap}
abbrev s_near_on_leg : Stmt := top 7
theorem sc_near_on_leg : FnScope ["path", "index", "plot", "reach", "begin", "dx", "dy", "length", "x", "y", "_", "a", "b", "c", "rest", "root"] ["path", "index", "plot", "reach"] (defScope s_near_on_leg) := ⟨rfl, rfl, rfl, by decide +kernel, rfl, by decide +kernel, by decide +kernel⟩
theorem ok_near_on_leg {f : Addr} {fd : FuncData} {C : Addr} (F : Fun K "_near_on_leg" "_near_on_leg" s_near_on_leg f fd) (T : TxtA mg) (Y : PathY K mg C)
    (D_root_down : Def P w K mg base 1 "root_down" ["n"] (spDownR))
    (M_begin : MDef P w K mg base 1 C "begin" ["self", "index"] (spBegin C))
    (M_vector : MDef P w K mg base 1 C "vector" ["self", "index"] (spVec C))
    (M_place : MDef P w K mg base 2 C "place" ["self", "progress"] (spPlace C)) : FnOk P w K mg base CX0 6 f fd ["path", "index", "plot", "reach"] (spNearLeg C) := by
  refine F.ok sc_near_on_leg (fun vs H Q E h => ?_) (fun cdv A outer s H vs Q E hr h => ?_)
  · obtain ⟨_, _, _, _, _, _, _, _, _, _, _, rfl, _⟩ := h
    rfl
  · obtain ⟨p, q, r, D, ns, k, z, x, y, pz, m, rfl, hz, PA, bd, pos, hk, n20, hq, bx, by', m0, m1, kk⟩ := h
    refine ⟨_, (pss_cons (ps_set (i := 4) sc_near_on_leg.nd rfl (Or.inl rfl) (pe_mdef M_begin Y.cl (hr.mono (by decide)) (pv 0) (pa_cons (pv 1) pa_nil)))
    (pss_cons (ps_asg (pe_mdef M_vector Y.cl (hr.mono (by decide)) (pv 0) (pa_cons (pv 1) pa_nil)) (pg_tup (by rfl) (pgs_cons (pg_name (i := 5) sc_near_on_leg.nd rfl (Or.inl rfl)) (pgs_cons (pg_name (i := 6) sc_near_on_leg.nd rfl (Or.inl rfl)) (pgs_cons (pg_name (i := 7) sc_near_on_leg.nd rfl (Or.inl rfl)) pgs_nil)))))
    (pss_cons (ps_asg (pe_mdef M_place Y.cl (hr.mono (by decide)) (pv 0) (pa_cons (pv 4) pa_nil)) (pg_tup (by rfl) (pgs_cons (pg_name (i := 8) sc_near_on_leg.nd rfl (Or.inl rfl)) (pgs_cons (pg_name (i := 9) sc_near_on_leg.nd rfl (Or.inl rfl)) (pgs_cons (pg_name (i := 10) sc_near_on_leg.nd rfl (Or.inl rfl)) pgs_nil)))))
    (pss_cons (ps_aug (i := 8) sc_near_on_leg.nd rfl (Or.inl rfl) (pe_op op_mulW (pe_ix (r := rIxT K) ix_tup (pv 2) pe_int (fun _ _ => rfl)) (pv 7)) ip_sub)
    (pss_cons (ps_aug (i := 9) sc_near_on_leg.nd rfl (Or.inl rfl) (pe_op op_mulW (pe_ix (r := rIxT K) ix_tup (pv 2) pe_int (fun _ _ => rfl)) (pv 7)) ip_sub)
    (pss_cons (ps_set (i := 11) sc_near_on_leg.nd rfl (Or.inl rfl) (pe_op op_add (pe_op op_mulW (pv 5) (pv 5)) (pe_op op_mulW (pv 6) (pv 6))))
    (pss_cons (ps_set (i := 12) sc_near_on_leg.nd rfl (Or.inl rfl) (pe_op op_add (pe_op op_mulW (pv 8) (pv 5)) (pe_op op_mulW (pv 9) (pv 6))))
    (pss_cons (ps_set (i := 13) sc_near_on_leg.nd rfl (Or.inl rfl) (pe_op op_sub (pe_op op_add (pe_op op_mulW (pv 8) (pv 8)) (pe_op op_mulW (pv 9) (pv 9))) (pe_op op_mulW (pe_op op_mulW (pe_op op_mulW (pv 3) (pv 3)) (pv 7)) (pv 7))))
    (pss_cons (ps_set (i := 14) sc_near_on_leg.nd rfl (Or.inl rfl) (pe_op op_sub (pe_op op_mulW (pv 12) (pv 12)) (pe_op op_mulW (pv 11) (pv 13))))
    (pss_cons (ps_if (pt_cmpR op_lt (pv 14) pe_int (nomark _)) (pss_one (ps_ret (pe_tup (pa_cons (pv 4) (pa_cons (pe_op op_sub (pv 4) pe_int) pa_nil)))))
      pss_nil)
    (pss_cons (ps_set (i := 15) sc_near_on_leg.nd rfl (Or.inl rfl) (pe_def D_root_down (hr.mono (by decide)) (by rfl) (pa_cons (pv 14) pa_nil)))
    (pss_one (ps_ret (pe_tup (pa_cons (pe_op op_sub (pv 4) (pe_op op_fdivW (pe_op op_add (pv 12) (pv 15)) (pv 11))) (pa_cons (pe_op op_add (pv 4) (pe_op op_fdivW (pe_op op_sub (pv 15) (pv 12)) (pv 11))) pa_nil)))))))))))))))), ?_⟩
    rw [show L2.start ["path", "index", "plot", "reach", "begin", "dx", "dy", "length", "x", "y", "_", "a", "b", "c", "rest", "root"] [V.ref p, V.int z, V.ref q, V.int m] = [some (V.ref p), some (V.int z), some (V.ref q), some (V.int m), none, none, none, none, none, none, none, none, none, none, none, none] from rfl]
    obtain ⟨dx, l1, l2, l3, l4, sa, va, O1⟩ := id PA
    refine ⟨_, rfl, _, _, _, rfl, O1.ob, rfl, _, rfl, p, r, D, ns, k, _, rfl, hz, PA, by omega, ?_⟩
    refine nm ?_
    dsimp only [List.set]
    refine ⟨_, rfl, _, _, _, rfl, O1.ob, rfl, _, rfl, p, r, D, ns, k, _, rfl, hz, PA, by omega, fun v hv => ?_⟩
    refine ⟨_, _, rfl, .inl (.inl hv), rfl, _, _, rfl, _, _, rfl, _, _, rfl, rfl, ?_⟩
    dsimp only [List.set]
    refine ⟨_, rfl, _, _, _, rfl, O1.ob, rfl, _, rfl, p, r, D, ns, bg D ns k, rfl, PA, bd, by omega, n20, fun u H1 hu s1 hut => ?_⟩
    rw [lat_begin pos hk] at hut
    have hut : H1 u = some (.tup [.int (pX D ns k (bg D ns k)), .int (pY D ns k (bg D ns k)), .int (D.len (rn ns k) (rn ns (k + 1)))]) := hut
    refine ⟨_, _, rfl, .inl (.inl hut), rfl, _, _, rfl, _, _, rfl, _, _, rfl, rfl, ?_⟩
    dsimp only [List.set]
    have hq1 := s1 _ _ hq
    have g0 := bg_nn D ns k
    have g1 := bg_le bd ns k
    obtain ⟨bpx, bpy⟩ := plc_small bd n20 (k := k) (p := bg D ns k) (by omega) (by omega) (by omega)
    have bn := bl19 bd (rn ns k) (rn ns (k + 1))
    have aq := fun t => alw_quad (D := D) (ns := ns) (k := k) (x := x) (y := y) (m := m) (t := t) rfl rfl rfl (show (D.xy (rn ns k)).1 * D.len (rn ns k) (rn ns (k + 1)) - x * D.len (rn ns k) (rn ns (k + 1)) = pX D ns k (bg D ns k) - x * D.len (rn ns k) (rn ns (k + 1)) by unfold pX; rw [Int.sub_self, Int.mul_zero]; omega) (show (D.xy (rn ns k)).2 * D.len (rn ns k) (rn ns (k + 1)) - y * D.len (rn ns k) (rn ns (k + 1)) = pY D ns k (bg D ns k) - y * D.len (rn ns k) (rn ns (k + 1)) by unfold pY; rw [Int.sub_self, Int.mul_zero]; omega)
    have a1 := edge_ok pos hk
    have e0 := bd (rn ns k)
    have e1 := bd (rn ns (k + 1))
    have bex := b18 (z := (D.xy (rn ns (k + 1))).1 - (D.xy (rn ns k)).1) (by omega) (by omega)
    have bey := b18 (z := (D.xy (rn ns (k + 1))).2 - (D.xy (rn ns k)).2) (by omega) (by omega)
    refine ⟨_, rfl, _, rfl, _, _, _, _, rfl, rfl, .inl (.inl hq1), rfl, _, rfl, _, _, rfl, rfl, wmB bx bn (by decide) (by decide), _, _, rfl, rfl, ?_⟩
    dsimp only [List.set]
    refine ⟨_, rfl, _, rfl, _, _, _, _, rfl, rfl, .inl (.inl hq1), rfl, _, rfl, _, _, rfl, rfl, wmB by' bn (by decide) (by decide), _, _, rfl, rfl, ?_⟩
    dsimp only [List.set]
    have bX : BdN 66 (pX D ns k (bg D ns k) - x * D.len (rn ns k) (rn ns (k + 1))) := ((bpx.mono (show 45 ≤ 65 by decide)).sub (bx.mul bn)).mono (by decide)
    have bY : BdN 66 (pY D ns k (bg D ns k) - y * D.len (rn ns k) (rn ns (k + 1))) := ((bpy.mono (show 45 ≤ 65 by decide)).sub (by'.mul bn)).mono (by decide)
    generalize pX D ns k (bg D ns k) - x * D.len (rn ns k) (rn ns (k + 1)) = X at bX aq ⊢
    generalize pY D ns k (bg D ns k) - y * D.len (rn ns k) (rn ns (k + 1)) = Y at bY aq ⊢
    generalize (D.xy (rn ns (k + 1))).1 - (D.xy (rn ns k)).1 = ex at bex aq a1 ⊢
    generalize (D.xy (rn ns (k + 1))).2 - (D.xy (rn ns k)).2 = ey at bey aq a1 ⊢
    generalize D.len (rn ns k) (rn ns (k + 1)) = n at bn aq ⊢
    have bm := bm13 m0 m1
    have ba : BdN 37 (ex * ex + ey * ey) := (bex.mul bex).add (bey.mul bey)
    have bb : BdN 85 (X * ex + Y * ey) := (bX.mul bex).add (bY.mul bey)
    have bmm := bm.mul bm
    have bc : BdN 134 (X * X + Y * Y - m * m * n * n) := ((bX.mul bX).add (bY.mul bY)).sub (((bmm.mul bn).mul bn).mono (by decide))
    refine ⟨_, rfl, _, rfl, _, _, rfl, rfl, wmB bex bex (by decide) (by decide), _, rfl, _, rfl, _, _, rfl, rfl, wmB bey bey (by decide) (by decide), _, _, rfl, rfl, ?_⟩
    refine nm ?_
    dsimp only [List.set]
    refine ⟨_, rfl, _, rfl, _, _, rfl, rfl, wmB bX bex (by decide) (by decide), _, rfl, _, rfl, _, _, rfl, rfl, wmB bY bey (by decide) (by decide), _, _, rfl, rfl, ?_⟩
    refine nm ?_
    dsimp only [List.set]
    refine ⟨_, rfl, _, rfl, _, _, rfl, rfl, wmB bX bX (by decide) (by decide), _, rfl, _, rfl, _, _, rfl, rfl, wmB bY bY (by decide) (by decide), _, _, rfl, rfl, _, rfl, _, rfl, _, _, rfl, rfl, wmB bm bm (by decide) (by decide), _, rfl, _, _, rfl, rfl, wmB bmm bn (by decide) (by decide), _, rfl, _, _, rfl, rfl, wmB (bmm.mul bn) bn (by decide) (by decide), _, _, rfl, rfl, ?_⟩
    refine nm ?_
    dsimp only [List.set]
    generalize ex * ex + ey * ey = a at ba aq a1 ⊢
    generalize X * ex + Y * ey = b at bb aq ⊢
    generalize X * X + Y * Y - m * m * n * n = c at bc aq ⊢
    refine ⟨_, rfl, _, rfl, _, _, rfl, rfl, wmB bb bb (by decide) (by decide), _, rfl, _, rfl, _, _, rfl, rfl, wmB ba bc (by decide) (by decide), _, _, rfl, rfl, ?_⟩
    refine nm ?_
    dsimp only [List.set]
    have br : BdN 173 (b * b - a * c) := (((bb.mul bb).mono (show 170 ≤ 172 by decide)).sub ((ba.mul bc).mono (show 171 ≤ 172 by decide))).mono (by decide)
    refine ⟨_, rfl, _, _, rfl, rfl, _, rfl, ite2 (fun e => ?_) (fun e => ?_)⟩
    · have e := of_decide_eq_true e
      refine ⟨_, rfl, _, rfl, _, _, rfl, rfl, szOk rfl, fun w hw => ?_⟩
      refine kk w _ _ _ (s1.trans (same_new hw)) upd_same fun t => ?_
      rw [aq t]
      constructor
      · intro h; exact absurd h (quad_none a1 e)
      · intro h; omega
    have e : 0 ≤ b * b - a * c := Int.not_lt.mp fun h => e (decide_eq_true h)
    refine ⟨_, rfl, b * b - a * c, rfl, Nat.lt_of_le_of_lt br (Nat.pow_lt_pow_right (by decide) (by decide)), fun rt r0 _ hr => ?_⟩
    obtain ⟨r1, r2⟩ := hr e
    refine nm ?_
    dsimp only [List.set]
    have hdiv : ∀ l : Int, CDivW l a := fun l => wide_div (b := 300) a1 (Nat.lt_of_le_of_lt ba (Nat.pow_lt_pow_right (by decide) (by decide))) (by decide) (by decide)
    refine ⟨_, rfl, _, rfl, _, rfl, _, _, rfl, rfl, _, rfl, _, _, rfl, rfl, hdiv _, _, _, rfl, rfl, _, rfl, _, rfl, _, rfl, _, _, rfl, rfl, _, rfl, _, _, rfl, rfl, hdiv _, _, _, rfl, rfl, szOk rfl, fun w hw => ?_⟩
    refine kk w _ _ _ (s1.trans (same_new hw)) upd_same fun t => ?_
    rw [aq t, quad a1 r0 r1 r2]
    omega

abbrev s_near_ends : Stmt := top 6
theorem sc_near_ends : FnScope ["path", "low", "high", "plot", "reach", "ends", "index", "first", "last"] ["path", "low", "high", "plot", "reach"] (defScope s_near_ends) := ⟨rfl, rfl, rfl, by decide +kernel, rfl, by decide +kernel, by decide +kernel⟩
theorem ok_near_ends {f : Addr} {fd : FuncData} {C : Addr} (F : Fun K "_near_ends" "_near_ends" s_near_ends f fd) (T : TxtA mg) (Y : PathY K mg C)
    (D_near_on_leg : Def P w K mg base 6 "_near_on_leg" ["path", "index", "plot", "reach"] (spNearLeg C))
    (M_leg_at : MDef P w K mg base 1 C "leg_at" ["self", "progress"] (spLegAt C))
    (M_begin : MDef P w K mg base 1 C "begin" ["self", "index"] (spBegin C)) : FnOk P w K mg base CX0 7 f fd ["path", "low", "high", "plot", "reach"] (spNearEnds C) := by
  refine F.ok sc_near_ends (fun vs H Q E h => ?_) (fun cdv A outer s H vs Q E hr h => ?_)
  · obtain ⟨_, _, _, _, _, _, _, _, _, _, _, rfl, _⟩ := h
    rfl
  · obtain ⟨p, q, r, D, ns, lo, hi, x, y, pz, m, rfl, PA, bd, pos, n2, n20, hq, bx, by', m0, m1, kk⟩ := h
    refine ⟨_, (pss_cons (ps_set (i := 5) sc_near_ends.nd rfl (Or.inl rfl) (pe_lst pa_nil))
    (pss_cons (ps_for PassesOwn.never rfl (pi_range2 (by rfl) T.range (pa_cons (pe_mdef M_leg_at Y.cl (hr.mono (by decide)) (pv 0) (pa_cons (pv 1) pa_nil)) (pa_cons (pe_op op_add (pe_mdef M_leg_at Y.cl (hr.mono (by decide)) (pv 0) (pa_cons (pv 2) pa_nil)) pe_int) pa_nil))) (pg_name (i := 6) sc_near_ends.nd rfl (Or.inl rfl))
      (pss_cons (ps_asg (pe_def D_near_on_leg (hr.mono (by decide)) (by rfl) (pa_cons (pv 0) (pa_cons (pv 6) (pa_cons (pv 3) (pa_cons (pv 4) pa_nil))))) (pg_tup (by rfl) (pgs_cons (pg_name (i := 7) sc_near_ends.nd rfl (Or.inl rfl)) (pgs_cons (pg_name (i := 8) sc_near_ends.nd rfl (Or.inl rfl)) pgs_nil))))
    (pss_cons (ps_set (i := 7) sc_near_ends.nd rfl (Or.inl rfl) (pe_callB (call_max3Nu rfl) (by rfl) T.max boot_max (pa_cons (pv 7) (pa_cons (pv 1) (pa_cons (pe_mdef M_begin Y.cl (hr.mono (by decide)) (pv 0) (pa_cons (pv 6) pa_nil)) pa_nil)))))
    (pss_cons (ps_set (i := 8) sc_near_ends.nd rfl (Or.inl rfl) (pe_callB (call_min3Nu rfl) (by rfl) T.min boot_min (pa_cons (pv 8) (pa_cons (pv 2) (pa_cons (pe_op op_sub (pe_mdef M_begin Y.cl (hr.mono (by decide)) (pv 0) (pa_cons (pe_op op_add (pv 6) pe_int) pa_nil)) pe_int) pa_nil)))))
    (pss_one (ps_if (pt_cmpR op_le (pv 7) (pv 8) (nomark _)) (pss_cons (ps_expr (pe_bm PySem.F.plainAttrs_list PySem.F.slot_list_append PySem.F.type_list_append mt_append (pv 5) (pa_cons (pv 7) pa_nil)))
    (pss_one (ps_expr (pe_bm PySem.F.plainAttrs_list PySem.F.slot_list_append PySem.F.type_list_append mt_append (pv 5) (pa_cons (pv 8) pa_nil)))))
      pss_nil))))))
    (pss_one (ps_ret (pv 5))))), ?_⟩
    rw [show L2.start ["path", "low", "high", "plot", "reach", "ends", "index", "first", "last"] [V.ref p, V.int lo, V.int hi, V.ref q, V.int m] = [some (V.ref p), some (V.int lo), some (V.int hi), some (V.ref q), some (V.int m), none, none, none, none] from rfl]
    refine ⟨szOk rfl, fun L hL => ?_⟩
    refine nm ?_
    dsimp only [List.set]
    have s0 : Same H (upd H L (.lst [])) := same_new hL
    have PA0 := PA.same s0
    obtain ⟨dx, l1, l2, l3, l4, sa, va, O1⟩ := id PA0
    refine ⟨_, rfl, _, _, _, rfl, O1.ob, rfl, _, rfl, p, r, D, ns, lo, rfl, PA0, n2, n20, ?_⟩
    refine ⟨_, rfl, _, _, _, rfl, O1.ob, rfl, _, rfl, p, r, D, ns, hi, rfl, PA0, n2, n20, ?_⟩
    have k0 := (lat_cases D ns (ns.length - 1 - 1) lo).1
    have k1 := (lat_cases D ns (ns.length - 1 - 1) hi).1
    have lm := fun (p q : Int) (h : p ≤ q) => lat_mono D ns (ns.length - 1 - 1) h
    generalize ekl : lat D ns (ns.length - 1 - 1) lo = kl at k0 ⊢
    generalize ekh : lat D ns (ns.length - 1 - 1) hi = kh at k1 ⊢
    refine ⟨_, _, rfl, rfl, (kl : Int), (kh : Int) + 1, rfl, ⟨by omega, by omega, by omega, by omega⟩, for_range (lo := (kl : Int)) (n := ((kh : Int) + 1 - (kl : Int)).toNat) (fun i σ H' => ∃ (v6 v7 v8 : Option V) (es : List Int), σ = [some (.ref p), some (.int lo), some (.int hi), some (.ref q), some (.int m), some (.ref L), v6, v7, v8] ∧ Same H H' ∧ H' L = some (.lst (es.map V.int)) ∧ es.length ≤ 2 * i ∧ (∀ e ∈ es, InS D ns x y m lo hi e) ∧ (∀ t, InS D ns x y m lo hi t → lat D ns (ns.length - 1 - 1) t < kl + i → (∃ e ∈ es, e ≤ t) ∧ ∃ e ∈ es, t ≤ e)) ⟨none, none, none, [], rfl, s0, upd_same, Nat.zero_le _, (fun e h => nomatch h), fun t ht hlt => ?_⟩ ?_ ?_⟩
    · exfalso
      have := lm lo t ht.2.2.1
      omega
    · rintro i σ H1 hi1 ⟨v6, v7, v8, es, rfl, sm, hes, hel, hmem, hcov⟩
      have hki : kl + i ≤ kh := by omega
      have PA1 := PA.same sm
      obtain ⟨dx', l1', l2', l3', l4', sa', va', O2⟩ := id PA1
      refine nm ?_
      dsimp only [List.set]
      have ek : (kl : Int) + (i : Int) = ((kl + i : Nat) : Int) := by omega
      refine ⟨_, rfl, _, rfl, _, rfl, _, rfl, p, q, r, D, ns, kl + i, _, x, y, pz, m, rfl, ek, PA1, bd, pos, by omega, n20, sm _ _ hq, bx, by', m0, m1, fun u f l H2 s2 hu2 hfl => ?_⟩
      refine ⟨_, _, rfl, .inl (.inl hu2), rfl, _, _, rfl, _, _, rfl, rfl, ?_⟩
      dsimp only [List.set]
      have PA2 := PA1.same s2
      obtain ⟨dx3, l13, l23, l33, l43, sa3, va3, O3⟩ := id PA2
      refine ⟨_, rfl, _, rfl, _, rfl, _, _, _, rfl, O3.ob, rfl, _, rfl, p, r, D, ns, kl + i, _, rfl, ek, PA2, by omega, ?_⟩
      refine ⟨_, _, _, _, rfl, numax3 _ _ _, ?_⟩
      refine nm ?_
      dsimp only [List.set]
      refine ⟨_, rfl, _, rfl, _, rfl, _, _, _, rfl, O3.ob, rfl, _, rfl, _, _, rfl, rfl, p, r, D, ns, kl + i + 1, _, rfl, by omega, PA2, by omega, ?_⟩
      refine ⟨_, _, rfl, rfl, _, _, _, _, rfl, numin3 _ _ _, ?_⟩
      refine nm ?_
      dsimp only [List.set]
      have cov : ∀ t, InS D ns x y m lo hi t → lat D ns (ns.length - 1 - 1) t = kl + i → mx3 f lo (bg D ns (kl + i)) ≤ t ∧ t ≤ mn3 l hi (bg D ns (kl + i + 1) - 1) := fun t ht hk => by
        obtain ⟨t0, t1, t2, t3, t4⟩ := ht
        rw [hk] at t4
        have a := (hfl t).mp t4
        have b := (lat_iff n2 (k := kl + i) (by omega) t0 t1).mp hk
        exact ⟨mx3_le.mpr ⟨a.1, t2, b.1⟩, le_mn3.mpr ⟨a.2, t3, by omega⟩⟩
      have ins : ∀ t, mx3 f lo (bg D ns (kl + i)) ≤ t → t ≤ mn3 l hi (bg D ns (kl + i + 1) - 1) → InS D ns x y m lo hi t := fun t h0 h1 => by
        obtain ⟨a, b, c⟩ := mx3_le.mp h0
        obtain ⟨a', b', c'⟩ := le_mn3.mp h1
        have g0 := bg_nn D ns (kl + i)
        have g1 := bg_mono D ns (show kl + i + 1 ≤ ns.length - 1 by omega)
        have hk := (lat_iff n2 (k := kl + i) (p := t) (by omega) (by omega) (by omega)).mpr ⟨c, by omega⟩
        exact ⟨by omega, by omega, b, b', by rw [hk]; exact (hfl t).mpr ⟨a, a'⟩⟩
      have sm2 := sm.trans s2
      have hes2 := s2 _ _ hes
      generalize mx3 f lo (bg D ns (kl + i)) = f' at cov ins ⊢
      generalize mn3 l hi (bg D ns (kl + i + 1) - 1) = l' at cov ins ⊢
      refine ⟨_, rfl, _, rfl, _, _, rfl, rfl, _, rfl, ite2 (fun e => ?_) (fun e => ?_)⟩
      · have e := of_decide_eq_true e
        refine ⟨_, rfl, (.inl ⟨rfl, _, .inl (.inl hes2)⟩), _, rfl, _, _, _, rfl, rfl, hes2, small1000 (by rw [List.length_map]; omega), ?_⟩
        refine ⟨_, rfl, (.inl ⟨rfl, _, .inl (.inl upd_same)⟩), _, rfl, _, _, _, rfl, rfl, upd_same, small1000 (by rw [List.length_append, List.length_map]; show es.length + 1 ≤ 1000; omega), ?_⟩
        refine ⟨_, _, _, es ++ [f'] ++ [l'], rfl, sameU hL (sameU hL sm2), by rw [upd_same, List.map_append, List.map_append]; rfl, by rw [List.length_append, List.length_append]; show es.length + 1 + 1 ≤ _; omega, fun t ht => ?_, fun t ht hlt => ?_⟩
        · rcases List.mem_append.mp ht with h | h
          · rcases List.mem_append.mp h with h | h
            · exact hmem t h
            · rw [List.mem_singleton.mp h]; exact ins _ (Int.le_refl _) e
          · rw [List.mem_singleton.mp h]; exact ins _ e (Int.le_refl _)
        · by_cases c : lat D ns (ns.length - 1 - 1) t < kl + i
          · obtain ⟨⟨e1, h1, h2⟩, e2, h3, h4⟩ := hcov t ht c
            exact ⟨⟨e1, by simp [h1], h2⟩, e2, by simp [h3], h4⟩
          · obtain ⟨c1, c2⟩ := cov t ht (by omega)
            exact ⟨⟨f', by simp, c1⟩, l', by simp, c2⟩
      · have e : ¬ f' ≤ l' := fun h => e (decide_eq_true h)
        refine ⟨_, _, _, es, rfl, sm2, hes2, by omega, hmem, fun t ht hlt => ?_⟩
        by_cases c : lat D ns (ns.length - 1 - 1) t < kl + i
        · exact hcov t ht c
        · exfalso
          obtain ⟨c1, c2⟩ := cov t ht (by omega)
          omega
    · rintro σ H1 ⟨v6, v7, v8, es, rfl, sm, hes, hel, hmem, hcov⟩
      refine ⟨_, rfl, ?_⟩
      have cv : ∀ t, InS D ns x y m lo hi t → (∃ e ∈ es, e ≤ t) ∧ ∃ e ∈ es, t ≤ e := fun t ht => hcov t ht (by
        have a := lm lo t ht.2.2.1
        have b := lm t hi ht.2.2.2.1
        omega)
      exact kk L es H1 sm hes ⟨hmem, fun t ht => (cv t ht).1, fun t ht => (cv t ht).2⟩

abbrev s_fitted : Stmt := top 5
theorem sc_fitted : FnScope ["rules", "path", "box", "plot", "low", "high", "down", "up", "_", "z", "doubt", "ends"] ["rules", "path", "box", "plot"] (defScope s_fitted) := ⟨rfl, rfl, rfl, by decide +kernel, rfl, by decide +kernel, by decide +kernel⟩
theorem ok_fitted {f : Addr} {fd : FuncData} (F : Fun K "fitted" "fitted" s_fitted f fd) (T : TxtA mg) {C : Addr}
    (D_near_ends : Def P w K mg base 7 "_near_ends" ["path", "low", "high", "plot", "reach"] (spNearEnds C)) : FnOk P w K mg base CX0 8 f fd ["rules", "path", "box", "plot"] (spFitted C) := by
  refine F.ok sc_fitted (fun vs H Q E h => ?_) (fun cdv A outer s H vs Q E hr h => ?_)
  · obtain ⟨_, _, _, _, _, _, _, _, _, _, _, _, _, _, _, rfl, _⟩ := h
    rfl
  · obtain ⟨ru, p, b, q, r, ra, ba, rd, ht, D, ns, B, x, y, pz, rfl, RQ, hb, PA, bd, pos, n2, n20, hq, bx, by', kk⟩ := h
    have hu := hu_of hr
    refine ⟨_, (pss_cons (ps_asg (pv 2) (pg_tup (by rfl) (pgs_cons (pg_name (i := 4) sc_fitted.nd rfl (Or.inl rfl)) (pgs_cons (pg_name (i := 5) sc_fitted.nd rfl (Or.inl rfl)) (pgs_cons (pg_name (i := 6) sc_fitted.nd rfl (Or.inl rfl)) (pgs_cons (pg_name (i := 7) sc_fitted.nd rfl (Or.inl rfl)) pgs_nil))))))
    (pss_cons (ps_asg (pv 3) (pg_tup (by rfl) (pgs_cons (pg_name (i := 8) sc_fitted.nd rfl (Or.inl rfl)) (pgs_cons (pg_name (i := 8) sc_fitted.nd rfl (Or.inl rfl)) (pgs_cons (pg_name (i := 9) sc_fitted.nd rfl (Or.inl rfl)) pgs_nil)))))
    (pss_cons (ps_set (i := 10) sc_fitted.nd rfl (Or.inl rfl) (pe_op op_add (pe_dget hu (pv 0) pe_str (fun _ _ => rfl)) (pe_dget hu (pv 0) pe_str (fun _ _ => rfl))))
    (pss_cons (ps_set (i := 6) sc_fitted.nd rfl (Or.inl rfl) (pe_callB (call_max2 rfl) (by rfl) T.max boot_max (pa_cons (pv 6) (pa_cons (pe_op op_sub (pv 9) (pv 10)) pa_nil))))
    (pss_cons (ps_set (i := 7) sc_fitted.nd rfl (Or.inl rfl) (pe_callB (call_min2 rfl) (by rfl) T.min boot_min (pa_cons (pv 7) (pa_cons (pe_op op_add (pv 9) (pv 10)) pa_nil))))
    (pss_cons (ps_set (i := 11) sc_fitted.nd rfl (Or.inl rfl) (pe_def D_near_ends (hr.mono (by decide)) (by rfl) (pa_cons (pv 1) (pa_cons (pv 4) (pa_cons (pv 5) (pa_cons (pv 3) (pa_cons (pe_op op_add (pe_dget hu (pv 0) pe_str (fun _ _ => rfl)) (pe_dget hu (pv 0) pe_str (fun _ _ => rfl))) pa_nil)))))))
    (pss_cons (ps_if (PW.pt (pw_or (pt_not (pt_truth (pv 11) (by intro _; rfl))) (pw_or1 (pt_cmpR op_gt (pv 6) (pv 7) (nomark _))))) (pss_one (ps_ret pe_non))
      pss_nil)
    (pss_one (ps_ret (pe_tup (pa_cons (pe_callB (cr_min rfl) (by rfl) T.min boot_min (pa_cons (pv 11) pa_nil)) (pa_cons (pe_callB (cr_max rfl) (by rfl) T.max boot_max (pa_cons (pv 11) pa_nil)) (pa_cons (pv 6) (pa_cons (pv 7) pa_nil)))))))))))))), ?_⟩
    rw [show L2.start ["rules", "path", "box", "plot", "low", "high", "down", "up", "_", "z", "doubt", "ends"] [V.ref ru, V.ref p, V.ref b, V.ref q] = [some (V.ref ru), some (V.ref p), some (V.ref b), some (V.ref q), none, none, none, none, none, none, none, none] from rfl]
    obtain ⟨q1, q2, q3, q4, q5, q6, q7, q8⟩ := RQ.bd
    have hb : H b = some (.tup [.int B.lo, .int B.hi, .int B.dn, .int B.up]) := hb
    refine ⟨_, rfl, _, _, rfl, .inl (.inl hb), rfl, _, _, rfl, _, _, rfl, _, _, rfl, _, _, rfl, rfl, ?_⟩
    dsimp only [List.set]
    refine ⟨_, rfl, _, _, rfl, .inl (.inl hq), rfl, _, _, rfl, _, _, rfl, _, _, rfl, rfl, ?_⟩
    dsimp only [List.set]
    refine ⟨_, rfl, _, _, rfl, RQ.ght, _, rfl, _, _, rfl, RQ.gba, _, _, rfl, rfl, ?_⟩
    refine nm ?_
    dsimp only [List.set]
    refine ⟨_, rfl, _, rfl, _, rfl, _, _, rfl, rfl, _, _, rfl, ?_⟩
    refine nm ?_
    dsimp only [List.set]
    refine ⟨_, rfl, _, rfl, _, rfl, _, _, rfl, rfl, _, _, rfl, ?_⟩
    refine nm ?_
    dsimp only [List.set]
    refine ⟨_, rfl, _, rfl, _, rfl, _, rfl, _, rfl, _, _, rfl, RQ.grd, _, rfl, _, _, rfl, RQ.gra, _, _, rfl, rfl, p, q, r, D, ns, B.lo, B.hi, x, y, pz, rd + ra, rfl, PA, bd, pos, n2, n20, hq, bx, by', by omega, by omega, fun a es H1 s1 ha E => ?_⟩
    refine nm ?_
    dsimp only [List.set]
    have kk : ∀ (v : V) (o : Option Est) (H' : Hp), Same H H' → optE H' o v → FitOk (InS D ns x y (rd + ra) B.lo B.hi) (if pz - (ht + ba) > B.dn then pz - (ht + ba) else B.dn) (if pz + (ht + ba) < B.up then pz + (ht + ba) else B.up) o → _ := kk
    generalize (if pz - (ht + ba) > B.dn then pz - (ht + ba) else B.dn) = dn at kk ⊢
    generalize (if pz + (ht + ba) < B.up then pz + (ht + ba) else B.up) = up at kk ⊢
    refine ⟨_, rfl, _, (.inl ⟨_, .inl (.inl ha), rfl⟩), ?_⟩
    cases es with
    | nil =>
      refine iteT ?_
      exact kk .non none H1 s1 rfl (.inl E.none)
    | cons e0 es' =>
    refine iteF ?_
    refine ⟨_, rfl, _, rfl, _, _, rfl, rfl, _, rfl, ite2 (fun c => ?_) (fun c => ?_)⟩
    · have c := of_decide_eq_true c
      exact kk .non none H1 s1 rfl (.inr c)
    have c : dn ≤ up := Int.not_lt.mp fun h => c (decide_eq_true h)
    refine ⟨_, rfl, a, e0 :: es', rfl, .inl (.inl ha), by simp, fun mn h1 h2 => ?_⟩
    refine ⟨_, rfl, a, e0 :: es', rfl, .inl (.inl ha), by simp, fun mx h3 h4 => ?_⟩
    refine ⟨_, rfl, _, rfl, szOk rfl, fun t ht => ?_⟩
    exact kk (.ref t) (some ⟨mn, mx, dn, up⟩) _ (s1.trans (same_new ht)) ⟨t, rfl, upd_same⟩ (E.fit h1 h3 h2 h4 c)

end
end Sk

set_option Elab.async false
set_option linter.all false
set_option maxRecDepth 100000
set_option maxHeartbeats 4000000
namespace Sk
open PySem PySem.Spec PyProof.Rows L2
section
variable {P : Program} {w : World} {K : PySem.W.Frag} {mg : Str → Option Value} {base : Heap}
abbrev s_fitting : Stmt := top 11
theorem sc_fitting : FnScope ["rules", "candidates", "plot", "found", "path", "box", "narrow"] ["rules", "candidates", "plot"] (defScope s_fitting) := ⟨rfl, rfl, rfl, by decide +kernel, rfl, by decide +kernel, by decide +kernel⟩
theorem ok_fitting {f : Addr} {fd : FuncData} (F : Fun K "_fitting" "_fitting" s_fitting f fd) (T : TxtA mg) {C : Addr}
    (D_fitted : Def P w K mg base 8 "fitted" ["rules", "path", "box", "plot"] (spFitted C)) : FnOk P w K mg base CX0 9 f fd ["rules", "candidates", "plot"] (spFitting C) := by
  refine F.ok sc_fitting (fun vs H Q E h => ?_) (fun cdv A outer s H vs Q E hr h => ?_)
  · obtain ⟨_, _, _, _, _, _, _, _, _, _, rfl, _⟩ := h
    rfl
  · obtain ⟨ru, l, q, ra, ba, rd, ht, D, cs, pp, rfl, RQ, PL, ok, cl, bd, hq, bx, by', k⟩ := h
    refine ⟨_, (pss_cons (ps_set (i := 3) sc_fitting.nd rfl (Or.inl rfl) (pe_lst pa_nil))
    (pss_cons (ps_for PassesOwn.never rfl (pi_list (pv 1)) (pg_tup (by rfl) (pgs_cons (pg_name (i := 4) sc_fitting.nd rfl (Or.inl rfl)) (pgs_cons (pg_name (i := 5) sc_fitting.nd rfl (Or.inl rfl)) pgs_nil)))
      (pss_cons (ps_set (i := 6) sc_fitting.nd rfl (Or.inl rfl) (pe_def D_fitted (hr.mono (by decide)) (by rfl) (pa_cons (pv 0) (pa_cons (pv 4) (pa_cons (pv 5) (pa_cons (pv 2) pa_nil))))))
    (pss_one (ps_if (pt_cmpR op_notN (pv 6) pe_non (nomark _)) (pss_one (ps_expr (pe_bm PySem.F.plainAttrs_list PySem.F.slot_list_append PySem.F.type_list_append mt_append (pv 3) (pa_cons (pe_tup (pa_cons (pv 4) (pa_cons (pv 6) pa_nil))) pa_nil))))
      pss_nil))))
    (pss_one (ps_ret (pv 3))))), ?_⟩
    rw [show L2.start ["rules", "candidates", "plot", "found", "path", "box", "narrow"] [V.ref ru, V.ref l, V.ref q] = [some (V.ref ru), some (V.ref l), some (V.ref q), none, none, none, none] from rfl]
    refine ⟨szOk rfl, fun fo hfo => ?_⟩
    refine nm ?_
    dsimp only [List.set]
    obtain ⟨qs, h1, h2, h3⟩ := PL
    have s0 := same_new (o := .lst []) hfo
    have ql : qs.length = cs.length := by rw [← h3, List.length_map]
    refine ⟨_, rfl, l, rfl, ⟨_, .inl (.inl (s0 _ _ h1))⟩, for_list (K := K) (a := l) (xs := qs.map fun q => V.ref q.1) (fun i σ H' => ∃ (v4 v5 v6 : Option V), σ = [some (.ref ru), some (.ref l), some (.ref q), some (.ref fo), v4, v5, v6] ∧ Same H H' ∧ PairL H' fo ((cs.take i).filterMap (fitC D (rd + ra) (ht + ba) pp)))
      ⟨none, none, none, rfl, s0, [], upd_same, (by intro z hz; cases hz), rfl⟩ (fun i σ H' _ ⟨_, _, _, _, e, _⟩ => .inl (.inl (e _ _ h1))) ?_ ?_⟩
    · rintro i y σ H' hi ⟨v4, v5, v6, rfl, sm, PF⟩
      obtain ⟨z, rfl, hz, hil, ht0⟩ := getMap hi
      obtain ⟨z1, z2⟩ := h2 z hz
      have hc : cs.take (i + 1) = cs.take i ++ [z.2.2] := by rw [← h3, ← List.map_take, ← List.map_take, ht0, List.map_append]; rfl
      have hcm : z.2.2 ∈ cs := by rw [← h3]; exact List.mem_map.mpr ⟨z, hz, rfl⟩
      have CO := (ok _ hcm).same sm
      generalize z.2.2 = cn at z1 z2 hc CO
      refine ⟨_, _, rfl, .inl (.inl (sm _ _ z1)), rfl, ?_⟩
      refine ⟨_, _, rfl, _, _, rfl, rfl, ?_⟩
      dsimp only [List.set]
      refine ⟨_, rfl, _, rfl, _, rfl, _, rfl, ru, cn.p, z.2.1, q, cn.rt, ra, ba, rd, ht, D, cn.ns, cn.B, pp.x, pp.y, pp.z, rfl, RQ.same sm, sm _ _ z2, CO.P, bd, CO.pos, CO.R.n2, CO.R.n20, sm _ _ hq, bx, by', fun v o H3 s3 ho F => ?_⟩
      have ef := fitC_some F
      refine nm ?_
      dsimp only [List.set]
      have s13 := sm.trans s3
      have PF3 := PF.same s3
      refine ⟨_, rfl, rfl, _, rfl, ?_⟩
      cases o with
      | none =>
        have ho : v = .non := ho
        refine ifNotY ho ⟨_, _, _, rfl, s13, ?_⟩
        rw [hc, List.filterMap_append, show [cn].filterMap (fitC D (rd + ra) (ht + ba) pp) = [] by simp [ef], List.append_nil]
        exact PF3
      | some e =>
        obtain ⟨t, rfl, htp⟩ := ho
        refine ifNotN (fun z => nomatch z) ?_
        obtain ⟨xs0, hx0, hl0⟩ := PF3.len
        refine ⟨_, rfl, .inl ⟨rfl, _, .inl (.inl hx0)⟩, _, rfl, _, rfl, szOk rfl, fun u hu' => ?_⟩
        have s4 := same_new (o := .tup [.ref cn.p, .ref t]) hu'
        have PF4 := PF3.same s4
        have ht4 : (upd H3 u (.tup [.ref cn.p, .ref t])) u = _ := upd_same
        have htp4 := s4 _ _ htp
        generalize upd H3 u (.tup [.ref cn.p, .ref t]) = H4 at s4 PF4 ht4 htp4 ⊢
        obtain ⟨xs, hx, hxl, PN⟩ := PF4.snoc (c := cn.nw e) (t := u) (bx := t) ht4 htp4
        have fl : ((cs.take i).filterMap (fitC D (rd + ra) (ht + ba) pp)).length ≤ 100 := Nat.le_trans (List.length_filterMap_le _ _) (Nat.le_trans (List.length_take_le' _ _) cl)
        refine ⟨_, _, _, rfl, rfl, hx, small1000 (by omega), ?_⟩
        refine ⟨_, _, _, rfl, fun b o e => ?_, ?_⟩
        · rw [upd_ne (ne_of_none e hfo)]
          exact s4 _ _ (s13 _ _ e)
        · rw [hc, List.filterMap_append, show [cn].filterMap (fitC D (rd + ra) (ht + ba) pp) = [cn.nw e] by simp [ef]]
          exact PN
    rintro σ H' ⟨v4, v5, v6, rfl, sm, PF⟩
    rw [List.length_map, ql, List.take_length] at PF
    exact ⟨_, rfl, k fo H' hfo sm PF⟩

abbrev s_first_fitting : Stmt := top 10
theorem sc_first_fitting : FnScope ["rules", "followed", "plot", "index", "_", "candidates", "found"] ["rules", "followed", "plot"] (defScope s_first_fitting) := ⟨rfl, rfl, rfl, by decide +kernel, rfl, by decide +kernel, by decide +kernel⟩
theorem ok_first_fitting {f : Addr} {fd : FuncData} (F : Fun K "_first_fitting" "_first_fitting" s_first_fitting f fd) (T : TxtA mg) {C : Addr}
    (D_fitting : Def P w K mg base 9 "_fitting" ["rules", "candidates", "plot"] (spFitting C)) : FnOk P w K mg base CX0 10 f fd ["rules", "followed", "plot"] (spFirst C) := by
  refine F.ok sc_first_fitting (fun vs H Q E h => ?_) (fun cdv A outer s H vs Q E hr h => ?_)
  · obtain ⟨_, _, _, _, _, _, _, _, _, _, rfl, _⟩ := h
    rfl
  · obtain ⟨ru, fo, q, ra, ba, rd, ht, D, nfs, pp, rfl, RQ, FO, ok, nl, bd, hq, bx, by', k⟩ := h
    refine ⟨_, (pss_cons (ps_for PassesOwn.never rfl (pi_enum (by rfl) T.enumerate (pa_cons (pv 1) pa_nil)) (pg_tup (by rfl) (pgs_cons (pg_name (i := 3) sc_first_fitting.nd rfl (Or.inl rfl)) (pgs_cons (pg_tup (by rfl) (pgs_cons (pg_name (i := 4) sc_first_fitting.nd rfl (Or.inl rfl)) (pgs_cons (pg_name (i := 5) sc_first_fitting.nd rfl (Or.inl rfl)) pgs_nil))) pgs_nil)))
      (pss_cons (ps_set (i := 6) sc_first_fitting.nd rfl (Or.inl rfl) (pe_def D_fitting (hr.mono (by decide)) (by rfl) (pa_cons (pv 0) (pa_cons (pv 5) (pa_cons (pv 2) pa_nil)))))
    (pss_one (ps_if (pt_truth (pv 6) (by intro _; rfl)) (pss_one (ps_ret (pe_tup (pa_cons (pv 3) (pa_cons (pv 6) pa_nil)))))
      pss_nil))))
    (pss_one (ps_ret (pe_tup (pa_cons pe_non (pa_cons (pe_lst pa_nil) pa_nil)))))), ?_⟩
    rw [show L2.start ["rules", "followed", "plot", "index", "_", "candidates", "found"] [V.ref ru, V.ref fo, V.ref q] = [some (V.ref ru), some (V.ref fo), some (V.ref q), none, none, none, none] from rfl]
    obtain ⟨ls, h1, h2, h3⟩ := FO
    have ll : ls.length = nfs.length := by rw [← h3, List.length_map]
    have hf : nfs.map (fun z => z.2) = ls.map (fun q => q.2.2.2) := by rw [← h3, List.map_map]; rfl
    have fget : ∀ j (h : j < ls.length), (nfs.map fun z => z.2)[j]'(by rw [List.length_map]; omega) = ls[j].2.2.2 := fun j h => by
      simp only [hf, List.getElem_map]
    have flen : (nfs.map fun z => z.2).length = ls.length := by rw [List.length_map]; omega
    refine ⟨_, rfl, fo, ls.map fun q => V.ref q.1, rfl, .inl (.inl h1), for_enum (K := K) (a := fo) (xs := ls.map fun q => V.ref q.1) (fun i σ H' => ∃ (v3 v4 v5 v6 : Option V), σ = [some (.ref ru), some (.ref fo), some (.ref q), v3, v4, v5, v6] ∧ Same H H' ∧ ∀ j (h : j < ls.length), j < i → ls[j].2.2.2.filterMap (fitC D (rd + ra) (ht + ba) pp) = [])
      ⟨none, none, none, none, rfl, Same.refl H, fun j _ h => absurd h (Nat.not_lt_zero j)⟩ (fun i σ H' _ ⟨_, _, _, _, _, e, _⟩ => .inl (.inl (e _ _ h1))) ?_ ?_⟩
    · rintro i x σ H' Tt hi hT2 ⟨v3, v4, v5, v6, rfl, sm, hn⟩
      have hil := (List.getElem?_eq_some_iff.mp hi).1
      rw [List.length_map] at hil
      obtain rfl : x = .ref ls[i].1 := by
        rw [List.getElem?_map, List.getElem?_eq_getElem hil] at hi
        exact (Option.some.inj hi).symm
      obtain ⟨z1, z2⟩ := h2 _ (List.getElem_mem hil)
      have hmem : ls[i].2.2 ∈ nfs := by rw [← h3]; exact List.mem_map.mpr ⟨_, List.getElem_mem hil, rfl⟩
      obtain ⟨c100, cok⟩ := ok _ hmem
      have sa2 := sm.trans (same_new (o := .tup [.int (i : Nat), .ref ls[i].1]) hT2)
      refine ⟨_, _, rfl, .inl (.inl upd_same), rfl, ?_⟩
      refine ⟨_, _, rfl, _, _, rfl, _, _, rfl, .inl (.inl (sa2 _ _ z1)), rfl, _, _, rfl, _, _, rfl, rfl, rfl, ?_⟩
      generalize upd H' Tt (.tup [.int (i : Nat), .ref ls[i].1]) = H3 at sa2 ⊢
      dsimp only [List.set]
      refine ⟨_, rfl, _, rfl, _, rfl, ru, ls[i].2.1, q, ra, ba, rd, ht, D, ls[i].2.2.2, pp, rfl, RQ.same sa2, z2.same sa2, fun c hc => (cok c hc).same sa2, c100, bd, sa2 _ _ hq, bx, by', fun l' H4 hl' s4 PF => ?_⟩
      refine nm ?_
      dsimp only [List.set]
      have sa4 := sa2.trans s4
      obtain ⟨xs, hx, hxl⟩ := PF.len
      refine ⟨_, rfl, _, .inl ⟨_, .inl (.inl hx), rfl⟩, ?_⟩
      cases e : ls[i].2.2.2.filterMap (fitC D (rd + ra) (ht + ba) pp) with
      | nil =>
        rw [e] at hxl
        rw [List.eq_nil_of_length_eq_zero hxl]
        refine iteF ⟨_, _, _, _, rfl, sa4, fun j hj hji => ?_⟩
        rcases Nat.lt_or_ge j i with w | w
        · exact hn j hj w
        · obtain rfl : j = i := by omega
          exact e
      | cons c cs =>
        have xne : (!xs.isEmpty) = true := by
          cases xs with
          | nil => rw [e] at hxl; cases hxl
          | cons y ys => rfl
        rw [xne]
        refine iteT ⟨_, rfl, _, rfl, szOk rfl, fun t ht' => ?_⟩
        have s5 := same_new (o := .tup [.int (i : Nat), .ref l']) ht'
        have ff : firstF D (rd + ra) (ht + ba) pp (nfs.map fun z => z.2) = some i := firstF_at (by rw [flen]; exact hil) (by rw [fget i hil, e]; simp) fun j hj => by rw [fget j (by omega)]; exact hn j (by omega) hj
        refine k t l' (.int (i : Nat)) _ (sa4.trans s5) upd_same (fun w => by rw [ff] at w; cases w) fun i' w => ?_
        rw [ff] at w
        obtain rfl := Option.some.inj w
        refine ⟨rfl, sa2.free hl', ?_⟩
        have eg : (nfs.map fun z => z.2).getD i [] = ls[i].2.2.2 := by
          rw [← fget i hil]
          simp [flen, hil]
        rw [eg]
        exact PF.same s5
    rintro σ H' ⟨v3, v4, v5, v6, rfl, sm, hn⟩
    rw [List.length_map] at hn
    refine ⟨szOk rfl, fun l' hl' => ?_⟩
    refine ⟨szOk rfl, fun t ht' => ?_⟩
    have ff : firstF D (rd + ra) (ht + ba) pp (nfs.map fun z => z.2) = none := firstF_none fun j hj => by
      rw [flen] at hj
      rw [fget j hj]
      exact hn j hj hj
    exact k t l' .non _ ((sm.trans (same_new hl')).trans (same_new ht')) upd_same (fun _ => rfl) fun i w => by rw [ff] at w; cases w

abbrev s_assign : Stmt := top 9
theorem sc_assign : FnScope ["rules", "flights", "plots", "followed", "names", "plot", "index", "candidates", "name"] ["rules", "flights", "plots"] (defScope s_assign) := ⟨rfl, rfl, rfl, by decide +kernel, rfl, by decide +kernel, by decide +kernel⟩
theorem ok_assign {f : Addr} {fd : FuncData} (F : Fun K "assign" "assign" s_assign f fd) (T : TxtA mg) {C : Addr}
    (D_first_fitting : Def P w K mg base 10 "_first_fitting" ["rules", "followed", "plot"] (spFirst C)) : FnOk P w K mg base CX0 11 f fd ["rules", "flights", "plots"] (spAssign C) := by
  refine F.ok sc_assign (fun vs H Q E h => ?_) (fun cdv A outer s H vs Q E hr h => ?_)
  · obtain ⟨_, _, _, _, _, _, _, _, _, _, rfl, _⟩ := h
    rfl
  · obtain ⟨ru, f0, ps, ra, ba, rd, ht, D, nfs, pls, rfl, RQ, FO, ok, nl, bd, PA, pl, k⟩ := h
    refine ⟨_, (pss_cons (ps_setLc (i := 3) (own := [("name", 8), ("candidates", 7)]) (g := (gTup K 2 (gCons (gName 8) (gCons (gName 7) gNil)))) (by rfl) sc_assign.nd rfl rfl (sw_true rfl rfl rfl (by decide +kernel)) (pi_list (pv 1)) (blkOk_by (own := [("name", 8), ("candidates", 7)]) (N := ["rules", "flights", "plots", "followed", "names", "plot", "index", "candidates", "name"]) (sc := defScope s_assign) (by decide +kernel)) (fun _ _ _ _ _ => (pg_tup (by rfl) (pgs_cons (pg_name (i := 8) sc_assign.nd rfl (Or.inl rfl)) (pgs_cons (pg_name (i := 7) sc_assign.nd rfl (Or.inl rfl)) pgs_nil)))) (fun _ _ _ _ _ => pts_nil) (fun _ _ _ _ _ => (pe_tup (pa_cons (pv 8) (pa_cons (pe_callTy (r := rListK K) call_list_of (by rfl) T.list boot_list (pa_cons (pv 7) pa_nil)) pa_nil)))))
    (pss_cons (ps_set (i := 4) sc_assign.nd rfl (Or.inl rfl) (pe_lst pa_nil))
    (pss_cons (ps_for PassesOwn.never rfl (pi_list (pv 2)) (pg_name (i := 5) sc_assign.nd rfl (Or.inl rfl))
      (pss_cons (ps_asg (pe_def D_first_fitting (hr.mono (by decide)) (by rfl) (pa_cons (pv 0) (pa_cons (pv 3) (pa_cons (pv 5) pa_nil)))) (pg_tup (by rfl) (pgs_cons (pg_name (i := 6) sc_assign.nd rfl (Or.inl rfl)) (pgs_cons (pg_name (i := 7) sc_assign.nd rfl (Or.inl rfl)) pgs_nil))))
    (pss_one (ps_if (pt_cmpR op_isN (pv 6) pe_non (nomark _)) (pss_one (ps_expr (pe_bm PySem.F.plainAttrs_list PySem.F.slot_list_append PySem.F.type_list_append mt_append (pv 4) (pa_cons pe_str pa_nil))))
      (pss_cons (ps_set (i := 8) sc_assign.nd rfl (Or.inl rfl) (pe_ix (r := rIxT K) ix_tup (pe_ix (r := rIxL K) ix_list (pv 3) (pv 6) (fun _ _ => rfl)) pe_int (fun _ _ => rfl)))
    (pss_cons (ps_asg (pe_tup (pa_cons (pv 8) (pa_cons (pv 7) pa_nil))) (pg_sub (pv 3) (pv 6) set_list))
    (pss_one (ps_expr (pe_bm PySem.F.plainAttrs_list PySem.F.slot_list_append PySem.F.type_list_append mt_append (pv 4) (pa_cons (pv 8) pa_nil))))))))))
    (pss_one (ps_ret (pe_tup (pa_cons (pv 4) (pa_cons (pv 3) pa_nil)))))))), ?_⟩
    rw [show L2.start ["rules", "flights", "plots", "followed", "names", "plot", "index", "candidates", "name"] [V.ref ru, V.ref f0, V.ref ps] = [some (V.ref ru), some (V.ref f0), some (V.ref ps), none, none, none, none, none, none] from rfl]
    obtain ⟨ls, h1, h2, h3⟩ := FO
    have ll : ls.length = nfs.length := by rw [← h3, List.length_map]
    refine ⟨_, rfl, f0, rfl, ⟨_, .inl (.inl h1)⟩, fun E hE => ?_⟩
    refine lc_list (K := K) (a := f0) (xs := ls.map fun q => V.ref q.1) (fun i H' => Same H H' ∧ ∃ ms : List (Addr × Addr × Str × List Cn), H' E = some (.lst (ms.map fun q => V.ref q.1)) ∧ (∀ q ∈ ms, H' q.1 = some (.tup [.str q.2.2.1, .ref q.2.1]) ∧ PairL H' q.2.1 q.2.2.2 ∧ q.2.1 ≠ E) ∧ ms.map (fun q => q.2.2) = nfs.take i)
      ⟨same_new hE, [], upd_same, (by intro q hq; cases hq), rfl⟩ (fun i H' _ h => .inl (.inl (h.1 _ _ h1))) ?_ ?_
    · rintro i y H' hi ⟨sm, ms, m1, m2, m3⟩
      obtain ⟨z, rfl, hz, hil, ht0⟩ := getMap hi
      obtain ⟨z1, z2⟩ := h2 z hz
      have hc : nfs.take (i + 1) = nfs.take i ++ [z.2.2] := by rw [← h3, ← List.map_take, ← List.map_take, ht0, List.map_append]; rfl
      have ml : ms.length ≤ 100 := by
        have := congrArg List.length m3
        rw [List.length_map, List.length_take] at this
        omega
      refine ⟨_, _, rfl, .inl (.inl (sm _ _ z1)), rfl, ?_⟩
      refine ⟨_, _, rfl, _, _, rfl, rfl, ?_⟩
      refine ⟨rfl, yes_if ?_⟩
      obtain ⟨qs, p1, p2, p3⟩ := z2.same sm
      refine ⟨_, rfl, _, rfl, _, _, rfl, .inl (.inl (.inl p1)), fun l hl => ?_⟩
      have s2 := same_new (o := .lst (qs.map fun q => V.ref q.1)) hl
      have PL2 : PairL (upd H' l (.lst (qs.map fun q => V.ref q.1))) l z.2.2.2 := ⟨qs, upd_same, fun q hq => ⟨s2 _ _ (p2 q hq).1, s2 _ _ (p2 q hq).2⟩, p3⟩
      have nlE : l ≠ E := (ne_of_none m1 hl).symm
      have m1' := s2 _ _ m1
      have m2' : ∀ q ∈ ms, (upd H' l (.lst (qs.map fun q => V.ref q.1))) q.1 = some (.tup [.str q.2.2.1, .ref q.2.1]) ∧ PairL (upd H' l (.lst (qs.map fun q => V.ref q.1))) q.2.1 q.2.2.2 ∧ q.2.1 ≠ E := fun q hq => ⟨s2 _ _ (m2 q hq).1, (m2 q hq).2.1.same s2, (m2 q hq).2.2⟩
      generalize upd H' l (.lst (qs.map fun q => V.ref q.1)) = H2 at s2 PL2 m1' m2' ⊢
      refine ⟨szOk rfl, fun u hu' => ?_⟩
      have s3 := same_new (o := .tup [.str z.2.2.1, .ref l]) hu'
      have hu3 : (upd H2 u (.tup [.str z.2.2.1, .ref l])) u = _ := upd_same
      have m1'' := s3 _ _ m1'
      generalize upd H2 u (.tup [.str z.2.2.1, .ref l]) = H3 at s3 hu3 m1'' ⊢
      refine ⟨_, m1'', small1000 (by rw [List.length_map]; omega), fun b o e => ?_, ms ++ [(u, l, z.2.2)], by rw [upd_same, List.map_append]; rfl, fun q hq => ?_, by rw [List.map_append, m3, hc]; rfl⟩
      · rw [upd_ne (ne_of_none e hE)]
        exact s3 _ _ (s2 _ _ (sm _ _ e))
      · have tE : ∀ {x : Addr} {zs : List V}, H3 x = some (.tup zs) → x ≠ E := fun q => ne_of q m1'' (by intro z; cases z)
        rcases List.mem_append.mp hq with hq | hq
        · obtain ⟨a1, a2, a3⟩ := m2' q hq
          have a1 := s3 _ _ a1
          exact ⟨by rw [upd_ne (tE a1)]; exact a1, (a2.same s3).updL a3 m1'', a3⟩
        · rw [List.mem_singleton.mp hq]
          exact ⟨by rw [upd_ne (tE hu3)]; exact hu3, (PL2.same s3).updL nlE m1'', nlE⟩
    rintro H' ⟨sm, ms, m1, m2, m3⟩
    rw [List.length_map, ll, List.take_length] at m3
    refine nm ?_
    dsimp only [List.set]
    refine ⟨szOk rfl, fun na hnm => ?_⟩
    refine nm ?_
    dsimp only [List.set]
    have nnE : E ≠ na := ne_of_none m1 hnm
    have hnH : H na = none := sm.free hnm
    have s1 := same_new (o := .lst []) hnm
    have F0 : FoAt (msk [E, na] (upd H' na (.lst []))) (upd H' na (.lst [])) E nfs := by
      refine ⟨ms, s1 _ _ m1, fun q hq => ?_, m3⟩
      obtain ⟨a1, a2, a3⟩ := m2 q hq
      have t1 := s1 _ _ a1
      refine ⟨msk_of t1 ?_, (a2.same s1).msk ?_ ?_⟩
      · intro hm
        simp only [List.mem_cons, List.not_mem_nil, or_false] at hm
        rcases hm with hm | hm
        · exact ne_of a1 m1 (by intro z; cases z) hm
        · exact ne_of_none a1 hnm hm
      · intro hm
        simp only [List.mem_cons, List.not_mem_nil, or_false] at hm
        obtain ⟨qs, p1, _⟩ := a2
        rcases hm with hm | hm
        · exact a3 hm
        · exact ne_of_none p1 hnm hm
      · intro t ht
        simp only [List.mem_cons, List.not_mem_nil, or_false] at ht
        rcases ht with rfl | rfl
        · exact ⟨_, s1 _ _ m1⟩
        · exact ⟨_, upd_same⟩
    have S0 : Same H (upd H' na (.lst [])) := sm.trans s1
    have hn0 : (upd H' na (.lst [])) na = some (.lst []) := upd_same
    generalize upd H' na (.lst []) = H1 at F0 S0 hn0 ⊢
    clear sm m1 m2 m3 s1 hnm
    obtain ⟨qs, q1, q2, q3⟩ := PA
    have ql : qs.length = pls.length := by rw [← q3, List.length_map]
    refine ⟨_, rfl, ps, rfl, ⟨_, .inl (.inl (S0 _ _ q1))⟩, for_list (K := K) (a := ps) (xs := qs.map fun q => V.ref q.1) (fun i σ G => ∃ (v5 v6 v7 v8 : Option V) (nfs' : List (Str × List Cn)), σ = [some (.ref ru), some (.ref f0), some (.ref ps), some (.ref E), some (.ref na), v5, v6, v7, v8] ∧ Same H G ∧ G na = some (.lst ((owns D (rd + ra) (ht + ba) (pls.take i) (nfs.map fun z => z.2)).map fun o => V.str (ownS (nfs.map fun z => z.1) o))) ∧ (owns D (rd + ra) (ht + ba) (pls.take i) (nfs.map fun z => z.2)).length ≤ i ∧ FoAt (msk [E, na] G) G E nfs' ∧ nfs'.map (fun z => z.1) = (nfs.map fun z => z.1) ∧ nfs'.map (fun z => z.2) = runF D (rd + ra) (ht + ba) (pls.take i) (nfs.map fun z => z.2) ∧ ∀ nf ∈ nfs', nf.2.length ≤ 100 ∧ ∀ c ∈ nf.2, CnOk C H D c)
      ⟨none, none, none, none, nfs, rfl, S0, hn0, Nat.le_refl _, F0, rfl, rfl, ok⟩ (fun i σ G _ ⟨_, _, _, _, _, _, e, _⟩ => .inl (.inl (e _ _ q1))) ?_ ?_⟩
    rotate_left
    · rintro σ G ⟨v5, v6, v7, v8, nfs', rfl, sg, hng, _, Fg, e1, e2, _⟩
      rw [List.length_map, ql, List.take_length] at hng e2
      refine ⟨_, rfl, _, rfl, szOk rfl, fun t ht' => ?_⟩
      have s2 := same_new (o := .tup [.ref na, .ref E]) ht'
      exact k t na E nfs' _ (sg.trans s2) upd_same (s2 _ _ hng) (Fg.same (msk_same.trans s2) s2) e1 e2
    rintro i y σ G hi ⟨v5, v6, v7, v8, nfs', rfl, sg, hng, onl, Fg, e1, e2, ok'⟩
    obtain ⟨z, rfl, hz, hil, ht0⟩ := getMap hi
    obtain ⟨z1, z2, z3⟩ := q2 z hz
    have hc : pls.take (i + 1) = pls.take i ++ [z.2] := by rw [← q3, ← List.map_take, ← List.map_take, ht0, List.map_append]; rfl
    have i100 : i ≤ 100 := by omega
    have nl' : nfs'.length = nfs.length := by
      have := congrArg List.length e1
      rw [List.length_map, List.length_map] at this
      exact this
    rw [hc, owns_snoc, runF_snoc]
    have z1 := sg _ _ z1
    obtain ⟨zq, pp⟩ := z
    dsimp only at z1 z2 z3 hc ⊢
    refine nm ?_
    dsimp only [List.set]
    obtain ⟨lg, hEg⟩ : ∃ xs, G E = some (.lst xs) := let ⟨_, a, _⟩ := Fg; ⟨_, a⟩
    refine ⟨_, rfl, _, rfl, _, rfl, ru, E, zq, ra, ba, rd, ht, D, nfs', pp, rfl, RQ.same sg, Fg.in msk_same rfl, fun nf hnf => ⟨(ok' nf hnf).1, fun c hc => ((ok' nf hnf).2 c hc).same sg⟩, by omega, bd, z1, z2, z3, fun t l' v G3 s3 ht3 kn ks => ?_⟩
    rw [e2] at kn ks
    refine ⟨_, _, rfl, .inl (.inl ht3), rfl, ?_⟩
    refine ⟨_, _, rfl, _, _, rfl, rfl, ?_⟩
    dsimp only [List.set]
    have sg3 := sg.trans s3
    have hng3 := s3 _ _ hng
    have hE3 := s3 _ _ hEg
    have Fg3 := Fg.same (msk_mono s3) s3
    refine ⟨_, rfl, rfl, _, rfl, ?_⟩
    cases ff : firstF D (rd + ra) (ht + ba) pp (runF D (rd + ra) (ht + ba) (pls.take i) (nfs.map fun z => z.2)) with
    | none =>
      rw [kn ff]
      refine ifY rfl ?_
      refine ⟨_, rfl, .inl ⟨rfl, _, .inl (.inl hng3)⟩, _, _, _, rfl, rfl, hng3, small1000 (by rw [List.length_map]; omega), ?_⟩
      refine ⟨_, _, _, _, nfs', rfl, fun b o e => ?_, by rw [upd_same, List.map_append]; rfl, by rw [List.length_append]; show _ + 1 ≤ _; omega, Fg3.in (msk_put_same (by simp)) (by rw [upd_ne nnE]), e1, by rw [e2, give_none ff], ok'⟩
      rw [upd_ne (ne_of_none e hnH)]
      exact sg3 _ _ e
    | some j =>
      obtain ⟨rfl, hl'n, PF⟩ := ks j ff
      obtain ⟨hj, hj1, _⟩ := firstF_spec ff
      have hjn : j < nfs'.length := by rw [← e2, List.length_map] at hj; exact hj
      have hjr : (runF D (rd + ra) (ht + ba) (pls.take i) (nfs.map fun z => z.2))[j] = nfs'[j].2 := by
        simp only [← e2, List.getElem_map]
      have egd : (runF D (rd + ra) (ht + ba) (pls.take i) (nfs.map fun z => z.2)).getD j [] = nfs'[j].2 := by
        rw [← hjr]
        simp [hj]
      rw [egd] at PF
      obtain ⟨ms, m1, m2, m3⟩ := id Fg3
      have hjm : j < ms.length := by
        have := congrArg List.length m3
        rw [List.length_map] at this
        omega
      have emj : ms[j].2.2 = nfs'[j] := by simp only [← m3, List.getElem_map]
      obtain ⟨b1, b2⟩ := m2 _ (List.getElem_mem hjm)
      have b1 := msk_same _ _ b1
      rw [emj] at b1
      refine ifN (fun z => nomatch z) ?_
      refine ⟨_, rfl, _, rfl, _, _, _, .ref ms[j].1, rfl, rfl, .inl (.inl m1), atI_nat (mapAt hjm), _, _, _, .str nfs'[j].1, rfl, rfl, .inl (.inl b1), rfl, ?_⟩
      refine nm ?_
      dsimp only [List.set]
      refine ⟨_, rfl, _, rfl, szOk rfl, fun u hu' => ?_⟩
      have s4 := same_new (o := .tup [.str nfs'[j].1, .ref l']) hu'
      have hu4 : (upd G3 u (.tup [.str nfs'[j].1, .ref l'])) u = _ := upd_same
      have hE4 := s4 _ _ hE3
      have hm4 := s4 _ _ m1
      have hng4 := s4 _ _ hng3
      have Fg4 := Fg3.same (msk_mono s4) s4
      have PF4 := PF.same s4
      have sg4 := sg3.trans s4
      have hun : ∀ x, G3 x ≠ none → u ≠ x := fun x h e => h (by rw [← e]; exact hu')
      generalize upd G3 u (.tup [.str nfs'[j].1, .ref l']) = G4 at s4 hu4 hE4 hm4 hng4 Fg4 PF4 sg4 ⊢
      refine ⟨_, rfl, _, rfl, E, _, _, j, rfl, rfl, hm4, (by unfold ixN; rw [if_pos (by omega), if_pos (by rw [List.length_map]; omega), Int.toNat_natCast]), ?_⟩
      have hEN : (upd G4 E (.lst ((ms.map fun q => V.ref q.1).set j (.ref u)))) na = _ := (upd_ne nnE.symm).trans hng4
      refine ⟨_, rfl, .inl ⟨rfl, _, .inl (.inl hEN)⟩, _, rfl, _, _, _, rfl, rfl, hEN, small1000 (by rw [List.length_map]; omega), ?_⟩
      have nlE : l' ≠ E := (ne_of_none hEg hl'n).symm
      have nln : l' ≠ na := (ne_of_none hng hl'n).symm
      have mm : ∀ o1 o2, msk [E, na] (upd (upd G4 E o1) na o2) = msk [E, na] G4 := fun o1 o2 => by rw [msk_put (by simp), msk_put (by simp)]
      refine ⟨_, _, _, _, nfs'.set j (nfs'[j].1, nfs'[j].2.filterMap (fitC D (rd + ra) (ht + ba) pp)), rfl, fun b o e => ?_, ?_, by rw [List.length_append]; show _ + 1 ≤ _; omega, ?_, ?_, ?_, fun nf hnf => ?_⟩
      · rw [upd_ne (ne_of_none e hnH), upd_ne (ne_of_none e hE)]
        exact sg4 _ _ e
      · rw [upd_same, List.map_append]
        have en : ownS (nfs.map fun z => z.1) (some j) = nfs'[j].1 := by
          show List.getD (nfs.map fun z => z.1) j ("" : Str) = _
          rw [← e1]
          simp [hjn]
        rw [show [some j].map (fun o => V.str (ownS (nfs.map fun z => z.1) o)) = [V.str (ownS (nfs.map fun z => z.1) (some j))] from rfl, en]
      · refine Fg4.setAt (n := nfs'[j].1) (u := u) (l := l') (by rw [mm]; exact Same.refl _) hm4 (by rw [upd_ne nnE, upd_same]) ?_ ?_
        · rw [mm]
          refine msk_of hu4 ?_
          intro hm
          simp only [List.mem_cons, List.not_mem_nil, or_false] at hm
          rcases hm with hm | hm
          · exact ne_of hu4 hE4 (by intro z; cases z) hm
          · exact ne_of hu4 hng4 (by intro z; cases z) hm
        · rw [mm]
          refine PF4.msk ?_ ?_
          · intro hm
            simp only [List.mem_cons, List.not_mem_nil, or_false] at hm
            rcases hm with hm | hm
            · exact nlE hm
            · exact nln hm
          · intro t ht'
            simp only [List.mem_cons, List.not_mem_nil, or_false] at ht'
            rcases ht' with rfl | rfl
            · exact ⟨_, hE4⟩
            · exact ⟨_, hng4⟩
      · rw [List.map_set, ← e1]
        refine List.ext_getElem (by rw [List.length_set]) fun x hx1 hx2 => ?_
        by_cases c : j = x
        · subst c
          rw [List.getElem_set_self, List.getElem_map]
        · rw [List.getElem_set_ne c]
      · rw [List.map_set, e2, give_some ff hj, hjr]
      · rcases List.mem_or_eq_of_mem_set hnf with hnf | rfl
        · exact ok' nf hnf
        · obtain ⟨a1, a2⟩ := ok' _ (List.getElem_mem hjn)
          refine ⟨Nat.le_trans (List.length_filterMap_le _ _) a1, fun c hc => ?_⟩
          obtain ⟨c0, hc0, ec⟩ := List.mem_filterMap.mp hc
          have := a2 c0 hc0
          exact fitC_ok this ec

end
end Sk

set_option Elab.async false
set_option linter.all false
set_option maxRecDepth 100000
set_option maxHeartbeats 4000000
namespace Sk
open PySem PySem.Spec PyProof.Rows L2
section
variable {P : Program} {w : World} {K : PySem.W.Frag} {mg : Str → Option Value} {base : Heap}
abbrev s_law_allowed : Stmt := top 48
theorem sc_law_allowed : FnScope ["chart", "route", "begins", "progress", "plot", "limit", "place", "x", "y"] ["chart", "route", "begins", "progress", "plot", "limit"] (defScope s_law_allowed) := ⟨rfl, rfl, rfl, by decide +kernel, rfl, by decide +kernel, by decide +kernel⟩
theorem ok_law_allowed {f : Addr} {fd : FuncData} (F : Fun K "_law_allowed" "_law_allowed" s_law_allowed f fd) (T : TxtA mg)
    (D_law_leg_at : Def P w K mg base 1 "_law_leg_at" ["begins", "progress"] (spLawLegAt))
    (D_law_place_on : Def P w K mg base 1 "_law_place_on" ["chart", "route", "begins", "k", "progress"] (spPlaceOn)) : FnOk P w K mg base CX0 2 f fd ["chart", "route", "begins", "progress", "plot", "limit"] (spAllowed) := by
  refine F.ok sc_law_allowed (fun vs H Q E h => ?_) (fun cdv A outer s H vs Q E hr h => ?_)
  · obtain ⟨_, _, _, _, _, _, _, _, _, _, _, rfl, _⟩ := h
    rfl
  · obtain ⟨ch, rt, b, q, D, ns, t, x, y, pz, m, rfl, C0, R, hrt, hb, hq, bx, by', m0, m1, t0, t1, kk⟩ := h
    refine ⟨_, (pss_cons (ps_set (i := 6) sc_law_allowed.nd rfl (Or.inl rfl) (pe_def D_law_place_on (hr.mono (by decide)) (by rfl) (pa_cons (pv 0) (pa_cons (pv 1) (pa_cons (pv 2) (pa_cons (pe_def D_law_leg_at (hr.mono (by decide)) (by rfl) (pa_cons (pv 2) (pa_cons (pv 3) pa_nil))) (pa_cons (pv 3) pa_nil)))))))
    (pss_cons (ps_set (i := 7) sc_law_allowed.nd rfl (Or.inl rfl) (pe_op op_sub (pe_ix (r := rIxT K) ix_tup (pv 6) pe_int (fun _ _ => rfl)) (pe_op op_mulW (pe_ix (r := rIxT K) ix_tup (pv 4) pe_int (fun _ _ => rfl)) (pe_ix (r := rIxT K) ix_tup (pv 6) pe_int (fun _ _ => rfl)))))
    (pss_cons (ps_set (i := 8) sc_law_allowed.nd rfl (Or.inl rfl) (pe_op op_sub (pe_ix (r := rIxT K) ix_tup (pv 6) pe_int (fun _ _ => rfl)) (pe_op op_mulW (pe_ix (r := rIxT K) ix_tup (pv 4) pe_int (fun _ _ => rfl)) (pe_ix (r := rIxT K) ix_tup (pv 6) pe_int (fun _ _ => rfl)))))
    (pss_one (ps_ret (pe_cmpR op_le (pe_op op_add (pe_op op_mulW (pv 7) (pv 7)) (pe_op op_mulW (pv 8) (pv 8))) (pe_op op_mulW (pe_op op_mulW (pe_op op_mulW (pv 5) (pv 5)) (pe_ix (r := rIxT K) ix_tup (pv 6) pe_int (fun _ _ => rfl))) (pe_ix (r := rIxT K) ix_tup (pv 6) pe_int (fun _ _ => rfl))) (nomark _))))))), ?_⟩
    rw [show L2.start ["chart", "route", "begins", "progress", "plot", "limit", "place", "x", "y"] [V.ref ch, V.ref rt, V.ref b, V.int t, V.ref q, V.int m] = [some (V.ref ch), some (V.ref rt), some (V.ref b), some (V.int t), some (V.ref q), some (V.int m), none, none, none] from rfl]
    have rn2 := R.n2
    have rn20 := R.n20
    obtain ⟨lc0, lc1, lc2⟩ := lat_cases D ns (ns.length - 1 - 1) t
    refine ⟨_, rfl, _, rfl, _, rfl, _, rfl, _, rfl, b, t, D, ns, rfl, hb, rn2, rn20, ?_⟩
    generalize lat D ns (ns.length - 1 - 1) t = kl at lc0 kk ⊢
    refine ⟨_, rfl, ch, rt, b, _, t, D, ns, kl, rfl, rfl, C0, hrt, hb, R, by omega, fun u H1 hu s1 hut => ?_⟩
    have hut : H1 u = some (.tup [.int (pX D ns kl t), .int (pY D ns kl t), .int (D.len (rn ns kl) (rn ns (kl + 1)))]) := hut
    have hq1 := s1 _ _ hq
    refine nm ?_
    dsimp only [List.set]
    obtain ⟨bpx, bpy⟩ := plc_small C0.bd rn20 (k := kl) (p := t) (by omega) t0 t1
    have bn := bl19 C0.bd (rn ns kl) (rn ns (kl + 1))
    have bX : BdN 66 (pX D ns kl t - x * D.len (rn ns kl) (rn ns (kl + 1))) := ((bpx.mono (show 45 ≤ 65 by decide)).sub (bx.mul bn)).mono (by decide)
    have bY : BdN 66 (pY D ns kl t - y * D.len (rn ns kl) (rn ns (kl + 1))) := ((bpy.mono (show 45 ≤ 65 by decide)).sub (by'.mul bn)).mono (by decide)
    have bm := bm13 m0 m1
    have bmm := bm.mul bm
    refine ⟨_, rfl, _, _, _, _, rfl, rfl, .inl (.inl hut), rfl, _, rfl, _, _, _, _, rfl, rfl, .inl (.inl hq1), rfl, _, rfl, _, _, _, _, rfl, rfl, .inl (.inl hut), rfl, _, _, rfl, rfl, wmB bx bn (by decide) (by decide), _, _, rfl, rfl, ?_⟩
    refine nm ?_
    dsimp only [List.set]
    refine ⟨_, rfl, _, _, _, _, rfl, rfl, .inl (.inl hut), rfl, _, rfl, _, _, _, _, rfl, rfl, .inl (.inl hq1), rfl, _, rfl, _, _, _, _, rfl, rfl, .inl (.inl hut), rfl, _, _, rfl, rfl, wmB by' bn (by decide) (by decide), _, _, rfl, rfl, ?_⟩
    refine nm ?_
    dsimp only [List.set]
    exact ⟨_, rfl, _, rfl, _, _, rfl, rfl, wmB bX bX (by decide) (by decide), _, rfl, _, rfl, _, _, rfl, rfl, wmB bY bY (by decide) (by decide), _, _, rfl, rfl, _, rfl, _, rfl, _, _, rfl, rfl, wmB bm bm (by decide) (by decide), _, rfl, _, _, _, _, rfl, rfl, .inl (.inl hut), rfl, _, _, rfl, rfl, wmB bmm bn (by decide) (by decide), _, rfl, _, _, _, _, rfl, rfl, .inl (.inl hut), rfl, _, _, rfl, rfl, wmB (bmm.mul bn) bn (by decide) (by decide), _, _, rfl, rfl, kk H1 s1⟩

abbrev s_law_fitted : Stmt := top 49
theorem sc_law_fitted : FnScope ["chart", "route", "begins", "rules", "box", "plot", "total", "limit", "found", "progress", "doubt", "down", "up"] ["chart", "route", "begins", "rules", "box", "plot"] (defScope s_law_fitted) := ⟨rfl, rfl, rfl, by decide +kernel, rfl, by decide +kernel, by decide +kernel⟩
theorem ok_law_fitted {f : Addr} {fd : FuncData} (F : Fun K "_law_fitted" "_law_fitted" s_law_fitted f fd) (T : TxtA mg)
    (D_law_allowed : Def P w K mg base 2 "_law_allowed" ["chart", "route", "begins", "progress", "plot", "limit"] (spAllowed)) : FnOk P w K mg base CX0 3 f fd ["chart", "route", "begins", "rules", "box", "plot"] (spLFitted) := by
  refine F.ok sc_law_fitted (fun vs H Q E h => ?_) (fun cdv A outer s H vs Q E hr h => ?_)
  · obtain ⟨_, _, _, _, _, _, _, _, _, _, _, _, _, _, _, _, rfl, _⟩ := h
    rfl
  · obtain ⟨ch, rt, b, ru, bx, q, ra, ba, rd, ht, D, ns, B, x, y, pz, rfl, C0, R, hrt, hb, RQ, hbx, l0, l1, l2, l3, pos, hq, bxx, byy, kk⟩ := h
    have hu := hu_of hr
    refine ⟨_, (pss_cons (ps_set (i := 6) sc_law_fitted.nd rfl (Or.inl rfl) (pe_ix (r := rIxL K) ix_list (pv 2) (pe_op op_sub (pe_callB (r := rLenK K) call_len_seq (by rfl) T.len boot_len (pa_cons (pv 2) pa_nil)) pe_int) (fun _ _ => rfl)))
    (pss_cons (ps_set (i := 7) sc_law_fitted.nd rfl (Or.inl rfl) (pe_op op_add (pe_dget hu (pv 3) pe_str (fun _ _ => rfl)) (pe_dget hu (pv 3) pe_str (fun _ _ => rfl))))
    (pss_cons (ps_set (i := 8) sc_law_fitted.nd rfl (Or.inl rfl) (pe_lst pa_nil))
    (pss_cons (ps_for PassesOwn.never rfl (pi_range2 (by rfl) T.range (pa_cons (pe_callB (call_max2 rfl) (by rfl) T.max boot_max (pa_cons (pe_ix (r := rIxT K) ix_tup (pv 4) pe_int (fun _ _ => rfl)) (pa_cons pe_int pa_nil))) (pa_cons (pe_op op_add (pe_callB (call_min2 rfl) (by rfl) T.min boot_min (pa_cons (pe_ix (r := rIxT K) ix_tup (pv 4) pe_int (fun _ _ => rfl)) (pa_cons (pe_op op_sub (pv 6) pe_int) pa_nil))) pe_int) pa_nil))) (pg_name (i := 9) sc_law_fitted.nd rfl (Or.inl rfl))
      (pss_one (ps_if (pt_val (pe_def D_law_allowed (hr.mono (by decide)) (by rfl) (pa_cons (pv 0) (pa_cons (pv 1) (pa_cons (pv 2) (pa_cons (pv 9) (pa_cons (pv 5) (pa_cons (pv 7) pa_nil)))))))) (pss_one (ps_expr (pe_bm PySem.F.plainAttrs_list PySem.F.slot_list_append PySem.F.type_list_append mt_append (pv 8) (pa_cons (pv 9) pa_nil))))
      pss_nil)))
    (pss_cons (ps_set (i := 10) sc_law_fitted.nd rfl (Or.inl rfl) (pe_op op_add (pe_dget hu (pv 3) pe_str (fun _ _ => rfl)) (pe_dget hu (pv 3) pe_str (fun _ _ => rfl))))
    (pss_cons (ps_set (i := 11) sc_law_fitted.nd rfl (Or.inl rfl) (pe_callB (call_max2 rfl) (by rfl) T.max boot_max (pa_cons (pe_ix (r := rIxT K) ix_tup (pv 4) pe_int (fun _ _ => rfl)) (pa_cons (pe_op op_sub (pe_ix (r := rIxT K) ix_tup (pv 5) pe_int (fun _ _ => rfl)) (pv 10)) pa_nil))))
    (pss_cons (ps_set (i := 12) sc_law_fitted.nd rfl (Or.inl rfl) (pe_callB (call_min2 rfl) (by rfl) T.min boot_min (pa_cons (pe_ix (r := rIxT K) ix_tup (pv 4) pe_int (fun _ _ => rfl)) (pa_cons (pe_op op_add (pe_ix (r := rIxT K) ix_tup (pv 5) pe_int (fun _ _ => rfl)) (pv 10)) pa_nil))))
    (pss_cons (ps_if (PW.pt (pw_or (pt_cmpR op_eq (pe_callB (r := rLenK K) call_len_seq (by rfl) T.len boot_len (pa_cons (pv 8) pa_nil)) pe_int (nomark _)) (pw_or1 (pt_cmpR op_gt (pv 11) (pv 12) (nomark _))))) (pss_one (ps_ret pe_non))
      pss_nil)
    (pss_one (ps_ret (pe_tup (pa_cons (pe_callB (cr_min rfl) (by rfl) T.min boot_min (pa_cons (pv 8) pa_nil)) (pa_cons (pe_callB (cr_max rfl) (by rfl) T.max boot_max (pa_cons (pv 8) pa_nil)) (pa_cons (pv 11) (pa_cons (pv 12) pa_nil))))))))))))))), ?_⟩
    rw [show L2.start ["chart", "route", "begins", "rules", "box", "plot", "total", "limit", "found", "progress", "doubt", "down", "up"] [V.ref ch, V.ref rt, V.ref b, V.ref ru, V.ref bx, V.ref q] = [some (V.ref ch), some (V.ref rt), some (V.ref b), some (V.ref ru), some (V.ref bx), some (V.ref q), none, none, none, none, none, none, none] from rfl]
    have rn2 := R.n2
    have rn20 := R.n20
    obtain ⟨q1, q2, q3, q4, q5, q6, q7, q8⟩ := RQ.bd
    have hbx : H bx = some (.tup [.int B.lo, .int B.hi, .int B.dn, .int B.up]) := hbx
    have tn := bg_nn D ns (ns.length - 1)
    have tl := bg_le C0.bd ns (ns.length - 1)
    refine ⟨_, rfl, _, rfl, _, _, rfl, (.inl (.inl (.inl hb))), _, _, rfl, rfl, _, _, _, .int (bg D ns (ns.length - 1)), rfl, rfl, .inl (.inl hb), atI_lastn rfl (bgs_last (by omega)), ?_⟩
    refine nm ?_
    dsimp only [List.set]
    refine ⟨_, rfl, _, _, rfl, RQ.grd, _, rfl, _, _, rfl, RQ.gra, _, _, rfl, rfl, ?_⟩
    refine nm ?_
    dsimp only [List.set]
    refine ⟨szOk rfl, fun L hL => ?_⟩
    refine nm ?_
    dsimp only [List.set]
    have s0 : Same H (upd H L (.lst [])) := same_new hL
    refine ⟨_, rfl, _, _, _, _, rfl, rfl, .inl (.inl (s0 _ _ hbx)), rfl, _, _, rfl, _, rfl, _, _, _, _, rfl, rfl, .inl (.inl (s0 _ _ hbx)), rfl, _, rfl, _, _, rfl, rfl, _, _, rfl, _, _, rfl, rfl, ?_⟩
    generalize elo : (if (0 : Int) > B.lo then 0 else B.lo) = lo
    generalize ehi : (if bg D ns (ns.length - 1) - 1 < B.hi then bg D ns (ns.length - 1) - 1 else B.hi) = hi
    have hlo : 0 ≤ lo ∧ B.lo ≤ lo ∧ (lo = 0 ∨ lo = B.lo) := by split at elo <;> omega
    have hhi : hi ≤ B.hi ∧ hi < bg D ns (ns.length - 1) ∧ (hi = B.hi ∨ hi = bg D ns (ns.length - 1) - 1) := by split at ehi <;> omega
    refine ⟨lo, hi + 1, rfl, ⟨by omega, by omega, by omega, by omega⟩, for_range (lo := lo) (n := (hi + 1 - lo).toNat) (fun i σ H' => ∃ (v9 : Option V) (es : List Int), σ = [some (.ref ch), some (.ref rt), some (.ref b), some (.ref ru), some (.ref bx), some (.ref q), some (.int (bg D ns (ns.length - 1))), some (.int (rd + ra)), some (.ref L), v9, none, none, none] ∧ Same H H' ∧ H' L = some (.lst (es.map V.int)) ∧ es.length ≤ i ∧ (∀ e ∈ es, InS D ns x y (rd + ra) B.lo B.hi e) ∧ (∀ t, InS D ns x y (rd + ra) B.lo B.hi t → t < lo + i → t ∈ es)) ⟨none, [], rfl, s0, upd_same, Nat.le_refl _, (fun e h => nomatch h), fun t ht hlt => ?_⟩ ?_ ?_⟩
    · exfalso
      have := ht.1
      have := ht.2.2.1
      omega
    · rintro i σ H1 hi1 ⟨v9, es, rfl, sm, hes, hel, hmem, hcov⟩
      refine nm ?_
      dsimp only [List.set]
      refine ⟨_, rfl, _, rfl, _, rfl, _, rfl, _, rfl, _, rfl, ch, rt, b, q, D, ns, lo + (i : Int), x, y, pz, rd + ra, rfl, C0.same sm, R, sm _ _ hrt, sm _ _ hb, sm _ _ hq, bxx, byy, by omega, by omega, by omega, by omega, fun H2 s2 => ?_⟩
      have sm2 := sm.trans s2
      have hes2 := s2 _ _ hes
      have ins : alwB D ns (lat D ns (ns.length - 1 - 1) (lo + (i : Int))) x y (rd + ra) (lo + (i : Int)) = true → InS D ns x y (rd + ra) B.lo B.hi (lo + (i : Int)) := fun h => ⟨by omega, by omega, by omega, by omega, h⟩
      refine ⟨_, rfl, ?_⟩
      cases al : alwB D ns (lat D ns (ns.length - 1 - 1) (lo + (i : Int))) x y (rd + ra) (lo + (i : Int)) with
      | true =>
        refine iteT ?_
        refine ⟨_, rfl, (.inl ⟨rfl, _, .inl (.inl hes2)⟩), _, rfl, _, _, _, rfl, rfl, hes2, small1000 (by rw [List.length_map]; omega), ?_⟩
        refine ⟨_, es ++ [lo + (i : Int)], rfl, sameU hL sm2, by rw [upd_same, List.map_append]; rfl, by rw [List.length_append]; show es.length + 1 ≤ i + 1; omega, fun e he => ?_, fun t ht hlt => ?_⟩
        · rcases List.mem_append.mp he with h | h
          · exact hmem e h
          · rw [List.mem_singleton.mp h]; exact ins al
        · by_cases c : t < lo + (i : Int)
          · exact List.mem_append.mpr (.inl (hcov t ht c))
          · exact List.mem_append.mpr (.inr (List.mem_singleton.mpr (by omega)))
      | false =>
        refine iteF ?_
        refine ⟨_, es, rfl, sm2, hes2, by omega, hmem, fun t ht hlt => ?_⟩
        by_cases c : t < lo + (i : Int)
        · exact hcov t ht c
        · exfalso
          have et : t = lo + (i : Int) := by omega
          have := ht.2.2.2.2
          rw [et, al] at this
          cases this
    rintro σ H1 ⟨v9, es, rfl, sm, hes, hel, hmem, hcov⟩
    have E : EndsOf (InS D ns x y (rd + ra) B.lo B.hi) es := by
      have cv : ∀ t, InS D ns x y (rd + ra) B.lo B.hi t → t ∈ es := fun t ht => hcov t ht (by
        obtain ⟨a1, a2, a3, a4, a5⟩ := ht
        omega)
      exact ⟨hmem, fun p hp => ⟨p, cv p hp, Int.le_refl _⟩, fun p hp => ⟨p, cv p hp, Int.le_refl _⟩⟩
    have RQ1 := RQ.same sm
    have hb1 := sm _ _ hbx
    have hq1 := sm _ _ hq
    refine ⟨_, rfl, _, _, rfl, RQ1.ght, _, rfl, _, _, rfl, RQ1.gba, _, _, rfl, rfl, ?_⟩
    refine nm ?_
    dsimp only [List.set]
    refine ⟨_, rfl, _, _, _, _, rfl, rfl, .inl (.inl hb1), rfl, _, rfl, _, _, _, _, rfl, rfl, .inl (.inl hq1), rfl, _, rfl, _, _, rfl, rfl, _, _, rfl, ?_⟩
    refine nm ?_
    dsimp only [List.set]
    refine ⟨_, rfl, _, _, _, _, rfl, rfl, .inl (.inl hb1), rfl, _, rfl, _, _, _, _, rfl, rfl, .inl (.inl hq1), rfl, _, rfl, _, _, rfl, rfl, _, _, rfl, ?_⟩
    refine nm ?_
    dsimp only [List.set]
    have kk : ∀ (v : V) (o : Option Est) (H' : Hp), Same H H' → optE H' o v → FitOk (InS D ns x y (rd + ra) B.lo B.hi) (if pz - (ht + ba) > B.dn then pz - (ht + ba) else B.dn) (if pz + (ht + ba) < B.up then pz + (ht + ba) else B.up) o → _ := kk
    generalize (if pz - (ht + ba) > B.dn then pz - (ht + ba) else B.dn) = dn at kk ⊢
    generalize (if pz + (ht + ba) < B.up then pz + (ht + ba) else B.up) = up at kk ⊢
    refine ⟨_, rfl, _, _, rfl, (.inl (.inl (.inl hes))), rfl, _, rfl, ite2 (fun c => ?_) (fun c => ?_)⟩
    · have c := V.int.inj (of_decide_eq_true c)
      rw [List.length_map] at c
      have : es = [] := List.eq_nil_of_length_eq_zero (by omega)
      subst this
      exact kk .non none H1 sm rfl (.inl E.none)
    have ne : es ≠ [] := fun z => by subst z; exact c (decide_eq_true rfl)
    refine ⟨_, rfl, _, rfl, _, _, rfl, rfl, _, rfl, ite2 (fun c => ?_) (fun c => ?_)⟩
    · have c := of_decide_eq_true c
      exact kk .non none H1 sm rfl (.inr c)
    have c : dn ≤ up := Int.not_lt.mp fun h => c (decide_eq_true h)
    have lp : 0 < es.length := List.length_pos_iff.mpr ne
    refine ⟨_, rfl, L, es, rfl, .inl (.inl hes), lp, fun mn h1 h2 => ?_⟩
    refine ⟨_, rfl, L, es, rfl, .inl (.inl hes), lp, fun mx h3 h4 => ?_⟩
    refine ⟨_, rfl, _, rfl, szOk rfl, fun t ht => ?_⟩
    exact kk (.ref t) (some ⟨mn, mx, dn, up⟩) _ (sm.trans (same_new ht)) ⟨t, rfl, upd_same⟩ (E.fit h1 h3 h2 h4 c)

end
end Sk

set_option Elab.async false
set_option linter.all false
set_option maxRecDepth 100000
set_option maxHeartbeats 4000000
namespace Sk
open PySem PySem.Spec PyProof.Rows L2
def spLCross : Sp := fun vs H Q _ => ∃ (o a b : Addr) (ox oy ax ay bx bw : Int), vs = [.ref o, .ref a, .ref b] ∧ H o = some (.tup [.int ox, .int oy]) ∧ H a = some (.tup [.int ax, .int ay]) ∧ H b = some (.tup [.int bx, .int bw]) ∧ BdN 300 ox ∧ BdN 300 oy ∧ BdN 300 ax ∧ BdN 300 ay ∧ BdN 300 bx ∧ BdN 300 bw ∧ Q (.int (trn ox oy ax ay bx bw)) H
def spLDot : Sp := fun vs H Q _ => ∃ (o a b : Addr) (ox oy ax ay bx bw : Int), vs = [.ref o, .ref a, .ref b] ∧ H o = some (.tup [.int ox, .int oy]) ∧ H a = some (.tup [.int ax, .int ay]) ∧ H b = some (.tup [.int bx, .int bw]) ∧ BdN 300 ox ∧ BdN 300 oy ∧ BdN 300 ax ∧ BdN 300 ay ∧ BdN 300 bx ∧ BdN 300 bw ∧ Q (.int (dtp ox oy ax ay bx bw)) H
def spPtc : Sp := fun vs H Q _ => ∃ (p a b : Addr) (px py ax ay bx bw r2 : Int), vs = [.ref p, .ref a, .ref b, .int r2] ∧ H p = some (.tup [.int px, .int py]) ∧ H a = some (.tup [.int ax, .int ay]) ∧ H b = some (.tup [.int bx, .int bw]) ∧ BdN 300 px ∧ BdN 300 py ∧ BdN 300 ax ∧ BdN 300 ay ∧ BdN 300 bx ∧ BdN 300 bw ∧ BdN 700 r2 ∧ Q (.bl (ptc px py ax ay bx bw r2)) H
def spLClo : Sp := fun vs H Q _ => ∃ (a b : Addr) (s t : Seg) (l : Int), vs = [.ref a, .ref b, .int l] ∧ H a = some s.tup ∧ H b = some t.tup ∧ SegBd 200 100 s ∧ SegBd 200 100 t ∧ BdN 100 l ∧ ∀ H', Same H H' → Q (.bl (lclo s t l)) H'
section
variable {P : Program} {w : World} {K : PySem.W.Frag} {mg : Str → Option Value} {base : Heap}
abbrev s_law_cross : Stmt := top 24
theorem sc_law_cross : FnScope ["o", "a", "b"] ["o", "a", "b"] (defScope s_law_cross) := ⟨rfl, rfl, rfl, by decide +kernel, rfl, by decide +kernel, by decide +kernel⟩
theorem ok_law_cross {f : Addr} {fd : FuncData} (F : Fun K "_law_cross" "_law_cross" s_law_cross f fd) (T : TxtA mg) : FnOk P w K mg base CX0 1 f fd ["o", "a", "b"] (spLCross) := by
  refine F.ok sc_law_cross (fun vs H Q E h => ?_) (fun cdv A outer s H vs Q E hr h => ?_)
  · obtain ⟨o, a, b, _, _, _, _, _, _, rfl, _⟩ := h
    rfl
  · obtain ⟨o, a, b, ox, oy, ax, ay, bx, bw, rfl, h0, h1, h2, b1, b2, b3, b4, b5, b6, k⟩ := h
    refine ⟨_, (pss_one (ps_ret (pe_op op_sub (pe_op op_mulW (pe_op op_sub (pe_ix (r := rIxT K) ix_tup (pv 1) pe_int (fun _ _ => rfl)) (pe_ix (r := rIxT K) ix_tup (pv 0) pe_int (fun _ _ => rfl))) (pe_op op_sub (pe_ix (r := rIxT K) ix_tup (pv 2) pe_int (fun _ _ => rfl)) (pe_ix (r := rIxT K) ix_tup (pv 0) pe_int (fun _ _ => rfl)))) (pe_op op_mulW (pe_op op_sub (pe_ix (r := rIxT K) ix_tup (pv 1) pe_int (fun _ _ => rfl)) (pe_ix (r := rIxT K) ix_tup (pv 0) pe_int (fun _ _ => rfl))) (pe_op op_sub (pe_ix (r := rIxT K) ix_tup (pv 2) pe_int (fun _ _ => rfl)) (pe_ix (r := rIxT K) ix_tup (pv 0) pe_int (fun _ _ => rfl))))))), ?_⟩
    exact ⟨_, rfl, _, _, _, _, rfl, rfl, (.inl (.inl h1)), rfl, _, rfl, _, _, _, _, rfl, rfl, (.inl (.inl h0)), rfl, _, _, rfl, rfl, _, rfl, _, _, _, _, rfl, rfl, (.inl (.inl h2)), rfl, _, rfl, _, _, _, _, rfl, rfl, (.inl (.inl h0)), rfl, _, _, rfl, rfl, _, _, rfl, rfl, wmB (b3.sub b1) (b6.sub b2) (by decide) (by decide), _, rfl, _, _, _, _, rfl, rfl, (.inl (.inl h1)), rfl, _, rfl, _, _, _, _, rfl, rfl, (.inl (.inl h0)), rfl, _, _, rfl, rfl, _, rfl, _, _, _, _, rfl, rfl, (.inl (.inl h2)), rfl, _, rfl, _, _, _, _, rfl, rfl, (.inl (.inl h0)), rfl, _, _, rfl, rfl, _, _, rfl, rfl, wmB (b4.sub b2) (b5.sub b1) (by decide) (by decide), _, _, rfl, rfl, k⟩

abbrev s_law_dot : Stmt := top 25
theorem sc_law_dot : FnScope ["o", "a", "b"] ["o", "a", "b"] (defScope s_law_dot) := ⟨rfl, rfl, rfl, by decide +kernel, rfl, by decide +kernel, by decide +kernel⟩
theorem ok_law_dot {f : Addr} {fd : FuncData} (F : Fun K "_law_dot" "_law_dot" s_law_dot f fd) (T : TxtA mg) : FnOk P w K mg base CX0 1 f fd ["o", "a", "b"] (spLDot) := by
  refine F.ok sc_law_dot (fun vs H Q E h => ?_) (fun cdv A outer s H vs Q E hr h => ?_)
  · obtain ⟨o, a, b, _, _, _, _, _, _, rfl, _⟩ := h
    rfl
  · obtain ⟨o, a, b, ox, oy, ax, ay, bx, bw, rfl, h0, h1, h2, b1, b2, b3, b4, b5, b6, k⟩ := h
    refine ⟨_, (pss_one (ps_ret (pe_op op_add (pe_op op_mulW (pe_op op_sub (pe_ix (r := rIxT K) ix_tup (pv 1) pe_int (fun _ _ => rfl)) (pe_ix (r := rIxT K) ix_tup (pv 0) pe_int (fun _ _ => rfl))) (pe_op op_sub (pe_ix (r := rIxT K) ix_tup (pv 2) pe_int (fun _ _ => rfl)) (pe_ix (r := rIxT K) ix_tup (pv 0) pe_int (fun _ _ => rfl)))) (pe_op op_mulW (pe_op op_sub (pe_ix (r := rIxT K) ix_tup (pv 1) pe_int (fun _ _ => rfl)) (pe_ix (r := rIxT K) ix_tup (pv 0) pe_int (fun _ _ => rfl))) (pe_op op_sub (pe_ix (r := rIxT K) ix_tup (pv 2) pe_int (fun _ _ => rfl)) (pe_ix (r := rIxT K) ix_tup (pv 0) pe_int (fun _ _ => rfl))))))), ?_⟩
    exact ⟨_, rfl, _, _, _, _, rfl, rfl, (.inl (.inl h1)), rfl, _, rfl, _, _, _, _, rfl, rfl, (.inl (.inl h0)), rfl, _, _, rfl, rfl, _, rfl, _, _, _, _, rfl, rfl, (.inl (.inl h2)), rfl, _, rfl, _, _, _, _, rfl, rfl, (.inl (.inl h0)), rfl, _, _, rfl, rfl, _, _, rfl, rfl, wmB (b3.sub b1) (b5.sub b1) (by decide) (by decide), _, rfl, _, _, _, _, rfl, rfl, (.inl (.inl h1)), rfl, _, rfl, _, _, _, _, rfl, rfl, (.inl (.inl h0)), rfl, _, _, rfl, rfl, _, rfl, _, _, _, _, rfl, rfl, (.inl (.inl h2)), rfl, _, rfl, _, _, _, _, rfl, rfl, (.inl (.inl h0)), rfl, _, _, rfl, rfl, _, _, rfl, rfl, wmB (b4.sub b2) (b6.sub b2) (by decide) (by decide), _, _, rfl, rfl, k⟩

abbrev s_law_point_closer : Stmt := top 26
theorem sc_law_point_closer : FnScope ["p", "a", "b", "square", "long", "along", "area"] ["p", "a", "b", "square"] (defScope s_law_point_closer) := ⟨rfl, rfl, rfl, by decide +kernel, rfl, by decide +kernel, by decide +kernel⟩
theorem ok_law_point_closer {f : Addr} {fd : FuncData} (F : Fun K "_law_point_closer" "_law_point_closer" s_law_point_closer f fd) (T : TxtA mg)
    (D_law_dot : Def P w K mg base 1 "_law_dot" ["o", "a", "b"] (spLDot))
    (D_law_cross : Def P w K mg base 1 "_law_cross" ["o", "a", "b"] (spLCross)) : FnOk P w K mg base CX0 2 f fd ["p", "a", "b", "square"] (spPtc) := by
  refine F.ok sc_law_point_closer (fun vs H Q E h => ?_) (fun cdv A outer s H vs Q E hr h => ?_)
  · obtain ⟨p, a, b, _, _, _, _, _, _, _, rfl, _⟩ := h
    rfl
  · obtain ⟨p, a, b, px, py, ax, ay, bx, bw, r2, rfl, h0, h1, h2, b1, b2, b3, b4, b5, b6, b7, k⟩ := h
    refine ⟨_, (pss_cons (ps_set (i := 4) sc_law_point_closer.nd rfl (Or.inl rfl) (pe_def D_law_dot (hr.mono (by decide)) (by rfl) (pa_cons (pv 1) (pa_cons (pv 2) (pa_cons (pv 2) pa_nil)))))
    (pss_cons (ps_set (i := 5) sc_law_point_closer.nd rfl (Or.inl rfl) (pe_def D_law_dot (hr.mono (by decide)) (by rfl) (pa_cons (pv 1) (pa_cons (pv 2) (pa_cons (pv 0) pa_nil)))))
    (pss_cons (ps_if (pt_cmpR op_le (pv 5) pe_int (nomark _)) (pss_one (ps_ret (pe_cmpR op_lt (pe_def D_law_dot (hr.mono (by decide)) (by rfl) (pa_cons (pv 1) (pa_cons (pv 0) (pa_cons (pv 0) pa_nil)))) (pv 3) (nomark _))))
      pss_nil)
    (pss_cons (ps_if (pt_cmpR op_ge (pv 5) (pv 4) (nomark _)) (pss_one (ps_ret (pe_cmpR op_lt (pe_def D_law_dot (hr.mono (by decide)) (by rfl) (pa_cons (pv 2) (pa_cons (pv 0) (pa_cons (pv 0) pa_nil)))) (pv 3) (nomark _))))
      pss_nil)
    (pss_cons (ps_set (i := 6) sc_law_point_closer.nd rfl (Or.inl rfl) (pe_def D_law_cross (hr.mono (by decide)) (by rfl) (pa_cons (pv 1) (pa_cons (pv 2) (pa_cons (pv 0) pa_nil)))))
    (pss_one (ps_ret (pe_cmpR op_lt (pe_op op_mulW (pv 6) (pv 6)) (pe_op op_mulW (pv 3) (pv 4)) (nomark _))))))))), ?_⟩
    refine ⟨_, rfl, _, rfl, _, rfl, a, b, b, ax, ay, bx, bw, bx, bw, rfl, h1, h2, h2, b3, b4, b5, b6, b5, b6, ?_⟩
    refine ⟨_, rfl, _, rfl, _, rfl, a, b, p, ax, ay, bx, bw, px, py, rfl, h1, h2, h0, b3, b4, b5, b6, b1, b2, ?_⟩
    refine ⟨_, rfl, _, _, rfl, rfl, _, rfl, ?_⟩
    unfold ptc at k
    by_cases c1 : dtp ax ay bx bw px py ≤ 0
    · rw [if_pos c1] at k
      refine ifY c1 ?_
      exact ⟨_, rfl, _, rfl, _, rfl, a, p, p, ax, ay, px, py, px, py, rfl, h1, h0, h0, b3, b4, b1, b2, b1, b2, _, rfl, _, _, rfl, rfl, k⟩
    rw [if_neg c1] at k
    refine ifN c1 ?_
    refine ⟨_, rfl, _, rfl, _, _, rfl, rfl, _, rfl, ?_⟩
    by_cases c2 : dtp ax ay bx bw bx bw ≤ dtp ax ay bx bw px py
    · rw [if_pos c2] at k
      refine ifY c2 ?_
      exact ⟨_, rfl, _, rfl, _, rfl, b, p, p, bx, bw, px, py, px, py, rfl, h2, h0, h0, b5, b6, b1, b2, b1, b2, _, rfl, _, _, rfl, rfl, k⟩
    rw [if_neg c2] at k
    refine ifN c2 ?_
    refine ⟨_, rfl, _, rfl, _, rfl, a, b, p, ax, ay, bx, bw, px, py, rfl, h1, h2, h0, b3, b4, b5, b6, b1, b2, ?_⟩
    have tb : BdN 603 (trn ax ay bx bw px py) := ((b5.sub b3).mul (b2.sub b4)).sub ((b6.sub b4).mul (b1.sub b3))
    have db : BdN 603 (dtp ax ay bx bw bx bw) := ((b5.sub b3).mul (b5.sub b3)).add ((b6.sub b4).mul (b6.sub b4))
    exact ⟨_, rfl, _, rfl, _, _, rfl, rfl, wmB tb tb (by decide) (by decide), _, rfl, _, rfl, _, _, rfl, rfl, wmB b7 db (by decide) (by decide), _, _, rfl, rfl, k⟩

abbrev s_law_closer : Stmt := top 27
theorem sc_law_closer : FnScope ["first", "second", "limit", "d", "e", "a", "b", "p", "q", "square", "sides"] ["first", "second", "limit"] (defScope s_law_closer) := ⟨rfl, rfl, rfl, by decide +kernel, rfl, by decide +kernel, by decide +kernel⟩
theorem ok_law_closer {f : Addr} {fd : FuncData} (F : Fun K "_law_closer" "_law_closer" s_law_closer f fd) (T : TxtA mg)
    (D_law_cross : Def P w K mg base 1 "_law_cross" ["o", "a", "b"] (spLCross))
    (D_law_point_closer : Def P w K mg base 2 "_law_point_closer" ["p", "a", "b", "square"] (spPtc)) : FnOk P w K mg base CX0 3 f fd ["first", "second", "limit"] (spLClo) := by
  refine F.ok sc_law_closer (fun vs H Q E h => ?_) (fun cdv A outer s H vs Q E hr h => ?_)
  · obtain ⟨a, b, s, t, l, rfl, _⟩ := h
    rfl
  · obtain ⟨a0, b0, s, t, l, rfl, ha, hb, hs, ht, hl, k⟩ := h
    refine ⟨_, (pss_cons (ps_set (i := 3) sc_law_closer.nd rfl (Or.inl rfl) (pe_ix (r := rIxT K) ix_tup (pv 0) pe_int (fun _ _ => rfl)))
    (pss_cons (ps_set (i := 4) sc_law_closer.nd rfl (Or.inl rfl) (pe_ix (r := rIxT K) ix_tup (pv 1) pe_int (fun _ _ => rfl)))
    (pss_cons (ps_set (i := 5) sc_law_closer.nd rfl (Or.inl rfl) (pe_tup (pa_cons (pe_op op_mulW (pe_ix (r := rIxT K) ix_tup (pv 0) pe_int (fun _ _ => rfl)) (pv 4)) (pa_cons (pe_op op_mulW (pe_ix (r := rIxT K) ix_tup (pv 0) pe_int (fun _ _ => rfl)) (pv 4)) pa_nil))))
    (pss_cons (ps_set (i := 6) sc_law_closer.nd rfl (Or.inl rfl) (pe_tup (pa_cons (pe_op op_mulW (pe_ix (r := rIxT K) ix_tup (pv 0) pe_int (fun _ _ => rfl)) (pv 4)) (pa_cons (pe_op op_mulW (pe_ix (r := rIxT K) ix_tup (pv 0) pe_int (fun _ _ => rfl)) (pv 4)) pa_nil))))
    (pss_cons (ps_set (i := 7) sc_law_closer.nd rfl (Or.inl rfl) (pe_tup (pa_cons (pe_op op_mulW (pe_ix (r := rIxT K) ix_tup (pv 1) pe_int (fun _ _ => rfl)) (pv 3)) (pa_cons (pe_op op_mulW (pe_ix (r := rIxT K) ix_tup (pv 1) pe_int (fun _ _ => rfl)) (pv 3)) pa_nil))))
    (pss_cons (ps_set (i := 8) sc_law_closer.nd rfl (Or.inl rfl) (pe_tup (pa_cons (pe_op op_mulW (pe_ix (r := rIxT K) ix_tup (pv 1) pe_int (fun _ _ => rfl)) (pv 3)) (pa_cons (pe_op op_mulW (pe_ix (r := rIxT K) ix_tup (pv 1) pe_int (fun _ _ => rfl)) (pv 3)) pa_nil))))
    (pss_cons (ps_set (i := 9) sc_law_closer.nd rfl (Or.inl rfl) (pe_op op_mulW (pe_op op_mulW (pe_op op_mulW (pe_op op_mulW (pe_op op_mulW (pv 2) (pv 2)) (pv 3)) (pv 3)) (pv 4)) (pv 4)))
    (pss_cons (ps_if (pt_cmpR op_gt (pv 9) pe_int (nomark _)) (pss_cons (ps_set (i := 10) sc_law_closer.nd rfl (Or.inl rfl) (pe_lst (pa_cons (pe_def D_law_cross (hr.mono (by decide)) (by rfl) (pa_cons (pv 5) (pa_cons (pv 6) (pa_cons (pv 7) pa_nil)))) (pa_cons (pe_def D_law_cross (hr.mono (by decide)) (by rfl) (pa_cons (pv 5) (pa_cons (pv 6) (pa_cons (pv 8) pa_nil)))) (pa_cons (pe_def D_law_cross (hr.mono (by decide)) (by rfl) (pa_cons (pv 7) (pa_cons (pv 8) (pa_cons (pv 5) pa_nil)))) (pa_cons (pe_def D_law_cross (hr.mono (by decide)) (by rfl) (pa_cons (pv 7) (pa_cons (pv 8) (pa_cons (pv 6) pa_nil)))) pa_nil))))))
    (pss_one (ps_if (PW.pt (pw_and (pt_cmpR op_lt (pe_op op_mulW (pe_ix (r := rIxL K) ix_list (pv 10) pe_int (fun _ _ => rfl)) (pe_ix (r := rIxL K) ix_list (pv 10) pe_int (fun _ _ => rfl))) pe_int (nomark _)) (pw_and1 (pt_cmpR op_lt (pe_op op_mulW (pe_ix (r := rIxL K) ix_list (pv 10) pe_int (fun _ _ => rfl)) (pe_ix (r := rIxL K) ix_list (pv 10) pe_int (fun _ _ => rfl))) pe_int (nomark _))))) (pss_one (ps_ret pe_bl))
      pss_nil)))
      pss_nil)
    (pss_cons (ps_if (PW.pt (pw_or (pt_val (pe_def D_law_point_closer (hr.mono (by decide)) (by rfl) (pa_cons (pv 5) (pa_cons (pv 7) (pa_cons (pv 8) (pa_cons (pv 9) pa_nil)))))) (pw_or1 (pt_val (pe_def D_law_point_closer (hr.mono (by decide)) (by rfl) (pa_cons (pv 6) (pa_cons (pv 7) (pa_cons (pv 8) (pa_cons (pv 9) pa_nil))))))))) (pss_one (ps_ret pe_bl))
      pss_nil)
    (pss_one (ps_ret (pe_or (pe_def D_law_point_closer (hr.mono (by decide)) (by rfl) (pa_cons (pv 7) (pa_cons (pv 5) (pa_cons (pv 6) (pa_cons (pv 9) pa_nil))))) (pe_one (pe_def D_law_point_closer (hr.mono (by decide)) (by rfl) (pa_cons (pv 8) (pa_cons (pv 5) (pa_cons (pv 6) (pa_cons (pv 9) pa_nil)))))))))))))))))), ?_⟩
    have e1 : ∀ {x y : Int}, BdN 200 x → BdN 100 y → BdN 300 (x * y) := fun h h' => h.mul h'
    refine ⟨_, rfl, _, _, _, _, rfl, rfl, (.inl (.inl ha)), rfl, ?_⟩
    refine ⟨_, rfl, _, _, _, _, rfl, rfl, (.inl (.inl hb)), rfl, ?_⟩
    refine ⟨_, rfl, _, _, _, _, rfl, rfl, (.inl (.inl ha)), rfl, _, rfl, _, _, rfl, rfl, wmB hs.ax ht.d (by decide) (by decide), _, rfl, _, _, _, _, rfl, rfl, (.inl (.inl ha)), rfl, _, rfl, _, _, rfl, rfl, wmB hs.ay ht.d (by decide) (by decide), szOk rfl, fun a ha1 => ?_⟩
    have s1 := same_new (o := .tup [.int (s.ax * t.d), .int (s.ay * t.d)]) ha1
    refine ⟨_, rfl, _, _, _, _, rfl, rfl, (.inl (.inl (s1 _ _ ha))), rfl, _, rfl, _, _, rfl, rfl, wmB hs.bx ht.d (by decide) (by decide), _, rfl, _, _, _, _, rfl, rfl, (.inl (.inl (s1 _ _ ha))), rfl, _, rfl, _, _, rfl, rfl, wmB hs.bw ht.d (by decide) (by decide), szOk rfl, fun b hb1 => ?_⟩
    have s2 := s1.trans (same_new (o := .tup [.int (s.bx * t.d), .int (s.bw * t.d)]) hb1)
    refine ⟨_, rfl, _, _, _, _, rfl, rfl, (.inl (.inl (s2 _ _ hb))), rfl, _, rfl, _, _, rfl, rfl, wmB ht.ax hs.d (by decide) (by decide), _, rfl, _, _, _, _, rfl, rfl, (.inl (.inl (s2 _ _ hb))), rfl, _, rfl, _, _, rfl, rfl, wmB ht.ay hs.d (by decide) (by decide), szOk rfl, fun p hp1 => ?_⟩
    have s3 := s2.trans (same_new (o := .tup [.int (t.ax * s.d), .int (t.ay * s.d)]) hp1)
    refine ⟨_, rfl, _, _, _, _, rfl, rfl, (.inl (.inl (s3 _ _ hb))), rfl, _, rfl, _, _, rfl, rfl, wmB ht.bx hs.d (by decide) (by decide), _, rfl, _, _, _, _, rfl, rfl, (.inl (.inl (s3 _ _ hb))), rfl, _, rfl, _, _, rfl, rfl, wmB ht.bw hs.d (by decide) (by decide), szOk rfl, fun q hq1 => ?_⟩
    have s4 := s3.trans (same_new (o := .tup [.int (t.bx * s.d), .int (t.bw * s.d)]) hq1)
    have kp : ∀ {H0 : Hp} {p q : Addr} {o o' : HO}, H0 p = some o → H0 q = none → upd H0 q o' p = some o := fun h n => by rw [upd_ne (ne_of_none h n)]; exact h
    have A : _ = some (HO.tup [.int (s.ax * t.d), .int (s.ay * t.d)]) := kp (o' := .tup [.int (t.bx * s.d), .int (t.bw * s.d)]) (kp (o' := .tup [.int (t.ax * s.d), .int (t.ay * s.d)]) (kp (o' := .tup [.int (s.bx * t.d), .int (s.bw * t.d)]) upd_same hb1) hp1) hq1
    have B : _ = some (HO.tup [.int (s.bx * t.d), .int (s.bw * t.d)]) := kp (o' := .tup [.int (t.bx * s.d), .int (t.bw * s.d)]) (kp (o' := .tup [.int (t.ax * s.d), .int (t.ay * s.d)]) upd_same hp1) hq1
    have Pp : _ = some (HO.tup [.int (t.ax * s.d), .int (t.ay * s.d)]) := kp (o' := .tup [.int (t.bx * s.d), .int (t.bw * s.d)]) upd_same hq1
    have Qq : _ = some (HO.tup [.int (t.bx * s.d), .int (t.bw * s.d)]) := upd_same (a := q) (H := upd (upd (upd H a (.tup [.int (s.ax * t.d), .int (s.ay * t.d)])) b (.tup [.int (s.bx * t.d), .int (s.bw * t.d)])) p (.tup [.int (t.ax * s.d), .int (t.ay * s.d)]))
    generalize upd (upd (upd (upd H a (.tup [.int (s.ax * t.d), .int (s.ay * t.d)])) b (.tup [.int (s.bx * t.d), .int (s.bw * t.d)])) p (.tup [.int (t.ax * s.d), .int (t.ay * s.d)])) q (.tup [.int (t.bx * s.d), .int (t.bw * s.d)]) = H4 at s4 A B Pp Qq ⊢
    have q1 : BdN 200 (l * l) := hl.mul hl
    have q2 : BdN 300 (l * l * s.d) := q1.mul hs.d
    have q3 : BdN 400 (l * l * s.d * s.d) := q2.mul hs.d
    have q4 : BdN 500 (l * l * s.d * s.d * t.d) := q3.mul ht.d
    have q5 : BdN 600 (l * l * s.d * s.d * t.d * t.d) := q4.mul ht.d
    refine ⟨_, rfl, _, rfl, _, _, rfl, rfl, wmB hl hl (by decide) (by decide), _, rfl, _, _, rfl, rfl, wmB q1 hs.d (by decide) (by decide), _, rfl, _, _, rfl, rfl, wmB q2 hs.d (by decide) (by decide), _, rfl, _, _, rfl, rfl, wmB q3 ht.d (by decide) (by decide), _, rfl, _, _, rfl, rfl, wmB q4 ht.d (by decide) (by decide), ?_⟩
    refine nm ?_
    dsimp only
    have x1 := e1 hs.ax ht.d; have x2 := e1 hs.ay ht.d; have x3 := e1 hs.bx ht.d; have x4 := e1 hs.bw ht.d
    have y1 := e1 ht.ax hs.d; have y2 := e1 ht.ay hs.d; have y3 := e1 ht.bx hs.d; have y4 := e1 ht.bw hs.d
    unfold lclo at k
    generalize l * l * s.d * s.d * t.d * t.d = r2 at q5 k ⊢
    generalize s.ax * t.d = ax at A x1 k ⊢
    generalize s.ay * t.d = ay at A x2 k ⊢
    generalize s.bx * t.d = bx at B x3 k ⊢
    generalize s.bw * t.d = bw at B x4 k ⊢
    generalize t.ax * s.d = cx at Pp y1 k ⊢
    generalize t.ay * s.d = cy at Pp y2 k ⊢
    generalize t.bx * s.d = dx at Qq y3 k ⊢
    generalize t.bw * s.d = dy at Qq y4 k ⊢
    have tb : ∀ {ax ay bx bw x y : Int}, BdN 300 ax → BdN 300 ay → BdN 300 bx → BdN 300 bw → BdN 300 x → BdN 300 y → BdN 603 (trn ax ay bx bw x y) := fun h1 h2 h3 h4 h5 h6 => ((h3.sub h1).mul (h6.sub h2)).sub ((h4.sub h2).mul (h5.sub h1))
    -- what follows the first test
    refine cut (t := tIfS _ _ _) (fun σ' H' => ∃ v, σ' = [some (.ref a0), some (.ref b0), some (.int l), some (.int s.d), some (.int t.d), some (.ref a), some (.ref b), some (.ref p), some (.ref q), some (.int r2), v] ∧ Same H4 H' ∧ (decide (0 < r2) && crs ax ay bx bw cx cy dx dy) = false) ?_ (fun rest => ?_)
    · rintro σ' H' ⟨v, rfl, sH, cf⟩
      rw [cf, Bool.false_or] at k
      have A := sH _ _ A; have B := sH _ _ B; have Pp := sH _ _ Pp; have Qq := sH _ _ Qq
      have k := k H' (s4.trans sH)
      refine ⟨_, rfl, _, rfl, _, rfl, _, rfl, a, p, q, ax, ay, cx, cy, dx, dy, r2, rfl, A, Pp, Qq, x1, x2, y1, y2, y3, y4, q5.mono (by decide), _, rfl, ?_⟩
      cases c1 : ptc ax ay cx cy dx dy r2 with
      | true =>
        rw [c1] at k
        exact (if_pos rfl).mpr ((if_pos rfl).mpr k)
      | false =>
        rw [c1] at k
        refine (if_neg Bool.false_ne_true).mpr ⟨_, rfl, _, rfl, _, rfl, _, rfl, b, p, q, bx, bw, cx, cy, dx, dy, r2, rfl, B, Pp, Qq, x3, x4, y1, y2, y3, y4, q5.mono (by decide), _, rfl, ?_⟩
        cases c2 : ptc bx bw cx cy dx dy r2 with
        | true =>
          rw [c2] at k
          exact (if_pos rfl).mpr k
        | false =>
          rw [c2] at k
          refine (if_neg Bool.false_ne_true).mpr ⟨_, rfl, _, rfl, _, rfl, _, rfl, p, a, b, cx, cy, ax, ay, bx, bw, r2, rfl, Pp, A, B, y1, y2, x1, x2, x3, x4, q5.mono (by decide), _, rfl, ?_⟩
          cases c3 : ptc cx cy ax ay bx bw r2 with
          | true =>
            rw [c3] at k
            exact (if_pos rfl).mpr k
          | false =>
            rw [c3] at k
            exact (if_neg Bool.false_ne_true).mpr ⟨_, rfl, _, rfl, _, rfl, _, rfl, q, a, b, dx, dy, ax, ay, bx, bw, r2, rfl, Qq, A, B, y3, y4, x1, x2, x3, x4, q5.mono (by decide), k⟩
    · refine ⟨_, rfl, _, _, rfl, rfl, _, rfl, ?_⟩
      by_cases c : 0 < r2
      · refine ifY c ?_
        refine ⟨_, rfl, _, rfl, _, rfl, a, b, p, ax, ay, bx, bw, cx, cy, rfl, A, B, Pp, x1, x2, x3, x4, y1, y2, ?_⟩
        refine ⟨_, rfl, _, rfl, _, rfl, a, b, q, ax, ay, bx, bw, dx, dy, rfl, A, B, Qq, x1, x2, x3, x4, y3, y4, ?_⟩
        refine ⟨_, rfl, _, rfl, _, rfl, p, q, a, cx, cy, dx, dy, ax, ay, rfl, Pp, Qq, A, y1, y2, y3, y4, x1, x2, ?_⟩
        refine ⟨_, rfl, _, rfl, _, rfl, p, q, b, cx, cy, dx, dy, bx, bw, rfl, Pp, Qq, B, y1, y2, y3, y4, x3, x4, ?_⟩
        refine ⟨szOk rfl, fun ls hls => ?_⟩
        refine ⟨_, rfl, _, _, _, _, rfl, rfl, (.inl (.inl upd_same)), rfl, _, rfl, _, _, _, _, rfl, rfl, (.inl (.inl upd_same)), rfl, _, _, rfl, rfl, wmB (tb x1 x2 x3 x4 y1 y2) (tb x1 x2 x3 x4 y3 y4) (by decide) (by decide), _, _, rfl, rfl, _, rfl, ?_⟩
        have sL := same_new (o := .lst [.int (trn ax ay bx bw cx cy), .int (trn ax ay bx bw dx dy), .int (trn cx cy dx dy ax ay), .int (trn cx cy dx dy bx bw)]) hls
        by_cases d1 : trn ax ay bx bw cx cy * trn ax ay bx bw dx dy < 0
        · refine ifY d1 ?_
          refine ⟨_, rfl, _, _, _, _, rfl, rfl, (.inl (.inl upd_same)), rfl, _, rfl, _, _, _, _, rfl, rfl, (.inl (.inl upd_same)), rfl, _, _, rfl, rfl, wmB (tb y1 y2 y3 y4 x1 x2) (tb y1 y2 y3 y4 x3 x4) (by decide) (by decide), _, _, rfl, rfl, _, rfl, ?_⟩
          by_cases d2 : trn cx cy dx dy ax ay * trn cx cy dx dy bx bw < 0
          · refine ifY d2 ?_
            have e : (decide (0 < r2) && crs ax ay bx bw cx cy dx dy) = true := by
              unfold crs
              rw [decide_eq_true c, decide_eq_true d1, decide_eq_true d2]
              rfl
            rw [e, Bool.true_or] at k
            exact k _ (s4.trans sL)
          · refine ifN d2 (rest _ _ ⟨_, rfl, sL, ?_⟩)
            unfold crs
            rw [decide_eq_false d2, Bool.and_false, Bool.and_false]
        · refine ifN d1 ?_
          refine (if_neg Bool.false_ne_true).mpr (rest _ _ ⟨_, rfl, sL, ?_⟩)
          unfold crs
          rw [decide_eq_false d1, Bool.false_and, Bool.and_false]
      · refine ifN c (rest _ _ ⟨_, rfl, Same.refl _, ?_⟩)
        rw [decide_eq_false c, Bool.false_and]

end
end Sk

set_option Elab.async false
set_option linter.all false
set_option maxRecDepth 100000
set_option maxHeartbeats 4000000
namespace Sk
open PySem PySem.Spec PyProof.Rows L2
section
variable {P : Program} {w : World} {K : PySem.W.Frag} {mg : Str → Option Value} {base : Heap}
abbrev s_law_near : Stmt := top 52
theorem sc_law_near : FnScope ["state", "number", "place"] ["state", "number", "place"] (defScope s_law_near) := ⟨rfl, rfl, rfl, by decide +kernel, rfl, by decide +kernel, by decide +kernel⟩
theorem ok_law_near {f : Addr} {fd : FuncData} (F : Fun K "_law_near" "_law_near" s_law_near f fd) (T : TxtA mg)
    (D_law_draw : Def P w K mg base 1 "_law_draw" ["state", "bound"] (spDraw K)) : FnOk P w K mg base CX0 2 f fd ["state", "number", "place"] (spNearP K) := by
  refine F.ok sc_law_near (fun vs H Q E h => ?_) (fun cdv A outer s H vs Q E hr h => ?_)
  · obtain ⟨_, _, _, _, _, _, _, rfl, _⟩ := h
    rfl
  · obtain ⟨d, c, pl, z, X, Y, n, rfl, S, hp, n1, n2, z1, z2, k⟩ := h
    refine ⟨_, (pss_one (ps_ret (pe_op op_fdivW (pe_op op_add (pv 1) (pe_op op_mulW (pe_def D_law_draw (hr.mono (by decide)) (by rfl) (pa_cons (pv 0) (pa_cons pe_int pa_nil))) (pe_op op_sub (pe_ix (r := rIxT K) ix_tup (pv 2) pe_int (fun _ _ => rfl)) pe_int))) (pe_ix (r := rIxT K) ix_tup (pv 2) pe_int (fun _ _ => rfl))))), ?_⟩
    rw [show L2.start ["state", "number", "place"] [V.ref d, V.int z, V.ref pl] = [some (V.ref d), some (V.int z), some (V.ref pl)] from rfl]
    refine ⟨_, rfl, _, rfl, d, c, 2, rfl, S, (by omega), (by omega), fun x1 H1 x1a x1b S1 kp1 => ?_⟩
    have hp1 := kp1.t S hp
    have hx : x1 = 0 ∨ x1 = 1 := by omega
    refine ⟨_, rfl, _, _, _, _, rfl, rfl, .inl (.inl hp1), rfl, _, _, rfl, rfl, _, _, rfl, rfl, (wm (by omega) (by omega)), _, _, rfl, rfl, _, rfl, _, _, _, _, rfl, rfl, .inl (.inl hp1), rfl, _, _, rfl, rfl, ?_⟩
    have bn : BdN 19 n := BdN.of (by show -(524288 : Int) ≤ n; omega) (by show n ≤ (524288 : Int); omega)
    have hz : -70368744177664 ≤ z + x1 * (n - 1) ∧ z + x1 * (n - 1) ≤ 70368744177664 := by rcases hx with rfl | rfl <;> omega
    generalize z + x1 * (n - 1) = u at hz ⊢
    refine ⟨wide_div (b := 300) n1 (Nat.lt_of_le_of_lt bn (Nat.pow_lt_pow_right (by decide) (by decide))) (by decide) (by decide), k (u / n) _ ?_ S1 kp1⟩
    have d1 : -70368744177664 ≤ u / n := (Int.le_ediv_iff_mul_le (by omega)).mpr (by omega)
    have d2 : u / n < 70368744177665 := (Int.ediv_lt_iff_lt_mul (by omega)).mpr (by omega)
    exact BdN.of (by show -(70368744177664 : Int) ≤ _; omega) (by show _ ≤ (70368744177664 : Int); omega)

abbrev s_law_vector : Stmt := top 50
theorem sc_law_vector : FnScope ["state", "radius", "x", "y", "k"] ["state", "radius"] (defScope s_law_vector) := ⟨rfl, rfl, rfl, by decide +kernel, rfl, by decide +kernel, by decide +kernel⟩
theorem ok_law_vector {f : Addr} {fd : FuncData} (F : Fun K "_law_vector" "_law_vector" s_law_vector f fd) (T : TxtA mg)
    (D_law_draw : Def P w K mg base 1 "_law_draw" ["state", "bound"] (spDraw K)) : FnOk P w K mg base CX0 2 f fd ["state", "radius"] (spVector K) := by
  refine F.ok sc_law_vector (fun vs H Q E h => ?_) (fun cdv A outer s H vs Q E hr h => ?_)
  · obtain ⟨_, _, _, rfl, _⟩ := h
    rfl
  · obtain ⟨d, c, r, rfl, S, r0, r1, k⟩ := h
    refine ⟨_, (pss_cons (ps_if (pt_cmpR op_eq (pv 1) pe_int (nomark _)) (pss_one (ps_ret (pe_tup (pa_cons pe_int (pa_cons pe_int pa_nil)))))
      pss_nil)
    (pss_cons (ps_set (i := 2) sc_law_vector.nd rfl (Or.inl rfl) (pe_op op_sub (pe_def D_law_draw (hr.mono (by decide)) (by rfl) (pa_cons (pv 0) (pa_cons (pe_op op_add (pe_op op_mulW pe_int (pv 1)) pe_int) pa_nil))) (pv 1)))
    (pss_cons (ps_set (i := 3) sc_law_vector.nd rfl (Or.inl rfl) pe_int)
    (pss_cons (ps_for PassesOwn.never rfl (pi_range2 (by rfl) T.range (pa_cons pe_int (pa_cons (pe_op op_add (pv 1) pe_int) pa_nil))) (pg_name (i := 4) sc_law_vector.nd rfl (Or.inl rfl))
      (pss_one (ps_if (pt_cmpR op_le (pe_op op_add (pe_op op_mulW (pv 2) (pv 2)) (pe_op op_mulW (pv 4) (pv 4))) (pe_op op_mulW (pv 1) (pv 1)) (nomark _)) (pss_one (ps_set (i := 3) sc_law_vector.nd rfl (Or.inl rfl) (pv 4)))
      pss_nil)))
    (pss_cons (ps_if (pt_cmpR op_eq (pe_def D_law_draw (hr.mono (by decide)) (by rfl) (pa_cons (pv 0) (pa_cons pe_int pa_nil))) pe_int (nomark _)) (pss_one (ps_set (i := 3) sc_law_vector.nd rfl (Or.inl rfl) (pe_def D_law_draw (hr.mono (by decide)) (by rfl) (pa_cons (pv 0) (pa_cons (pe_op op_add (pv 3) pe_int) pa_nil)))))
      pss_nil)
    (pss_cons (ps_if (pt_cmpR op_eq (pe_def D_law_draw (hr.mono (by decide)) (by rfl) (pa_cons (pv 0) (pa_cons pe_int pa_nil))) pe_int (nomark _)) (pss_one (ps_set (i := 3) sc_law_vector.nd rfl (Or.inl rfl) (pe_un un_neg (pv 3))))
      pss_nil)
    (pss_one (ps_ret (pe_tup (pa_cons (pv 2) (pa_cons (pv 3) pa_nil))))))))))), ?_⟩
    rw [show L2.start ["state", "radius", "x", "y", "k"] [V.ref d, V.int r] = [some (V.ref d), some (V.int r), none, none, none] from rfl]
    refine ⟨_, rfl, rfl, _, rfl, ite2 (fun e => ?_) (fun e => ?_)⟩
    · refine ⟨szOk rfl, fun q hq => ?_⟩
      exact k q 0 0 _ hq upd_same (by omega) (by omega) (by omega) (by omega) (S.new hq) (fun b o e _ => same_new hq _ _ e)
    have rne : r ≠ 0 := fun z => e (decide_eq_true (by rw [z]))
    refine ⟨_, rfl, _, rfl, _, _, rfl, rfl, (wm (by omega) (by omega)), _, _, rfl, rfl, d, c, _, rfl, S, (by omega), (by omega), fun x1 H1 x1a x1b S1 kp1 => ?_⟩
    refine ⟨_, rfl, _, _, rfl, rfl, ?_⟩
    refine nm ?_
    dsimp only [List.set]
    refine nm ?_
    dsimp only [List.set]
    have hx : -1000 ≤ x1 - r ∧ x1 - r ≤ 1000 := by omega
    generalize x1 - r = x at hx ⊢
    refine ⟨_, rfl, _, _, rfl, rfl, 1, r + 1, rfl, ⟨by omega, by omega, by omega, by omega⟩, for_range (lo := 1) (n := (r + 1 - 1).toNat) (fun i σ H' => ∃ (y : Int) (v4 : Option V), σ = [some (.ref d), some (.int r), some (.int x), some (.int y), v4] ∧ H' = H1 ∧ 0 ≤ y ∧ y ≤ r) ⟨0, none, rfl, rfl, by omega, by omega⟩ ?_ ?_⟩
    · rintro i σ H' hi ⟨y, v4, rfl, rfl, y0, y1⟩
      refine nm ?_
      dsimp only [List.set]
      refine ⟨_, rfl, _, rfl, _, _, rfl, rfl, (wm (by omega) (by omega)), _, rfl, _, rfl, _, _, rfl, rfl, (wm (by omega) (by omega)), _, _, rfl, rfl, _, rfl, _, rfl, _, _, rfl, rfl, (wm (by omega) (by omega)), _, _, rfl, rfl, _, rfl, ite2 (fun e => ?_) (fun e => ?_)⟩
      · refine ⟨_, rfl, ?_⟩
        exact ⟨_, _, rfl, rfl, by omega, by omega⟩
      · exact ⟨_, _, rfl, rfl, by omega, by omega⟩
    rintro σ H' ⟨y, v4, rfl, rfl, y0, y1⟩
    refine nx_ ?_
    dsimp only
    refine cut (t := tIfS _ _ _) (fun σ' H' => ∃ (y : Int), σ' = [some (.ref d), some (.int r), some (.int x), some (.int y), v4] ∧ 0 ≤ y ∧ y ≤ r ∧ St1 K H' d c ∧ Keep d H H') ?_ (fun rest => ?_)
    rotate_left
    · refine ⟨_, rfl, d, c, 3, rfl, S1, (by omega), (by omega), fun x2 H2 x2a x2b S2 kp2 => ?_⟩
      refine ⟨rfl, _, rfl, ite2 (fun e => ?_) (fun e => ?_)⟩
      rotate_left
      · exact rest _ _ ⟨y, rfl, y0, y1, S2, kp1.trans kp2⟩
      refine ⟨_, rfl, _, rfl, _, _, rfl, rfl, d, c, _, rfl, S2, (by omega), (by omega), fun x3 H3 x3a x3b S3 kp3 => ?_⟩
      exact rest _ _ ⟨x3, rfl, x3a, by omega, S3, (kp1.trans kp2).trans kp3⟩
    rintro σ' H3 ⟨y, rfl, y0, y1, S3, kp3⟩
    refine cut (t := tIfS _ _ _) (fun σ' H' => ∃ (y : Int), σ' = [some (.ref d), some (.int r), some (.int x), some (.int y), v4] ∧ -r ≤ y ∧ y ≤ r ∧ St1 K H' d c ∧ Keep d H H') ?_ (fun rest => ?_)
    rotate_left
    · refine ⟨_, rfl, d, c, 2, rfl, S3, (by omega), (by omega), fun x2 H4 x2a x2b S4 kp4 => ?_⟩
      refine ⟨rfl, _, rfl, ite2 (fun e => ?_) (fun e => ?_)⟩
      rotate_left
      · exact rest _ _ ⟨y, rfl, by omega, y1, S4, kp3.trans kp4⟩
      refine ⟨_, rfl, _, rfl, ?_⟩
      exact rest _ _ ⟨-y, rfl, by omega, by omega, S4, kp3.trans kp4⟩
    rintro σ' H4 ⟨y, rfl, y0, y1, S4, kp4⟩
    refine ⟨_, rfl, _, rfl, szOk rfl, fun q hq => ?_⟩
    exact k q x y _ (kp4.none (S4.nd hq) hq) upd_same (by omega) (by omega) (by omega) (by omega) (S4.new hq) (fun b o e nb => same_new hq _ _ (kp4 b o e nb))

abbrev s_law_true_plot : Stmt := top 51
theorem sc_law_true_plot : FnScope ["state", "rules", "place", "level", "move", "error", "middle_x", "middle_y", "doubt", "z"] ["state", "rules", "place", "level"] (defScope s_law_true_plot) := ⟨rfl, rfl, rfl, by decide +kernel, rfl, by decide +kernel, by decide +kernel⟩
theorem ok_law_true_plot {f : Addr} {fd : FuncData} (F : Fun K "_law_true_plot" "_law_true_plot" s_law_true_plot f fd) (T : TxtA mg)
    (D_law_draw : Def P w K mg base 1 "_law_draw" ["state", "bound"] (spDraw K))
    (D_law_vector : Def P w K mg base 2 "_law_vector" ["state", "radius"] (spVector K))
    (D_law_near : Def P w K mg base 2 "_law_near" ["state", "number", "place"] (spNearP K)) : FnOk P w K mg base CX0 3 f fd ["state", "rules", "place", "level"] (spTruePlot K) := by
  refine F.ok sc_law_true_plot (fun vs H Q E h => ?_) (fun cdv A outer s H vs Q E hr h => ?_)
  · obtain ⟨_, _, _, _, _, _, _, _, _, _, _, _, rfl, _⟩ := h
    rfl
  · obtain ⟨d, c, ru, pl, ra, ba, rd, ht, X, Y, n, lv, rfl, S, RQ, nrd, hp, bX, bY, n1, n2, k⟩ := h
    have hu := hu_of hr
    refine ⟨_, (pss_cons (ps_set (i := 4) sc_law_true_plot.nd rfl (Or.inl rfl) (pe_def D_law_vector (hr.mono (by decide)) (by rfl) (pa_cons (pv 0) (pa_cons (pe_dget hu (pv 1) pe_str (fun _ _ => rfl)) pa_nil))))
    (pss_cons (ps_set (i := 5) sc_law_true_plot.nd rfl (Or.inl rfl) (pe_def D_law_vector (hr.mono (by decide)) (by rfl) (pa_cons (pv 0) (pa_cons (pe_dget hu (pv 1) pe_str (fun _ _ => rfl)) pa_nil))))
    (pss_cons (ps_set (i := 6) sc_law_true_plot.nd rfl (Or.inl rfl) (pe_op op_add (pe_ix (r := rIxT K) ix_tup (pv 2) pe_int (fun _ _ => rfl)) (pe_op op_mulW (pe_op op_add (pe_ix (r := rIxT K) ix_tup (pv 4) pe_int (fun _ _ => rfl)) (pe_ix (r := rIxT K) ix_tup (pv 5) pe_int (fun _ _ => rfl))) (pe_ix (r := rIxT K) ix_tup (pv 2) pe_int (fun _ _ => rfl)))))
    (pss_cons (ps_set (i := 7) sc_law_true_plot.nd rfl (Or.inl rfl) (pe_op op_add (pe_ix (r := rIxT K) ix_tup (pv 2) pe_int (fun _ _ => rfl)) (pe_op op_mulW (pe_op op_add (pe_ix (r := rIxT K) ix_tup (pv 4) pe_int (fun _ _ => rfl)) (pe_ix (r := rIxT K) ix_tup (pv 5) pe_int (fun _ _ => rfl))) (pe_ix (r := rIxT K) ix_tup (pv 2) pe_int (fun _ _ => rfl)))))
    (pss_cons (ps_set (i := 8) sc_law_true_plot.nd rfl (Or.inl rfl) (pe_op op_add (pe_dget hu (pv 1) pe_str (fun _ _ => rfl)) (pe_dget hu (pv 1) pe_str (fun _ _ => rfl))))
    (pss_cons (ps_set (i := 9) sc_law_true_plot.nd rfl (Or.inl rfl) (pe_op op_sub (pe_op op_add (pv 3) (pe_def D_law_draw (hr.mono (by decide)) (by rfl) (pa_cons (pv 0) (pa_cons (pe_op op_add (pe_op op_mulW pe_int (pv 8)) pe_int) pa_nil)))) (pv 8)))
    (pss_one (ps_ret (pe_tup (pa_cons (pe_def D_law_near (hr.mono (by decide)) (by rfl) (pa_cons (pv 0) (pa_cons (pv 6) (pa_cons (pv 2) pa_nil)))) (pa_cons (pe_def D_law_near (hr.mono (by decide)) (by rfl) (pa_cons (pv 0) (pa_cons (pv 7) (pa_cons (pv 2) pa_nil)))) (pa_cons (pv 9) pa_nil)))))))))))), ?_⟩
    rw [show L2.start ["state", "rules", "place", "level", "move", "error", "middle_x", "middle_y", "doubt", "z"] [V.ref d, V.ref ru, V.ref pl, V.int lv] = [some (V.ref d), some (V.ref ru), some (V.ref pl), some (V.int lv), none, none, none, none, none, none] from rfl]
    obtain ⟨q1, q2, q3, q4, q5, q6, q7, q8⟩ := RQ.bd
    refine ⟨_, rfl, _, rfl, _, _, rfl, RQ.gra, d, c, ra, rfl, S, (by omega), (by omega), fun m mx my H1 hm hm1 mx0 mx1 my0 my1 S1 kp1 => ?_⟩
    refine nm ?_
    dsimp only [List.set]
    have RQ1 := RQ.keep kp1 nrd
    have hp1 := kp1.t S hp
    refine ⟨_, rfl, _, rfl, _, _, rfl, RQ1.grd, d, c, rd, rfl, S1, (by omega), (by omega), fun e ex ey H2 he he1 ex0 ex1 ey0 ey1 S2 kp2 => ?_⟩
    refine nm ?_
    dsimp only [List.set]
    have RQ2 := RQ1.keep kp2 nrd
    have hp2 := kp2.t S1 hp1
    have hm2 := kp2.t S1 hm1
    have bn : BdN 19 n := BdN.of (by show -(524288 : Int) ≤ n; omega) (by show n ≤ (524288 : Int); omega)
    have bx : BdN 11 (mx + ex) := BdN.of (by show -(2048 : Int) ≤ _; omega) (by show _ ≤ (2048 : Int); omega)
    have by' : BdN 11 (my + ey) := BdN.of (by show -(2048 : Int) ≤ _; omega) (by show _ ≤ (2048 : Int); omega)
    have cx : ((mx + ex) * n).natAbs ≤ 1073741824 := bx.mul bn
    have cy : ((my + ey) * n).natAbs ≤ 1073741824 := by'.mul bn
    have dX : X.natAbs ≤ 35184372088832 := bX
    have dY : Y.natAbs ≤ 35184372088832 := bY
    refine ⟨_, rfl, _, _, _, _, rfl, rfl, .inl (.inl hp2), rfl, _, rfl, _, _, _, _, rfl, rfl, .inl (.inl hm2), rfl, _, rfl, _, _, _, _, rfl, rfl, .inl (.inl he1), rfl, _, _, rfl, rfl, _, rfl, _, _, _, _, rfl, rfl, .inl (.inl hp2), rfl, _, _, rfl, rfl, wmB bx bn (by decide) (by decide), _, _, rfl, rfl, ?_⟩
    refine nm ?_
    dsimp only [List.set]
    refine ⟨_, rfl, _, _, _, _, rfl, rfl, .inl (.inl hp2), rfl, _, rfl, _, _, _, _, rfl, rfl, .inl (.inl hm2), rfl, _, rfl, _, _, _, _, rfl, rfl, .inl (.inl he1), rfl, _, _, rfl, rfl, _, rfl, _, _, _, _, rfl, rfl, .inl (.inl hp2), rfl, _, _, rfl, rfl, wmB by' bn (by decide) (by decide), _, _, rfl, rfl, ?_⟩
    refine nm ?_
    dsimp only [List.set]
    generalize (mx + ex) * n = ux at cx ⊢
    generalize (my + ey) * n = uy at cy ⊢
    refine ⟨_, rfl, _, _, rfl, RQ2.gba, _, rfl, _, _, rfl, RQ2.ght, _, _, rfl, rfl, ?_⟩
    refine nm ?_
    dsimp only [List.set]
    refine ⟨_, rfl, _, rfl, _, rfl, _, _, rfl, rfl, (wm (by omega) (by omega)), _, _, rfl, rfl, d, c, _, rfl, S2, (by omega), (by omega), fun x3 H3 x3a x3b S3 kp3 => ?_⟩
    have hp3 := kp3.t S2 hp2
    refine ⟨_, _, rfl, rfl, _, rfl, _, _, rfl, rfl, ?_⟩
    refine nm ?_
    dsimp only [List.set]
    refine ⟨_, rfl, _, rfl, _, rfl, d, c, pl, _, X, Y, n, rfl, S3, hp3, n1, n2, (by omega), (by omega), fun v4 H4 b4 S4 kp4 => ?_⟩
    have hp4 := kp4.t S3 hp3
    refine ⟨_, rfl, _, rfl, _, rfl, d, c, pl, _, X, Y, n, rfl, S4, hp4, n1, n2, (by omega), (by omega), fun v5 H5 b5 S5 kp5 => ?_⟩
    refine ⟨_, rfl, szOk rfl, fun q hq => ?_⟩
    exact k q v4 v5 _ _ upd_same b4 b5 (by omega) (by omega) (S5.new hq) (fun b o e nb => same_new hq _ _ ((((kp1.trans kp2).trans kp3).trans (kp4.trans kp5)) b o e nb))

end
end Sk

set_option Elab.async false
set_option linter.all false
set_option maxRecDepth 100000
set_option maxHeartbeats 4000000
namespace Sk
open PySem PySem.Spec PyProof.Rows L2
/-! == of lists and tuples whose parts are the same things -/
inductive Alike (H : Hp) : Nat → V → V → Prop
  | flat {n : Nat} {x : V} : flatB x = true → Alike H n x x
  | ref {n : Nat} {a : Addr} : Alike H n (.ref a) (.ref a)
  | lst {n : Nat} {a b : Addr} {xs ys : List V} : H a = some (.lst xs) → H b = some (.lst ys) → xs.length = ys.length → (∀ (i : Nat) (x y : V), xs[i]? = some x → ys[i]? = some y → Alike H n x y) → Alike H (n + 1) (.ref a) (.ref b)
  | tup {n : Nat} {a b : Addr} {xs ys : List V} : H a = some (.tup xs) → H b = some (.tup ys) → xs.length = ys.length → (∀ (i : Nat) (x y : V), xs[i]? = some x → ys[i]? = some y → Alike H n x y) → Alike H (n + 1) (.ref a) (.ref b)
section
variable {X : Cx} {pins : List (Addr × Obj)} {σ : L2.St} {H : Hp} {s : Shared}
theorem vals_get {xs : List V} {us : List Value} (h : Vals xs us) : ∀ (j : Nat) (h1 : j < us.length), ∃ x, xs[j]? = some x ∧ RelV x us[j] := by
  induction h with
  | nil => intro j h1; exact absurd h1 (Nat.not_lt_zero j)
  | cons r t ih =>
    intro j h1
    cases j with
    | zero => exact ⟨_, rfl, r⟩
    | succ j =>
      obtain ⟨x, e, q⟩ := ih j (Nat.lt_of_succ_lt_succ h1)
      exact ⟨x, e, q⟩
theorem all_true (n : Nat) : (List.range n).all (fun _ => true) = true := by simp
theorem alike_eq (I : L2.Inv X pins σ H s) : ∀ (n : Nat) (x y : V) (u v : Value) (A : Around), Alike H n x y → RelV x u → RelV y v → A.units + n < cLine → SeqAt.EqAt A s u v true := by
  intro n
  induction n with
  | zero =>
    intro x y u v A h r1 r2 hu
    cases h with
    | flat f => exact eqAt_same r1 r2 f
    | ref => cases r1; cases r2; exact SeqAt.EqAt.same _
  | succ n ih =>
    intro x y u v A h r1 r2 hu
    have hu1 : A.in1.units + n < cLine := by
      have : A.in1.units = A.units + 1 := rfl
      omega
    cases h with
    | flat f => exact eqAt_same r1 r2 f
    | ref => cases r1; cases r2; exact SeqAt.EqAt.same _
    | lst ha hb hl hs =>
      rename_i a b xs ys
      cases r1
      cases r2
      by_cases e : a = b
      · subst e; exact SeqAt.EqAt.same _
      obtain ⟨its, rv, ⟨o, n1, ho, hc, _, hd⟩, _⟩ := I.list (show SqL X.K H a xs from .inl (.inl ha))
      obtain ⟨jts, rw', ⟨o2, n2, ho2, hc2, _, hd2⟩, _⟩ := I.list (show SqL X.K H b ys from .inl (.inl hb))
      have k := SeqAt.RcAt.lists (A := A) (s := s) (l := a) (b := b) (items := its.toArray) (items2 := jts.toArray) (e := fun _ => true) ⟨o, ho, hc, n1, hd⟩ ⟨o2, ho2, hc2, n2, hd2⟩ (by rw [List.size_toArray, List.size_toArray, ← rv.length, ← rw'.length]; exact hl) (by omega) fun j h1 h2 => by
        rw [List.size_toArray] at h1 h2
        obtain ⟨x, ex, qx⟩ := vals_get rv j h1
        obtain ⟨y, ey, qy⟩ := vals_get rw' j h2
        exact ih _ _ _ _ _ (hs j x y ex ey) qx qy hu1
      rw [all_true] at k
      exact SeqAt.EqAt.of_refs e k
    | tup ha hb hl hs =>
      rename_i a b xs ys
      cases r1
      cases r2
      by_cases e : a = b
      · subst e; exact SeqAt.EqAt.same _
      obtain ⟨its, rv, ⟨o, ho, hc, n1, hd⟩, _⟩ := I.tuple (show SqT X.K H a xs from .inl (.inl ha))
      obtain ⟨jts, rw', ⟨o2, ho2, hc2, n2, hd2⟩, _⟩ := I.tuple (show SqT X.K H b ys from .inl (.inl hb))
      have k := SeqAt.RcAt.tuples (A := A) (s := s) (l := a) (b := b) (items := its.toArray) (items2 := jts.toArray) (e := fun _ => true) ⟨o, ho, hc, n1, hd⟩ ⟨o2, ho2, hc2, n2, hd2⟩ (by omega) fun j h1 h2 => by
        rw [List.size_toArray] at h1 h2
        obtain ⟨x, ex, qx⟩ := vals_get rv j h1
        obtain ⟨y, ey, qy⟩ := vals_get rw' j h2
        exact ih _ _ _ _ _ (hs j x y ex ey) qx qy hu1
      rw [all_true, Bool.true_and, show (its.toArray.size == jts.toArray.size) = true by rw [List.size_toArray, List.size_toArray, ← rv.length, ← rw'.length]; exact beq_iff_eq.mpr hl] at k
      exact SeqAt.EqAt.of_refs e k
end
/-- != of two lists that are alike -/
def rNeAl : R2 := fun x y H Q => ∃ (a b : Addr) (xs ys : List V) (n : Nat), x = .ref a ∧ y = .ref b ∧ H a = some (.lst xs) ∧ H b = some (.lst ys) ∧ xs.length = ys.length ∧ n ≤ 60 ∧ (∀ (i : Nat) (x y : V), xs[i]? = some x → ys[i]? = some y → Alike H n x y) ∧ Q (.bl false) H
theorem op_neAl {X : Cx} (hu : X.A.units + 64 < cLine) : OpR X (compareOp .NotEq) rNeAl := by
  intro pins s σ H x y v u Q I rx ry h
  obtain ⟨a, b, xs, ys, n, rfl, rfl, ha, hb, hl, hn, hs, q⟩ := h
  cases rx
  cases ry
  obtain ⟨its, rv, ⟨o, n1, ho, hc, _, hd⟩, _⟩ := I.list (show SqL X.K H a xs from .inl (.inl ha))
  obtain ⟨jts, rw', ⟨o2, n2, ho2, hc2, _, hd2⟩, _⟩ := I.list (show SqL X.K H b ys from .inl (.inl hb))
  have k := SeqAt.RcNeAt.lists (A := X.A) (s := s) (l := a) (b := b) (items := its.toArray) (items2 := jts.toArray) (e := fun _ => true) ⟨o, ho, hc, n1, hd⟩ ⟨o2, ho2, hc2, n2, hd2⟩ (by rw [List.size_toArray, List.size_toArray, ← rv.length, ← rw'.length]; exact hl) (by omega) fun j h1 h2 => by
    rw [List.size_toArray] at h1 h2
    obtain ⟨x, ex, qx⟩ := vals_get rv j h1
    obtain ⟨y, ey, qy⟩ := vals_get rw' j h2
    exact alike_eq I n _ _ _ _ _ (hs j x y ex ey) qx qy (by
      have : X.A.in1.units = X.A.units + 1 := rfl
      omega)
  rw [all_true] at k
  exact k X.prog X.w _ _ ⟨.bl false, H, I, rfl, q⟩
/-- a path's own lists are not the list of candidates -/
theorem path_msk {C p ch rt cl : Addr} {H : Hp} {D : CD} {ns : List Str} {as : List Addr} (P : PathAt C H p D ns rt) (C0 : ChartAt H ch D) (R : Route D ns) (hcl : H cl = some (.lst (as.map V.ref))) (ha : ∀ a ∈ as, ∃ ys, H a = some (.lst ys)) : PathAt C (msk [cl] H) p D ns rt := by
  obtain ⟨dx, l1, l2, l3, l4, sa, va, P⟩ := P
  have n2 := R.n2
  have out : ∀ {x : Addr} {o : HO}, H x = some o → (∀ l, o ≠ .lst l) → msk [cl] H x = some o := fun h n => msk_of h (by simpa using (ne_of h hcl (n _)))
  have lout : ∀ {x : Addr} {v : V} {xs : List V}, H x = some (.lst xs) → xs[0]? = some v → (∀ a, v = .ref a → ∃ ys, H a = some (.tup ys)) → msk [cl] H x = some (.lst xs) := fun {x v xs} h h0 hv => by
    refine msk_of h ?_
    intro hm
    rw [List.mem_singleton] at hm
    subst hm
    rw [h] at hcl
    have e := HO.lst.inj (Option.some.inj hcl)
    rw [e, List.getElem?_map] at h0
    cases e0 : as[0]? with
    | none => rw [e0] at h0; cases h0
    | some a =>
      rw [e0] at h0
      obtain ⟨ys, h1⟩ := hv a (Option.some.inj h0).symm
      obtain ⟨zs, h2⟩ := ha a (List.mem_of_getElem? e0)
      rw [h1] at h2
      cases h2
  obtain ⟨l, el⟩ := R.ch 0 (by omega)
  have s0 : 0 < sa.length := by rw [P.sl]; omega
  have v0 : 0 < va.length := by rw [P.vl]; omega
  refine ⟨dx, l1, l2, l3, l4, sa, va, { P with ob := out P.ob (by intro l z; cases z), rt := out P.rt (by intro l z; cases z), lg := lout (v := .ref l.a) P.lg ?_ ?_, st := lout (v := .ref sa[0]) P.st (by simp [s0]) ?_, ve := lout (v := .ref va[0]) P.ve (by simp [v0]) ?_, bgn := lout (v := .int (bg D ns 0)) P.bgn ?_ (fun a z => nomatch z), sx := fun j h => out (P.sx j h) (by intro l z; cases z), vx := fun j h => out (P.vx j h) (by intro l z; cases z) }⟩
  · rw [List.getElem?_map, List.getElem?_range (by omega)]
    show some (optL (D.leg (rn ns 0) (rn ns 1))) = _
    rw [el]
    rfl
  · intro a z
    obtain rfl := V.ref.inj z
    exact ⟨_, C0.lt l (CD.leg_mem el).1⟩
  · intro a z
    obtain rfl := V.ref.inj z
    exact ⟨_, P.sx 0 s0⟩
  · intro a z
    obtain rfl := V.ref.inj z
    exact ⟨_, P.vx 0 v0⟩
  · rw [List.getElem?_map, List.getElem?_range (by omega)]
    rfl
end Sk

set_option Elab.async false
set_option linter.all false
set_option maxRecDepth 100000
set_option maxHeartbeats 4000000
namespace Sk
open PySem PySem.Spec PyProof.Rows L2
section
variable {P : Program} {w : World} {K : PySem.W.Frag} {mg : Str → Option Value} {base : Heap}
abbrev s_law_flight : Stmt := top 53
theorem sc_law_flight : FnScope ["state", "chart", "lengths", "level", "candidates", "k", "route", "begins", "low", "box"] ["state", "chart", "lengths", "level"] (defScope s_law_flight) := ⟨rfl, rfl, rfl, by decide +kernel, rfl, by decide +kernel, by decide +kernel⟩
theorem ok_law_flight {f : Addr} {fd : FuncData} {C : Addr} (F : Fun K "_law_flight" "_law_flight" s_law_flight f fd) (T : TxtA mg) (Y : PathY K mg C)
    (D_law_draw : Def P w K mg base 1 "_law_draw" ["state", "bound"] (spDraw K))
    (D_law_pick : Def P w K mg base 2 "_law_pick" ["state", "things"] (spPick K))
    (D_law_walk : Def P w K mg base 3 "_law_walk" ["state", "chart", "most"] (spWalk K))
    (D_law_begins : Def P w K mg base 1 "_law_begins" ["lengths", "route"] (spBegins))
    (D_Path : CDef P w K mg base 5 C "Path" ["self", "chart", "route"] (spPInit C)) : FnOk P w K mg base CX0 7 f fd ["state", "chart", "lengths", "level"] (spFlight K C) := by
  refine F.ok sc_law_flight (fun vs H Q E h => ?_) (fun cdv A outer s H vs Q E hr h => ?_)
  · obtain ⟨_, _, _, _, _, _, rfl, _⟩ := h
    rfl
  · obtain ⟨d, c, ch, ld, D, lev, rfl, S, C0, n1, n2, hne, hpos, L0, l0, l1, k⟩ := h
    refine ⟨_, (pss_cons (ps_set (i := 4) sc_law_flight.nd rfl (Or.inl rfl) (pe_lst pa_nil))
    (pss_cons (ps_for PassesOwn.never rfl (pi_range1 (by rfl) T.range (pa_cons (pe_op op_add pe_int (pe_callTy call_int1 (by rfl) T.int boot_int (pa_cons (pe_cmpR op_eq (pe_def D_law_draw (hr.mono (by decide)) (by rfl) (pa_cons (pv 0) (pa_cons pe_int pa_nil))) pe_int (nomark _)) pa_nil))) pa_nil)) (pg_name (i := 5) sc_law_flight.nd rfl (Or.inl rfl))
      (pss_cons (ps_set (i := 6) sc_law_flight.nd rfl (Or.inl rfl) (pe_def D_law_walk (hr.mono (by decide)) (by rfl) (pa_cons (pv 0) (pa_cons (pv 1) (pa_cons pe_int pa_nil)))))
    (pss_cons (ps_set (i := 7) sc_law_flight.nd rfl (Or.inl rfl) (pe_def D_law_begins (hr.mono (by decide)) (by rfl) (pa_cons (pv 2) (pa_cons (pv 6) pa_nil))))
    (pss_cons (ps_set (i := 8) sc_law_flight.nd rfl (Or.inl rfl) (pe_op op_sub (pe_op op_add (pe_def D_law_pick (hr.mono (by decide)) (by rfl) (pa_cons (pv 0) (pa_cons (pv 7) pa_nil))) (pe_def D_law_draw (hr.mono (by decide)) (by rfl) (pa_cons (pv 0) (pa_cons pe_int pa_nil)))) pe_int))
    (pss_cons (ps_set (i := 9) sc_law_flight.nd rfl (Or.inl rfl) (pe_tup (pa_cons (pv 8) (pa_cons (pe_op op_add (pv 8) (pe_def D_law_draw (hr.mono (by decide)) (by rfl) (pa_cons (pv 0) (pa_cons pe_int pa_nil)))) (pa_cons (pv 3) (pa_cons (pe_op op_add (pv 3) (pe_def D_law_draw (hr.mono (by decide)) (by rfl) (pa_cons (pv 0) (pa_cons pe_int pa_nil)))) pa_nil))))))
    (pss_one (ps_expr (pe_bm PySem.F.plainAttrs_list PySem.F.slot_list_append PySem.F.type_list_append mt_append (pv 4) (pa_cons (pe_lst (pa_cons (pv 6) (pa_cons (pv 7) (pa_cons (pe_cdef D_Path (hr.mono (by decide)) (by rfl) (pa_cons (pv 1) (pa_cons (pv 6) pa_nil))) (pa_cons (pv 9) pa_nil))))) pa_nil)))))))))
    (pss_one (ps_ret (pv 4))))), ?_⟩
    rw [show L2.start ["state", "chart", "lengths", "level", "candidates", "k", "route", "begins", "low", "box"] [V.ref d, V.ref ch, V.ref ld, V.int lev] = [some (V.ref d), some (V.ref ch), some (V.ref ld), some (V.int lev), none, none, none, none, none, none] from rfl]
    refine ⟨szOk rfl, fun cl hcl => ?_⟩
    have ncd : cl ≠ d := S.nd hcl
    have ncc : cl ≠ c := S.nc hcl
    refine nm ?_
    dsimp only [List.set]
    have s0 := same_new (o := .lst []) hcl
    have hc0 : (upd H cl (.lst [])) cl = some (.lst []) := upd_same
    have S0 := S.same s0
    have C1 := C0.same s0
    have L1 := L0.same s0
    have mT : d ∉ [cl] ∧ c ∉ [cl] := ⟨by simpa using ncd.symm, by simpa using ncc.symm⟩
    have hM0 : Same H (msk [cl] (upd H cl (.lst []))) := fun b o e => msk_of (s0 _ _ e) (by simpa using (ne_of_none e hcl))
    have C2 := C0.same hM0
    have L2' := L0.same hM0
    generalize upd H cl (.lst []) = H0 at s0 hc0 S0 C2 L2' ⊢
    clear hM0 C1 L1
    refine ⟨_, rfl, d, c, _, rfl, S0, (by omega), (by omega), fun x1 H1 x1a x1b S1 kp1 => ?_⟩
    refine ⟨rfl, .inr ⟨_, rfl, _, _, rfl, rfl, ?_⟩⟩
    obtain ⟨n, hn, hn1, hn2⟩ : ∃ n : Int, n = 1 + (if decide (V.int x1 = V.int 0) = true then 1 else 0) ∧ 1 ≤ n ∧ n ≤ 2 := by
      refine ⟨_, rfl, ?_, ?_⟩ <;> split <;> omega
    have C3 := C2.keep (S0.msk mT.1 mT.2) (msk_keep kp1) n1 n2
    have L3 := L2'.keep (S0.msk mT.1 mT.2) (msk_keep kp1)
    refine ⟨n, by rw [hn], by omega, by omega, for_range (n := n.toNat) (fun i σ G => ∃ (v5 v6 v7 v8 v9 : Option V) (qs : List (Addr × Addr × Cn)), σ = [some (.ref d), some (.ref ch), some (.ref ld), some (.int lev), some (.ref cl), v5, v6, v7, v8, v9] ∧ St1 K G d c ∧ Keep d H G ∧ ChartAt (msk [cl] G) ch D ∧ LenAt (msk [cl] G) ld D ∧ G cl = some (.lst (qs.map fun q => V.ref q.1)) ∧ qs.length = i ∧ ∀ q ∈ qs, msk [cl] G q.1 = some (.lst [.ref q.2.2.rt, .ref q.2.2.b, .ref q.2.2.p, .ref q.2.1]) ∧ msk [cl] G q.2.1 = some q.2.2.B.t ∧ CnOk C (msk [cl] G) D q.2.2 ∧ q.2.2.B.dn = lev ∧ lev ≤ q.2.2.B.up ∧ q.2.2.B.up ≤ lev + 3)
      ⟨none, none, none, none, none, [], rfl, S1, (Keep.of s0).trans kp1, C3, L3, kp1.l S0 hc0, rfl, by intro q hq; cases hq⟩ ?_ ?_⟩
    rotate_left
    · rintro σ G ⟨v5, v6, v7, v8, v9, qs, rfl, Sg, kg, Cg, Lg, hg, ql, hq⟩
      have ql' : qs.length = 1 ∨ qs.length = 2 := by omega
      refine ⟨_, rfl, k cl (qs.map fun q => q.2.2) G hcl ⟨qs, hg, fun q h => ⟨msk_same _ _ (hq q h).1, msk_same _ _ (hq q h).2.1⟩, rfl⟩ (fun z => ?_) (by rw [List.length_map]; omega) (fun c hc => ?_) Sg kg⟩
      · rw [List.map_eq_nil_iff.mp z] at ql'
        rcases ql' with w | w <;> cases w
      · obtain ⟨q, h, rfl⟩ := List.mem_map.mp hc
        obtain ⟨a1, a2, a3, a4⟩ := hq q h
        exact ⟨a3.same msk_same, a4⟩
    rintro i σ G hi ⟨v5, v6, v7, v8, v9, qs, rfl, Sg, kg, Cg, Lg, hg, ql, hq⟩
    refine nm ?_
    dsimp only [List.set]
    refine ⟨_, rfl, _, rfl, d, c, ch, D, _, rfl, Sg, Cg.same msk_same, n1, n2, hne, by decide, by decide, fun ns rt G2 R hr0 hrt S2 kp2 => ?_⟩
    have Sm := Sg.msk mT.1 mT.2
    have km := msk_keep (T := [cl]) kp2
    have C2 := Cg.keep Sm km n1 n2
    have L2 := Lg.keep Sm km
    have hg2 := kp2.l Sg hg
    have hq2 : ∀ q ∈ qs, msk [cl] G2 q.1 = some (.lst [.ref q.2.2.rt, .ref q.2.2.b, .ref q.2.2.p, .ref q.2.1]) ∧ msk [cl] G2 q.2.1 = some q.2.2.B.t ∧ CnOk C (msk [cl] G2) D q.2.2 ∧ q.2.2.B.dn = lev ∧ lev ≤ q.2.2.B.up ∧ q.2.2.B.up ≤ lev + 3 := fun q h => by
      obtain ⟨a1, a2, a3, a4⟩ := hq q h
      exact ⟨km.l Sm a1, km.t Sm a2, a3.keep Sm km, a4⟩
    have hrtm : msk [cl] G2 rt = some (.tup (ns.map V.str)) := msk_of hrt (by simpa using (ne_of hrt hg2 (by intro z; cases z)))
    have kg2 := kg.trans kp2
    clear Sg Cg Lg hg hq kg Sm km
    refine nm ?_
    dsimp only [List.set]
    refine ⟨_, rfl, _, rfl, ld, rt, D, ns, rfl, L2.same msk_same, hrt, R, fun b G3 hb0 s3 hb3 => ?_⟩
    have hbm : msk [cl] G3 b = some (.lst ((bgs D ns).map V.int)) := msk_of hb3 (by simpa using (ne_of_none hg2 hb0).symm)
    refine nm ?_
    dsimp only [List.set]
    have m3 := msk_mono (T := [cl]) s3
    have S3 := S2.same s3
    have n2r := R.n2
    have n20 := R.n20
    have bd : Bd D := C2.bd
    refine ⟨_, rfl, _, rfl, d, c, _, _, rfl, S3, .inl (.inl hb3), bgs_ne n2r, (by rw [bgs_len]; omega), fun v4 G4 hv4 S4 kp4 => ?_⟩
    obtain ⟨x4, hx4, rfl⟩ := List.mem_map.mp hv4
    obtain ⟨x40, x41⟩ := bgs_bd bd n20 hx4
    refine ⟨_, rfl, d, c, _, rfl, S4, (by omega), (by omega), fun x5 G5 x5a x5b S5 kp5 => ?_⟩
    refine ⟨_, _, rfl, rfl, _, _, rfl, rfl, ?_⟩
    refine nm ?_
    dsimp only [List.set]
    refine ⟨_, rfl, _, rfl, _, rfl, d, c, _, rfl, S5, (by omega), (by omega), fun x6 G6 x6a x6b S6 kp6 => ?_⟩
    refine ⟨_, _, rfl, rfl, _, rfl, _, rfl, _, rfl, d, c, _, rfl, S6, (by omega), (by omega), fun x7 G7 x7a x7b S7 kp7 => ?_⟩
    refine ⟨_, _, rfl, rfl, szOk rfl, fun bx hbx => ?_⟩
    refine nm ?_
    dsimp only [List.set]
    obtain ⟨B, hB⟩ : ∃ B : Bx, B = ⟨x4 + x5 - 4, x4 + x5 - 4 + x6, lev, lev + x7⟩ := ⟨_, rfl⟩
    have k7 := ((kp4.trans kp5).trans kp6).trans kp7
    have hbx7 : (upd G7 bx (.tup [.int (x4 + x5 - 4), .int (x4 + x5 - 4 + x6), .int lev, .int (lev + x7)])) bx = some B.t := by rw [hB]; exact upd_same
    have s8 := same_new (o := .tup [.int (x4 + x5 - 4), .int (x4 + x5 - 4 + x6), .int lev, .int (lev + x7)]) hbx
    have S8 := S7.same s8
    generalize upd G7 bx (.tup [.int (x4 + x5 - 4), .int (x4 + x5 - 4 + x6), .int lev, .int (lev + x7)]) = G8 at hbx7 s8 S8 ⊢
    have k8 := k7.trans (Keep.of s8)
    have Sm3 := S3.msk mT.1 mT.2
    have km8 := msk_keep (T := [cl]) k8
    have C8 := (C2.same m3).keep Sm3 km8 n1 n2
    have L8 := (L2.same m3).keep Sm3 km8
    have hg8 := k8.l S3 (s3 _ _ hg2)
    have hq8 : ∀ q ∈ qs, msk [cl] G8 q.1 = some (.lst [.ref q.2.2.rt, .ref q.2.2.b, .ref q.2.2.p, .ref q.2.1]) ∧ msk [cl] G8 q.2.1 = some q.2.2.B.t ∧ CnOk C (msk [cl] G8) D q.2.2 ∧ q.2.2.B.dn = lev ∧ lev ≤ q.2.2.B.up ∧ q.2.2.B.up ≤ lev + 3 := fun q h => by
      obtain ⟨a1, a2, a3, a4⟩ := hq2 q h
      exact ⟨km8.l Sm3 (m3 _ _ a1), km8.t Sm3 (m3 _ _ a2), (a3.same m3).keep Sm3 km8, a4⟩
    have hrt8 := km8.t Sm3 (m3 _ _ hrtm)
    have hb8 := km8.l Sm3 hbm
    have hbxm : msk [cl] G8 bx = some B.t := msk_of hbx7 (by simpa using (ne_of hbx7 hg8 (by intro z; cases z)))
    have kg8 := ((kg2.trans (Keep.of s3)).trans k8)
    clear C2 L2 hg2 hq2 hrtm hbm hb3 S2 S3 S4 S5 S6 S7 kp4 kp5 kp6 kp7 k7 k8 km8 Sm3 m3 s3 s8 kg2
    refine ⟨_, rfl, .inl ⟨rfl, _, .inl (.inl hg8)⟩, _, rfl, _, rfl, _, rfl, _, rfl, fun p dx hp hdx hpd => ?_⟩
    have smx : Same G8 (upd (upd G8 dx (.own p)) p (.ins C dx [])) := fun b o e => by
      rw [upd_ne (ne_of_none e hp), upd_ne (ne_of_none e hdx)]
      exact e
    refine ⟨p, ch, rt, dx, D, ns, rfl, upd_same, (C8.same msk_same).same smx, smx _ _ (msk_same _ _ hrt8), R, fun G9 PA fr => ⟨rfl, ?_⟩⟩
    have sm9 : Same G8 G9 := fun b o e => fr b o (smx _ _ e) (ne_of_none e hp)
    have PAm : PathAt C (msk [cl] G9) p D ns rt := path_msk (as := qs.map fun q => q.1) PA ((C8.same msk_same).same sm9) R (by rw [List.map_map]; exact sm9 _ _ hg8) fun a h => by
      obtain ⟨q, hq, rfl⟩ := List.mem_map.mp h
      exact ⟨_, sm9 _ _ (msk_same _ _ (hq8 q hq).1)⟩
    refine ⟨_, rfl, szOk rfl, fun t ht => ?_⟩
    have sA := sm9.trans (same_new (o := .lst [.ref rt, .ref b, .ref p, .ref bx]) ht)
    have mA := msk_mono (T := [cl]) sA
    have mB := msk_mono (T := [cl]) (same_new (o := .lst [.ref rt, .ref b, .ref p, .ref bx]) ht)
    have htm : msk [cl] (upd G9 t (.lst [.ref rt, .ref b, .ref p, .ref bx])) t = some (.lst [.ref rt, .ref b, .ref p, .ref bx]) := msk_of upd_same (by simpa using (ne_of_none (sm9 _ _ hg8) ht).symm)
    have hgA := sA _ _ hg8
    have SA := S8.same sA
    have PAA := PAm.same mB
    generalize upd G9 t (.lst [.ref rt, .ref b, .ref p, .ref bx]) = GA at sA mA mB htm hgA SA PAA ⊢
    refine ⟨_, _, _, rfl, rfl, hgA, (by rw [List.length_map]; exact small1000 (by omega)), ?_⟩
    have mm : ∀ o, msk [cl] (upd GA cl o) = msk [cl] GA := fun o => msk_put (by simp)
    refine ⟨_, _, _, _, _, qs ++ [(t, bx, ⟨rt, b, p, ns, B⟩)], rfl, SA.put ncd ncc, fun b' o e nb => ?_, by rw [mm]; exact C8.same mA, by rw [mm]; exact L8.same mA, by rw [upd_same, List.map_append]; rfl, by rw [List.length_append, ql]; rfl, fun q h => ?_⟩
    · rw [upd_ne (ne_of_none e hcl)]
      exact sA _ _ (kg8 _ _ e nb)
    · rw [mm]
      rcases List.mem_append.mp h with h | h
      · obtain ⟨a1, a2, a3, a4⟩ := hq8 q h
        exact ⟨mA _ _ a1, mA _ _ a2, a3.same mA, a4⟩
      · rw [List.mem_singleton.mp h]
        refine ⟨htm, mA _ _ hbxm, ⟨R, PosR.of R hpos, PAA, mA _ _ hrt8, mA _ _ hb8, ?_⟩, ?_⟩
        · show -10000000 ≤ B.lo ∧ B.hi ≤ 10000000 ∧ B.hi ≤ B.lo + 200 ∧ B.lo ≤ B.hi
          rw [hB]
          dsimp only
          omega
        · show B.dn = lev ∧ lev ≤ B.up ∧ B.up ≤ lev + 3
          rw [hB]
          dsimp only
          omega

abbrev s_law_aircraft : Stmt := top 54
theorem sc_law_aircraft : FnScope ["state", "flight", "route", "begins", "path", "box", "low", "high"] ["state", "flight"] (defScope s_law_aircraft) := ⟨rfl, rfl, rfl, by decide +kernel, rfl, by decide +kernel, by decide +kernel⟩
theorem ok_law_aircraft {f : Addr} {fd : FuncData} (F : Fun K "_law_aircraft" "_law_aircraft" s_law_aircraft f fd) (T : TxtA mg) {C : Addr}
    (D_law_draw : Def P w K mg base 1 "_law_draw" ["state", "bound"] (spDraw K)) : FnOk P w K mg base CX0 2 f fd ["state", "flight"] (spAircraft K C) := by
  refine F.ok sc_law_aircraft (fun vs H Q E h => ?_) (fun cdv A outer s H vs Q E hr h => ?_)
  · obtain ⟨_, _, _, _, _, _, rfl, _⟩ := h
    rfl
  · obtain ⟨d, c, l, D, c0, cs, rfl, S, FL, CO, bd, du, ud, k⟩ := h
    refine ⟨_, (pss_cons (ps_asg (pe_ix (r := rIxL K) ix_list (pv 1) pe_int (fun _ _ => rfl)) (pg_lst (by rfl) (pgs_cons (pg_name (i := 2) sc_law_aircraft.nd rfl (Or.inl rfl)) (pgs_cons (pg_name (i := 3) sc_law_aircraft.nd rfl (Or.inl rfl)) (pgs_cons (pg_name (i := 4) sc_law_aircraft.nd rfl (Or.inl rfl)) (pgs_cons (pg_name (i := 5) sc_law_aircraft.nd rfl (Or.inl rfl)) pgs_nil))))))
    (pss_cons (ps_set (i := 6) sc_law_aircraft.nd rfl (Or.inl rfl) (pe_callB (call_max2 rfl) (by rfl) T.max boot_max (pa_cons (pe_ix (r := rIxT K) ix_tup (pv 5) pe_int (fun _ _ => rfl)) (pa_cons pe_int pa_nil))))
    (pss_cons (ps_set (i := 7) sc_law_aircraft.nd rfl (Or.inl rfl) (pe_callB (call_min2 rfl) (by rfl) T.min boot_min (pa_cons (pe_ix (r := rIxT K) ix_tup (pv 5) pe_int (fun _ _ => rfl)) (pa_cons (pe_op op_sub (pe_ix (r := rIxL K) ix_list (pv 3) (pe_op op_sub (pe_callB (r := rLenK K) call_len_seq (by rfl) T.len boot_len (pa_cons (pv 3) pa_nil)) pe_int) (fun _ _ => rfl)) pe_int) pa_nil))))
    (pss_cons (ps_if (PW.pt (pw_or (pt_cmpR op_gt (pv 6) (pv 7) (nomark _)) (pw_or1 (pt_cmpR op_eq (pe_def D_law_draw (hr.mono (by decide)) (by rfl) (pa_cons (pv 0) (pa_cons pe_int pa_nil))) pe_int (nomark _))))) (pss_one (ps_ret pe_non))
      pss_nil)
    (pss_one (ps_ret (pe_tup (pa_cons (pe_op op_add (pv 6) (pe_def D_law_draw (hr.mono (by decide)) (by rfl) (pa_cons (pv 0) (pa_cons (pe_op op_add (pe_op op_sub (pv 7) (pv 6)) pe_int) pa_nil)))) (pa_cons (pe_op op_add (pe_ix (r := rIxT K) ix_tup (pv 5) pe_int (fun _ _ => rfl)) (pe_def D_law_draw (hr.mono (by decide)) (by rfl) (pa_cons (pv 0) (pa_cons (pe_op op_add (pe_op op_sub (pe_ix (r := rIxT K) ix_tup (pv 5) pe_int (fun _ _ => rfl)) (pe_ix (r := rIxT K) ix_tup (pv 5) pe_int (fun _ _ => rfl))) pe_int) pa_nil)))) pa_nil))))))))), ?_⟩
    rw [show L2.start ["state", "flight", "route", "begins", "path", "box", "low", "high"] [V.ref d, V.ref l] = [some (V.ref d), some (V.ref l), none, none, none, none, none, none] from rfl]
    obtain ⟨qs, h1, h2, h3⟩ := FL
    obtain ⟨q0, rest, rfl, eq0⟩ : ∃ q0 rest, qs = q0 :: rest ∧ q0.2.2 = c0 := by
      cases qs with
      | nil => cases h3
      | cons q r => exact ⟨q, r, rfl, (List.cons.inj h3).1⟩
    obtain ⟨z1, z2⟩ := h2 q0 List.mem_cons_self
    rw [eq0] at z1 z2
    have z2 : H q0.2.1 = some (.tup [.int c0.B.lo, .int c0.B.hi, .int c0.B.dn, .int c0.B.up]) := z2
    obtain ⟨b1, b2, b3, b4⟩ := CO.bx
    have n2 := CO.R.n2
    have n20 := CO.R.n20
    have tn := bg_nn D c0.ns (c0.ns.length - 1)
    have tl := bg_le bd c0.ns (c0.ns.length - 1)
    refine ⟨_, rfl, _, _, _, .ref q0.1, rfl, rfl, .inl (.inl h1), atI_nat (j := 0) rfl, ?_⟩
    refine ⟨_, _, rfl, .inl (.inl z1), rfl, _, _, rfl, _, _, rfl, _, _, rfl, _, _, rfl, rfl, ?_⟩
    dsimp only [List.set]
    refine ⟨_, rfl, _, _, _, _, rfl, rfl, .inl (.inl z2), rfl, _, _, rfl, ?_⟩
    refine nm ?_
    dsimp only [List.set]
    refine ⟨_, rfl, _, _, _, _, rfl, rfl, .inl (.inl z2), rfl, _, rfl, _, rfl, _, _, rfl, .inl (.inl (.inl CO.hb)), _, _, rfl, rfl, _, _, _, .int (bg D c0.ns (c0.ns.length - 1)), rfl, rfl, .inl (.inl CO.hb), atI_lastn rfl (bgs_last (by omega)), _, _, rfl, rfl, _, _, rfl, ?_⟩
    refine nm ?_
    dsimp only [List.set]
    obtain ⟨lw, hlw, lw0, lw1⟩ : ∃ lw : Int, lw = (if 0 > c0.B.lo then 0 else c0.B.lo) ∧ 0 ≤ lw ∧ c0.B.lo ≤ lw := ⟨_, rfl, by split <;> omega, by split <;> omega⟩
    obtain ⟨hw, hhw, hw0, hw1, hw2⟩ : ∃ hw : Int, hw = (if bg D c0.ns (c0.ns.length - 1) - 1 < c0.B.hi then bg D c0.ns (c0.ns.length - 1) - 1 else c0.B.hi) ∧ hw ≤ bg D c0.ns (c0.ns.length - 1) - 1 ∧ hw ≤ c0.B.hi ∧ hw ≤ 10000000 := ⟨_, rfl, by split <;> omega, by split <;> omega, by split <;> omega⟩
    rw [← hlw, ← hhw]
    refine ⟨_, rfl, _, rfl, _, _, rfl, rfl, _, rfl, ite2 (fun e => ?_) (fun e => ?_)⟩
    · exact iteT (k .non none H rfl (fun z e => nomatch e) S (Keep.refl d H))
    have e : ¬ (lw > hw) := fun w => e (decide_eq_true w)
    refine ⟨_, rfl, d, c, _, rfl, S, (by omega), (by omega), fun x1 H1 x1a x1b S1 kp1 => ⟨rfl, _, rfl, ?_⟩⟩
    by_cases e1 : x1 = 0
    · refine eqY e1 ?_
      exact k .non none H1 rfl (fun z e => nomatch e) S1 kp1
    refine eqN e1 ?_
    refine nxP ?_
    dsimp only
    have z3 := kp1.t S z2
    refine ⟨_, rfl, _, rfl, _, rfl, _, rfl, _, _, rfl, rfl, _, _, rfl, rfl, d, c, _, rfl, S1, (by omega), (by omega), fun x2 H2 x2a x2b S2 kp2 => ?_⟩
    have z4 := kp2.t S1 z3
    refine ⟨_, _, rfl, rfl, _, rfl, _, _, _, _, rfl, rfl, .inl (.inl z4), rfl, _, rfl, _, rfl, _, _, _, _, rfl, rfl, .inl (.inl z4), rfl, _, rfl, _, _, _, _, rfl, rfl, .inl (.inl z4), rfl, _, _, rfl, rfl, _, _, rfl, rfl, d, c, _, rfl, S2, (by omega), (by omega), fun x3 H3 x3a x3b S3 kp3 => ?_⟩
    refine ⟨_, _, rfl, rfl, szOk rfl, fun q hq => ?_⟩
    refine k (.ref q) (some (lw + x2, c0.B.dn + x3)) _ ⟨q, rfl, upd_same⟩ (fun z e => ?_) (S3.new hq) (((kp1.trans kp2).trans kp3).trans (Keep.of (same_new hq)))
    rw [← Option.some.inj e]
    exact ⟨by show 0 ≤ lw + x2; omega, by show lw + x2 < _; omega, by show _ ≤ lw + x2; omega, by show lw + x2 ≤ _; omega, by show _ ≤ c0.B.dn + x3; omega, by show c0.B.dn + x3 ≤ _; omega⟩

end
end Sk

set_option Elab.async false
set_option linter.all false
set_option maxRecDepth 100000
set_option maxHeartbeats 4000000
namespace Sk
open PySem PySem.Spec PyProof.Rows L2
local macro_rules | `(tactic| walk_at "ms") => `(tactic| first | exact .inl ⟨by decide, by decide⟩ | exact .inl ⟨by omega, by omega⟩ | exact .inr ⟨by omega, by omega⟩ | exact wm (by omega) (by omega) | exact log_of (by omega) (by omega) | (show (0:Int) < _; omega) | exact ⟨by decide, by decide, by decide⟩)
section
variable {P : Program} {w : World} {K : PySem.W.Frag} {mg : Str → Option Value} {base : Heap}
abbrev s_law_apart : Stmt := top 55
theorem sc_law_apart : FnScope ["chart", "rules", "one", "other", "first", "second", "box", "beside", "gap", "piece", "near", "limit", "close", "a", "b"] ["chart", "rules", "one", "other"] (defScope s_law_apart) := ⟨rfl, rfl, rfl, by decide +kernel, rfl, by decide +kernel, by decide +kernel⟩
theorem ok_law_apart {f : Addr} {fd : FuncData} (F : Fun K "_law_apart" "_law_apart" s_law_apart f fd) (T : TxtA mg) {C : Addr}
    (D_law_piece : Def P w K mg base 2 "_law_piece" ["chart", "route", "begins", "low", "high"] (spLawPiece))
    (D_law_closer : Def P w K mg base 3 "_law_closer" ["first", "second", "limit"] (spLClo)) : FnOk P w K mg base CX0 4 f fd ["chart", "rules", "one", "other"] (spApart C) := by
  refine F.ok sc_law_apart (fun vs H Q E h => ?_) (fun cdv A outer s H vs Q E hr h => ?_)
  · obtain ⟨_, _, _, _, _, _, _, _, rfl, _⟩ := h
    rfl
  · obtain ⟨ch, ru, l1, l2, D, r, as, bs, rfl, C0, R, FA, FB, oka, okb, k⟩ := h
    have hu := hu_of hr
    refine ⟨_, (pss_cons (ps_for PassesOwn.never rfl (pi_list (pv 2)) (pg_name (i := 4) sc_law_apart.nd rfl (Or.inl rfl))
      (pss_one (ps_for PassesOwn.never rfl (pi_list (pv 3)) (pg_name (i := 5) sc_law_apart.nd rfl (Or.inl rfl))
      (pss_cons (ps_set (i := 6) sc_law_apart.nd rfl (Or.inl rfl) (pe_ix (r := rIxL K) ix_list (pv 4) pe_int (fun _ _ => rfl)))
    (pss_cons (ps_set (i := 7) sc_law_apart.nd rfl (Or.inl rfl) (pe_ix (r := rIxL K) ix_list (pv 5) pe_int (fun _ _ => rfl)))
    (pss_cons (ps_set (i := 8) sc_law_apart.nd rfl (Or.inl rfl) (pe_callB (call_max2 rfl) (by rfl) T.max boot_max (pa_cons (pe_op op_sub (pe_ix (r := rIxT K) ix_tup (pv 6) pe_int (fun _ _ => rfl)) (pe_ix (r := rIxT K) ix_tup (pv 7) pe_int (fun _ _ => rfl))) (pa_cons (pe_op op_sub (pe_ix (r := rIxT K) ix_tup (pv 7) pe_int (fun _ _ => rfl)) (pe_ix (r := rIxT K) ix_tup (pv 6) pe_int (fun _ _ => rfl))) pa_nil))))
    (pss_cons (ps_set (i := 9) sc_law_apart.nd rfl (Or.inl rfl) (pe_def D_law_piece (hr.mono (by decide)) (by rfl) (pa_cons (pv 0) (pa_cons (pe_ix (r := rIxL K) ix_list (pv 4) pe_int (fun _ _ => rfl)) (pa_cons (pe_ix (r := rIxL K) ix_list (pv 4) pe_int (fun _ _ => rfl)) (pa_cons (pe_ix (r := rIxT K) ix_tup (pv 6) pe_int (fun _ _ => rfl)) (pa_cons (pe_ix (r := rIxT K) ix_tup (pv 6) pe_int (fun _ _ => rfl)) pa_nil)))))))
    (pss_cons (ps_set (i := 10) sc_law_apart.nd rfl (Or.inr rfl) (pe_def D_law_piece (hr.mono (by decide)) (by rfl) (pa_cons (pv 0) (pa_cons (pe_ix (r := rIxL K) ix_list (pv 5) pe_int (fun _ _ => rfl)) (pa_cons (pe_ix (r := rIxL K) ix_list (pv 5) pe_int (fun _ _ => rfl)) (pa_cons (pe_ix (r := rIxT K) ix_tup (pv 7) pe_int (fun _ _ => rfl)) (pa_cons (pe_ix (r := rIxT K) ix_tup (pv 7) pe_int (fun _ _ => rfl)) pa_nil)))))))
    (pss_cons (ps_set (i := 11) sc_law_apart.nd rfl (Or.inr rfl) (pe_op op_add (pe_dget hu (pv 1) pe_str (fun _ _ => rfl)) (pe_op op_mulW pe_int (pe_dget hu (pv 1) pe_str (fun _ _ => rfl)))))
    (pss_cons (ps_set (i := 12) sc_law_apart.nd rfl (Or.inl rfl) (pe_callB (cr_any rfl) (by rfl) T.any boot_any (pa_cons (pe_lc (own := [("a", 13)]) (g := gName 13) (by rfl) sc_law_apart.nd (pi_list (pv 9)) (blkOk_by (own := [("a", 13)]) (N := ["chart", "rules", "one", "other", "first", "second", "box", "beside", "gap", "piece", "near", "limit", "close", "a", "b"]) (sc := defScope s_law_apart) (by decide +kernel)) (fun _ _ _ _ _ => (pg_name (i := 13) sc_law_apart.nd rfl (Or.inr rfl))) (fun _ _ _ _ _ => pts_nil) (fun _ _ _ _ _ => (pe_callB (r := rAny K) (cr_any rfl) (by rfl) T.any boot_any (pa_cons (pe_lc (own := [("b", 14)]) (wi := iList K (tVar 10)) (g := gName 14) (by rfl) sc_law_apart.nd (pi_list (pv 10)) (by apply blkOk_by; with_unfolding_all rfl) (fun _ _ _ _ _ => (pg_name (i := 14) sc_law_apart.nd rfl (Or.inl rfl))) (fun _ _ _ _ _ => pts_nil) (fun _ _ _ _ _ => (pe_def D_law_closer (hr.mono (by decide)) (by rfl) (pa_cons (pv 13) (pa_cons (pv 14) (pa_cons (pv 11) pa_nil)))))) pa_nil)))) pa_nil)))
    (pss_one (ps_if (PW.pt (pw_and (pt_val (pv 12)) (pw_and1 (pt_cmpR op_lt (pv 8) (pe_op op_add (pe_dget hu (pv 1) pe_str (fun _ _ => rfl)) (pe_op op_mulW pe_int (pe_dget hu (pv 1) pe_str (fun _ _ => rfl)))) (nomark _))))) (pss_one (ps_ret pe_bl))
      pss_nil))))))))))))
    (pss_one (ps_ret pe_bl))), ?_⟩
    rw [show L2.start ["chart", "rules", "one", "other", "first", "second", "box", "beside", "gap", "piece", "near", "limit", "close", "a", "b"] [V.ref ch, V.ref ru, V.ref l1, V.ref l2] = [some (V.ref ch), some (V.ref ru), some (V.ref l1), some (V.ref l2), none, none, none, none, none, none, none, none, none, none, none] from rfl]
    obtain ⟨qa, a1, a2, a3⟩ := FA
    obtain ⟨qb, b1, b2, b3⟩ := FB
    have la : qa.length = as.length := by rw [← a3, List.length_map]
    have lb : qb.length = bs.length := by rw [← b3, List.length_map]
    refine ⟨_, rfl, l1, rfl, ⟨_, .inl (.inl a1)⟩, for_list (K := K) (a := l1) (xs := qa.map fun q => V.ref q.1) (fun i σ H' => ∃ (v4 v5 v6 v7 v8 v9 v10 v11 v12 v13 v14 : Option V), σ = [some (.ref ch), some (.ref ru), some (.ref l1), some (.ref l2), v4, v5, v6, v7, v8, v9, v10, v11, v12, v13, v14] ∧ Same H H' ∧ ∀ a ∈ as.take i, ∀ b ∈ bs, SepC D r a b)
      ⟨none, none, none, none, none, none, none, none, none, none, none, rfl, Same.refl H, by intro a ha; cases ha⟩ (fun i σ H' _ ⟨_, _, _, _, _, _, _, _, _, _, _, _, e, _⟩ => .inl (.inl (e _ _ a1))) ?_ ?_⟩
    rotate_left
    · rintro σ H' ⟨v4, v5, v6, v7, v8, v9, v10, v11, v12, v13, v14, rfl, sm, hs⟩
      rw [List.length_map, la, List.take_length] at hs
      exact k true H' sm fun _ => hs
    rintro i y σ H' hi ⟨v4, v5, v6, v7, v8, v9, v10, v11, v12, v13, v14, rfl, sm, hs⟩
    obtain ⟨z, rfl, hz, hil, ht0⟩ := getMap hi
    obtain ⟨z1, z2⟩ := a2 z hz
    have hc : as.take (i + 1) = as.take i ++ [z.2.2] := by rw [← a3, ← List.map_take, ← List.map_take, ht0, List.map_append]; rfl
    have hcm : z.2.2 ∈ as := by rw [← a3]; exact List.mem_map.mpr ⟨z, hz, rfl⟩
    have CA := oka _ hcm
    clear hcm hz hil ht0 hi
    obtain ⟨za, zbx, a⟩ := z
    dsimp only at z1 z2 hc CA ⊢
    rw [hc]
    clear hc
    refine ⟨_, rfl, l2, rfl, ⟨_, .inl (.inl (sm _ _ b1))⟩, for_list (K := K) (a := l2) (xs := qb.map fun q => V.ref q.1) (fun j σ G => ∃ (v5 v6 v7 v8 v9 v10 v11 v12 v13 v14 : Option V), σ = [some (.ref ch), some (.ref ru), some (.ref l1), some (.ref l2), some (.ref za), v5, v6, v7, v8, v9, v10, v11, v12, v13, v14] ∧ Same H G ∧ ∀ b ∈ bs.take j, SepC D r a b)
      ⟨v5, v6, v7, v8, v9, v10, v11, v12, v13, v14, rfl, sm, by intro a ha; cases ha⟩ (fun i σ G _ ⟨_, _, _, _, _, _, _, _, _, _, _, e, _⟩ => .inl (.inl (e _ _ b1))) ?_ ?_⟩
    rotate_left
    · rintro σ G ⟨v5, v6, v7, v8, v9, v10, v11, v12, v13, v14, rfl, sm, hs2⟩
      rw [List.length_map, lb, List.take_length] at hs2
      exact ⟨_, v5, v6, v7, v8, v9, v10, v11, v12, v13, v14, rfl, sm, fun x hx b hb => by
        rcases List.mem_append.mp hx with h | h
        · exact hs x h b hb
        · rw [List.mem_singleton.mp h]
          exact hs2 b hb⟩
    clear sm
    rintro j y σ G hj ⟨v5, v6, v7, v8, v9, v10, v11, v12, v13, v14, rfl, sm, hs2⟩
    obtain ⟨z, rfl, hz, hil, ht0⟩ := getMap hj
    obtain ⟨y1, y2⟩ := b2 z hz
    have hc : bs.take (j + 1) = bs.take j ++ [z.2.2] := by rw [← b3, ← List.map_take, ← List.map_take, ht0, List.map_append]; rfl
    have hcm : z.2.2 ∈ bs := by rw [← b3]; exact List.mem_map.mpr ⟨z, hz, rfl⟩
    have CB := okb _ hcm
    clear hcm hz hil ht0 hj
    obtain ⟨zb, ybx, b⟩ := z
    dsimp only at y1 y2 hc CB ⊢
    rw [hc]
    clear hc
    have x1 := sm _ _ z1
    have x2 : G zbx = some (.tup [.int a.B.lo, .int a.B.hi, .int a.B.dn, .int a.B.up]) := sm _ _ z2
    have x3 := sm _ _ y1
    have x4 : G ybx = some (.tup [.int b.B.lo, .int b.B.hi, .int b.B.dn, .int b.B.up]) := sm _ _ y2
    have CG := C0.same sm
    have CA := CA.same sm
    have CB := CB.same sm
    have RG := R.same sm
    have bd : Bd D := CG.bd
    obtain ⟨ba1, ba2, ba3, ba4⟩ := CA.bx
    obtain ⟨bb1, bb2, bb3, bb4⟩ := CB.bx
    have sg := sm
    obtain ⟨w1, w2, w3, w4, w5, w6, w7, w8⟩ := R.bd
    refine nm ?_
    dsimp only [List.set]
    refine ⟨_, rfl, _, _, _, _, rfl, rfl, .inl (.inl x1), rfl, ?_⟩
    refine nm ?_
    dsimp only [List.set]
    refine ⟨_, rfl, _, _, _, _, rfl, rfl, .inl (.inl x3), rfl, ?_⟩
    refine nm ?_
    dsimp only [List.set]
    refine ⟨_, rfl, _, _, _, _, rfl, rfl, .inl (.inl x2), rfl, _, rfl, _, _, _, _, rfl, rfl, .inl (.inl x4), rfl, _, _, rfl, rfl, _, rfl, _, _, _, _, rfl, rfl, .inl (.inl x4), rfl, _, rfl, _, _, _, _, rfl, rfl, .inl (.inl x2), rfl, _, _, rfl, rfl, _, _, rfl, ?_⟩
    refine nm ?_
    dsimp only [List.set]
    generalize hgap : (if b.B.dn - a.B.up > a.B.dn - b.B.up then b.B.dn - a.B.up else a.B.dn - b.B.up) = gap
    refine ⟨_, rfl, _, rfl, _, _, _, _, rfl, rfl, .inl (.inl x1), rfl, _, rfl, _, _, _, _, rfl, rfl, .inl (.inl x1), rfl, _, rfl, _, _, _, _, rfl, rfl, .inl (.inl x2), rfl, _, rfl, _, _, _, _, rfl, rfl, .inl (.inl x2), rfl, ch, a.rt, a.b, a.B.lo, a.B.hi, D, a.ns, rfl, CG, CA.rt, CA.hb, CA.R, ba4, fun q1 H4 hq1 s4 L1 => ?_⟩
    refine nm ?_
    dsimp only [List.set]
    have x1 := s4 _ _ x1
    have x2 := s4 _ _ x2
    have x3 := s4 _ _ x3
    have x4 := s4 _ _ x4
    have CA := CA.same s4
    have CB := CB.same s4
    have CG := CG.same s4
    have RG := RG.same s4
    have sg := sg.trans s4
    refine ⟨_, rfl, _, rfl, _, _, _, _, rfl, rfl, .inl (.inl x3), rfl, _, rfl, _, _, _, _, rfl, rfl, .inl (.inl x3), rfl, _, rfl, _, _, _, _, rfl, rfl, .inl (.inl x4), rfl, _, rfl, _, _, _, _, rfl, rfl, .inl (.inl x4), rfl, ch, b.rt, b.b, b.B.lo, b.B.hi, D, b.ns, rfl, CG, CB.rt, CB.hb, CB.R, bb4, fun q2 H5 hq2 s5 L2 => ?_⟩
    refine nm ?_
    dsimp only [List.set]
    have L1 := L1.same s5
    have RG := RG.same s5
    have sg := sg.trans s5
    obtain ⟨ss, es, gs⟩ := pcs_segs bd CA.pos CA.R.n2 CA.R.n20 (lo := a.B.lo) (hi := a.B.hi) (by omega) (by omega) (by omega) (by omega)
    obtain ⟨ts, et, gt⟩ := pcs_segs bd CB.pos CB.R.n2 CB.R.n20 (lo := b.B.lo) (hi := b.B.hi) (by omega) (by omega) (by omega) (by omega)
    have ssl : ss.length ≤ 30 := by
      have := congrArg List.length es
      have := pcs_len D a.ns a.B.lo a.B.hi
      have := CA.R.n20
      rw [List.length_map] at *
      omega
    have tsl : ts.length ≤ 30 := by
      have := congrArg List.length et
      have := pcs_len D b.ns b.B.lo b.B.hi
      have := CB.R.n20
      rw [List.length_map] at *
      omega
    rw [es] at L1
    rw [et] at L2
    refine ⟨_, rfl, _, _, rfl, RG.gla, _, rfl, _, _, rfl, RG.gra, _, _, rfl, rfl, (by walk_at "ms"), _, _, rfl, rfl, ?_⟩
    refine nm ?_
    dsimp only [List.set]
    obtain ⟨xs, hx, Sx⟩ := L1.segs fun s hs => (gs s hs).1
    obtain ⟨ys, hy, Sy⟩ := L2.segs fun s hs => (gt s hs).1
    have hlb : BdN 100 (r.la + 2 * r.ra) := (BdN.of (n := 30) (by show -(1073741824 : Int) ≤ _; omega) (by show _ ≤ (1073741824 : Int); omega)).mono (by decide)
    have l0 : 0 ≤ r.la + 2 * r.ra := by omega
    have sep : anyC ss ts (r.la + 2 * r.ra) = false ∨ ¬ gap < r.ve + 2 * r.ba → SepC D r a b := by
      intro h ss' ts' e1 e2
      obtain rfl := segs_inj (es.symm.trans e1)
      obtain rfl := segs_inj (et.symm.trans e2)
      rcases h with h | h
      · exact .inr h
      · refine .inl ?_
        unfold lvA
        rw [Bool.or_eq_true, decide_eq_true_eq, decide_eq_true_eq]
        rw [← hgap] at h
        split at h <;> omega
    generalize r.la + 2 * r.ra = l at hlb l0 sep ⊢
    refine ⟨_, rfl, q1, rfl, ⟨_, .inl (.inl hx)⟩, fun E1 hE1 => ?_⟩
    refine lc_list (K := K) (a := q1) (xs := xs) (fun i H' => H' E1 = some (.lst (((ss.take i).map fun s => ts.any fun t => clo s t l).map V.bl)) ∧ Same H5 H') ⟨upd_same, same_new hE1⟩ (fun i H' _ ⟨_, e⟩ => .inl (.inl (e _ _ hx))) ?_ ?_
    · rintro i z H' hi ⟨hA, sm⟩
      have hil : i < ss.length := by rw [← Sx.1]; exact (List.getElem?_eq_some_iff.mp hi).1
      obtain ⟨p, e1, e2, e3⟩ := Sx.2 i ss[i] (by simp [hil])
      rw [hi] at e1
      cases e1
      refine ⟨rfl, yes_if ?_⟩
      refine ⟨_, rfl, q2, rfl, ⟨_, .inl (.inl (sm _ _ hy))⟩, fun E2 hE2 => ?_⟩
      have nE : E1 ≠ E2 := ne_of_none hA hE2
      refine lc_list (K := K) (a := q2) (xs := ys) (fun j H3 => H3 E2 = some (.lst (((ts.take j).map fun t => clo ss[i] t l).map V.bl)) ∧ Same H' H3) ⟨upd_same, same_new hE2⟩ (fun j H3 _ ⟨_, e⟩ => .inl (.inl (e _ _ (sm _ _ hy)))) ?_ ?_
      · rintro j z H3 hj ⟨hB, sm3⟩
        have hjl : j < ts.length := by rw [← Sy.1]; exact (List.getElem?_eq_some_iff.mp hj).1
        obtain ⟨q, f1, f2, f3⟩ := Sy.2 j ts[j] (by simp [hjl])
        rw [hj] at f1
        cases f1
        refine ⟨rfl, yes_if ?_⟩
        refine ⟨_, rfl, _, rfl, _, rfl, p, q, ss[i], ts[j], l, rfl, sm3 _ _ (sm _ _ e2), sm3 _ _ (sm _ _ f2), e3, f3, hlb, fun H8 s8 => ?_⟩
        rw [lclo_eq l0 (gs _ (List.getElem_mem hil)).2 (gt _ (List.getElem_mem hjl)).2]
        refine ⟨_, s8 _ _ hB, (by rw [List.length_map, List.length_map, List.length_take]; exact small1000 (by omega)), ?_, same_app hE2 fun b o e => s8 _ _ (sm3 _ _ e)⟩
        rw [upd_same, List.take_add_one, List.getElem?_eq_getElem hjl, List.map_append, List.map_append]
        rfl
      rintro H3 ⟨hB, sm3⟩
      rw [Sy.1, List.take_length] at hB
      refine ⟨E2, _, rfl, .inl (.inl hB), ?_⟩
      have ea : ((ts.map fun t => clo ss[i] t l).any id) = ts.any fun t => clo ss[i] t l := by rw [List.any_map]; rfl
      rw [ea]
      refine ⟨_, sm3 _ _ hA, (by rw [List.length_map, List.length_map, List.length_take]; exact small1000 (by omega)), ?_, same_app hE1 fun b o e => sm3 _ _ (sm _ _ e)⟩
      rw [upd_same, List.take_add_one, List.getElem?_eq_getElem hil, List.map_append, List.map_append]
      rfl
    rintro H' ⟨hA, sm⟩
    rw [Sx.1, List.take_length] at hA
    refine ⟨E1, _, rfl, .inl (.inl hA), ?_⟩
    have ea : ((ss.map fun s => ts.any fun t => clo s t l).any id) = anyC ss ts l := by rw [List.any_map]; rfl
    rw [ea]
    refine nm ?_
    dsimp only [List.set]
    have RG := RG.same sm
    have sg := sg.trans sm
    refine ⟨_, rfl, ?_⟩
    refine ⟨_, rfl, ?_⟩
    have fin : SepC D r a b → ∀ x ∈ bs.take j ++ [b], SepC D r a x := fun h x hx => by
      rcases List.mem_append.mp hx with z | z
      · exact hs2 x z
      · rw [List.mem_singleton.mp z]; exact h
    cases ac : anyC ss ts l with
    | false =>
      refine iteF ?_
      exact ⟨_, _, _, _, _, _, _, _, _, _, rfl, sg, fin (sep (.inl ac))⟩
    | true =>
      refine iteT ?_
      refine ⟨_, rfl, _, rfl, _, _, rfl, RG.gve, _, rfl, _, _, rfl, RG.gba, _, _, rfl, rfl, (by walk_at "ms"), _, _, rfl, rfl, _, _, rfl, rfl, _, rfl, ite2 (fun e => ?_) (fun e => ?_)⟩
      · exact k false H' sg (fun z => nomatch z)
      · exact ⟨_, _, _, _, _, _, _, _, _, _, rfl, sg, fin (sep (.inr fun z => e (decide_eq_true z)))⟩

end
end Sk

set_option Elab.async false
set_option linter.all false
set_option maxRecDepth 100000
set_option maxHeartbeats 4000000
namespace Sk
open PySem PySem.Spec PyProof.Rows L2
local macro_rules | `(tactic| walk_at "ms") => `(tactic| first | exact .inl ⟨by decide, by decide⟩ | exact .inl ⟨by omega, by omega⟩ | exact .inr ⟨by omega, by omega⟩ | exact wm (by omega) (by omega) | exact log_of (by omega) (by omega) | (show (0:Int) < _; omega) | exact ⟨by decide, by decide, by decide⟩)
section
variable {P : Program} {w : World} {K : PySem.W.Frag} {mg : Str → Option Value} {base : Heap}
abbrev s_law_give : Stmt := top 56
theorem sc_law_give : FnScope ["chart", "rules", "flights", "plot", "index", "kept", "route", "begins", "path", "box", "after"] ["chart", "rules", "flights", "plot"] (defScope s_law_give) := ⟨rfl, rfl, rfl, by decide +kernel, rfl, by decide +kernel, by decide +kernel⟩
theorem ok_law_give {f : Addr} {fd : FuncData} (F : Fun K "_law_give" "_law_give" s_law_give f fd) (T : TxtA mg) {C : Addr}
    (D_law_fitted : Def P w K mg base 3 "_law_fitted" ["chart", "route", "begins", "rules", "box", "plot"] (spLFitted)) : FnOk P w K mg base CX0 4 f fd ["chart", "rules", "flights", "plot"] (spGive C) := by
  refine F.ok sc_law_give (fun vs H Q E h => ?_) (fun cdv A outer s H vs Q E hr h => ?_)
  · obtain ⟨_, _, _, _, _, _, _, _, _, _, _, rfl, _⟩ := h
    rfl
  · obtain ⟨ch, ru, fl, q, ra, ba, rd, ht, D, fs, pp, rfl, C0, RQ, FS, ok, nl, hq, bx, by', k⟩ := h
    have hu := hu_of hr
    refine ⟨_, (pss_cons (ps_for PassesOwn.never rfl (pi_range1 (by rfl) T.range (pa_cons (pe_callB (r := rLenK K) call_len_seq (by rfl) T.len boot_len (pa_cons (pv 2) pa_nil)) pa_nil)) (pg_name (i := 4) sc_law_give.nd rfl (Or.inl rfl))
      (pss_cons (ps_set (i := 5) sc_law_give.nd rfl (Or.inl rfl) (pe_lst pa_nil))
    (pss_cons (ps_for PassesOwn.never rfl (pi_list (pe_ix (r := rIxL K) ix_list (pv 2) (pv 4) (fun _ _ => rfl))) (pg_lst (by rfl) (pgs_cons (pg_name (i := 6) sc_law_give.nd rfl (Or.inl rfl)) (pgs_cons (pg_name (i := 7) sc_law_give.nd rfl (Or.inl rfl)) (pgs_cons (pg_name (i := 8) sc_law_give.nd rfl (Or.inl rfl)) (pgs_cons (pg_name (i := 9) sc_law_give.nd rfl (Or.inl rfl)) pgs_nil)))))
      (pss_cons (ps_set (i := 10) sc_law_give.nd rfl (Or.inl rfl) (pe_def D_law_fitted (hr.mono (by decide)) (by rfl) (pa_cons (pv 0) (pa_cons (pv 6) (pa_cons (pv 7) (pa_cons (pv 1) (pa_cons (pv 9) (pa_cons (pv 3) pa_nil))))))))
    (pss_one (ps_if (pt_cmpR op_notN (pv 10) pe_non (nomark _)) (pss_one (ps_expr (pe_bm PySem.F.plainAttrs_list PySem.F.slot_list_append PySem.F.type_list_append mt_append (pv 5) (pa_cons (pe_lst (pa_cons (pv 6) (pa_cons (pv 7) (pa_cons (pv 8) (pa_cons (pv 10) pa_nil))))) pa_nil))))
      pss_nil))))
    (pss_one (ps_if (pt_cmpR op_gt (pe_callB (r := rLenK K) call_len_seq (by rfl) T.len boot_len (pa_cons (pv 5) pa_nil)) pe_int (nomark _)) (pss_cons (ps_asg (pv 5) (pg_sub (pv 2) (pv 4) set_list))
    (pss_one (ps_ret (pv 4))))
      pss_nil)))))
    (pss_one (ps_ret (pe_un un_neg pe_int)))), ?_⟩
    rw [show L2.start ["chart", "rules", "flights", "plot", "index", "kept", "route", "begins", "path", "box", "after"] [V.ref ch, V.ref ru, V.ref fl, V.ref q] = [some (V.ref ch), some (V.ref ru), some (V.ref fl), some (V.ref q), none, none, none, none, none, none, none] from rfl]
    obtain ⟨ls, h1, h2, h3⟩ := FS
    have ll : ls.length = fs.length := by rw [← h3, List.length_map]
    have fget : ∀ j (h : j < ls.length), fs[j]'(by omega) = ls[j].2 := fun j h => by
      simp only [← h3, List.getElem_map]
    have lm : (ls.map fun q => V.ref q.1).length = ls.length := List.length_map ..
    refine ⟨_, rfl, _, _, rfl, .inl (.inl (.inl h1)), _, rfl, by rw [lm]; omega, by rw [lm]; omega, for_range (n := (((ls.map fun q => V.ref q.1).length : Nat) : Int).toNat) (fun i σ G => ∃ (v4 v5 v6 v7 v8 v9 v10 : Option V), σ = [some (.ref ch), some (.ref ru), some (.ref fl), some (.ref q), v4, v5, v6, v7, v8, v9, v10] ∧ Same H G ∧ ∀ j (h : j < ls.length), j < i → ls[j].2.filterMap (fitC D (rd + ra) (ht + ba) pp) = [])
      ⟨none, none, none, none, none, none, none, rfl, Same.refl H, fun j _ h => absurd h (Nat.not_lt_zero j)⟩ ?_ ?_⟩
    rotate_left
    · rintro σ G ⟨v4, v5, v6, v7, v8, v9, v10, rfl, sm, hn⟩
      have ff : firstF D (rd + ra) (ht + ba) pp fs = none := firstF_none fun j hj => by
        rw [fget j (by omega)]
        exact hn j (by omega) (by rw [lm]; omega)
      refine ⟨_, rfl, k (-1) G (msk_mono sm) (fun b o e _ => sm _ _ e) ?_ (fun _ => rfl) (fun i w => by rw [ff] at w; cases w)⟩
      rw [give_none ff]
      exact ⟨ls, sm _ _ h1, fun z hz => (h2 z hz).same (msk_mono sm), h3⟩
    rintro i σ G hi ⟨v4, v5, v6, v7, v8, v9, v10, rfl, sm, hn⟩
    have hil : i < ls.length := by rw [lm] at hi; omega
    rw [Int.zero_add]
    refine nm ?_
    dsimp only [List.set]
    refine ⟨szOk rfl, fun kp hkp => ?_⟩
    refine nm ?_
    dsimp only [List.set]
    have s1 := sm.trans (same_new (o := .lst []) hkp)
    have hkH : H kp = none := sm.free hkp
    have kfl : kp ≠ fl := (ne_of_none h1 hkH).symm
    have K0 : FlM (msk [kp, fl] (upd G kp (.lst []))) (upd G kp (.lst [])) kp [] := ⟨[], upd_same, (by intro z hz; cases hz), rfl⟩
    generalize upd G kp (.lst []) = G0 at s1 K0 ⊢
    clear sm hkp
    obtain ⟨qs, p1, p2, p3⟩ := h2 _ (List.getElem_mem hil)
    obtain ⟨c100, cok⟩ := ok ls[i].2 (by rw [← h3]; exact List.mem_map.mpr ⟨_, List.getElem_mem hil, rfl⟩)
    have ql : qs.length = ls[i].2.length := by rw [← p3, List.length_map]
    refine ⟨_, rfl, _, rfl, _, _, _, .ref ls[i].1, rfl, rfl, .inl (.inl (s1 _ _ h1)), atI_nat (mapAt hil), ls[i].1, rfl, ⟨_, .inl (.inl (s1 _ _ (msk_same _ _ p1)))⟩, for_list (K := K) (a := ls[i].1) (xs := qs.map fun q => V.ref q.1) (fun j σ H' => ∃ (v6 v7 v8 v9 v10 : Option V), σ = [some (.ref ch), some (.ref ru), some (.ref fl), some (.ref q), some (.int (i : Nat)), some (.ref kp), v6, v7, v8, v9, v10] ∧ Same H H' ∧ FlM (msk [kp, fl] H') H' kp ((ls[i].2.take j).filterMap (fitC D (rd + ra) (ht + ba) pp)))
      ⟨v6, v7, v8, v9, v10, rfl, s1, K0⟩ (fun i σ H' _ ⟨_, _, _, _, _, _, e, _⟩ => .inl (.inl (e _ _ (msk_same _ _ p1)))) ?_ ?_⟩
    · clear s1 K0
      rintro j y σ H' hj ⟨v6, v7, v8, v9, v10, rfl, sm, KM⟩
      obtain ⟨z, rfl, hz, hjl, ht0⟩ := getMap hj
      obtain ⟨z1, z2⟩ := p2 z hz
      have hc : ls[i].2.take (j + 1) = ls[i].2.take j ++ [z.2.2] := by rw [← p3, ← List.map_take, ← List.map_take, ht0, List.map_append]; rfl
      have hcm : z.2.2 ∈ ls[i].2 := by rw [← p3]; exact List.mem_map.mpr ⟨z, hz, rfl⟩
      have sM := (msk_same (T := [fl])).trans sm
      have CO := (cok _ hcm).same sM
      have cl : ((ls[i].2.take j).filterMap (fitC D (rd + ra) (ht + ba) pp)).length ≤ 100 := Nat.le_trans (List.length_filterMap_le _ _) (Nat.le_trans (List.length_take_le' _ _) c100)
      rw [hc, List.filterMap_append]
      generalize ls[i].2.take j = tk at KM cl ⊢
      clear hcm hc hz ht0 hj
      obtain ⟨zt, zb, cn⟩ := z
      dsimp only at z1 z2 CO ⊢
      obtain ⟨b1, b2, b3, b4⟩ := CO.bx
      refine ⟨_, _, rfl, .inl (.inl (sM _ _ z1)), rfl, ?_⟩
      refine ⟨_, _, rfl, _, _, rfl, _, _, rfl, _, _, rfl, rfl, ?_⟩
      dsimp only [List.set]
      refine ⟨_, rfl, _, rfl, _, rfl, _, rfl, _, rfl, _, rfl, ch, cn.rt, cn.b, ru, zb, q, ra, ba, rd, ht, D, cn.ns, cn.B, pp.x, pp.y, pp.z, rfl, C0.same sM, CO.R, CO.rt, CO.hb, RQ.same sM, sM _ _ z2, b1, b3, (by omega), (by omega), CO.pos, sM _ _ hq, bx, by', fun v o H3 s3 ho F => ?_⟩
      have ef := fitC_some F
      refine nm ?_
      dsimp only [List.set]
      have sm3 := sm.trans s3
      have KM3 := KM.same (msk_mono s3) s3
      refine ⟨_, rfl, rfl, _, rfl, ?_⟩
      cases o with
      | none =>
        have ho : v = .non := ho
        refine ifNotY ho ⟨_, _, _, _, _, rfl, sm3, ?_⟩
        rw [show [cn].filterMap (fitC D (rd + ra) (ht + ba) pp) = [] by simp [ef], List.append_nil]
        exact KM3
      | some e =>
        obtain ⟨t, rfl, htp⟩ := ho
        refine ifNotN (fun z => nomatch z) ?_
        obtain ⟨xs0, hx0, hl0⟩ := KM3.len
        refine ⟨_, rfl, .inl ⟨rfl, _, .inl (.inl hx0)⟩, _, rfl, _, rfl, _, rfl, _, rfl, szOk rfl, fun u hu' => ?_⟩
        have s4 := same_new (o := .lst [.ref cn.rt, .ref cn.b, .ref cn.p, .ref t]) hu'
        have ht4 : (upd H3 u (.lst [.ref cn.rt, .ref cn.b, .ref cn.p, .ref t])) u = _ := upd_same
        have htp4 := s4 _ _ htp
        have hx4 := s4 _ _ hx0
        have sm4 := sm3.trans s4
        have uk : u ∉ [kp, fl] := by
          intro m
          simp only [List.mem_cons, List.not_mem_nil, or_false] at m
          rcases m with rfl | rfl
          · rw [hx0] at hu'; cases hu'
          · rw [sm3 _ _ h1] at hu'; cases hu'
        have tk' : t ∉ [kp, fl] := by
          intro m
          simp only [List.mem_cons, List.not_mem_nil, or_false] at m
          rcases m with rfl | rfl
          · rw [hx0] at htp; cases htp
          · rw [sm3 _ _ h1] at htp; cases htp
        have mt := msk_of ht4 uk
        have mb := msk_of htp4 tk'
        have m4 := msk_mono (T := [kp, fl]) s4
        generalize upd H3 u (.lst [.ref cn.rt, .ref cn.b, .ref cn.p, .ref t]) = H4 at hx4 sm4 mt mb m4 ⊢
        refine ⟨_, _, _, rfl, rfl, hx4, small1000 (by omega), ?_⟩
        refine ⟨_, _, _, _, _, rfl, fun b o e => ?_, ?_⟩
        · rw [upd_ne (ne_of_none e hkH)]
          exact sm4 _ _ e
        · rw [show [cn].filterMap (fitC D (rd + ra) (ht + ba) pp) = [cn.nw e] by simp [ef]]
          have mm : msk [kp, fl] (upd H4 kp (.lst (xs0 ++ [.ref u]))) = msk [kp, fl] H4 := msk_put (by simp)
          exact KM3.snoc (c := cn.nw e) (t := u) (bx := t) (by rw [mm]; exact m4) hx0 upd_same (by rw [mm]; exact mt) (by rw [mm]; exact mb)
    clear s1 K0
    rintro σ H' ⟨v6, v7, v8, v9, v10, rfl, sm, KM⟩
    rw [List.length_map, ql, List.take_length] at KM
    obtain ⟨xs, hx, hxl⟩ := KM.len
    refine ⟨_, rfl, _, _, rfl, .inl (.inl (.inl hx)), _, _, rfl, rfl, _, rfl, ite2 (fun e => ?_) (fun e => ?_)⟩
    · have e := of_decide_eq_true e
      have ne : ls[i].2.filterMap (fitC D (rd + ra) (ht + ba) pp) ≠ [] := by
        intro z
        rw [z] at hxl
        rw [hxl] at e
        exact absurd e (by decide)
      have hi' : i < fs.length := by omega
      have ff : firstF D (rd + ra) (ht + ba) pp fs = some i := firstF_at hi' (by rw [fget i hil]; exact ne) fun j hj => by rw [fget j (by omega)]; exact hn j (by omega) hj
      refine ⟨_, rfl, _, rfl, _, rfl, fl, _, _, i, rfl, rfl, sm _ _ h1, (by unfold ixN; rw [if_pos (by omega), if_pos (by rw [lm]; omega), Int.toNat_natCast]), ?_⟩
      have mm : ∀ o, msk [fl] (upd H' fl o) = msk [fl] H' := fun o => msk_put (by simp)
      refine ⟨_, rfl, k (i : Nat) _ (by rw [mm]; exact msk_mono sm) (fun b o e nb => by rw [upd_ne nb]; exact sm _ _ e) ?_ (fun w => by rw [ff] at w; cases w) (fun i' w => by rw [ff] at w; rw [Option.some.inj w])⟩
      rw [give_some ff hi', fget i hil]
      have KA : FlAt (msk [fl] H') kp (ls[i].2.filterMap (fitC D (rd + ra) (ht + ba) pp)) := KM.at (msk_sub (by simp)) (msk_at (by simpa using kfl))
      refine ⟨ls.set i (kp, ls[i].2.filterMap (fitC D (rd + ra) (ht + ba) pp)), by rw [upd_same, List.map_set], fun z hz => ?_, by rw [List.map_set, h3]⟩
      rw [mm]
      rcases List.mem_or_eq_of_mem_set hz with hz | rfl
      · exact (h2 z hz).same (msk_mono sm)
      · exact KA
    · have e : ¬ _ := fun z => e (decide_eq_true z)
      have nil : ls[i].2.filterMap (fitC D (rd + ra) (ht + ba) pp) = [] := by
        refine List.eq_nil_of_length_eq_zero ?_
        rw [← hxl]
        omega
      refine ⟨_, _, _, _, _, _, _, rfl, sm, fun j hj hji => ?_⟩
      rcases Nat.lt_or_ge j i with w | w
      · exact hn j hj w
      · obtain rfl : j = i := by omega
        exact nil

end
end Sk

set_option Elab.async false
set_option linter.all false
set_option maxRecDepth 100000
set_option maxHeartbeats 4000000
namespace Sk
open PySem PySem.Spec PyProof.Rows L2
local macro_rules | `(tactic| walk_at "ms") => `(tactic| first | exact .inl ⟨by decide, by decide⟩ | exact .inl ⟨by omega, by omega⟩ | exact .inr ⟨by omega, by omega⟩ | exact wm (by omega) (by omega) | exact log_of (by omega) (by omega) | (show (0:Int) < _; omega) | exact ⟨by decide, by decide, by decide⟩)
section
variable {P : Program} {w : World} {K : PySem.W.Frag} {mg : Str → Option Value} {base : Heap}
abbrev s_law_told : Stmt := top 57
theorem sc_law_told : FnScope ["found", "flights", "names", "index", "k", "pair"] ["found", "flights", "names"] (defScope s_law_told) := ⟨rfl, rfl, rfl, by decide +kernel, rfl, by decide +kernel, by decide +kernel⟩
theorem ok_law_told {f : Addr} {fd : FuncData} {C : Addr} (F : Fun K "_law_told" "_law_told" s_law_told f fd) (T : TxtA mg) (Y : PathY K mg C)
    (M_route : MDef P w K mg base 1 C "route" ["self"] (spRoute C)) : FnOk P w K mg base CX0 4 f fd ["found", "flights", "names"] (spTold C) := by
  refine F.ok sc_law_told (fun vs H Q E h => ?_) (fun cdv A outer s H vs Q E hr h => ?_)
  · obtain ⟨_, _, _, _, _, _, _, rfl, _⟩ := h
    rfl
  · obtain ⟨fo, fl, na, D, nfs, M1, M2, rfl, SM1, SM2, FO, FS, hna, ok, nl, so, k⟩ := h
    have hu := hu_of hr
    refine ⟨_, (pss_cons (ps_if (PW.pt (pw_or (pt_not (pt_val (pe_callB call_isi (by rfl) T.isinstance boot_isinstance (pa_cons (pv 0) (pa_cons (pe_bltn (v := .ty "list") (by rfl) T.list boot_list rfl) pa_nil))))) (pw_or1 (pt_cmpR op_ne (pe_callB (r := rLenK K) call_len_seq (by rfl) T.len boot_len (pa_cons (pv 0) pa_nil)) (pe_callB (r := rLenK K) call_len_seq (by rfl) T.len boot_len (pa_cons (pv 1) pa_nil)) (nomark _))))) (pss_one (ps_ret pe_bl))
      pss_nil)
    (pss_cons (ps_for PassesOwn.never rfl (pi_range1 (by rfl) T.range (pa_cons (pe_callB (r := rLenK K) call_len_seq (by rfl) T.len boot_len (pa_cons (pv 1) pa_nil)) pa_nil)) (pg_name (i := 3) sc_law_told.nd rfl (Or.inl rfl))
      (pss_cons (ps_if (PW.pt (pw_or (pt_cmpR op_ne (pe_ix (r := rIxT K) ix_tup (pe_ix (r := rIxL K) ix_list (pv 0) (pv 3) (fun _ _ => rfl)) pe_int (fun _ _ => rfl)) (pe_ix (r := rIxL K) ix_list (pv 2) (pv 3) (fun _ _ => rfl)) (nomark _)) (pw_or1 (pt_cmpR op_ne (pe_callB (r := rLenK K) call_len_seq (by rfl) T.len boot_len (pa_cons (pe_ix (r := rIxT K) ix_tup (pe_ix (r := rIxL K) ix_list (pv 0) (pv 3) (fun _ _ => rfl)) pe_int (fun _ _ => rfl)) pa_nil)) (pe_callB (r := rLenK K) call_len_seq (by rfl) T.len boot_len (pa_cons (pe_ix (r := rIxL K) ix_list (pv 1) (pv 3) (fun _ _ => rfl)) pa_nil)) (nomark _))))) (pss_one (ps_ret pe_bl))
      pss_nil)
    (pss_one (ps_for PassesOwn.never rfl (pi_range1 (by rfl) T.range (pa_cons (pe_callB (r := rLenK K) call_len_seq (by rfl) T.len boot_len (pa_cons (pe_ix (r := rIxL K) ix_list (pv 1) (pv 3) (fun _ _ => rfl)) pa_nil)) pa_nil)) (pg_name (i := 4) sc_law_told.nd rfl (Or.inl rfl))
      (pss_cons (ps_set (i := 5) sc_law_told.nd rfl (Or.inl rfl) (pe_ix (r := rIxL K) ix_list (pe_ix (r := rIxT K) ix_tup (pe_ix (r := rIxL K) ix_list (pv 0) (pv 3) (fun _ _ => rfl)) pe_int (fun _ _ => rfl)) (pv 4) (fun _ _ => rfl)))
    (pss_one (ps_if (PW.pt (pw_or (pt_cmpR (op_neD hr.units) (pe_mdef0 M_route Y.cl (hr.mono (by decide)) (pe_ix (r := rIxT K) ix_tup (pv 5) pe_int (fun _ _ => rfl))) (pe_ix (r := rIxL K) ix_list (pe_ix (r := rIxL K) ix_list (pe_ix (r := rIxL K) ix_list (pv 1) (pv 3) (fun _ _ => rfl)) (pv 4) (fun _ _ => rfl)) pe_int (fun _ _ => rfl)) (nomark _)) (pw_or1 (pt_cmpR (op_neD hr.units) (pe_ix (r := rIxT K) ix_tup (pv 5) pe_int (fun _ _ => rfl)) (pe_ix (r := rIxL K) ix_list (pe_ix (r := rIxL K) ix_list (pe_ix (r := rIxL K) ix_list (pv 1) (pv 3) (fun _ _ => rfl)) (pv 4) (fun _ _ => rfl)) pe_int (fun _ _ => rfl)) (nomark _))))) (pss_one (ps_ret pe_bl))
      pss_nil)))))))
    (pss_one (ps_ret pe_bl)))), ?_⟩
    rw [show L2.start ["found", "flights", "names", "index", "k", "pair"] [V.ref fo, V.ref fl, V.ref na] = [some (V.ref fo), some (V.ref fl), some (V.ref na), none, none, none] from rfl]
    obtain ⟨ls, h1, h2, h3⟩ := FO
    obtain ⟨ms, m1, m2, m3⟩ := FS
    have lm : (ls.map fun q => V.ref q.1).length = nfs.length := by rw [List.length_map, ← h3, List.length_map]
    have mm : (ms.map fun q => V.ref q.1).length = nfs.length := by
      have := congrArg List.length m3
      rw [List.length_map, List.length_map] at this
      rw [List.length_map]
      exact this
    have ll : ls.length = nfs.length := by rw [← lm, List.length_map]
    have ml : ms.length = nfs.length := by rw [← mm, List.length_map]
    refine ⟨_, rfl, _, _, _, _, true, rfl, ClsV.ty "list", TyX.base (TyOf.lst h1), kit_ty (by decide +kernel), _, rfl, iteF ?_⟩
    refine ⟨_, rfl, _, _, rfl, .inl (.inl (.inl h1)), _, rfl, _, _, rfl, .inl (.inl (.inl m1)), rfl, _, rfl, neN (by rw [lm, mm]) ?_⟩
    refine ⟨_, rfl, _, _, rfl, .inl (.inl (.inl m1)), _, rfl, by rw [mm]; omega, by rw [mm]; omega, for_range (n := (((ms.map fun q => V.ref q.1).length : Nat) : Int).toNat) (fun i σ G => ∃ (v3 v4 v5 : Option V), σ = [some (.ref fo), some (.ref fl), some (.ref na), v3, v4, v5] ∧ G = H)
      ⟨none, none, none, rfl, rfl⟩ ?_ ?_⟩
    rotate_left
    · rintro σ G ⟨v3, v4, v5, rfl, rfl⟩
      exact k G (Same.refl G)
    rintro i σ G hi ⟨v3, v4, v5, rfl, rfl⟩
    have hin : i < nfs.length := by rw [mm] at hi; omega
    have hil : i < ls.length := by omega
    have him : i < ms.length := by omega
    have e1 : ls[i].2.2 = nfs[i] := by simp only [← h3, List.getElem_map]
    have e2 : ms[i].2 = nfs[i].2 := by
      have : (ms.map fun q => q.2)[i]'(by rw [List.length_map]; exact him) = (nfs.map fun z => z.2)[i]'(by rw [List.length_map]; exact hin) := by simp only [m3]
      rw [List.getElem_map, List.getElem_map] at this
      exact this
    obtain ⟨z1, z2⟩ := h2 _ (List.getElem_mem hil)
    have y1 := m2 _ (List.getElem_mem him)
    rw [e1] at z1 z2
    rw [e2] at y1
    obtain ⟨c100, cok⟩ := ok _ (List.getElem_mem hin)
    have so := so _ (List.getElem_mem hin)
    have x1 := SM1 _ _ z1
    obtain ⟨qs, p1, p2, p3⟩ := z2.same SM1
    obtain ⟨rs, r1, r2, r3⟩ := y1.same SM2
    have ql : (qs.map fun q => V.ref q.1).length = nfs[i].2.length := by rw [List.length_map, ← p3, List.length_map]
    have rl : (rs.map fun q => V.ref q.1).length = nfs[i].2.length := by rw [List.length_map, ← r3, List.length_map]
    rw [Int.zero_add]
    refine nm ?_
    dsimp only [List.set]
    have aF := atI_nat (xs := ls.map fun q => V.ref q.1) (j := i) (v := .ref ls[i].1) (mapAt hil)
    have aM := atI_nat (xs := ms.map fun q => V.ref q.1) (j := i) (v := .ref ms[i].1) (mapAt him)
    have aN := atI_nat (xs := nfs.map fun z => V.str z.1) (j := i) (v := .str nfs[i].1) (mapAt hin)
    refine ⟨_, rfl, _, rfl, _, _, _, _, rfl, rfl, .inl (.inl h1), aF, _, _, _, _, rfl, rfl, .inl (.inl x1), rfl, _, rfl, _, rfl, _, _, _, _, rfl, rfl, .inl (.inl hna), aN, (by simp [scal]), _, rfl, ?_⟩
    refine ifNotY rfl ?_
    refine ⟨_, rfl, _, rfl, _, _, _, _, rfl, rfl, .inl (.inl h1), aF, _, _, _, _, rfl, rfl, .inl (.inl x1), rfl, _, _, rfl, .inl (.inl (.inl p1)), _, rfl, _, rfl, _, _, _, _, rfl, rfl, .inl (.inl m1), aM, _, _, rfl, .inl (.inl (.inl r1)), rfl, _, rfl, neN (by rw [ql, rl]) ?_⟩
    refine ⟨_, rfl, _, rfl, _, _, _, _, rfl, rfl, .inl (.inl m1), aM, _, _, rfl, .inl (.inl (.inl r1)), _, rfl, by rw [rl]; omega, by rw [rl]; omega, for_range (n := (((rs.map fun q => V.ref q.1).length : Nat) : Int).toNat) (fun j σ H' => ∃ (v4 v5 : Option V), σ = [some (.ref fo), some (.ref fl), some (.ref na), some (.int (i : Nat)), v4, v5] ∧ H' = G)
      ⟨v4, v5, rfl, rfl⟩ ?_ ?_⟩
    rotate_left
    · rintro σ H' ⟨v4, v5, rfl, rfl⟩
      exact ⟨_, _, _, rfl, rfl⟩
    rintro j σ H' hj ⟨v4, v5, rfl, rfl⟩
    have hjn : j < nfs[i].2.length := by rw [rl] at hj; omega
    have hjq : j < qs.length := by rw [List.length_map] at ql; omega
    have hjr : j < rs.length := by rw [List.length_map] at rl; omega
    have f1 : qs[j].2.2 = nfs[i].2[j] := by simp only [← p3, List.getElem_map]
    have f2 : rs[j].2.2 = nfs[i].2[j] := by simp only [← r3, List.getElem_map]
    obtain ⟨a1, a2⟩ := p2 _ (List.getElem_mem hjq)
    obtain ⟨b1, b2⟩ := r2 _ (List.getElem_mem hjr)
    have CO := cok _ (List.getElem_mem hjn)
    have so := so _ (List.getElem_mem hjn)
    rw [f1] at a1 a2
    rw [f2] at b1 b2
    have aQ := atI_nat (xs := qs.map fun q => V.ref q.1) (j := j) (v := .ref qs[j].1) (mapAt hjq)
    have aR := atI_nat (xs := rs.map fun q => V.ref q.1) (j := j) (v := .ref rs[j].1) (mapAt hjr)
    generalize nfs[i].2[j] = cn at a1 a2 b1 b2 CO so
    obtain ⟨_, _, _, _, _, _, _, PP⟩ := id CO.P
    have a2 : H' qs[j].2.1 = some (.tup ([cn.B.lo, cn.B.hi, cn.B.dn, cn.B.up].map V.int)) := a2
    have b2 : H' rs[j].2.1 = some (.tup ([cn.B.lo, cn.B.hi, cn.B.dn, cn.B.up].map V.int)) := b2
    rw [Int.zero_add]
    refine nm ?_
    dsimp only [List.set]
    refine ⟨_, rfl, _, rfl, _, _, _, _, rfl, rfl, .inl (.inl h1), aF, _, _, _, _, rfl, rfl, .inl (.inl x1), rfl, _, rfl, _, _, _, _, rfl, rfl, .inl (.inl p1), aQ, ?_⟩
    refine nm ?_
    dsimp only [List.set]
    refine ⟨_, rfl, _, _, _, _, rfl, rfl, .inl (.inl a1), rfl, _, _, _, rfl, PP.ob, rfl, cn.p, cn.rt, D, cn.ns, rfl, CO.P, _, rfl, _, rfl, _, _, _, _, rfl, rfl, .inl (.inl m1), aM, _, rfl, _, _, _, _, rfl, rfl, .inl (.inl r1), aR, _, _, _, _, rfl, rfl, .inl (.inl b1), rfl, _, _, Dp.tup (.inl (.inl CO.rt)) (dpAll_str _), Dp.tup (.inl (.inl CO.rt)) (dpAll_str _), sh_str so, sh_str so, _, rfl, eqvN (can_str so) ?_⟩
    refine ⟨_, rfl, _, _, _, _, rfl, rfl, .inl (.inl a1), rfl, _, rfl, _, rfl, _, _, _, _, rfl, rfl, .inl (.inl m1), aM, _, rfl, _, _, _, _, rfl, rfl, .inl (.inl r1), aR, _, _, _, _, rfl, rfl, .inl (.inl b1), rfl, _, _, Dp.tup (.inl (.inl a2)) (dpAll_int _), Dp.tup (.inl (.inl b2)) (dpAll_int _), sh_pd _, sh_pd _, _, rfl, eqvN (can_pd _) ?_⟩
    exact ⟨_, _, rfl, rfl⟩

end
end Sk

set_option Elab.async false
set_option linter.all false
set_option maxRecDepth 100000
set_option maxHeartbeats 4000000
namespace Sk
open PySem PySem.Spec PyProof.Rows L2
/-! plots that are put in at drawn places -/
section
variable {K : PySem.W.Frag} {C d c ch ru fl al pl : Addr} {H G G' : Hp} {D : CD} {ra ba rd ht : Int} {fs : List (List Cn)} {acs : List (Option (Int × Int))} {ps : List (Pl × Int)} {n : Nat}
theorem PsAt.keep (h : PsAt G pl ps) (S : St1 K G d c) (k : Keep d G G') : PsAt G' pl ps := let ⟨qs, a, b, e⟩ := h; ⟨qs, k.l S a, fun q hq => ⟨k.t S (b q hq).1, k.t S (b q hq).2.1, (b q hq).2.2⟩, e⟩
theorem PsAt.li (h : PsAt G pl ps) : ∃ xs : List V, G pl = some (.lst xs) ∧ xs.length = ps.length := let ⟨qs, a, _, e⟩ := h; ⟨_, a, by rw [List.length_map, ← e, List.length_map]⟩
theorem PsAt.ins {t q : Addr} {p : Pl} {z : Int} {xs : List V} (h : PsAt G pl ps) (i : Nat) (hx : G pl = some (.lst xs)) (ht : G t = some (.tup [.ref q, .int z])) (hq : G q = some (PlT p)) (bx : BdN 46 p.x) (by' : BdN 46 p.y) : PsAt (upd G pl (.lst (xs.take i ++ [.ref t] ++ xs.drop i))) pl (ps.take i ++ [(p, z)] ++ ps.drop i) := by
  obtain ⟨qs, a, b, e⟩ := h
  rw [a] at hx
  have hx := HO.lst.inj (Option.some.inj hx)
  have out : ∀ {x : Addr} {ys : List V}, G x = some (.tup ys) → x ≠ pl := fun w => ne_of w a (by intro z; cases z)
  refine ⟨qs.take i ++ [(t, q, p, z)] ++ qs.drop i, by rw [upd_same, ← hx, List.map_append, List.map_append, List.map_take, List.map_drop]; rfl, fun w hw => ?_, by rw [List.map_append, List.map_append, List.map_take, List.map_drop, e]; rfl⟩
  have key : G w.1 = some (.tup [.ref w.2.1, .int w.2.2.2]) ∧ G w.2.1 = some (PlT w.2.2.1) ∧ BdN 46 w.2.2.1.x ∧ BdN 46 w.2.2.1.y := by
    rcases List.mem_append.mp hw with hw | hw
    · rcases List.mem_append.mp hw with hw | hw
      · exact b w (List.mem_of_mem_take hw)
      · rw [List.mem_singleton.mp hw]
        exact ⟨ht, hq, bx, by'⟩
    · exact b w (List.mem_of_mem_drop hw)
  exact ⟨by rw [upd_ne (out key.1)]; exact key.1, by rw [upd_ne (out key.2.1)]; exact key.2.1, key.2.2⟩
/-- while the plots are drawn -/
structure PInv (K : PySem.W.Frag) (C : Addr) (H : Hp) (d c ch ru fl al pl : Addr) (D : CD) (ra ba rd ht : Int) (fs : List (List Cn)) (acs : List (Option (Int × Int))) (n : Nat) (G : Hp) (ps : List (Pl × Int)) : Prop where
  S : St1 K G d c
  k : Keep d H G
  W : WPl C (msk [pl] G) ch ru fl al D ra ba rd ht fs acs
  P : PsAt G pl ps
  n : ps.length ≤ n
  ok : ∀ p ∈ ps, PlOk D (rd + ra) (ht + ba) fs acs p
theorem PInv.same (h : PInv K C H d c ch ru fl al pl D ra ba rd ht fs acs n G ps) (s : Same G G') : PInv K C H d c ch ru fl al pl D ra ba rd ht fs acs n G' ps := ⟨h.S.same s, h.k.trans (Keep.of s), h.W.same (msk_mono s), h.P.same s, h.n, h.ok⟩
theorem PInv.keep (h : PInv K C H d c ch ru fl al pl D ra ba rd ht fs acs n G ps) (nd : d ∉ [pl]) (nc : c ∉ [pl]) (n1 : ch ≠ d) (n2 : D.fx ≠ d) (n3 : ru ≠ d) (S' : St1 K G' d c) (k : Keep d G G') : PInv K C H d c ch ru fl al pl D ra ba rd ht fs acs n G' ps := ⟨S', h.k.trans k, h.W.keep (h.S.msk nd nc) (msk_keep k) n1 n2 n3, h.P.keep h.S k, h.n, h.ok⟩
theorem PInv.mono (h : PInv K C H d c ch ru fl al pl D ra ba rd ht fs acs n G ps) {m : Nat} (l : n ≤ m) : PInv K C H d c ch ru fl al pl D ra ba rd ht fs acs m G ps := ⟨h.S, h.k, h.W, h.P, Nat.le_trans h.n l, h.ok⟩
theorem PInv.ins (h : PInv K C H d c ch ru fl al pl D ra ba rd ht fs acs n G ps) (hH : H pl = none) (nd : pl ≠ d) (nc : pl ≠ c) {t q : Addr} {p : Pl} {z : Int} {xs : List V} (i : Nat) (hx : G pl = some (.lst xs)) (htt : G t = some (.tup [.ref q, .int z])) (hq : G q = some (PlT p)) (bx : BdN 46 p.x) (by' : BdN 46 p.y) (o : PlOk D (rd + ra) (ht + ba) fs acs (p, z)) : PInv K C H d c ch ru fl al pl D ra ba rd ht fs acs (n + 1) (upd G pl (.lst (xs.take i ++ [.ref t] ++ xs.drop i))) (ps.take i ++ [(p, z)] ++ ps.drop i) := by
  refine ⟨h.S.put nd nc, fun b o e nb => ?_, ?_, h.P.ins i hx htt hq bx by', ?_, fun w hw => ?_⟩
  · rw [upd_ne (ne_of_none e hH)]
    exact h.k _ _ e nb
  · rw [msk_put (by simp)]
    exact h.W
  · have := h.n
    rw [List.length_append, List.length_append, List.length_take, List.length_drop, List.length_singleton]
    omega
  · rcases List.mem_append.mp hw with hw | hw
    · rcases List.mem_append.mp hw with hw | hw
      · exact h.ok w (List.mem_of_mem_take hw)
      · rw [List.mem_singleton.mp hw]
        exact o
    · exact h.ok w (List.mem_of_mem_drop hw)
end
/-! masks: by what stands in a list -/
section
variable {C E l ch : Addr} {H : Hp} {D : CD} {cs : List Cn} {as : List Addr}
theorem FlAt.mskE (h : FlAt H l cs) (ok : ∀ c ∈ cs, CnOk C H D c) (C0 : ChartAt H ch D) (hE : H E = some (.lst (as.map V.ref))) (ha : ∀ a ∈ as, ∃ ys, H a = some (.lst ys)) (ne : l ≠ E) : FlAt (msk [E] H) l cs ∧ ∀ c ∈ cs, CnOk C (msk [E] H) D c := by
  obtain ⟨qs, a, b, e⟩ := h
  have out : ∀ {x : Addr} {ys : List V}, H x = some (.tup ys) → msk [E] H x = some (.tup ys) := fun w => msk_of w (by simpa using (ne_of w hE (by intro z; cases z)))
  have CQ : ∀ c ∈ cs, CnOk C (msk [E] H) D c := fun c hc => by
    have o := ok c hc
    have n2 := o.R.n2
    refine ⟨o.R, o.pos, path_msk o.P C0 o.R hE ha, out o.rt, msk_of o.hb ?_, o.bx⟩
    intro m
    obtain rfl := List.mem_singleton.mp m
    have hb := o.hb
    rw [hE] at hb
    have e1 := HO.lst.inj (Option.some.inj hb)
    have l1 : (as.map V.ref)[0]? = ((bgs D c.ns).map V.int)[0]? := by rw [e1]
    rw [List.getElem?_map, List.getElem?_map] at l1
    cases h0 : (bgs D c.ns)[0]? with
    | none =>
      rw [List.getElem?_eq_none_iff] at h0
      have bl := bgs_len (D := D) (ns := c.ns)
      rw [List.length_map] at bl
      omega
    | some v =>
      rw [h0] at l1
      cases h1 : as[0]? with
      | none => rw [h1] at l1; cases l1
      | some w => rw [h1] at l1; cases l1
  refine ⟨⟨qs, msk_of a (by simpa using ne), fun q hq => ?_, e⟩, CQ⟩
  obtain ⟨b1, b2⟩ := b q hq
  refine ⟨msk_of b1 ?_, out b2⟩
  intro m
  obtain rfl := List.mem_singleton.mp m
  rw [hE] at b1
  have e1 := HO.lst.inj (Option.some.inj b1)
  cases as with
  | nil => cases e1
  | cons x as =>
    have e2 := V.ref.inj (List.cons.inj e1).1
    obtain ⟨ys, hy⟩ := ha x List.mem_cons_self
    have hc : q.2.2 ∈ cs := by rw [← e]; exact List.mem_map.mpr ⟨q, hq, rfl⟩
    have := (ok _ hc).rt
    rw [← e2, hy] at this
    cases this
theorem FlAt.mskS {ow : Addr} {ss : List Str} (h : FlAt H l cs) (ne : cs ≠ []) (ho : H ow = some (.lst (ss.map V.str))) : FlAt (msk [ow] H) l cs := by
  obtain ⟨qs, a, b, e⟩ := h
  have out : ∀ {x : Addr} {v : V} {ys : List V}, H x = some (.lst (v :: ys)) → (∀ s, v ≠ .str s) → x ∉ [ow] := fun {x v ys} w n m => by
    obtain rfl := List.mem_singleton.mp m
    rw [ho] at w
    have e1 := HO.lst.inj (Option.some.inj w)
    cases ss with
    | nil => cases e1
    | cons s ss => exact n s (List.cons.inj e1).1.symm
  refine ⟨qs, msk_of a ?_, fun q hq => ?_, e⟩
  · cases qs with
    | nil => exact absurd e.symm ne
    | cons q qs => exact out a (fun s z => nomatch z)
  · obtain ⟨b1, b2⟩ := b q hq
    exact ⟨msk_of b1 (out b1 (fun s z => nomatch z)), msk_of b2 (by simpa using (ne_of b2 ho (by intro z; cases z)))⟩
end
/-! what stays true of the flights while they are given their plots -/
def SubF (fs cur : List (List Cn)) : Prop := cur.length = fs.length ∧ ∀ (j : Nat) (cs' : List Cn), cur[j]? = some cs' → ∀ c' ∈ cs', ∃ cs c, fs[j]? = some cs ∧ c ∈ cs ∧ Sub c' c
def InF (D : CD) (fs cur : List (List Cn)) (acs : List (Option (Int × Int))) : Prop := ∀ (j : Nat) (pr lv : Int) (c0 : Cn) (cs : List Cn), acs[j]? = some (some (pr, lv)) → fs[j]? = some (c0 :: cs) → ∃ cs' c, cur[j]? = some cs' ∧ c ∈ cs' ∧ Sub c c0 ∧ InCn D c pr lv
def SepF (D : CD) (r : RuD) (n : Nat) (fs : List (List Cn)) : Prop := ∀ (a b : Nat) (xs ys : List Cn), b < a → a < n → fs[a]? = some xs → fs[b]? = some ys → ∀ x ∈ xs, ∀ y ∈ ys, SepC D r x y
section
variable {C : Addr} {B : Hp} {D : CD} {m w : Int} {fs cur : List (List Cn)} {acs : List (Option (Int × Int))} {p : Pl} {r : RuD}
theorem SubF.refl (fs : List (List Cn)) : SubF fs fs := ⟨rfl, fun j cs' h c' hc => ⟨cs', c', h, hc, Sub.refl c'⟩⟩
theorem fitC_in {c c' : Cn} (e : fitC D m w p c = some c') : Sub c' c := (fitC_sub (fit_ex D c.ns p.x p.y m c.B.lo c.B.hi (dnF c.B.dn p.z w) (upF c.B.up p.z w)) e).1
theorem give_get {i : Nat} (e : firstF D m w p cur = some i) (j : Nat) : (give D m w p cur)[j]? = if i = j then (cur[j]?).map (fun cs => cs.filterMap (fitC D m w p)) else cur[j]? := by
  obtain ⟨hi, _, _⟩ := firstF_spec e
  rw [give_some e hi, List.getElem?_set]
  split
  · rename_i h
    subst h
    first
      | rw [if_pos hi, List.getElem?_eq_getElem hi]; rfl
      | rw [List.getElem?_eq_getElem hi]; rfl
  · rfl
theorem SubF.give (h : SubF fs cur) : SubF fs (give D m w p cur) := by
  refine ⟨by rw [give_len]; exact h.1, fun j cs' hj c' hc => ?_⟩
  cases e : firstF D m w p cur with
  | none =>
    rw [give_none e] at hj
    exact h.2 j cs' hj c' hc
  | some i =>
    rw [give_get e] at hj
    split at hj
    · cases e0 : cur[j]? with
      | none => rw [e0] at hj; cases hj
      | some cs =>
        rw [e0] at hj
        have hj := Option.some.inj hj
        rw [← hj] at hc
        obtain ⟨c, hc1, hc2⟩ := List.mem_filterMap.mp hc
        obtain ⟨cs0, c0, a1, a2, a3⟩ := h.2 j cs e0 c hc1
        exact ⟨cs0, c0, a1, a2, (fitC_in hc2).trans a3⟩
    · exact h.2 j cs' hj c' hc
theorem give_keeps {B : Hp} (h : ∀ cs ∈ cur, cs ≠ [] ∧ cs.length ≤ 100 ∧ ∀ c ∈ cs, CnOk C B D c) : ∀ cs ∈ give D m w p cur, cs ≠ [] ∧ cs.length ≤ 100 ∧ ∀ c ∈ cs, CnOk C B D c := by
  intro cs hcs
  cases e : firstF D m w p cur with
  | none =>
    rw [give_none e] at hcs
    exact h cs hcs
  | some i =>
    obtain ⟨hi, h1, _⟩ := firstF_spec e
    rw [give_some e hi] at hcs
    rcases List.mem_or_eq_of_mem_set hcs with hcs | rfl
    · exact h cs hcs
    · obtain ⟨_, a2, a3⟩ := h _ (List.getElem_mem hi)
      refine ⟨h1, Nat.le_trans (List.length_filterMap_le _ _) a2, fun c hc => ?_⟩
      obtain ⟨c0, hc0, e0⟩ := List.mem_filterMap.mp hc
      exact fitC_ok (a3 c0 hc0) e0
theorem give_right {j : Nat} {pr lv : Int} {c0 : Cn} {cs : List Cn} (bd : Bd D) (ok : ∀ cs ∈ fs, ∀ c ∈ cs, CnOk C B D c) (m0 : 0 ≤ m) (hm : 2 * m < r.la + 2 * r.ra) (hw : 2 * w < r.ve + 2 * r.ba) (sep : SepF D r fs.length fs) (sub : SubF fs cur) (inn : InF D fs cur acs)
    (ha : acs[j]? = some (some (pr, lv))) (hf : fs[j]? = some (c0 :: cs)) (hin : InCn D c0 pr lv) (t : TrueP D c0.ns m w p pr lv) : firstF D m w p cur = some j := by
  obtain ⟨cs', c, e1, hc, sc, ic⟩ := inn j pr lv c0 cs ha hf
  have hjl : j < cur.length := (List.getElem?_eq_some_iff.mp e1).1
  have ej : cur[j] = cs' := (List.getElem?_eq_some_iff.mp e1).2
  have tc : TrueP D c.ns m w p pr lv := by rw [sc.ns]; exact t
  obtain ⟨o, ho⟩ := fit_ex D c.ns p.x p.y m c.B.lo c.B.hi (dnF c.B.dn p.z w) (upF c.B.up p.z w)
  obtain ⟨c', ec, _, _⟩ := true_keeps ic tc ho
  have nej : cur[j].filterMap (fitC D m w p) ≠ [] := by
    rw [ej]
    exact List.ne_nil_of_mem (List.mem_filterMap.mpr ⟨c, hc, ec⟩)
  cases e : firstF D m w p cur with
  | none =>
    exfalso
    unfold firstF at e
    rw [List.findIdx?_eq_none_iff] at e
    have := e _ (List.getElem_mem hjl)
    simp at this
    exact nej (List.filterMap_eq_nil_iff.mpr this)
  | some i =>
    obtain ⟨hi, h1, h2⟩ := firstF_spec e
    rcases Nat.lt_trichotomy i j with lt | eq | gt
    · exfalso
      obtain ⟨y, hy⟩ := List.exists_mem_of_ne_nil _ h1
      obtain ⟨c2, hc2, ec2⟩ := List.mem_filterMap.mp hy
      obtain ⟨cs0, c3, a1, a2, a3⟩ := sub.2 i cur[i] (List.getElem?_eq_getElem hi) c2 hc2
      obtain ⟨s2, q, iq, d0, d1, w0, w1⟩ := fitC_sub (fit_ex D c2.ns p.x p.y m c2.B.lo c2.B.hi (dnF c2.B.dn p.z w) (upF c2.B.up p.z w)) ec2
      have ok0 := ok _ (List.mem_of_getElem? hf) c0 List.mem_cons_self
      have ok3 := ok _ (List.mem_of_getElem? a1) c3 a2
      have hjf : j < fs.length := (List.getElem?_eq_some_iff.mp hf).1
      have iq3 : InS D c3.ns p.x p.y m c3.B.lo c3.B.hi q := by
        obtain ⟨q0, q1, q2, q3, q4⟩ := iq
        rw [a3.ns] at q1 q4
        exact ⟨q0, q1, Int.le_trans a3.lo q2, Int.le_trans q3 a3.hi, q4⟩
      exact not_both bd ok0.pos ok3.pos ok0.R ok3.R m0 hm hw (sep j i _ _ lt hjf hf a1 c0 List.mem_cons_self c3 a2) ok0.bx ok3.bx hin t iq3 (Int.le_trans a3.dn d0) (Int.le_trans d1 a3.up) w0 w1
    · rw [eq]
    · exact absurd (h2 j gt) nej
theorem InF.give {j : Nat} {pr lv : Int} {c0 : Cn} {cs : List Cn} (inn : InF D fs cur acs) (e : firstF D m w p cur = some j)
    (ha : acs[j]? = some (some (pr, lv))) (hf : fs[j]? = some (c0 :: cs)) (t : TrueP D c0.ns m w p pr lv) : InF D fs (give D m w p cur) acs := by
  intro i pr' lv' c1 cs1 h1 h2
  obtain ⟨cs', c, e1, hc, sc, ic⟩ := inn i pr' lv' c1 cs1 h1 h2
  rw [give_get e]
  by_cases z : j = i
  · subst z
    rw [ha] at h1
    rw [hf] at h2
    cases h1
    cases h2
    have tc : TrueP D c.ns m w p pr lv := by rw [sc.ns]; exact t
    obtain ⟨o, ho⟩ := fit_ex D c.ns p.x p.y m c.B.lo c.B.hi (dnF c.B.dn p.z w) (upF c.B.up p.z w)
    obtain ⟨c', ec, s', i'⟩ := true_keeps ic tc ho
    rw [if_pos rfl, e1]
    exact ⟨_, c', rfl, List.mem_filterMap.mpr ⟨c, hc, ec⟩, s'.trans sc, i'⟩
  · rw [if_neg z]
    exact ⟨cs', c, e1, hc, sc, ic⟩
theorem InF.refl (h : ∀ (i : Nat) (z : Int × Int), acs[i]? = some (some z) → ∃ c0 cs, fs[i]? = some (c0 :: cs) ∧ InCn D c0 z.1 z.2) : InF D fs fs acs := by
  intro j pr lv c0 cs ha hf
  obtain ⟨c1, cs1, e1, i1⟩ := h j _ ha
  rw [hf] at e1
  cases e1
  exact ⟨_, c0, hf, List.mem_cons_self, Sub.refl _, i1⟩
end
end Sk
namespace Sk
open PySem PySem.Spec PyProof.Rows L2
/-- what k21's law draws first -/
structure W21 (K : PySem.W.Frag) (H : Hp) (d c ch ld ru : Addr) (D : CD) (r : RuD) (rd ht : Int) : Prop where
  S : St1 K H d c
  C0 : ChartAt H ch D
  L : LenAt H ld D
  RU : RuAt H ru r
  RQ : RqAt H ru r.ra r.ba rd ht
section
variable {K : PySem.W.Frag} {d c ch ld ru : Addr} {H H' : Hp} {D : CD} {r : RuD} {rd ht : Int}
theorem W21.same (h : W21 K H d c ch ld ru D r rd ht) (s : Same H H') : W21 K H' d c ch ld ru D r rd ht := ⟨h.S.same s, h.C0.same s, h.L.same s, h.RU.same s, h.RQ.same s⟩
theorem W21.keep (h : W21 K H d c ch ld ru D r rd ht) (n1 : ch ≠ d) (n2 : D.fx ≠ d) (n3 : ru ≠ d) (S' : St1 K H' d c) (k : Keep d H H') : W21 K H' d c ch ld ru D r rd ht := ⟨S', h.C0.keep h.S k n1 n2, h.L.keep h.S k, h.RU.keep k n3, h.RQ.keep k n3⟩
theorem keep_put {a : Addr} {o : HO} (k : Keep d H H') (hn : H a = none) : Keep d H (upd H' a o) := fun b x e nb => by
  rw [upd_ne (ne_of_none e hn)]
  exact k _ _ e nb
end
theorem str_small (i : Nat) (h : i < 4) : (0 + (i : Int)).natAbs.log2 < 1920 ∧ (Str.ofString (toString (0 + (i : Int)))).length ≤ 3 := by
  rcases (by omega : i = 0 ∨ i = 1 ∨ i = 2 ∨ i = 3) with rfl | rfl | rfl | rfl <;> exact ⟨by decide +kernel, by decide +kernel⟩
section
variable {K : PySem.W.Frag} {C d c fl : Addr} {H H' : Hp} {D : CD} {fs : List (List Cn)}
/-- the law's own flights -/
structure F21 (C : Addr) (H : Hp) (fl : Addr) (D : CD) (fs : List (List Cn)) : Prop where
  F : FsAt (msk [fl] H) H fl fs
  O : ∀ cs ∈ fs, cs ≠ [] ∧ cs.length ≤ 2 ∧ ∀ c ∈ cs, CnOk C (msk [fl] H) D c ∧ 20 ≤ c.B.dn ∧ c.B.dn ≤ 500 ∧ c.B.dn ≤ c.B.up ∧ c.B.up ≤ c.B.dn + 3
theorem F21.keep (h : F21 C H fl D fs) (S : St1 K H d c) (n1 : d ∉ [fl]) (n2 : c ∉ [fl]) (k : Keep d H H') : F21 C H' fl D fs := by
  obtain ⟨ls, h1, h2, h3⟩ := h.F
  have Sm := S.msk n1 n2
  have km := msk_keep (T := [fl]) k
  exact ⟨⟨ls, k.l S h1, fun q hq => (h2 q hq).keep Sm km, h3⟩, fun cs hcs => ⟨(h.O cs hcs).1, (h.O cs hcs).2.1, fun c hc => ⟨((h.O cs hcs).2.2 c hc).1.keep Sm km, ((h.O cs hcs).2.2 c hc).2⟩⟩⟩
theorem F21.same (h : F21 C H fl D fs) (s : Same H H') : F21 C H' fl D fs := by
  obtain ⟨ls, h1, h2, h3⟩ := h.F
  have m := msk_mono (T := [fl]) s
  exact ⟨⟨ls, s _ _ h1, fun q hq => (h2 q hq).same m, h3⟩, fun cs hcs => ⟨(h.O cs hcs).1, (h.O cs hcs).2.1, fun c hc => ⟨((h.O cs hcs).2.2 c hc).1.same m, ((h.O cs hcs).2.2 c hc).2⟩⟩⟩
theorem F21.ok (h : F21 C H fl D fs) : ∀ cs ∈ fs, cs ≠ [] ∧ ∀ c ∈ cs, CnOk C H D c := fun cs hcs => ⟨(h.O cs hcs).1, fun c hc => ((h.O cs hcs).2.2 c hc).1.same msk_same⟩
theorem AcP.put {v : V} {o : Option (Int × Int)} {al : Addr} {xs ys : List V} (h : AcP H v o) (e : H al = some (.lst xs)) : AcP (upd H al (.lst ys)) v o := by
  cases o with
  | none => exact h
  | some z => obtain ⟨q, e1, hq⟩ := h; exact ⟨q, e1, by rw [upd_ne (ne_of hq e (by intro z; cases z))]; exact hq⟩
end
section
variable {K : PySem.W.Frag} {C d c ch ru fl na al pl : Addr} {H H' : Hp} {D : CD} {r : RuD} {rd ht : Int} {fs : List (List Cn)} {acs : List (Option (Int × Int))} {ns : List Str} {ps : List (Pl × Int)}
theorem FsAt.get {M : Hp} (h : FsAt M H fl fs) {i : Nat} {xs : List Cn} (e : fs[i]? = some xs) : ∃ (vs : List V) (l : Addr), H fl = some (.lst vs) ∧ vs.length = fs.length ∧ vs[i]? = some (.ref l) ∧ FlAt M l xs := by
  obtain ⟨ls, h1, h2, h3⟩ := h
  rw [← h3, List.getElem?_map] at e
  cases e0 : ls[i]? with
  | none => rw [e0] at e; cases e
  | some q =>
    rw [e0] at e
    have e := Option.some.inj e
    refine ⟨_, q.1, h1, by rw [List.length_map, ← h3, List.length_map], by rw [List.getElem?_map, e0]; rfl, ?_⟩
    rw [← e]
    exact h2 q (List.mem_of_getElem? e0)
/-- what the flights' own list does not touch -/
structure M21 (H : Hp) (fl ch ru : Addr) (D : CD) (r : RuD) (rd ht : Int) : Prop where
  C0 : ChartAt (msk [fl] H) ch D
  RQ : RqAt (msk [fl] H) ru r.ra r.ba rd ht
theorem M21.of (C0 : ChartAt H ch D) (RQ : RqAt H ru r.ra r.ba rd ht) (S : St1 K H d c) (n1 : ch ≠ d) (n2 : D.fx ≠ d) (n3 : ru ≠ d) (k : Keep d H H') (hf : H fl = none) : M21 H' fl ch ru D r rd ht :=
  have km : Keep d H (msk [fl] H') := fun b o e nb => msk_of (k _ _ e nb) (by simpa using (ne_of_none e hf))
  ⟨C0.keep S km n1 n2, RQ.keep km n3⟩
theorem M21.keep (h : M21 H fl ch ru D r rd ht) (S : St1 K H d c) (m1 : d ∉ [fl]) (m2 : c ∉ [fl]) (n1 : ch ≠ d) (n2 : D.fx ≠ d) (n3 : ru ≠ d) (k : Keep d H H') : M21 H' fl ch ru D r rd ht := ⟨h.C0.keep (S.msk m1 m2) (msk_keep k) n1 n2, h.RQ.keep (msk_keep k) n3⟩
/-- all that the law has built -/
structure B21 (C : Addr) (H : Hp) (ch ru fl na al pl : Addr) (D : CD) (r : RuD) (rd ht : Int) (fs : List (List Cn)) (acs : List (Option (Int × Int))) (ns : List Str) (ps : List (Pl × Int)) : Prop where
  C0 : ChartAt H ch D
  RU : RuAt H ru r
  RQ : RqAt H ru r.ra r.ba rd ht
  F : F21 C H fl D fs
  N : H na = some (.lst (ns.map V.str))
  A : AcsAt H al acs
  P : PsAt H pl ps
  M : M21 H fl ch ru D r rd ht
theorem B21.same (h : B21 C H ch ru fl na al pl D r rd ht fs acs ns ps) (s : Same H H') : B21 C H' ch ru fl na al pl D r rd ht fs acs ns ps := ⟨h.C0.same s, h.RU.same s, h.RQ.same s, h.F.same s, s _ _ h.N, h.A.same s, h.P.same s, ⟨h.M.C0.same (msk_mono s), h.M.RQ.same (msk_mono s)⟩⟩
theorem same_msk {T : List Addr} (s : Same (msk T H) H') : Same (msk T H) (msk T H') := fun b o e => by
  refine msk_of (s _ _ e) ?_
  intro m
  unfold msk at e
  rw [if_pos m] at e
  cases e
theorem same_put {fl ow : Addr} {o : HO} (n : ow ≠ fl) : Same (msk [ow] (msk [fl] H)) (msk [fl] (upd H ow o)) := fun b x e => by
  unfold msk at *
  split at e
  · cases e
  · rename_i h
    split at e
    · cases e
    · rename_i h2
      rw [if_neg h2, upd_ne (by simpa using h)]
      exact e
theorem FsAt.putS {ow : Addr} {ss : List Str} {o : HO} {cur : List (List Cn)} (h : FsAt (msk [fl] H) H fl cur) (ne : ∀ cs ∈ cur, cs ≠ []) (n : ow ≠ fl) (ho : H ow = some (.lst (ss.map V.str))) : FsAt (msk [fl] (upd H ow o)) (upd H ow o) fl cur := by
  obtain ⟨ls, h1, h2, h3⟩ := h
  refine ⟨ls, by rw [upd_ne n.symm]; exact h1, fun q hq => ?_, h3⟩
  exact ((h2 q hq).mskS (ne _ (by rw [← h3]; exact List.mem_map.mpr ⟨q, hq, rfl⟩)) (msk_of ho (by simpa using n))).same (same_put n)
theorem FoAt.mskL {fo : Addr} {nfs : List (Str × List Cn)} {as : List Addr} (h : FoAt H H fo nfs) (ne : nfs ≠ []) (nn : ∀ nf ∈ nfs, nf.2 ≠ []) (hF : H fl = some (.lst (as.map V.ref))) (ha : ∀ a ∈ as, ∃ ys, H a = some (.lst ys)) : FoAt (msk [fl] H) (msk [fl] H) fo nfs := by
  obtain ⟨ls, h1, h2, h3⟩ := h
  have tup : ∀ {x : Addr} {ys : List V}, H x = some (.tup ys) → msk [fl] H x = some (.tup ys) := fun w => msk_of w (by simpa using (ne_of w hF (by intro z; cases z)))
  have out : ∀ {x a : Addr} {ys vs : List V}, H x = some (.lst (V.ref a :: vs)) → H a = some (.tup ys) → x ∉ [fl] := fun {x a ys vs} w t m => by
    obtain rfl := List.mem_singleton.mp m
    rw [hF] at w
    have e1 := HO.lst.inj (Option.some.inj w)
    cases as with
    | nil => cases e1
    | cons b as =>
      have e2 := V.ref.inj (List.cons.inj e1).1
      obtain ⟨zs, hz⟩ := ha b List.mem_cons_self
      rw [e2, t] at hz
      cases hz
  refine ⟨ls, msk_of h1 ?_, fun q hq => ?_, h3⟩
  · cases ls with
    | nil => exact absurd h3.symm ne
    | cons q ls => exact out h1 (h2 q List.mem_cons_self).1
  · obtain ⟨b1, qs, p1, p2, p3⟩ := h2 q hq
    have n2 : q.2.2.2 ≠ [] := nn q.2.2 (by rw [← h3]; exact List.mem_map.mpr ⟨q, hq, rfl⟩)
    refine ⟨tup b1, qs, msk_of p1 ?_, fun z hz => ⟨tup (p2 z hz).1, tup (p2 z hz).2⟩, p3⟩
    cases qs with
    | nil => exact absurd p3.symm n2
    | cons z qs => exact out p1 (p2 z List.mem_cons_self).1
theorem strs_ne {nm : Addr} {ss : List Str} {as : List Addr} (h : H nm = some (.lst (ss.map V.str))) (hF : H fl = some (.lst (as.map V.ref))) (ne : as ≠ []) : nm ≠ fl := fun z => by
  rw [z, hF] at h
  have e1 := HO.lst.inj (Option.some.inj h)
  cases as with
  | nil => exact ne rfl
  | cons a as =>
    cases ss with
    | nil => cases e1
    | cons s ss => cases (List.cons.inj e1).1
theorem AcP.msk {v : V} {o : Option (Int × Int)} {xs : List V} (h : AcP H v o) (e : H fl = some (.lst xs)) : AcP (msk [fl] H) v o := by
  cases o with
  | none => exact h
  | some z => obtain ⟨q, e1, hq⟩ := h; exact ⟨q, e1, msk_of hq (by simpa using (ne_of hq e (by intro z; cases z)))⟩
/-- what the loop over the plots carries -/
theorem runF_ok {B : Hp} {m w : Int} (h : ∀ cs ∈ fs, cs ≠ [] ∧ cs.length ≤ 100 ∧ ∀ c ∈ cs, CnOk C B D c) (l : List Pl) : ∀ cs ∈ runF D m w l fs, cs ≠ [] ∧ cs.length ≤ 100 ∧ ∀ c ∈ cs, CnOk C B D c := by
  induction l generalizing fs with
  | nil => exact h
  | cons p l ih => exact ih (give_keeps h)
theorem runF_sub {m w : Int} (l : List Pl) : SubF fs (runF D m w l fs) := by
  have key : ∀ (l : List Pl) (cur : List (List Cn)), SubF fs cur → SubF fs (runF D m w l cur) := by
    intro l
    induction l with
    | nil => intro cur h; exact h
    | cons p l ih => intro cur h; exact ih _ h.give
  exact key l fs (SubF.refl fs)
end
theorem Alike.same {H H' : Hp} (s : Same H H') : ∀ {n : Nat} {x y : V}, Alike H n x y → Alike H' n x y := by
  intro n x y h
  induction h with
  | flat f => exact .flat f
  | ref => exact .ref
  | lst ha hb hl _ ih => exact .lst (s _ _ ha) (s _ _ hb) hl ih
  | tup ha hb hl _ ih => exact .tup (s _ _ ha) (s _ _ hb) hl ih
/-- a flight and its copy -/
theorem alike_copy {H : Hp} {u u' l l' : Addr} {n : Str} {as : List Addr} (h1 : H u = some (.tup [.str n, .ref l])) (h2 : H u' = some (.tup [.str n, .ref l'])) (h3 : H l = some (.lst (as.map V.ref))) (h4 : H l' = some (.lst (as.map V.ref))) : Alike H 2 (.ref u) (.ref u') := by
  refine .tup h1 h2 rfl fun i x y hx hy => ?_
  match i, hx, hy with
  | 0, hx, hy =>
    cases hx
    cases hy
    exact .flat rfl
  | 1, hx, hy =>
    cases hx
    cases hy
    refine .lst h3 h4 rfl fun j x y hx hy => ?_
    rw [hx] at hy
    cases hy
    rw [List.getElem?_map] at hx
    cases e : as[j]? with
    | none => rw [e] at hx; cases hx
    | some a =>
      rw [e] at hx
      cases hx
      exact .ref
  | i + 2, hx, hy => cases hx
theorem owns_len {D : CD} {m w : Int} : ∀ (l : List Pl) (fs : List (List Cn)), (owns D m w l fs).length = l.length
  | [], fs => rfl
  | p :: l, fs => by
    show (owns D m w l _).length + 1 = _
    rw [owns_len l]
    rfl
end Sk

set_option Elab.async false
set_option linter.all false
set_option maxRecDepth 100000
set_option maxHeartbeats 4000000
namespace Sk
open PySem PySem.Spec PyProof.Rows L2
local macro_rules | `(tactic| walk_at "ms") => `(tactic| first | exact .inl ⟨by decide, by decide⟩ | exact .inl ⟨by omega, by omega⟩ | exact .inr ⟨by omega, by omega⟩ | exact wm (by omega) (by omega) | exact log_of (by omega) (by omega) | (show (0:Int) < _; omega) | exact ⟨by decide, by decide, by decide⟩)
section
variable {P : Program} {w : World} {K : PySem.W.Frag} {mg : Str → Option Value} {base : Heap}
abbrev s_law_plots : Stmt := top 58
theorem sc_law_plots : FnScope ["state", "chart", "rules", "flights", "aircraft", "plots", "index", "route", "begins", "path", "box", "progress", "level", "place", "k", "plot", "stray"] ["state", "chart", "rules", "flights", "aircraft"] (defScope s_law_plots) := ⟨rfl, rfl, rfl, by decide +kernel, rfl, by decide +kernel, by decide +kernel⟩
theorem ok_law_plots {f : Addr} {fd : FuncData} (F : Fun K "_law_plots" "_law_plots" s_law_plots f fd) (T : TxtA mg) {C : Addr}
    (D_law_draw : Def P w K mg base 1 "_law_draw" ["state", "bound"] (spDraw K))
    (D_law_place_on : Def P w K mg base 1 "_law_place_on" ["chart", "route", "begins", "k", "progress"] (spPlaceOn))
    (D_law_leg_at : Def P w K mg base 1 "_law_leg_at" ["begins", "progress"] (spLawLegAt))
    (D_law_true_plot : Def P w K mg base 3 "_law_true_plot" ["state", "rules", "place", "level"] (spTruePlot K))
    (D_law_allowed : Def P w K mg base 2 "_law_allowed" ["chart", "route", "begins", "progress", "plot", "limit"] (spAllowed)) : FnOk P w K mg base CX0 4 f fd ["state", "chart", "rules", "flights", "aircraft"] (spPlots K C) := by
  refine F.ok sc_law_plots (fun vs H Q E h => ?_) (fun cdv A outer s H vs Q E hr h => ?_)
  · obtain ⟨_, _, _, _, _, _, _, _, _, _, _, _, _, rfl, _⟩ := h
    rfl
  · obtain ⟨d, c, ch, ru, fl, al, D, ra, ba, rd, ht, fs, acs, rfl, S, C0, n1, n2, RQ, n3, rd9, ra9, FS, ok, nl, AC, acl, ain, k⟩ := h
    have hu := hu_of hr
    refine ⟨_, (pss_cons (ps_set (i := 5) sc_law_plots.nd rfl (Or.inl rfl) (pe_lst pa_nil))
    (pss_cons (ps_for PassesOwn.never rfl (pi_range1 (by rfl) T.range (pa_cons (pe_callB (r := rLenK K) call_len_seq (by rfl) T.len boot_len (pa_cons (pv 3) pa_nil)) pa_nil)) (pg_name (i := 6) sc_law_plots.nd rfl (Or.inl rfl))
      (pss_cons (ps_if (pt_cmpR op_notN (pe_ix (r := rIxL K) ix_list (pv 4) (pv 6) (fun _ _ => rfl)) pe_non (nomark _)) (pss_cons (ps_asg (pe_ix (r := rIxL K) ix_list (pe_ix (r := rIxL K) ix_list (pv 3) (pv 6) (fun _ _ => rfl)) pe_int (fun _ _ => rfl)) (pg_lst (by rfl) (pgs_cons (pg_name (i := 7) sc_law_plots.nd rfl (Or.inl rfl)) (pgs_cons (pg_name (i := 8) sc_law_plots.nd rfl (Or.inl rfl)) (pgs_cons (pg_name (i := 9) sc_law_plots.nd rfl (Or.inl rfl)) (pgs_cons (pg_name (i := 10) sc_law_plots.nd rfl (Or.inl rfl)) pgs_nil))))))
    (pss_cons (ps_asg (pe_ix (r := rIxL K) ix_list (pv 4) (pv 6) (fun _ _ => rfl)) (pg_tup (by rfl) (pgs_cons (pg_name (i := 11) sc_law_plots.nd rfl (Or.inl rfl)) (pgs_cons (pg_name (i := 12) sc_law_plots.nd rfl (Or.inl rfl)) pgs_nil))))
    (pss_cons (ps_set (i := 13) sc_law_plots.nd rfl (Or.inl rfl) (pe_def D_law_place_on (hr.mono (by decide)) (by rfl) (pa_cons (pv 1) (pa_cons (pv 7) (pa_cons (pv 8) (pa_cons (pe_def D_law_leg_at (hr.mono (by decide)) (by rfl) (pa_cons (pv 8) (pa_cons (pv 11) pa_nil))) (pa_cons (pv 11) pa_nil)))))))
    (pss_one (ps_for PassesOwn.never rfl (pi_range1 (by rfl) T.range (pa_cons (pe_def D_law_draw (hr.mono (by decide)) (by rfl) (pa_cons (pv 0) (pa_cons pe_int pa_nil))) pa_nil)) (pg_name (i := 14) sc_law_plots.nd rfl (Or.inl rfl))
      (pss_cons (ps_set (i := 15) sc_law_plots.nd rfl (Or.inl rfl) (pe_def D_law_true_plot (hr.mono (by decide)) (by rfl) (pa_cons (pv 0) (pa_cons (pv 2) (pa_cons (pv 13) (pa_cons (pv 12) pa_nil))))))
    (pss_one (ps_if (pt_val (pe_def D_law_allowed (hr.mono (by decide)) (by rfl) (pa_cons (pv 1) (pa_cons (pv 7) (pa_cons (pv 8) (pa_cons (pv 11) (pa_cons (pv 15) (pa_cons (pe_op op_add (pe_dget hu (pv 2) pe_str (fun _ _ => rfl)) (pe_dget hu (pv 2) pe_str (fun _ _ => rfl))) pa_nil)))))))) (pss_one (ps_expr (pe_bm PySem.F.plainAttrs_list PySem.F.slot_list_insert PySem.F.type_list_insert mt_insert (pv 5) (pa_cons (pe_def D_law_draw (hr.mono (by decide)) (by rfl) (pa_cons (pv 0) (pa_cons (pe_op op_add (pe_callB (r := rLenK K) call_len_seq (by rfl) T.len boot_len (pa_cons (pv 5) pa_nil)) pe_int) pa_nil))) (pa_cons (pe_tup (pa_cons (pv 15) (pa_cons (pv 6) pa_nil))) pa_nil)))))
      pss_nil))))))))
      pss_nil)
    (pss_one (ps_if (pt_cmpR op_eq (pe_def D_law_draw (hr.mono (by decide)) (by rfl) (pa_cons (pv 0) (pa_cons pe_int pa_nil))) pe_int (nomark _)) (pss_cons (ps_set (i := 16) sc_law_plots.nd rfl (Or.inl rfl) (pe_tup (pa_cons (pe_op op_sub (pe_def D_law_draw (hr.mono (by decide)) (by rfl) (pa_cons (pv 0) (pa_cons pe_int pa_nil))) pe_int) (pa_cons (pe_op op_sub (pe_def D_law_draw (hr.mono (by decide)) (by rfl) (pa_cons (pv 0) (pa_cons pe_int pa_nil))) pe_int) (pa_cons (pe_def D_law_draw (hr.mono (by decide)) (by rfl) (pa_cons (pv 0) (pa_cons pe_int pa_nil))) pa_nil)))))
    (pss_one (ps_expr (pe_bm PySem.F.plainAttrs_list PySem.F.slot_list_insert PySem.F.type_list_insert mt_insert (pv 5) (pa_cons (pe_def D_law_draw (hr.mono (by decide)) (by rfl) (pa_cons (pv 0) (pa_cons (pe_op op_add (pe_callB (r := rLenK K) call_len_seq (by rfl) T.len boot_len (pa_cons (pv 5) pa_nil)) pe_int) pa_nil))) (pa_cons (pe_tup (pa_cons (pv 16) (pa_cons (pe_un un_neg pe_int) pa_nil))) pa_nil))))))
      pss_nil))))
    (pss_one (ps_ret (pv 5))))), ?_⟩
    rw [show L2.start ["state", "chart", "rules", "flights", "aircraft", "plots", "index", "route", "begins", "path", "box", "progress", "level", "place", "k", "plot", "stray"] [V.ref d, V.ref ch, V.ref ru, V.ref fl, V.ref al] = [some (V.ref d), some (V.ref ch), some (V.ref ru), some (V.ref fl), some (V.ref al), none, none, none, none, none, none, none, none, none, none, none, none] from rfl]
    refine ⟨szOk rfl, fun pl hpl => ?_⟩
    refine nm ?_
    dsimp only [List.set]
    have npd : pl ≠ d := S.nd hpl
    have npc : pl ≠ c := S.nc hpl
    have nd : d ∉ [pl] := by simpa using npd.symm
    have nc : c ∉ [pl] := by simpa using npc.symm
    have s0 := same_new (o := .lst []) hpl
    have I0 : PInv K C H d c ch ru fl al pl D ra ba rd ht fs acs 0 (upd H pl (.lst [])) [] := ⟨S.new hpl, Keep.of s0, by
      refine WPl.same (H := H) ⟨C0, RQ, FS, fun cs hcs => (ok cs hcs).2, AC⟩ fun b o e => msk_of (s0 _ _ e) (by simpa using (ne_of_none e hpl)), ⟨[], upd_same, (by intro q hq; cases hq), rfl⟩, Nat.le_refl _, by intro p hp; cases hp⟩
    generalize upd H pl (.lst []) = G0 at I0 ⊢
    obtain ⟨ls, h1, h2, h3⟩ := FS
    have ll : ls.length = fs.length := by rw [← h3, List.length_map]
    have lm : (ls.map fun q => V.ref q.1).length = fs.length := by rw [List.length_map, ll]
    have fget : ∀ j (h : j < ls.length), fs[j]'(by omega) = ls[j].2 := fun j h => by
      simp only [← h3, List.getElem_map]
    obtain ⟨vs, g1, g2, g3⟩ := AC
    have vl : vs.length = acs.length := by rw [← g3, List.length_map]
    have aget : ∀ j (h : j < vs.length), acs[j]'(by omega) = vs[j].2 := fun j h => by
      simp only [← g3, List.getElem_map]
    have hflG : ∀ G, Keep d H G → G fl = some (.lst (ls.map fun q => V.ref q.1)) := fun G k => k.l S h1
    have halG : ∀ G, Keep d H G → G al = some (.lst (vs.map fun z => z.1)) := fun G k => k.l S g1
    refine ⟨_, rfl, _, _, rfl, .inl (.inl (.inl (hflG _ I0.k))), _, rfl, by rw [lm]; omega, by rw [lm]; omega, for_range (n := (((ls.map fun q => V.ref q.1).length : Nat) : Int).toNat) (fun i σ G => ∃ (v6 v7 v8 v9 v10 v11 v12 v13 v14 v15 v16 : Option V) (ps : List (Pl × Int)), σ = [some (.ref d), some (.ref ch), some (.ref ru), some (.ref fl), some (.ref al), some (.ref pl), v6, v7, v8, v9, v10, v11, v12, v13, v14, v15, v16] ∧ PInv K C H d c ch ru fl al pl D ra ba rd ht fs acs (3 * i) G ps)
      ⟨none, none, none, none, none, none, none, none, none, none, none, [], rfl, I0⟩ ?_ ?_⟩
    rotate_left
    · rintro σ G ⟨v6, v7, v8, v9, v10, v11, v12, v13, v14, v15, v16, ps, rfl, I⟩
      refine ⟨_, rfl, k pl ps G hpl I.P ?_ I.ok I.S I.k⟩
      have := I.n
      rw [lm] at this
      omega
    clear I0
    rintro i σ G hi ⟨v6, v7, v8, v9, v10, v11, v12, v13, v14, v15, v16, ps, rfl, I⟩
    have hin : i < fs.length := by rw [lm] at hi; omega
    have hil : i < ls.length := by omega
    have hiv : i < vs.length := by omega
    have him : i < (ls.map fun q => V.ref q.1).length := by omega
    rw [Int.zero_add]
    refine nm ?_
    dsimp only [List.set]
    refine cut (t := tIfS _ _ _) (fun σ' G => ∃ (v7 v8 v9 v10 v11 v12 v13 v14 v15 v16 : Option V) (ps : List (Pl × Int)), σ' = [some (.ref d), some (.ref ch), some (.ref ru), some (.ref fl), some (.ref al), some (.ref pl), some (.int (i : Nat)), v7, v8, v9, v10, v11, v12, v13, v14, v15, v16] ∧ PInv K C H d c ch ru fl al pl D ra ba rd ht fs acs (3 * i + 2) G ps) ?_ (fun rest => ?_)
    · clear I
      rintro σ' G ⟨v7, v8, v9, v10, v11, v12, v13, v14, v15, v16, ps, rfl, I⟩
      refine ⟨_, rfl, d, c, 5, rfl, I.S, (by omega), (by omega), fun x1 G1 x1a x1b S1 kp1 => ⟨rfl, _, rfl, ?_⟩⟩
      have I1 := I.keep nd nc n1 n2 n3 S1 kp1
      by_cases e1 : x1 = 0
      rotate_left
      · refine eqN e1 ?_
        exact ⟨_, _, _, _, _, _, _, _, _, _, _, _, rfl, I1.mono (by omega)⟩
      refine eqY e1 ?_
      refine ⟨_, rfl, d, c, 90, rfl, I1.S, (by omega), (by omega), fun x2 G2 x2a x2b S2 kp2 => ?_⟩
      have I2 := I1.keep nd nc n1 n2 n3 S2 kp2
      refine ⟨_, _, rfl, rfl, _, rfl, d, c, 90, rfl, I2.S, (by omega), (by omega), fun x3 G3 x3a x3b S3 kp3 => ?_⟩
      have I3 := I2.keep nd nc n1 n2 n3 S3 kp3
      refine ⟨_, _, rfl, rfl, _, rfl, d, c, 60, rfl, I3.S, (by omega), (by omega), fun x4 G4 x4a x4b S4 kp4 => ?_⟩
      have I4 := I3.keep nd nc n1 n2 n3 S4 kp4
      refine ⟨szOk rfl, fun q hq => ?_⟩
      have s5 := same_new (o := .tup [.int (x2 - 45), .int (x3 - 45), .int x4]) hq
      have I5 := I4.same s5
      have hq5 : (upd G4 q (.tup [.int (x2 - 45), .int (x3 - 45), .int x4])) q = some (PlT ⟨x2 - 45, x3 - 45, x4⟩) := upd_same
      generalize upd G4 q (.tup [.int (x2 - 45), .int (x3 - 45), .int x4]) = G5 at I5 hq5 ⊢
      clear I I1 I2 I3 I4 s5 kp1 kp2 kp3 kp4 S1 S2 S3 S4
      refine nm ?_
      dsimp only [List.set]
      obtain ⟨xs, hx, hxl⟩ := I5.P.li
      have pn := I5.n
      refine ⟨_, rfl, .inl ⟨rfl, _, .inl (.inl hx)⟩, _, rfl, _, rfl, _, _, rfl, .inl (.inl (.inl hx)), _, _, rfl, rfl, d, c, _, rfl, I5.S, (by omega), (by omega), fun x5 G6 x5a x5b S6 kp6 => ?_⟩
      have I6 := I5.keep nd nc n1 n2 n3 S6 kp6
      have hq6 := kp6.t I5.S hq5
      have hx6 := kp6.l I5.S hx
      refine ⟨_, rfl, _, rfl, szOk rfl, fun t ht' => ?_⟩
      have s7 := same_new (o := .tup [.ref q, .int (-1)]) ht'
      have I7 := I6.same s7
      refine ⟨_, _, x5, _, rfl, rfl, s7 _ _ hx6, small1000 (by omega), x5a, (by omega), ?_⟩
      exact ⟨_, _, _, _, _, _, _, _, _, _, _, _, rfl, I7.ins hpl npd npc x5.toNat (s7 _ _ hx6) upd_same (s7 _ _ hq6) (BdN.of (by show -(70368744177664 : Int) ≤ _; dsimp only; omega) (by show _ ≤ (70368744177664 : Int); dsimp only; omega)) (BdN.of (by show -(70368744177664 : Int) ≤ _; dsimp only; omega) (by show _ ≤ (70368744177664 : Int); dsimp only; omega)) (.inl rfl)⟩
    have hva := atI_nat (xs := vs.map fun z => z.1) (j := i) (v := vs[i].1) (mapAt hiv)
    have hac := (g2 _ (List.getElem_mem hiv)).keep S I.k
    refine ⟨_, rfl, _, rfl, _, _, _, _, rfl, rfl, .inl (.inl (halG _ I.k)), hva, ?_⟩
    refine ⟨rfl, _, rfl, ?_⟩
    have eac : acs[i]? = some vs[i].2 := by rw [List.getElem?_eq_getElem (by omega), aget i hiv]
    generalize hvv : vs[i].1 = va at hva hac ⊢
    cases ev : vs[i].2 with
    | none =>
      rw [ev] at hac
      have hac : va = .non := hac
      refine ifNotY hac ?_
      exact rest _ _ ⟨_, _, _, _, _, _, _, _, _, _, _, rfl, I.mono (by omega)⟩
    | some z =>
      rw [ev] at hac eac
      obtain ⟨qa, rfl, hqa⟩ := hac
      obtain ⟨c0, cs, efs, IC, lv0, lv1⟩ := ain i z eac
      refine ifNotN (fun z => nomatch z) ?_
      have efs' : ls[i].2 = c0 :: cs := by
        rw [List.getElem?_eq_getElem hin, fget i hil] at efs
        exact Option.some.inj efs
      have hfl := (h2 _ (List.getElem_mem hil)).keep S I.k
      rw [efs'] at hfl
      have hcm : c0 :: cs ∈ fs := List.mem_of_getElem? efs
      have CO := (ok _ hcm).2 c0 List.mem_cons_self
      obtain ⟨pr, lv⟩ := z
      dsimp only at hqa IC lv0 lv1
      obtain ⟨qs, f1, f2, f3⟩ := hfl
      obtain ⟨q0, rst, rfl, eq0⟩ : ∃ q0 rst, qs = q0 :: rst ∧ q0.2.2 = c0 := by
        cases qs with
        | nil => cases f3
        | cons q r => exact ⟨q, r, rfl, (List.cons.inj f3).1⟩
      obtain ⟨z1, z2⟩ := f2 q0 List.mem_cons_self
      rw [eq0] at z1 z2
      have n2r := CO.R.n2
      have n20 := CO.R.n20
      have bd : Bd D := C0.bd
      have tle := bg_le bd c0.ns (c0.ns.length - 1)
      have ip0 := IC.p0
      have ip1 := IC.p1
      refine ⟨_, rfl, _, rfl, _, _, _, .ref ls[i].1, rfl, rfl, .inl (.inl (hflG _ I.k)), atI_nat (mapAt hil), _, _, _, .ref q0.1, rfl, rfl, .inl (.inl f1), atI_nat (j := 0) rfl, ?_⟩
      refine ⟨_, _, rfl, .inl (.inl z1), rfl, _, _, rfl, _, _, rfl, _, _, rfl, _, _, rfl, rfl, ?_⟩
      dsimp only [List.set]
      refine ⟨_, rfl, _, rfl, _, _, _, _, rfl, rfl, .inl (.inl (halG _ I.k)), hva, ?_⟩
      refine ⟨_, _, rfl, .inl (.inl hqa), rfl, _, _, rfl, _, _, rfl, rfl, ?_⟩
      dsimp only [List.set]
      have COG := CO.keep S I.k
      have lc := (lat_cases D c0.ns (c0.ns.length - 1 - 1) pr).1
      refine ⟨_, rfl, _, rfl, _, rfl, _, rfl, _, rfl, c0.b, pr, D, c0.ns, rfl, COG.hb, n2r, n20, ?_⟩
      refine ⟨_, rfl, ch, c0.rt, c0.b, _, pr, D, c0.ns, lat D c0.ns (c0.ns.length - 1 - 1) pr, rfl, rfl, C0.keep S I.k n1 n2, COG.rt, COG.hb, CO.R, by omega, fun u H1 hu1 s1 hut => ?_⟩
      have TP : ∀ (x y z : Int), alwB D c0.ns (lat D c0.ns (c0.ns.length - 1 - 1) pr) x y (rd + ra) pr = true → lv - (ht + ba) ≤ z → z ≤ lv + (ht + ba) → PlOk D (rd + ra) (ht + ba) fs acs (⟨x, y, z⟩, ((i : Nat) : Int)) := fun x y z a b c => .inr ⟨i, pr, lv, c0, cs, rfl, eac, efs, ⟨a, b, c⟩⟩
      generalize lat D c0.ns (c0.ns.length - 1 - 1) pr = kl at lc hut ⊢
      have hut : H1 u = some (.tup [.int (pX D c0.ns kl pr), .int (pY D c0.ns kl pr), .int (D.len (rn c0.ns kl) (rn c0.ns (kl + 1)))]) := hut
      obtain ⟨bX, bY⟩ := plc_small bd n20 (k := kl) (p := pr) (by omega) (by omega) (by omega)
      have bn := bl19 bd (rn c0.ns kl) (rn c0.ns (kl + 1))
      have ln1 : 1 ≤ D.len (rn c0.ns kl) (rn c0.ns (kl + 1)) := CO.pos kl (by omega)
      have ln2 : (D.len (rn c0.ns kl) (rn c0.ns (kl + 1))).natAbs ≤ 524288 := bn
      have I1 := I.same s1
      refine nm ?_
      dsimp only [List.set]
      refine ⟨_, rfl, d, c, 3, rfl, I1.S, (by omega), (by omega), fun x1 G1 x1a x1b S1 kp1 => ?_⟩
      have I2 := I1.keep nd nc n1 n2 n3 S1 kp1
      have hut2 := kp1.t I1.S hut
      clear I I1 s1 hut z1 z2 f1 f2 f3 COG hqa hva S1 kp1
      refine ⟨_, rfl, by omega, by omega, for_range (n := x1.toNat) (fun j σ G => ∃ (v14 v15 v16 : Option V) (ps : List (Pl × Int)), σ = [some (.ref d), some (.ref ch), some (.ref ru), some (.ref fl), some (.ref al), some (.ref pl), some (.int (i : Nat)), some (.ref c0.rt), some (.ref c0.b), some (.ref c0.p), some (.ref q0.2.1), some (.int pr), some (.int lv), some (.ref u), v14, v15, v16] ∧ PInv K C H d c ch ru fl al pl D ra ba rd ht fs acs (3 * i + j) G ps ∧ G u = some (.tup [.int (pX D c0.ns kl pr), .int (pY D c0.ns kl pr), .int (D.len (rn c0.ns kl) (rn c0.ns (kl + 1)))]))
        ⟨_, _, _, _, rfl, I2, hut2⟩ ?_ ?_⟩
      rotate_left
      · rintro σ G ⟨v14, v15, v16, ps, rfl, I, _⟩
        exact rest _ _ ⟨_, _, _, _, _, _, _, _, _, _, ps, rfl, I.mono (by omega)⟩
      clear I2 hut2 rest
      rintro j σ G hj ⟨v14, v15, v16, ps, rfl, I, hut⟩
      refine nm ?_
      dsimp only [List.set]
      have RQG := RQ.keep I.k n3
      refine ⟨_, rfl, _, rfl, _, rfl, _, rfl, d, c, ru, u, ra, ba, rd, ht, _, _, _, lv, rfl, I.S, RQG, n3, hut, bX, bY, ln1, (by omega), fun q x y z H2 hq bx' by' z0 z1 S2 kp2 => ?_⟩
      have I2 := I.keep nd nc n1 n2 n3 S2 kp2
      have hut2 := kp2.t I.S hut
      have RQ2 := RQ.keep I2.k n3
      have CO2 := CO.keep S I2.k
      obtain ⟨r1, r2, r3, r4, r5, r6, r7, r8⟩ := RQ.bd
      refine nm ?_
      dsimp only [List.set]
      refine ⟨_, rfl, _, rfl, _, rfl, _, rfl, _, rfl, _, rfl, _, _, rfl, RQ2.grd, _, rfl, _, _, rfl, RQ2.gra, _, _, rfl, rfl, ch, c0.rt, c0.b, q, D, c0.ns, pr, x, y, z, _, rfl, C0.keep S I2.k n1 n2, CO.R, CO2.rt, CO2.hb, hq, bx', by', (by omega), (by omega), (by omega), (by omega), fun H3 s3 => ?_⟩
      refine ⟨_, rfl, ?_⟩
      have I3 := I2.same s3
      have hq3 := s3 _ _ hq
      have hut3 := s3 _ _ hut2
      clear I I2 s3 hq hut2 hut kp2 S2 CO2 RQ2 RQG
      refine ite2 (fun ea => ?_) (fun ea => ?_)
      rotate_left
      · exact ⟨_, _, _, _, rfl, I3.mono (by omega), hut3⟩
      · obtain ⟨xs, hx, hxl⟩ := I3.P.li
        have pn := I3.n
        refine ⟨_, rfl, .inl ⟨rfl, _, .inl (.inl hx)⟩, _, rfl, _, rfl, _, _, rfl, .inl (.inl (.inl hx)), _, _, rfl, rfl, d, c, _, rfl, I3.S, (by omega), (by omega), fun x5 G6 x5a x5b S6 kp6 => ?_⟩
        have I6 := I3.keep nd nc n1 n2 n3 S6 kp6
        have hq6 := kp6.t I3.S hq3
        have hx6 := kp6.l I3.S hx
        have hut6 := kp6.t I3.S hut3
        refine ⟨_, rfl, _, rfl, szOk rfl, fun t ht' => ?_⟩
        have s7 := same_new (o := .tup [.ref q, .int (i : Nat)]) ht'
        have I7 := I6.same s7
        refine ⟨_, _, x5, _, rfl, rfl, s7 _ _ hx6, small1000 (by omega), x5a, (by omega), ?_⟩
        refine ⟨_, _, _, _, rfl, I7.ins hpl npd npc (p := ⟨x, y, z⟩) x5.toNat (s7 _ _ hx6) upd_same (s7 _ _ hq6) bx' by' (TP x y z ea z0 z1), ?_⟩
        rw [upd_ne (ne_of (s7 _ _ hut6) (s7 _ _ hx6) (by intro z; cases z))]
        exact s7 _ _ hut6

end
end Sk

set_option Elab.async false
set_option linter.all false
set_option maxRecDepth 100000
set_option maxHeartbeats 4000000
namespace Sk
open PySem PySem.Spec PyProof.Rows L2
local macro_rules | `(tactic| walk_at "ms") => `(tactic| first | exact .inl ⟨by decide, by decide⟩ | exact .inl ⟨by omega, by omega⟩ | exact .inr ⟨by omega, by omega⟩ | exact wm (by omega) (by omega) | exact log_of (by omega) (by omega) | (show (0:Int) < _; omega) | exact ⟨by decide, by decide, by decide⟩)
section
variable {P : Program} {w : World} {K : PySem.W.Frag} {mg : Str → Option Value} {base : Heap}
abbrev s_law : Stmt := top 59
theorem sc_law : FnScope ["script", "state", "chart", "lengths", "rules", "many", "step", "flights", "names", "aircraft", "plots", "good", "j", "k", "followed", "handed", "kept", "found", "owners", "strays", "plot", "index", "progress", "level", "boxes", "flight", "each", "box"] ["script"] (defScope s_law) := ⟨rfl, rfl, rfl, by decide +kernel, rfl, by decide +kernel, by decide +kernel⟩
theorem ok_law {f : Addr} {fd : FuncData} (F : Fun K "law" "law" s_law f fd) (T : TxtA mg) {C : Addr} (Ts : mg "str" = none)
    (D_law_start : Def P w K mg base 1 "_law_start" ["script"] (spStart K))
    (D_law_small_chart : Def P w K mg base 5 "_law_small_chart" ["state"] (spSmall K))
    (D_law_lengths : Def P w K mg base 2 "_law_lengths" ["chart"] (spLens))
    (D_law_rules : Def P w K mg base 3 "_law_rules" ["state"] (spRulesP K))
    (D_law_draw : Def P w K mg base 1 "_law_draw" ["state", "bound"] (spDraw K))
    (D_law_pick : Def P w K mg base 2 "_law_pick" ["state", "things"] (spPick K))
    (D_law_flight : Def P w K mg base 7 "_law_flight" ["state", "chart", "lengths", "level"] (spFlight K C))
    (D_law_aircraft : Def P w K mg base 2 "_law_aircraft" ["state", "flight"] (spAircraft K C))
    (D_law_plots : Def P w K mg base 4 "_law_plots" ["state", "chart", "rules", "flights", "aircraft"] (spPlots K C))
    (D_law_apart : Def P w K mg base 4 "_law_apart" ["chart", "rules", "one", "other"] (spApart C))
    (D_assign : Def P w K mg base 11 "assign" ["rules", "flights", "plots"] (spAssign C))
    (D_law_give : Def P w K mg base 4 "_law_give" ["chart", "rules", "flights", "plot"] (spGive C))
    (D_law_told : Def P w K mg base 4 "_law_told" ["found", "flights", "names"] (spTold C)) : FnOk P w K mg base CX0 12 f fd ["script"] (spLaw K) := by
  refine F.ok sc_law (fun vs H Q E h => ?_) (fun cdv A outer s H vs Q E hr h => ?_)
  · obtain ⟨_, _, rfl, _⟩ := h
    rfl
  · obtain ⟨a, ns0, rfl, hS, hl0, k⟩ := h
    have hu := hu_of hr
    refine ⟨_, (pss_cons (ps_set (i := 1) sc_law.nd rfl (Or.inr rfl) (pe_def D_law_start (hr.mono (by decide)) (by rfl) (pa_cons (pv 0) pa_nil)))
    (pss_cons (ps_set (i := 2) sc_law.nd rfl (Or.inr rfl) (pe_def D_law_small_chart (hr.mono (by decide)) (by rfl) (pa_cons (pv 1) pa_nil)))
    (pss_cons (ps_set (i := 3) sc_law.nd rfl (Or.inr rfl) (pe_def D_law_lengths (hr.mono (by decide)) (by rfl) (pa_cons (pv 2) pa_nil)))
    (pss_cons (ps_set (i := 4) sc_law.nd rfl (Or.inl rfl) (pe_def D_law_rules (hr.mono (by decide)) (by rfl) (pa_cons (pv 1) pa_nil)))
    (pss_cons (ps_set (i := 5) sc_law.nd rfl (Or.inl rfl) (pe_op op_add pe_int (pe_def D_law_draw (hr.mono (by decide)) (by rfl) (pa_cons (pv 1) (pa_cons pe_int pa_nil)))))
    (pss_cons (ps_set (i := 6) sc_law.nd rfl (Or.inr rfl) (pe_def D_law_pick (hr.mono (by decide)) (by rfl) (pa_cons (pv 1) (pa_cons (pe_lst (pa_cons pe_int (pa_cons pe_int (pa_cons (pe_op op_add (pe_op op_add (pe_dget hu (pv 4) pe_str (fun _ _ => rfl)) (pe_op op_mulW pe_int (pe_dget hu (pv 4) pe_str (fun _ _ => rfl)))) pe_int) pa_nil)))) pa_nil))))
    (pss_cons (ps_set (i := 7) sc_law.nd rfl (Or.inr rfl) (pe_lc (own := [("k", 13)]) (g := gName 13) (by rfl) sc_law.nd (pi_range1 (by rfl) T.range (pa_cons (pv 5) pa_nil)) (blkOk_by (own := [("k", 13)]) (N := ["script", "state", "chart", "lengths", "rules", "many", "step", "flights", "names", "aircraft", "plots", "good", "j", "k", "followed", "handed", "kept", "found", "owners", "strays", "plot", "index", "progress", "level", "boxes", "flight", "each", "box"]) (sc := defScope s_law) (by decide +kernel)) (fun _ _ _ _ _ => (pg_name (i := 13) sc_law.nd rfl (Or.inl rfl))) (fun _ _ _ _ _ => pts_nil) (fun _ _ _ _ _ => (pe_def D_law_flight (hr.mono (by decide)) (by rfl) (pa_cons (pv 1) (pa_cons (pv 2) (pa_cons (pv 3) (pa_cons (pe_op op_add pe_int (pe_op op_mulW (pv 13) (pv 6))) pa_nil))))))))
    (pss_cons (ps_set (i := 8) sc_law.nd rfl (Or.inr rfl) (pe_lc (own := [("k", 13)]) (g := gName 13) (by rfl) sc_law.nd (pi_range1 (by rfl) T.range (pa_cons (pv 5) pa_nil)) (blkOk_by (own := [("k", 13)]) (N := ["script", "state", "chart", "lengths", "rules", "many", "step", "flights", "names", "aircraft", "plots", "good", "j", "k", "followed", "handed", "kept", "found", "owners", "strays", "plot", "index", "progress", "level", "boxes", "flight", "each", "box"]) (sc := defScope s_law) (by decide +kernel)) (fun _ _ _ _ _ => (pg_name (i := 13) sc_law.nd rfl (Or.inl rfl))) (fun _ _ _ _ _ => pts_nil) (fun _ _ _ _ _ => (pe_op op_add_str (pe_def D_law_pick (hr.mono (by decide)) (by rfl) (pa_cons (pv 1) (pa_cons (pe_lst (pa_cons pe_str (pa_cons pe_str (pa_cons pe_str (pa_cons pe_str pa_nil))))) pa_nil))) (pe_callTy call_str_int (by rfl) Ts PySem.Pv.boot_str (pa_cons (pv 13) pa_nil))))))
    (pss_cons (ps_setLc (i := 9) (own := [("flight", 25)]) (g := gName 25) (by rfl) sc_law.nd rfl rfl (sw_true rfl rfl rfl (by decide +kernel)) (pi_list (pv 7)) (blkOk_by (own := [("flight", 25)]) (N := ["script", "state", "chart", "lengths", "rules", "many", "step", "flights", "names", "aircraft", "plots", "good", "j", "k", "followed", "handed", "kept", "found", "owners", "strays", "plot", "index", "progress", "level", "boxes", "flight", "each", "box"]) (sc := defScope s_law) (by decide +kernel)) (fun _ _ _ _ _ => (pg_name (i := 25) sc_law.nd rfl (Or.inl rfl))) (fun _ _ _ _ _ => pts_nil) (fun _ _ _ _ _ => (pe_def D_law_aircraft (hr.mono (by decide)) (by rfl) (pa_cons (pv 1) (pa_cons (pv 25) pa_nil)))))
    (pss_cons (ps_set (i := 10) sc_law.nd rfl (Or.inl rfl) (pe_def D_law_plots (hr.mono (by decide)) (by rfl) (pa_cons (pv 1) (pa_cons (pv 2) (pa_cons (pv 4) (pa_cons (pv 7) (pa_cons (pv 9) pa_nil)))))))
    (pss_cons (ps_set (i := 11) sc_law.nd rfl (Or.inl rfl) pe_bl)
    (pss_cons (ps_for PassesOwn.never rfl (pi_range1 (by rfl) T.range (pa_cons (pv 5) pa_nil)) (pg_name (i := 12) sc_law.nd rfl (Or.inl rfl))
      (pss_one (ps_for PassesOwn.never rfl (pi_range1 (by rfl) T.range (pa_cons (pv 12) pa_nil)) (pg_name (i := 13) sc_law.nd rfl (Or.inl rfl))
      (pss_one (ps_set (i := 11) sc_law.nd rfl (Or.inl rfl) (pe_and (pv 11) (pe_one (pe_def D_law_apart (hr.mono (by decide)) (by rfl) (pa_cons (pv 2) (pa_cons (pv 4) (pa_cons (pe_ix (r := rIxL K) ix_list (pv 7) (pv 12) (fun _ _ => rfl)) (pa_cons (pe_ix (r := rIxL K) ix_list (pv 7) (pv 13) (fun _ _ => rfl)) pa_nil))))))))))))
    (pss_cons (ps_setLc (i := 14) (own := [("k", 13)]) (g := gName 13) (by rfl) sc_law.nd rfl rfl (sw_true rfl rfl rfl (by decide +kernel)) (pi_range1 (by rfl) T.range (pa_cons (pv 5) pa_nil)) (blkOk_by (own := [("k", 13)]) (N := ["script", "state", "chart", "lengths", "rules", "many", "step", "flights", "names", "aircraft", "plots", "good", "j", "k", "followed", "handed", "kept", "found", "owners", "strays", "plot", "index", "progress", "level", "boxes", "flight", "each", "box"]) (sc := defScope s_law) (by decide +kernel)) (fun _ _ _ _ _ => (pg_name (i := 13) sc_law.nd rfl (Or.inl rfl))) (fun _ _ _ _ _ => pts_nil) (fun _ _ _ _ _ => (pe_tup (pa_cons (pe_ix (r := rIxL K) ix_list (pv 8) (pv 13) (fun _ _ => rfl)) (pa_cons (pe_lc (own := [("each", 26)]) (wi := iList K (tOp (rIxL K) (tVar 7) (tVar 13))) (g := gName 26) (by rfl) sc_law.nd (pi_list (pe_ix (r := rIxL K) ix_list (pv 7) (pv 13) (fun _ _ => rfl))) (by apply blkOk_by; with_unfolding_all rfl) (fun _ _ _ _ _ => (pg_name (i := 26) sc_law.nd rfl (Or.inl rfl))) (fun _ _ _ _ _ => pts_nil) (fun _ _ _ _ _ => (pe_tup (pa_cons (pe_ix (r := rIxL K) ix_list (pv 26) pe_int (fun _ _ => rfl)) (pa_cons (pe_ix (r := rIxL K) ix_list (pv 26) pe_int (fun _ _ => rfl)) pa_nil))))) pa_nil)))))
    (pss_cons (ps_setLc (i := 15) (own := [("plot", 20)]) (g := gName 20) (by rfl) sc_law.nd rfl rfl (sw_true rfl rfl rfl (by decide +kernel)) (pi_list (pv 10)) (blkOk_by (own := [("plot", 20)]) (N := ["script", "state", "chart", "lengths", "rules", "many", "step", "flights", "names", "aircraft", "plots", "good", "j", "k", "followed", "handed", "kept", "found", "owners", "strays", "plot", "index", "progress", "level", "boxes", "flight", "each", "box"]) (sc := defScope s_law) (by decide +kernel)) (fun _ _ _ _ _ => (pg_name (i := 20) sc_law.nd rfl (Or.inl rfl))) (fun _ _ _ _ _ => pts_nil) (fun _ _ _ _ _ => (pe_ix (r := rIxT K) ix_tup (pv 20) pe_int (fun _ _ => rfl))))
    (pss_cons (ps_setLc (i := 16) (own := [("flight", 25)]) (g := gName 25) (by rfl) sc_law.nd rfl rfl (sw_true rfl rfl rfl (by decide +kernel)) (pi_list (pv 14)) (blkOk_by (own := [("flight", 25)]) (N := ["script", "state", "chart", "lengths", "rules", "many", "step", "flights", "names", "aircraft", "plots", "good", "j", "k", "followed", "handed", "kept", "found", "owners", "strays", "plot", "index", "progress", "level", "boxes", "flight", "each", "box"]) (sc := defScope s_law) (by decide +kernel)) (fun _ _ _ _ _ => (pg_name (i := 25) sc_law.nd rfl (Or.inl rfl))) (fun _ _ _ _ _ => pts_nil) (fun _ _ _ _ _ => (pe_tup (pa_cons (pe_ix (r := rIxT K) ix_tup (pv 25) pe_int (fun _ _ => rfl)) (pa_cons (pe_callTy (r := rListK K) call_list_of (by rfl) T.list boot_list (pa_cons (pe_ix (r := rIxT K) ix_tup (pv 25) pe_int (fun _ _ => rfl)) pa_nil)) pa_nil)))))
    (pss_cons (ps_set (i := 17) sc_law.nd rfl (Or.inl rfl) (pe_def D_assign (hr.mono (by decide)) (by rfl) (pa_cons (pv 4) (pa_cons (pv 14) (pa_cons (pv 15) pa_nil)))))
    (pss_cons (ps_if (PW.pt (pw_or (pt_not (pt_val (pe_callB call_isi (by rfl) T.isinstance boot_isinstance (pa_cons (pv 17) (pa_cons (pe_bltn (v := .ty "tuple") (by rfl) T.tuple boot_tuple rfl) pa_nil))))) (pw_or (pt_cmpR op_ne (pe_callB (r := rLenK K) call_len_seq (by rfl) T.len boot_len (pa_cons (pv 17) pa_nil)) pe_int (nomark _)) (pw_or (pt_cmpR (op_neAl hr.units) (pv 14) (pv 16) (nomark _)) (pw_or1 (pt_cmpR (op_neAl hr.units) (pv 15) (pe_lc (own := [("plot", 20)]) (g := gName 20) (by rfl) sc_law.nd (pi_list (pv 10)) (blkOk_by (own := [("plot", 20)]) (N := ["script", "state", "chart", "lengths", "rules", "many", "step", "flights", "names", "aircraft", "plots", "good", "j", "k", "followed", "handed", "kept", "found", "owners", "strays", "plot", "index", "progress", "level", "boxes", "flight", "each", "box"]) (sc := defScope s_law) (by decide +kernel)) (fun _ _ _ _ _ => (pg_name (i := 20) sc_law.nd rfl (Or.inl rfl))) (fun _ _ _ _ _ => pts_nil) (fun _ _ _ _ _ => (pe_ix (r := rIxT K) ix_tup (pv 20) pe_int (fun _ _ => rfl)))) (nomark _))))))) (pss_one (ps_ret pe_bl))
      pss_nil)
    (pss_cons (ps_set (i := 18) sc_law.nd rfl (Or.inl rfl) (pe_lst pa_nil))
    (pss_cons (ps_set (i := 19) sc_law.nd rfl (Or.inl rfl) pe_bl)
    (pss_cons (ps_for PassesOwn.never rfl (pi_list (pv 10)) (pg_name (i := 20) sc_law.nd rfl (Or.inl rfl))
      (pss_cons (ps_set (i := 21) sc_law.nd rfl (Or.inl rfl) (pe_def D_law_give (hr.mono (by decide)) (by rfl) (pa_cons (pv 2) (pa_cons (pv 4) (pa_cons (pv 7) (pa_cons (pe_ix (r := rIxT K) ix_tup (pv 20) pe_int (fun _ _ => rfl)) pa_nil))))))
    (pss_cons (ps_expr (pe_bm PySem.F.plainAttrs_list PySem.F.slot_list_append PySem.F.type_list_append mt_append (pv 18) (pa_cons (pe_ifExp (pt_cmpR op_lt (pv 21) pe_int (nomark _)) pe_str (pe_ix (r := rIxL K) ix_list (pv 8) (pv 21) (fun _ _ => rfl))) pa_nil)))
    (pss_cons (ps_set (i := 19) sc_law.nd rfl (Or.inl rfl) (pe_or (pv 19) (pe_one (pe_and (pe_cmpR op_lt (pe_ix (r := rIxT K) ix_tup (pv 20) pe_int (fun _ _ => rfl)) pe_int (nomark _)) (pe_one (pe_cmpR op_ge (pv 21) pe_int (nomark _)))))))
    (pss_one (ps_if (PW.pt (pw_and (pt_val (pv 11)) (pw_and (pt_not (pt_val (pv 19))) (pw_and (pt_cmpR op_ge (pe_ix (r := rIxT K) ix_tup (pv 20) pe_int (fun _ _ => rfl)) pe_int (nomark _)) (pw_and1 (pt_cmpR op_ne (pv 21) (pe_ix (r := rIxT K) ix_tup (pv 20) pe_int (fun _ _ => rfl)) (nomark _))))))) (pss_one (ps_ret pe_bl))
      pss_nil))))))
    (pss_cons (ps_if (PW.pt (pw_or (pt_cmpR (op_neAl hr.units) (pe_ix (r := rIxT K) ix_tup (pv 17) pe_int (fun _ _ => rfl)) (pv 18) (nomark _)) (pw_or1 (pt_not (pt_val (pe_def D_law_told (hr.mono (by decide)) (by rfl) (pa_cons (pe_ix (r := rIxT K) ix_tup (pv 17) pe_int (fun _ _ => rfl)) (pa_cons (pv 7) (pa_cons (pv 8) pa_nil))))))))) (pss_one (ps_ret pe_bl))
      pss_nil)
    (pss_cons (ps_for PassesOwn.never rfl (pi_range1 (by rfl) T.range (pa_cons (pv 5) pa_nil)) (pg_name (i := 21) sc_law.nd rfl (Or.inl rfl))
      (pss_one (ps_if (PW.pt (pw_and (pt_val (pv 11)) (pw_and (pt_not (pt_val (pv 19))) (pw_and1 (pt_cmpR op_notN (pe_ix (r := rIxL K) ix_list (pv 9) (pv 21) (fun _ _ => rfl)) pe_non (nomark _)))))) (pss_cons (ps_asg (pe_ix (r := rIxL K) ix_list (pv 9) (pv 21) (fun _ _ => rfl)) (pg_tup (by rfl) (pgs_cons (pg_name (i := 22) sc_law.nd rfl (Or.inr rfl)) (pgs_cons (pg_name (i := 23) sc_law.nd rfl (Or.inr rfl)) pgs_nil))))
    (pss_cons (ps_setLc (i := 24) (own := [("each", 26)]) (g := gName 26) (by rfl) sc_law.nd rfl rfl (sw_true rfl rfl rfl (by decide +kernel)) (pi_list (pe_ix (r := rIxL K) ix_list (pv 7) (pv 21) (fun _ _ => rfl))) (blkOk_by (own := [("each", 26)]) (N := ["script", "state", "chart", "lengths", "rules", "many", "step", "flights", "names", "aircraft", "plots", "good", "j", "k", "followed", "handed", "kept", "found", "owners", "strays", "plot", "index", "progress", "level", "boxes", "flight", "each", "box"]) (sc := defScope s_law) (by decide +kernel)) (fun _ _ _ _ _ => (pg_name (i := 26) sc_law.nd rfl (Or.inl rfl))) (fun _ _ _ _ _ => pts_nil) (fun _ _ _ _ _ => (pe_ix (r := rIxL K) ix_list (pv 26) pe_int (fun _ _ => rfl))))
    (pss_one (ps_if (pt_not (pt_val (pe_callB (cr_any rfl) (by rfl) T.any boot_any (pa_cons (pe_lc (own := [("box", 27)]) (g := gName 27) (by rfl) sc_law.nd (pi_list (pv 24)) (blkOk_by (own := [("box", 27)]) (N := ["script", "state", "chart", "lengths", "rules", "many", "step", "flights", "names", "aircraft", "plots", "good", "j", "k", "followed", "handed", "kept", "found", "owners", "strays", "plot", "index", "progress", "level", "boxes", "flight", "each", "box"]) (sc := defScope s_law) (by decide +kernel)) (fun _ _ _ _ _ => (pg_name (i := 27) sc_law.nd rfl (Or.inl rfl))) (fun _ _ _ _ _ => pts_nil) (fun _ _ _ _ _ => (pe_and (pe_chain op_le op_le (pe_ix (r := rIxT K) ix_tup (pv 27) pe_int (fun _ _ => rfl)) (pv 22) (pe_ix (r := rIxT K) ix_tup (pv 27) pe_int (fun _ _ => rfl))) (pe_one (pe_chain op_le op_le (pe_ix (r := rIxT K) ix_tup (pv 27) pe_int (fun _ _ => rfl)) (pv 23) (pe_ix (r := rIxT K) ix_tup (pv 27) pe_int (fun _ _ => rfl))))))) pa_nil)))) (pss_one (ps_ret pe_bl))
      pss_nil))))
      pss_nil)))
    (pss_one (ps_ret pe_bl)))))))))))))))))))))))), ?_⟩
    rw [show L2.start ["script", "state", "chart", "lengths", "rules", "many", "step", "flights", "names", "aircraft", "plots", "good", "j", "k", "followed", "handed", "kept", "found", "owners", "strays", "plot", "index", "progress", "level", "boxes", "flight", "each", "box"] [V.ref a] = [some (V.ref a), none, none, none, none, none, none, none, none, none, none, none, none, none, none, none, none, none, none, none, none, none, none, none, none, none, none, none] from rfl]
    refine ⟨_, rfl, a, ns0, rfl, hS, hl0, fun d c H0 hd0 hc0 S0 sm0 => ?_⟩
    refine nm ?_
    dsimp only [List.set]
    refine ⟨_, rfl, d, c, rfl, S0, fun D ch H1 hne hpos C1 hch hfx S1 kp1 => ?_⟩
    have n1 : ch ≠ d := S0.nd hch
    have n2 : D.fx ≠ d := S0.nd hfx
    refine nm ?_
    dsimp only [List.set]
    refine ⟨_, rfl, ch, D, rfl, C1, fun ld H2 hld L2 sm2 => ?_⟩
    have C2 := C1.same sm2
    have S2 := S1.same sm2
    refine nm ?_
    dsimp only [List.set]
    refine ⟨_, rfl, d, c, rfl, S2, fun ru r rd ht H3 hru RU3 RQ3 rdl htl rb nrc S3 kp3 => ?_⟩
    have n3 : ru ≠ d := S2.nd hru
    have W3 : W21 K H3 d c ch ld ru D r rd ht := ⟨S3, C2.keep S2 kp3 n1 n2, L2.keep S2 kp3, RU3, RQ3⟩
    have bd : Bd D := C1.bd
    clear C1 C2 S0 S1 S2 L2 RU3 RQ3 S3 kp1 kp3 sm2 sm0 hd0 hc0 hld hru
    refine nm ?_
    dsimp only [List.set]
    refine ⟨_, rfl, d, c, 3, rfl, W3.S, (by omega), (by omega), fun x1 H4 x1a x1b S4 kp4 => ?_⟩
    have W4 := W3.keep n1 n2 n3 S4 kp4
    obtain ⟨mn, hmn, mn2, mn4⟩ : ∃ mn : Nat, (2 + x1 : Int) = (mn : Int) ∧ 2 ≤ mn ∧ mn ≤ 4 := ⟨(2 + x1).toNat, by omega, by omega, by omega⟩
    refine ⟨_, _, rfl, rfl, ?_⟩
    refine nm ?_
    dsimp only [List.set]
    rw [hmn]
    clear W3 S4 kp4 hmn x1a x1b
    obtain ⟨w1, w2, w3, w4, w5, w6, w7, w8⟩ := W4.RU.bd
    refine ⟨_, rfl, _, rfl, _, _, rfl, W4.RU.gve, _, rfl, _, _, rfl, W4.RU.gba, _, _, rfl, rfl, (by walk_at "ms"), _, _, rfl, rfl, _, _, rfl, rfl, szOk rfl, fun sl hsl => ?_⟩
    have W5 := W4.same (same_new (o := .lst [.int 0, .int 3, .int (r.ve + 2 * r.ba + 4)]) hsl)
    refine ⟨d, c, _, _, rfl, W5.S, .inl (.inl upd_same), (fun z => nomatch z), (by show 3 ≤ 1000; decide), fun v6 H6 hv6 S6 kp6 => ?_⟩
    have W6 := W5.keep n1 n2 n3 S6 kp6
    obtain ⟨sp, rfl, sp0, sp1⟩ : ∃ z : Int, v6 = .int z ∧ 0 ≤ z ∧ z ≤ 100 := by
      simp only [List.mem_cons, List.not_mem_nil, or_false] at hv6
      rcases hv6 with rfl | rfl | rfl
      · exact ⟨_, rfl, by decide, by decide⟩
      · exact ⟨_, rfl, by decide, by decide⟩
      · exact ⟨_, rfl, by omega, by omega⟩
    clear W4 W5 S6 kp6 hv6 hsl
    refine nm ?_
    dsimp only [List.set]
    refine ⟨_, rfl, _, rfl, by omega, by omega, fun fl hfl => ?_⟩
    have nfd : fl ≠ d := W6.S.nd hfl
    have nfc : fl ≠ c := W6.S.nc hfl
    have mT : d ∉ [fl] ∧ c ∉ [fl] := ⟨by simpa using nfd.symm, by simpa using nfc.symm⟩
    have s0 := same_new (o := .lst []) hfl
    refine lc_range (lo := 0) (n := ((mn : Nat) : Int).toNat) (fun i G => St1 K G d c ∧ Keep d H6 G ∧ ∃ fs, FsAt (msk [fl] G) G fl fs ∧ fs.length = i ∧ ∀ cs ∈ fs, cs ≠ [] ∧ cs.length ≤ 2 ∧ ∀ c ∈ cs, CnOk C (msk [fl] G) D c ∧ 20 ≤ c.B.dn ∧ c.B.dn ≤ 500 ∧ c.B.dn ≤ c.B.up ∧ c.B.up ≤ c.B.dn + 3) ⟨W6.S.same s0, Keep.of s0, [], ⟨[], upd_same, (by intro q hq; cases hq), rfl⟩, rfl, by intro cs hcs; cases hcs⟩ ?_ ?_
    · clear s0
      rintro i G hi ⟨Sg, kG, fs, F, fsl, FO⟩
      have W := W6.keep n1 n2 n3 Sg kG
      have hi4 : i < 4 := by omega
      refine ⟨rfl, ?_⟩
      have p0 : 0 ≤ (0 + (i : Int)) * sp := Int.mul_nonneg (by omega) sp0
      have p1 : (0 + (i : Int)) * sp ≤ 4 * 100 := Int.mul_le_mul (by omega) sp1 sp0 (by omega)
      refine ⟨_, rfl, _, rfl, _, rfl, _, rfl, _, rfl, _, _, rfl, rfl, (by walk_at "ms"), _, _, rfl, rfl, ?_⟩
      generalize (0 + (i : Int)) * sp = z at p0 p1 ⊢
      refine ⟨d, c, ch, ld, D, 20 + z, rfl, W.S, W.C0, n1, n2, hne, hpos, W.L, (by omega), (by omega), fun l cs H' hl FL ne l2 okc S' kp => ?_⟩
      obtain ⟨ls, h1, h2, h3⟩ := F
      have hf' := kp.l W.S h1
      have W' := W.keep n1 n2 n3 S' kp
      have lfl : l ≠ fl := (ne_of_none h1 hl).symm
      have Sm := W.S.msk mT.1 mT.2
      have km := msk_keep (T := [fl]) kp
      have h2' : ∀ q ∈ ls, FlAt (msk [fl] H') q.1 q.2 := fun q hq => (h2 q hq).keep Sm km
      have FO' : ∀ cs ∈ fs, cs ≠ [] ∧ cs.length ≤ 2 ∧ ∀ c ∈ cs, CnOk C (msk [fl] H') D c ∧ 20 ≤ c.B.dn ∧ c.B.dn ≤ 500 ∧ c.B.dn ≤ c.B.up ∧ c.B.up ≤ c.B.dn + 3 := fun cs hcs => ⟨(FO cs hcs).1, (FO cs hcs).2.1, fun c hc => ⟨((FO cs hcs).2.2 c hc).1.keep Sm km, ((FO cs hcs).2.2 c hc).2⟩⟩
      obtain ⟨FM, CM⟩ := FL.mskE (E := fl) (as := ls.map fun q => q.1) (fun c hc => (okc c hc).1) W'.C0 (by rw [List.map_map]; exact hf') (fun a ha => by
        obtain ⟨q, hq, rfl⟩ := List.mem_map.mp ha
        obtain ⟨_, x, _⟩ := h2' q hq
        exact ⟨_, msk_same _ _ x⟩) lfl
      have ll : ls.length = i := by rw [← fsl, ← h3, List.length_map]
      have mm : ∀ o, msk [fl] (upd H' fl o) = msk [fl] H' := fun o => msk_put (by simp)
      refine ⟨_, hf', small1000 (by rw [List.length_map]; omega), S'.put nfd nfc, keep_put (kG.trans kp) hfl, fs ++ [cs], ⟨ls ++ [(l, cs)], by rw [upd_same, List.map_append]; rfl, fun q hq => ?_, by rw [List.map_append, h3]; rfl⟩, by rw [List.length_append, fsl]; rfl, fun cs' hcs' => ?_⟩
      · rw [mm]
        rcases List.mem_append.mp hq with hq | hq
        · exact h2' q hq
        · rw [List.mem_singleton.mp hq]
          exact FM
      · rw [mm]
        rcases List.mem_append.mp hcs' with hq | hq
        · exact FO' cs' hq
        · rw [List.mem_singleton.mp hq]
          refine ⟨ne, by omega, fun c hc => ⟨CM c hc, ?_⟩⟩
          obtain ⟨_, e1, e2, e3⟩ := okc c hc
          omega
    rintro G ⟨Sg, kG, fs, F, fsl, FO⟩
    have W := W6.keep n1 n2 n3 Sg kG
    have fsl : fs.length = mn := by omega
    have M1 := M21.of W6.C0 W6.RQ W6.S n1 n2 n3 kG hfl
    clear W6 kG Sg s0 hfl sp0 sp1
    refine nm ?_
    dsimp only [List.set]
    refine ⟨_, rfl, _, rfl, by omega, by omega, fun na hna => ?_⟩
    have nnd : na ≠ d := W.S.nd hna
    have naf : na ≠ fl := let ⟨_, x, _⟩ := F; (ne_of_none x hna).symm
    have nnc : na ≠ c := W.S.nc hna
    have s0 := same_new (o := .lst []) hna
    refine lc_range (lo := 0) (n := ((mn : Nat) : Int).toNat) (fun i G' => St1 K G' d c ∧ Keep d G G' ∧ ∃ ns : List Str, G' na = some (.lst (ns.map V.str)) ∧ ns.length = i) ⟨W.S.same s0, Keep.of s0, [], upd_same, rfl⟩ ?_ ?_
    · clear s0
      rintro i G' hi ⟨Sg, kG, ns, hn, nsl⟩
      have hi4 : i < 4 := by omega
      refine ⟨rfl, ?_⟩
      refine ⟨_, rfl, szOk rfl, fun sl hsl => ?_⟩
      have s1 := same_new (o := .lst [.str "A", .str "ZZ", .str "M7", .str "BA"]) hsl
      refine ⟨d, c, _, _, rfl, Sg.same s1, .inl (.inl upd_same), (fun z => nomatch z), (by show 4 ≤ 1000; decide), fun v G2 hv S2 kp => ?_⟩
      have hn2 := kp.l (Sg.same s1) (s1 _ _ hn)
      have kk := (kG.trans (Keep.of s1)).trans kp
      obtain ⟨s, rfl, hs⟩ : ∃ s : Str, v = .str s ∧ s.length ≤ 2 := by
        simp only [List.mem_cons, List.not_mem_nil, or_false] at hv
        rcases hv with rfl | rfl | rfl | rfl <;> exact ⟨_, rfl, by decide⟩
      obtain ⟨sb, sl3⟩ := str_small i hi4
      refine ⟨_, rfl, _, rfl, sb, ?_⟩
      generalize Str.ofString (toString (0 + (i : Int))) = t at sl3 ⊢
      refine ⟨s, t, rfl, rfl, Nat.le_trans (show s.length + t.length ≤ 1000 by omega) (by decide), ?_⟩
      exact ⟨_, hn2, small1000 (by rw [List.length_map]; omega), S2.put nnd nnc, keep_put kk hna, ns ++ [s ++ t], by rw [upd_same, List.map_append]; rfl, by rw [List.length_append, nsl]; rfl⟩
    rintro G2 ⟨Sg, kG, ns, hn, nsl⟩
    have nsl : ns.length = mn := by omega
    have W2 := W.keep n1 n2 n3 Sg kG
    have F2 := (F21.mk F FO).keep W.S mT.1 mT.2 kG
    have M2 := M1.keep W.S mT.1 mT.2 n1 n2 n3 kG
    clear M1 W kG Sg s0 hna F FO
    refine nm ?_
    dsimp only [List.set]
    obtain ⟨ls, h1, h2, h3⟩ := F2.F
    have ll : ls.length = mn := by rw [← fsl, ← h3, List.length_map]
    refine ⟨_, rfl, fl, rfl, ⟨_, .inl (.inl h1)⟩, fun al hal => ?_⟩
    have nad : al ≠ d := W2.S.nd hal
    have alf : al ≠ fl := (ne_of_none h1 hal).symm
    have nac : al ≠ c := W2.S.nc hal
    have s0 := same_new (o := .lst []) hal
    refine lc_list (K := K) (a := fl) (xs := ls.map fun q => V.ref q.1) (fun i G => St1 K G d c ∧ Keep d G2 G ∧ ∃ vs : List (V × Option (Int × Int)), G al = some (.lst (vs.map fun z => z.1)) ∧ (∀ z ∈ vs, AcP G z.1 z.2) ∧ vs.length = i ∧ ∀ (j : Nat) (z : Int × Int), (vs.map fun z => z.2)[j]? = some (some z) → ∃ c0 cs, fs[j]? = some (c0 :: cs) ∧ InCn D c0 z.1 z.2)
      ⟨W2.S.same s0, Keep.of s0, [], upd_same, (by intro z hz; cases hz), rfl, by intro j z hz; cases hz⟩ (fun i G _ h => .inl (.inl (h.2.1.l W2.S h1))) ?_ ?_
    · clear s0
      rintro i y G hi ⟨Sg, kG, vs, hv, av, vl, iv⟩
      have hil := (List.getElem?_eq_some_iff.mp hi).1
      rw [List.length_map] at hil
      obtain rfl : y = .ref ls[i].1 := by
        rw [List.getElem?_map, List.getElem?_eq_getElem hil] at hi
        exact (Option.some.inj hi).symm
      have efs : fs[i]? = some ls[i].2 := by rw [← h3, List.getElem?_map, List.getElem?_eq_getElem hil]; rfl
      have hmem : ls[i].2 ∈ fs := List.mem_of_getElem? efs
      have FLi := ((h2 _ (List.getElem_mem hil)).same msk_same).keep W2.S kG
      obtain ⟨ne, _, oc⟩ := F2.O _ hmem
      obtain ⟨c0, cs, ec⟩ : ∃ c0 cs, ls[i].2 = c0 :: cs := by
        cases e : ls[i].2 with
        | nil => exact absurd e ne
        | cons c0 cs => exact ⟨c0, cs, rfl⟩
      rw [ec] at FLi efs oc
      obtain ⟨CO, e1, e2, e3, e4⟩ := oc c0 List.mem_cons_self
      have CO := (CO.same msk_same).keep W2.S kG
      refine ⟨rfl, yes_if ?_⟩
      refine ⟨_, rfl, _, rfl, d, c, ls[i].1, D, c0, cs, rfl, Sg, FLi, CO, bd, e3, (by omega), fun v o H' ac ic S' kp => ?_⟩
      have hv' := kp.l Sg hv
      refine ⟨_, hv', small1000 (by rw [List.length_map]; omega), S'.put nad nac, keep_put (kG.trans kp) hal, vs ++ [(v, o)], by rw [upd_same, List.map_append]; rfl, fun z hz => ?_, by rw [List.length_append, vl]; rfl, fun j z hz => ?_⟩
      · rcases List.mem_append.mp hz with hz | hz
        · exact ((av z hz).keep Sg kp).put hv'
        · rw [List.mem_singleton.mp hz]
          exact ac.put hv'
      · rw [List.map_append] at hz
        rcases Nat.lt_or_ge j (vs.map fun z => z.2).length with w | w
        · rw [List.getElem?_append_left w] at hz
          exact iv j z hz
        · rw [List.getElem?_append_right w] at hz
          have jl := (List.getElem?_eq_some_iff.mp hz).1
          have w' := w
          rw [List.length_map] at w'
          simp only [List.map_cons, List.map_nil, List.length_cons, List.length_nil] at jl
          have ej : j - (vs.map fun z => z.2).length = 0 := by omega
          rw [ej] at hz
          have hz : o = some z := Option.some.inj hz
          rw [List.length_map] at ej
          obtain rfl : j = i := by omega
          exact ⟨c0, cs, efs, ic z hz⟩
    rintro G3 ⟨Sg, kG, vs, hv, av, vl, iv⟩
    rw [List.length_map] at vl
    have W3 := W2.keep n1 n2 n3 Sg kG
    have F3 := F2.keep W2.S mT.1 mT.2 kG
    have M3 := M2.keep W2.S mT.1 mT.2 n1 n2 n3 kG
    have hn3 := kG.l W2.S hn
    have A3 : AcsAt G3 al (vs.map fun z => z.2) := ⟨vs, hv, av, rfl⟩
    have al3 : (vs.map fun z => z.2).length = fs.length := by rw [List.length_map]; omega
    generalize (vs.map fun z => z.2) = acs at A3 al3 iv
    clear M2 W2 F2 hn kG Sg hv av h1 h2 h3 s0 hal
    refine nm ?_
    dsimp only [List.set]
    refine ⟨_, rfl, _, rfl, _, rfl, _, rfl, _, rfl, d, c, ch, ru, fl, al, D, r.ra, r.ba, rd, ht, fs, acs, rfl, W3.S, W3.C0, n1, n2, W3.RQ, n3, (by omega), (by omega), F3.F.same msk_same (Same.refl _), F3.ok, (by omega), A3, al3, fun i z hz => ?_, fun pl ps G4 hpl PS pn pok S4 kp4 => ?_⟩
    · obtain ⟨c0, cs, e1, e2⟩ := iv i z hz
      obtain ⟨_, e3, e4, e5, e6⟩ := (F3.O _ (List.mem_of_getElem? e1)).2.2 c0 List.mem_cons_self
      have := e2.d
      have := e2.u
      exact ⟨c0, cs, e1, e2, by omega, by omega⟩
    have W4 := W3.keep n1 n2 n3 S4 kp4
    have F4 := F3.keep W3.S mT.1 mT.2 kp4
    have M4 := M3.keep W3.S mT.1 mT.2 n1 n2 n3 kp4
    have plf : pl ≠ fl := let ⟨_, x, _⟩ := F3.F; (ne_of_none x hpl).symm
    have hn4 := kp4.l W3.S hn3
    have A4 := A3.keep W3.S kp4
    clear M3 W3 F3 hn3 A3 kp4 S4 ls ll vs vl
    have B4 : B21 C G4 ch ru fl na al pl D r rd ht fs acs ns ps := ⟨W4.C0, W4.RU, W4.RQ, F4, hn4, A4, PS, M4⟩
    clear M4 W4 F4 hn4 A4 PS
    refine nm ?_
    dsimp only [List.set]
    refine nm ?_
    dsimp only [List.set]
    refine ⟨_, rfl, _, rfl, by omega, by omega, for_range (n := ((mn : Nat) : Int).toNat) (fun j σ G => ∃ (g : Bool) (v12 v13 : Option V), σ = [some (.ref a), some (.ref d), some (.ref ch), some (.ref ld), some (.ref ru), some (.int (mn : Nat)), some (.int sp), some (.ref fl), some (.ref na), some (.ref al), some (.ref pl), some (.bl g), v12, v13, none, none, none, none, none, none, none, none, none, none, none, none, none, none] ∧ Same G4 G ∧ (g = true → SepF D r j fs))
      ⟨true, none, none, rfl, Same.refl _, fun _ a b xs ys h1 h2 => absurd h2 (Nat.not_lt_zero _)⟩ ?_ ?_⟩
    · rintro j σ G hj ⟨g, v12, v13, rfl, sm, sep⟩
      have hj4 : j < mn := by omega
      rw [Int.zero_add]
      refine nm ?_
      dsimp only [List.set]
      obtain ⟨xs, exs⟩ : ∃ xs, fs[j]? = some xs := ⟨_, List.getElem?_eq_getElem (by omega)⟩
      refine ⟨_, rfl, _, rfl, by omega, by omega, for_range (n := ((j : Nat) : Int).toNat) (fun k σ G => ∃ (g : Bool) (v13 : Option V), σ = [some (.ref a), some (.ref d), some (.ref ch), some (.ref ld), some (.ref ru), some (.int (mn : Nat)), some (.int sp), some (.ref fl), some (.ref na), some (.ref al), some (.ref pl), some (.bl g), some (.int (j : Nat)), v13, none, none, none, none, none, none, none, none, none, none, none, none, none, none] ∧ Same G4 G ∧ (g = true → SepF D r j fs ∧ ∀ (b : Nat) (ys : List Cn), b < k → fs[b]? = some ys → ∀ x ∈ xs, ∀ y ∈ ys, SepC D r x y))
        ⟨g, v13, rfl, sm, fun e => ⟨sep e, fun b ys h => absurd h (Nat.not_lt_zero _)⟩⟩ ?_ ?_⟩
      · clear sm sep
        rintro k σ G hk ⟨g, v13, rfl, sm, sep⟩
        have hkj : k < j := by omega
        obtain ⟨ys, eys⟩ : ∃ ys, fs[k]? = some ys := ⟨_, List.getElem?_eq_getElem (by omega)⟩
        have Bg := B4.same sm
        rw [Int.zero_add]
        refine nm ?_
        dsimp only [List.set]
        refine ⟨_, rfl, _, rfl, ?_⟩
        cases g with
        | false =>
          refine iteF ?_
          exact ⟨false, _, rfl, sm, fun z => nomatch z⟩
        | true =>
          refine iteT ?_
          obtain ⟨sepj, sepk⟩ := sep rfl
          obtain ⟨vs, l1, f1, f2, f3, f4⟩ := Bg.F.F.get exs
          obtain ⟨vs', l2, g1, g2, g3, g4⟩ := Bg.F.F.get eys
          have o1 := Bg.F.ok xs (List.mem_of_getElem? exs)
          have o2 := Bg.F.ok ys (List.mem_of_getElem? eys)
          refine ⟨_, rfl, _, rfl, _, rfl, _, rfl, _, _, _, _, rfl, rfl, .inl (.inl f1), atI_nat f3, _, rfl, _, rfl, _, _, _, _, rfl, rfl, .inl (.inl g1), atI_nat g3, ch, ru, l1, l2, D, r, xs, ys, rfl, Bg.C0, Bg.RU, f4.same msk_same, g4.same msk_same, o1.2, o2.2, fun g G' s' hg => ?_⟩
          refine ⟨g, _, rfl, sm.trans s', fun e => ⟨sepj, fun b zs hb hz x hx y hy => ?_⟩⟩
          rcases Nat.lt_or_ge b k with w | w
          · exact sepk b zs w hz x hx y hy
          · obtain rfl : b = k := by omega
            rw [eys] at hz
            cases hz
            exact hg e x hx y hy
      · rintro σ G ⟨g, v13, rfl, sm, sep⟩
        refine ⟨g, _, _, rfl, sm, fun e => ?_⟩
        obtain ⟨s1, s2⟩ := sep e
        intro a b us ys hba haj hu1 hy1 x hx y hy
        rcases Nat.lt_or_ge a j with w | w
        · exact s1 a b us ys hba w hu1 hy1 x hx y hy
        · obtain rfl : a = j := by omega
          rw [exs] at hu1
          cases hu1
          exact s2 b ys (by omega) hy1 x hx y hy
    rintro σ G5 ⟨g, v12, v13, rfl, sm, sep⟩
    have B5 := B4.same sm
    have sep : g = true → SepF D r fs.length fs := fun e => by
      have := sep e
      rw [fsl]
      exact this
    clear B4 sm
    obtain ⟨nfs, enf⟩ : ∃ nfs : List (Str × List Cn), nfs = ns.zip fs := ⟨_, rfl⟩
    have nf1 : nfs.map (fun z => z.1) = ns := by rw [enf]; exact List.map_fst_zip (by omega)
    have nf2 : nfs.map (fun z => z.2) = fs := by rw [enf]; exact List.map_snd_zip (by omega)
    have nfl : nfs.length = mn := by rw [← fsl, ← nf2, List.length_map]
    refine nxP ?_
    dsimp only
    refine ⟨_, rfl, _, rfl, by omega, by omega, fun fo hfo => ?_⟩
    refine lc_range (lo := 0) (n := ((mn : Nat) : Int).toNat) (fun i G => Same G5 G ∧ ∃ ms : List (Addr × Addr × Str × List Cn), G fo = some (.lst (ms.map fun q => V.ref q.1)) ∧ (∀ q ∈ ms, G q.1 = some (.tup [.str q.2.2.1, .ref q.2.1]) ∧ PairL G q.2.1 q.2.2.2 ∧ q.2.1 ≠ fo) ∧ ms.map (fun q => q.2.2) = nfs.take i)
      ⟨same_new hfo, [], upd_same, (by intro q hq; cases hq), rfl⟩ ?_ ?_
    · rintro i G hi ⟨sm, ms, m1, m2, m3⟩
      have hin : i < mn := by omega
      have hnf : i < nfs.length := by omega
      have Bg := B5.same sm
      have ml : ms.length = i := by
        have := congrArg List.length m3
        rw [List.length_map, List.length_take] at this
        omega
      have ens : ns[i]? = some nfs[i].1 := by rw [← nf1, List.getElem?_map, List.getElem?_eq_getElem hnf]; rfl
      have efs : fs[i]? = some nfs[i].2 := by rw [← nf2, List.getElem?_map, List.getElem?_eq_getElem hnf]; rfl
      have hc : nfs.take (i + 1) = nfs.take i ++ [nfs[i]] := by rw [List.take_add_one, List.getElem?_eq_getElem hnf]; rfl
      obtain ⟨vs, l, f1, f2, f3, f4⟩ := Bg.F.F.get efs
      have xl := (Bg.F.O _ (List.mem_of_getElem? efs)).2.1
      obtain ⟨qs, p1, p2, p3⟩ := f4.same msk_same
      rw [hc]
      generalize nfs[i] = nf at ens efs p3 xl
      rw [Int.zero_add]
      refine ⟨rfl, ?_⟩
      refine ⟨_, rfl, _, rfl, _, _, _, .str nf.1, rfl, rfl, .inl (.inl Bg.N), atI_nat (by rw [List.getElem?_map, ens]; rfl), ?_⟩
      refine ⟨_, rfl, _, rfl, _, _, _, _, rfl, rfl, .inl (.inl f1), atI_nat f3, l, rfl, ⟨_, .inl (.inl p1)⟩, fun E2 hE2 => ?_⟩
      have nE : E2 ≠ fo := (ne_of_none m1 hE2).symm
      have ql : qs.length = nf.2.length := by rw [← p3, List.length_map]
      refine lc_list (K := K) (a := l) (xs := qs.map fun q => V.ref q.1) (fun j G' => Same G G' ∧ PairL G' E2 (nf.2.take j)) ⟨same_new hE2, [], upd_same, (by intro q hq; cases hq), rfl⟩ (fun j G' _ h => .inl (.inl (h.1 _ _ p1))) ?_ ?_
      · rintro j y G' hj ⟨sm2, PF⟩
        obtain ⟨z, rfl, hz, hjl, ht0⟩ := getMap hj
        obtain ⟨z1, z2⟩ := p2 z hz
        have hc2 : nf.2.take (j + 1) = nf.2.take j ++ [z.2.2] := by rw [← p3, ← List.map_take, ← List.map_take, ht0, List.map_append]; rfl
        have z1 := sm2 _ _ z1
        have z2 := sm2 _ _ z2
        rw [hc2]
        refine ⟨rfl, yes_if ?_⟩
        refine ⟨_, rfl, _, _, _, _, rfl, rfl, .inl (.inl z1), rfl, _, rfl, _, _, _, _, rfl, rfl, .inl (.inl z1), rfl, szOk rfl, fun t ht => ?_⟩
        have s3 := same_new (o := .tup [.ref z.2.2.p, .ref z.2.1]) ht
        obtain ⟨xs, hx, hxl, PN⟩ := (PF.same s3).snoc (c := z.2.2) (t := t) (bx := z.2.1) upd_same (s3 _ _ z2)
        refine ⟨xs, hx, small1000 (by rw [hxl, List.length_take]; omega), fun b o e => ?_, PN⟩
        rw [upd_ne (ne_of_none e hE2)]
        exact s3 _ _ (sm2 _ _ e)
      rintro G2 ⟨sm2, PF⟩
      rw [List.length_map, ql, List.take_length] at PF
      refine ⟨szOk rfl, fun u hu' => ?_⟩
      have s3 := same_new (o := .tup [.str nf.1, .ref E2]) hu'
      have hu3 : (upd G2 u (.tup [.str nf.1, .ref E2])) u = _ := upd_same
      have m1' := s3 _ _ (sm2 _ _ m1)
      have PF3 := PF.same s3
      have m2' : ∀ q ∈ ms, (upd G2 u (.tup [.str nf.1, .ref E2])) q.1 = some (.tup [.str q.2.2.1, .ref q.2.1]) ∧ PairL (upd G2 u (.tup [.str nf.1, .ref E2])) q.2.1 q.2.2.2 ∧ q.2.1 ≠ fo := fun q hq => ⟨s3 _ _ (sm2 _ _ (m2 q hq).1), ((m2 q hq).2.1.same sm2).same s3, (m2 q hq).2.2⟩
      have s4 := (sm.trans sm2).trans s3
      generalize upd G2 u (.tup [.str nf.1, .ref E2]) = G3 at hu3 m1' PF3 m2' s4 ⊢
      refine ⟨_, m1', small1000 (by rw [List.length_map]; omega), fun b o e => ?_, ms ++ [(u, E2, nf)], by rw [upd_same, List.map_append]; rfl, fun q hq => ?_, by rw [List.map_append, m3]; rfl⟩
      · rw [upd_ne (ne_of_none e hfo)]
        exact s4 _ _ e
      · have tE : ∀ {x : Addr} {zs : List V}, G3 x = some (.tup zs) → x ≠ fo := fun q => ne_of q m1' (by intro z; cases z)
        rcases List.mem_append.mp hq with hq | hq
        · obtain ⟨a1, a2, a3⟩ := m2' q hq
          exact ⟨by rw [upd_ne (tE a1)]; exact a1, a2.updL a3 m1', a3⟩
        · rw [List.mem_singleton.mp hq]
          exact ⟨by rw [upd_ne (tE hu3)]; exact hu3, PF3.updL nE m1', nE⟩
    rintro G6 ⟨sm, ms, m1, m2, m3⟩
    have B6 := B5.same sm
    rw [show ((mn : Nat) : Int).toNat = nfs.length by omega, List.take_length] at m3
    have ml : ms.length = mn := by rw [← nfl, ← m3, List.length_map]
    clear B5 sm hfo
    refine nm ?_
    dsimp only [List.set]
    obtain ⟨qs, q1, q2, q3⟩ := B6.P
    have ql : qs.length = ps.length := by rw [← q3, List.length_map]
    refine ⟨_, rfl, pl, rfl, ⟨_, .inl (.inl q1)⟩, fun hd hhd => ?_⟩
    refine lc_list (K := K) (a := pl) (xs := qs.map fun q => V.ref q.1) (fun i G => Same G6 G ∧ G hd = some (.lst ((qs.take i).map fun q => V.ref q.2.1))) ⟨same_new hhd, upd_same⟩ (fun i G _ h => .inl (.inl (h.1 _ _ q1))) ?_ ?_
    · rintro i y G hi ⟨sm, hA⟩
      obtain ⟨z, rfl, hz, hil, ht0⟩ := getMap hi
      obtain ⟨z1, _⟩ := q2 z hz
      refine ⟨rfl, yes_if ?_⟩
      refine ⟨_, rfl, _, _, _, _, rfl, rfl, .inl (.inl (sm _ _ z1)), rfl, ?_⟩
      refine ⟨_, hA, small1000 (by rw [List.length_map, List.length_take]; omega), fun b o e => ?_, by rw [upd_same, ht0, List.map_append]; rfl⟩
      rw [upd_ne (ne_of_none e hhd)]
      exact sm _ _ e
    rintro G7 ⟨sm, hA⟩
    rw [List.length_map, List.take_length] at hA
    have B7 := B6.same sm
    have m1 := sm _ _ m1
    have m2 : ∀ q ∈ ms, G7 q.1 = some (.tup [.str q.2.2.1, .ref q.2.1]) ∧ PairL G7 q.2.1 q.2.2.2 := fun q hq => ⟨sm _ _ (m2 q hq).1, (m2 q hq).2.1.same sm⟩
    have q1 := sm _ _ q1
    have q2 : ∀ q ∈ qs, G7 q.1 = some (.tup [.ref q.2.1, .int q.2.2.2]) ∧ G7 q.2.1 = some (PlT q.2.2.1) ∧ BdN 46 q.2.2.1.x ∧ BdN 46 q.2.2.1.y := fun q hq => ⟨sm _ _ (q2 q hq).1, sm _ _ (q2 q hq).2.1, (q2 q hq).2.2⟩
    clear B6 sm hhd
    refine nm ?_
    dsimp only [List.set]
    refine ⟨_, rfl, fo, rfl, ⟨_, .inl (.inl m1)⟩, fun kk hkk => ?_⟩
    refine lc_list (K := K) (a := fo) (xs := ms.map fun q => V.ref q.1) (fun i G => Same G7 G ∧ ∃ ws : List V, G kk = some (.lst ws) ∧ ws.length = i ∧ ∀ (j : Nat) (x y : V), (ms.map fun q => V.ref q.1)[j]? = some x → ws[j]? = some y → Alike (msk [kk] G) 2 x y) ⟨same_new hkk, [], upd_same, rfl, by intro j x y _ hy; cases hy⟩ (fun i G _ h => .inl (.inl (h.1 _ _ m1))) ?_ ?_
    · rintro i y G hi ⟨sm, ws, hw, wl, aw⟩
      obtain ⟨z, rfl, hz, hil, ht0⟩ := getMap hi
      obtain ⟨z1, z2⟩ := m2 z hz
      obtain ⟨zs, p1, p2, p3⟩ := z2
      have z1 := sm _ _ z1
      have p1' := sm _ _ p1
      refine ⟨rfl, yes_if ?_⟩
      refine ⟨_, rfl, _, _, _, _, rfl, rfl, .inl (.inl z1), rfl, _, rfl, _, _, _, _, rfl, rfl, .inl (.inl z1), rfl, _, _, rfl, .inl (.inl (.inl p1')), fun l' hl' => ?_⟩
      have s1 := same_new (o := .lst (zs.map fun q => V.ref q.1)) hl'
      refine ⟨szOk rfl, fun u hu' => ?_⟩
      have hl1 : (upd G l' (.lst (zs.map fun q => V.ref q.1))) l' = _ := upd_same
      have lk : l' ≠ kk := (ne_of_none hw hl').symm
      generalize upd G l' (.lst (zs.map fun q => V.ref q.1)) = G1 at s1 hl1 hu' ⊢
      have s2 := same_new (o := .tup [.str z.2.2.1, .ref l']) hu'
      have hu2 : (upd G1 u (.tup [.str z.2.2.1, .ref l'])) u = _ := upd_same
      have s3 := s1.trans s2
      have hw2 := s3 _ _ hw
      have hl2 := s2 _ _ hl1
      have z12 := s3 _ _ z1
      have p12 := s3 _ _ p1'
      have aw2 : ∀ (j : Nat) (x y : V), (ms.map fun q => V.ref q.1)[j]? = some x → ws[j]? = some y → Alike (msk [kk] (upd G1 u (.tup [.str z.2.2.1, .ref l']))) 2 x y := fun j x y a b => (aw j x y a b).same (msk_mono s3)
      have s4 := sm.trans s3
      generalize upd G1 u (.tup [.str z.2.2.1, .ref l']) = G2 at hu2 hw2 hl2 z12 p12 aw2 s4 ⊢
      have tk : ∀ {x : Addr} {zs : List V}, G2 x = some (.tup zs) → x ∉ [kk] := fun q => by simpa using (ne_of q hw2 (by intro z; cases z))
      have al : Alike (msk [kk] G2) 2 (.ref z.1) (.ref u) := alike_copy (as := zs.map fun q => q.1) (msk_of z12 (tk z12)) (msk_of hu2 (tk hu2)) (msk_of (by rw [List.map_map]; exact p12) (by simpa using (ne_of_none p1 hkk))) (msk_of (by rw [List.map_map]; exact hl2) (by simpa using lk))
      have mm : ∀ o, msk [kk] (upd G2 kk o) = msk [kk] G2 := fun o => msk_put (by simp)
      refine ⟨ws, hw2, small1000 (by omega), fun b o e => ?_, ws ++ [.ref u], upd_same, by rw [List.length_append, wl]; rfl, fun j x y hx hy => ?_⟩
      · rw [upd_ne (ne_of_none e hkk)]
        exact s4 _ _ e
      · rw [mm]
        rcases Nat.lt_or_ge j ws.length with w | w
        · rw [List.getElem?_append_left w] at hy
          exact aw2 j x y hx hy
        · have jl := (List.getElem?_eq_some_iff.mp hy).1
          rw [List.length_append, List.length_singleton] at jl
          obtain rfl : j = i := by omega
          rw [List.getElem?_append_right w, show j - ws.length = 0 by omega] at hy
          rw [hi] at hx
          cases hx
          cases hy
          exact al
    rintro G8 ⟨sm, ws, hw, wl, aw⟩
    have aw := fun j x y a b => (aw j x y a b).same (msk_same (T := [kk]))
    have B8 := B7.same sm
    have m1 := sm _ _ m1
    have m2 : ∀ q ∈ ms, G8 q.1 = some (.tup [.str q.2.2.1, .ref q.2.1]) ∧ PairL G8 q.2.1 q.2.2.2 := fun q hq => ⟨sm _ _ (m2 q hq).1, (m2 q hq).2.same sm⟩
    have q1 := sm _ _ q1
    have q2 : ∀ q ∈ qs, G8 q.1 = some (.tup [.ref q.2.1, .int q.2.2.2]) ∧ G8 q.2.1 = some (PlT q.2.2.1) ∧ BdN 46 q.2.2.1.x ∧ BdN 46 q.2.2.1.y := fun q hq => ⟨sm _ _ (q2 q hq).1, sm _ _ (q2 q hq).2.1, (q2 q hq).2.2⟩
    have hA := sm _ _ hA
    clear B7 sm hkk
    refine nm ?_
    dsimp only [List.set]
    have FO8 : FoAt G8 G8 fo nfs := ⟨ms, m1, m2, m3⟩
    have okn : ∀ nf ∈ nfs, nf.2.length ≤ 100 ∧ ∀ c ∈ nf.2, CnOk C G8 D c := fun nf hnf => by
      have hm : nf.2 ∈ fs := by rw [← nf2]; exact List.mem_map.mpr ⟨nf, hnf, rfl⟩
      exact ⟨by have := (B8.F.O _ hm).2.1; omega, (B8.F.ok _ hm).2⟩
    refine ⟨_, rfl, _, rfl, _, rfl, ru, fo, hd, r.ra, r.ba, rd, ht, D, nfs, ps.map (fun p => p.1), rfl, B8.RQ, FO8, okn, by omega, bd, ⟨qs.map fun q => (q.2.1, q.2.2.1), by rw [List.map_map]; exact hA, fun q hq => ?_, by rw [List.map_map, ← q3, List.map_map]; rfl⟩, by rw [List.length_map]; omega, fun t nm' fo' nfs' G9 s9 htt hnm FO' nfe1 nfe2 => ?_⟩
    · obtain ⟨z, hz, rfl⟩ := List.mem_map.mp hq
      exact (q2 z hz).2
    rw [nf2] at nfe2
    rw [nf1] at nfe1
    rw [nf2, nf1] at hnm
    refine nm ?_
    dsimp only [List.set]
    have B9 := B8.same s9
    have m19 := s9 _ _ m1
    have hw9 := s9 _ _ hw
    have q19 := s9 _ _ q1
    have q29 : ∀ q ∈ qs, G9 q.1 = some (.tup [.ref q.2.1, .int q.2.2.2]) ∧ G9 q.2.1 = some (PlT q.2.2.1) ∧ BdN 46 q.2.2.1.x ∧ BdN 46 q.2.2.1.y := fun q hq => ⟨s9 _ _ (q2 q hq).1, s9 _ _ (q2 q hq).2.1, (q2 q hq).2.2⟩
    have hA9 := s9 _ _ hA
    have aw9 := fun i x y a b => (aw i x y a b).same s9
    clear B8 m1 hw q1 q2 hA aw s9 FO8 okn m2
    refine ⟨_, rfl, _, _, _, _, true, rfl, ClsV.ty "tuple", TyX.base (TyOf.tup htt), kit_ty (by decide +kernel), _, rfl, iteF ?_⟩
    refine ⟨_, rfl, _, _, rfl, .inr (.inl (.inl htt)), rfl, _, rfl, neN rfl ?_⟩
    refine ⟨_, rfl, _, rfl, fo, kk, _, ws, 2, rfl, rfl, m19, hw9, by rw [wl], (by decide), aw9, _, rfl, iteF ?_⟩
    refine ⟨_, rfl, _, rfl, pl, rfl, ⟨_, .inl (.inl q19)⟩, fun h2 hh2 => ?_⟩
    refine lc_list (K := K) (a := pl) (xs := qs.map fun q => V.ref q.1) (fun i G => Same G9 G ∧ G h2 = some (.lst ((qs.take i).map fun q => V.ref q.2.1))) ⟨same_new hh2, upd_same⟩ (fun i G _ h => .inl (.inl (h.1 _ _ q19))) ?_ ?_
    · rintro i y G hi ⟨sm, hA⟩
      obtain ⟨z, rfl, hz, hil, ht0⟩ := getMap hi
      obtain ⟨z1, _⟩ := q29 z hz
      refine ⟨rfl, yes_if ?_⟩
      refine ⟨_, rfl, _, _, _, _, rfl, rfl, .inl (.inl (sm _ _ z1)), rfl, ?_⟩
      refine ⟨_, hA, small1000 (by rw [List.length_map, List.length_take]; omega), fun b o e => ?_, by rw [upd_same, ht0, List.map_append]; rfl⟩
      rw [upd_ne (ne_of_none e hh2)]
      exact sm _ _ e
    rintro G10 ⟨sm, hB⟩
    rw [List.length_map, List.take_length] at hB
    refine ⟨hd, h2, _, _, 0, rfl, rfl, sm _ _ hA9, hB, rfl, (by decide), fun i x y hx hy => ?_, _, rfl, iteF ?_⟩
    · rw [hx] at hy
      cases hy
      rw [List.getElem?_map] at hx
      cases e : qs[i]? with
      | none => rw [e] at hx; cases hx
      | some q =>
        rw [e] at hx
        cases hx
        exact .ref
    have B10 := B9.same sm
    have FO10 := FO'.same sm sm
    have ht10 := sm _ _ htt
    have hnm10 := sm _ _ hnm
    have q110 := sm _ _ q19
    have q210 : ∀ q ∈ qs, G10 q.1 = some (.tup [.ref q.2.1, .int q.2.2.2]) ∧ G10 q.2.1 = some (PlT q.2.2.1) ∧ BdN 46 q.2.2.1.x ∧ BdN 46 q.2.2.1.y := fun q hq => ⟨sm _ _ (q29 q hq).1, sm _ _ (q29 q hq).2.1, (q29 q hq).2.2⟩
    clear B9 FO' htt hnm q19 q29 hB hA9 sm hw9 aw9 m19 hh2
    refine nxP ?_
    dsimp only
    refine ⟨szOk rfl, fun ow how => ?_⟩
    refine nm ?_
    dsimp only [List.set]
    refine nm ?_
    dsimp only [List.set]
    obtain ⟨lsF, hfl, hlF, elF⟩ := B10.F.F
    have asl : ∀ a ∈ lsF.map (fun q => q.1), ∃ ys, G10 a = some (.lst ys) := fun a ha => by
      obtain ⟨q, hq, rfl⟩ := List.mem_map.mp ha
      obtain ⟨_, x, _⟩ := hlF q hq
      exact ⟨_, msk_same _ _ x⟩
    have lsl : lsF.length = mn := by rw [← fsl, ← elF, List.length_map]
    have lsne : lsF.map (fun q => q.1) ≠ [] := fun z => by
      have := congrArg List.length z
      rw [List.length_map, List.length_nil] at this
      omega
    have hfl' : G10 fl = some (.lst ((lsF.map fun q => q.1).map V.ref)) := by rw [List.map_map]; exact hfl
    obtain ⟨m, em⟩ : ∃ m, rd + r.ra = m := ⟨_, rfl⟩
    obtain ⟨w, ew⟩ : ∃ w, ht + r.ba = w := ⟨_, rfl⟩
    rw [em, ew] at hnm10 nfe2
    have okr := fun l => runF_ok (D := D) (m := m) (w := w) (C := C) (fs := fs) (B := msk [fl] G10) (fun cs hcs => ⟨(B10.F.O cs hcs).1, by have := (B10.F.O cs hcs).2.1; omega, fun c hc => ((B10.F.O cs hcs).2.2 c hc).1⟩) l
    have nfl' : nfs'.length = mn := by rw [← fsl, ← runF_len (D := D) (m := m) (w := w) (ps.map fun p => p.1) fs, ← nfe2, List.length_map]
    have FOM : FoAt (msk [fl] G10) (msk [fl] G10) fo' nfs' := FO10.mskL (fun z => by rw [z] at nfl'; simp at nfl'; omega) (fun nf hnf => (okr _ nf.2 (by rw [← nfe2]; exact List.mem_map.mpr ⟨nf, hnf, rfl⟩)).1) hfl' asl
    have tupM : ∀ {x : Addr} {ys : List V}, G10 x = some (.tup ys) → msk [fl] G10 x = some (.tup ys) := fun w => msk_of w (by simpa using (ne_of w hfl (by intro z; cases z)))
    have nmf : nm' ≠ fl := strs_ne (ss := (owns D m w (ps.map fun p => p.1) fs).map (ownS ns)) (by rw [List.map_map]; exact hnm10) hfl' lsne
    have hnmM := msk_of (T := [fl]) hnm10 (by simpa using nmf)
    have naM := msk_of (T := [fl]) B10.N (by simpa using naf)
    have plM := msk_of (T := [fl]) q110 (by simpa using plf)
    have htM := tupM ht10
    have qM : ∀ q ∈ qs, msk [fl] G10 q.1 = some (.tup [.ref q.2.1, .int q.2.2.2]) ∧ msk [fl] G10 q.2.1 = some (PlT q.2.2.1) ∧ BdN 46 q.2.2.1.x ∧ BdN 46 q.2.2.1.y := fun q hq => ⟨tupM (q210 q hq).1, tupM (q210 q hq).2.1, (q210 q hq).2.2⟩
    have AM : AcsAt (msk [fl] G10) al acs := let ⟨vs, a, b, e⟩ := B10.A; ⟨vs, msk_of a (by simpa using alf), fun z hz => (b z hz).msk hfl, e⟩
    have C0M := B10.M.C0
    have RQM := B10.M.RQ
    have okM : ∀ cs ∈ fs, ∀ c ∈ cs, CnOk C (msk [fl] G10) D c := fun cs hcs c hc => ((B10.F.O cs hcs).2.2 c hc).1
    obtain ⟨rb1, rb2, rb3, rb4, rb5, rb6, rb7, rb8⟩ := B10.RQ.bd
    have owf : ow ≠ fl := (ne_of_none hfl how).symm
    have owM : msk [fl] G10 ow = none := by unfold msk; rw [if_neg (by simpa using owf)]; exact how
    have s11 := same_new (o := .lst []) how
    have F11 := B10.F.F.same (msk_mono s11) s11
    have S11' : Same (msk [fl] G10) (upd G10 ow (.lst [])) := msk_same.trans s11
    have how11 : (upd G10 ow (.lst [])) ow = some (.lst []) := upd_same
    generalize upd G10 ow (.lst []) = G11 at F11 S11' how11 ⊢
    have hMS : ∀ G, Same (msk [fl] G10) G → Same (msk [fl] G10) (msk [fl] G) := fun G s => same_msk s
    have hMf : ∀ b o, msk [fl] G10 b = some o → b ≠ fl := fun b o e z => by
      unfold msk at e
      rw [if_pos (by simpa using z)] at e
      cases e
    generalize msk [fl] G10 = M0 at *
    clear B10 FO10 ht10 hnm10 q110 q210 hfl hlF elF asl hfl' tupM s11 how
    have inn0 : InF D fs fs acs := InF.refl iv
    have qlp : ps.map (fun p => p.1) = qs.map fun q => q.2.2.1 := by rw [← q3, List.map_map]; rfl
    refine ⟨_, rfl, pl, rfl, ⟨_, .inl (.inl (S11' _ _ plM))⟩, for_list (K := K) (a := pl) (xs := qs.map fun q => V.ref q.1) (fun i σ G => ∃ (st : Bool) (v20 v21 : Option V), σ = [some (.ref a), some (.ref d), some (.ref ch), some (.ref ld), some (.ref ru), some (.int (mn : Nat)), some (.int sp), some (.ref fl), some (.ref na), some (.ref al), some (.ref pl), some (.bl g), v12, v13, some (.ref fo), some (.ref hd), some (.ref kk), some (.ref t), some (.ref ow), some (.bl st), v20, v21, none, none, none, none, none, none] ∧ Same M0 G ∧ G ow = some (.lst ((owns D m w ((ps.map fun p => p.1).take i) fs).map fun o => V.str (ownS ns o))) ∧ FsAt (msk [fl] G) G fl (runF D m w ((ps.map fun p => p.1).take i) fs) ∧ (g = true → st = false → InF D fs (runF D m w ((ps.map fun p => p.1).take i) fs) acs))
      ⟨false, none, none, rfl, S11', how11, F11, fun _ _ => inn0⟩ (fun i σ G _ ⟨_, _, _, _, e, _⟩ => .inl (.inl (e _ _ plM))) ?_ ?_⟩
    · clear S11' how11 F11 inn0
      rintro i y σ G hi ⟨st, v20, v21, rfl, SG, hog, FG, inn⟩
      obtain ⟨z, rfl, hz, hil, ht0⟩ := getMap hi
      obtain ⟨z1, z2, z3, z4⟩ := qM z hz
      have hc : (ps.map fun p => p.1).take (i + 1) = (ps.map fun p => p.1).take i ++ [z.2.2.1] := by rw [qlp, ← List.map_take, ← List.map_take, ht0, List.map_append]; rfl
      have pk := pok z.2.2 (by rw [← q3]; exact List.mem_map.mpr ⟨z, hz, rfl⟩)
      rw [em, ew] at pk
      rw [hc, owns_snoc, runF_snoc]
      have okc := okr ((ps.map fun p => p.1).take i)
      have sub := runF_sub (D := D) (m := m) (w := w) (fs := fs) ((ps.map fun p => p.1).take i)
      have curl := runF_len (D := D) (m := m) (w := w) ((ps.map fun p => p.1).take i) fs
      have osl : (owns D m w ((ps.map fun p => p.1).take i) fs).length ≤ 100 := by
        rw [owns_len, List.length_take, List.length_map]
        omega
      generalize runF D m w ((ps.map fun p => p.1).take i) fs = cur at FG inn okc sub curl ⊢
      generalize owns D m w ((ps.map fun p => p.1).take i) fs = os at hog osl ⊢
      clear hc ht0 hi hz
      obtain ⟨zt, zq, pp, pi⟩ := z
      dsimp only at z1 z2 z3 z4 pk ⊢
      refine nm ?_
      dsimp only [List.set]
      have SM := hMS _ SG
      refine ⟨_, rfl, _, rfl, _, rfl, _, rfl, _, _, _, _, rfl, rfl, .inl (.inl (SG _ _ z1)), rfl, ch, ru, fl, zq, r.ra, r.ba, rd, ht, D, cur, pp, rfl, C0M.same SM, RQM.same SM, FG, fun cs hcs => ⟨(okc cs hcs).2.1, fun c hc => ((okc cs hcs).2.2 c hc).same SM⟩, (by omega), SM _ _ z2, z3, z4, fun iz G' s1 s2 F' k1 k2 => ?_⟩
      refine nm ?_
      dsimp only [List.set]
      have S' : Same M0 G' := fun b o e => s2 _ _ (SG _ _ e) (hMf _ _ e)
      have ho' := s2 _ _ hog owf
      have ho'' : G' ow = some (.lst ((os.map fun o => ownS ns o).map V.str)) := by rw [List.map_map]; exact ho'
      have ne' : ∀ cs ∈ give D m w pp cur, cs ≠ [] := fun cs hcs => (give_keeps (p := pp) okc cs hcs).1
      rw [em, ew] at F' k1 k2
      have okc' := fun o => F'.putS (o := o) ne' owf ho''
      have S2 : ∀ o, Same M0 (upd G' ow o) := fun o b x e => by
        rw [upd_ne (ne_of_none e owM)]
        exact S' _ _ e
      have hN' := S' _ _ naM
      have z1' := S' _ _ z1
      clear s1 s2 SM SG hog FG
      refine ⟨_, rfl, .inl ⟨rfl, _, .inl (.inl ho')⟩, _, rfl, _, _, rfl, rfl, _, rfl, ?_⟩
      cases ff : firstF D m w pp cur with
      | none =>
        obtain rfl := k1 ff
        refine ifY (by decide) ?_
        refine ⟨_, _, _, rfl, rfl, ho', small1000 (by rw [List.length_map]; omega), ?_⟩
        have hl2 : (upd G' ow (.lst ((os.map fun o => V.str (ownS ns o)) ++ [V.str ""]))) ow = some (.lst ((os ++ [none]).map fun o => V.str (ownS ns o))) := by rw [upd_same, List.map_append]; rfl
        have S2 := S2 (.lst ((os.map fun o => V.str (ownS ns o)) ++ [V.str ""]))
        have F2 := okc' (.lst ((os.map fun o => V.str (ownS ns o)) ++ [V.str ""]))
        have z2 := S2 _ _ z1
        generalize upd G' ow (.lst ((os.map fun o => V.str (ownS ns o)) ++ [V.str ""])) = G2 at hl2 S2 F2 z2 ⊢
        rw [give_none ff] at F2 ⊢
        refine ⟨_, rfl, _, rfl, ?_⟩
        cases st with
        | true =>
          refine iteT ?_
          refine nm ?_
          dsimp only [List.set]
          cases g with
          | false =>
            refine ⟨_, rfl, _, rfl, iteF ?_⟩
            exact ⟨_, _, _, rfl, S2, hl2, F2, fun z => nomatch z⟩
          | true =>
            refine ⟨_, rfl, _, rfl, iteT ?_⟩
            refine ⟨_, rfl, _, rfl, iteF ?_⟩
            exact ⟨_, _, _, rfl, S2, hl2, F2, fun _ z => nomatch z⟩
        | false =>
          refine iteF ?_
          refine ⟨_, rfl, _, _, _, _, rfl, rfl, .inl (.inl z2), rfl, _, _, rfl, rfl, _, rfl, ?_⟩
          rcases pk with rfl | ⟨j0, pr, lv, c0, cs, rfl, pa, pf, pt⟩
          · refine ifY (by decide) ?_
            refine ⟨_, rfl, _, _, rfl, rfl, ?_⟩
            refine nm ?_
            dsimp only [List.set]
            rw [show decide ((0 : Int) ≤ -1) = false from rfl]
            cases g with
            | false =>
              refine ⟨_, rfl, _, rfl, iteF ?_⟩
              exact ⟨_, _, _, rfl, S2, hl2, F2, fun z => nomatch z⟩
            | true =>
              refine ⟨_, rfl, _, rfl, iteT ?_⟩
              refine ⟨_, rfl, _, rfl, iteT ?_⟩
              refine ⟨_, rfl, _, _, _, _, rfl, rfl, .inl (.inl z2), rfl, _, _, rfl, rfl, _, rfl, ifN (by decide) ?_⟩
              exact ⟨_, _, _, rfl, S2, hl2, F2, fun _ _ => inn rfl rfl⟩
          · refine ifN (by omega) ?_
            refine nm ?_
            dsimp only [List.set]
            cases g with
            | false =>
              refine ⟨_, rfl, _, rfl, iteF ?_⟩
              exact ⟨_, _, _, rfl, S2, hl2, F2, fun z => nomatch z⟩
            | true =>
              exfalso
              have hin : InCn D c0 pr lv := by
                obtain ⟨c1, cs1, e1, e2⟩ := iv j0 _ pa
                rw [pf] at e1
                cases e1
                exact e2
              have rt := give_right (B := M0) (p := pp) bd okM (by omega) (by omega) (by omega) (sep rfl) sub (inn rfl rfl) pa pf hin pt
              rw [ff] at rt
              cases rt
      | some j =>
        obtain rfl := k2 j ff
        obtain ⟨hj, _, _⟩ := firstF_spec ff
        have hjn : j < ns.length := by omega
        refine ifN (by omega) ?_
        refine ⟨_, rfl, _, rfl, _, _, _, .str ns[j], rfl, rfl, .inl (.inl hN'), atI_nat (mapAt hjn), ?_⟩
        refine ⟨_, _, _, rfl, rfl, ho', small1000 (by rw [List.length_map]; omega), ?_⟩
        have en : ownS ns (some j) = ns[j] := by
          show List.getD ns j ("" : Str) = _
          simp [hjn]
        have hl2 : (upd G' ow (.lst ((os.map fun o => V.str (ownS ns o)) ++ [V.str ns[j]]))) ow = some (.lst ((os ++ [some j]).map fun o => V.str (ownS ns o))) := by
          rw [upd_same, List.map_append, show [some j].map (fun o => V.str (ownS ns o)) = [V.str (ownS ns (some j))] from rfl, en]
        have S2 := S2 (.lst ((os.map fun o => V.str (ownS ns o)) ++ [V.str ns[j]]))
        have F2 := okc' (.lst ((os.map fun o => V.str (ownS ns o)) ++ [V.str ns[j]]))
        have z2 := S2 _ _ z1
        generalize upd G' ow (.lst ((os.map fun o => V.str (ownS ns o)) ++ [V.str ns[j]])) = G2 at hl2 S2 F2 z2 ⊢
        refine ⟨_, rfl, _, rfl, ?_⟩
        cases st with
        | true =>
          refine iteT ?_
          refine nm ?_
          dsimp only [List.set]
          cases g with
          | false =>
            refine ⟨_, rfl, _, rfl, iteF ?_⟩
            exact ⟨_, _, _, rfl, S2, hl2, F2, fun z => nomatch z⟩
          | true =>
            refine ⟨_, rfl, _, rfl, iteT ?_⟩
            refine ⟨_, rfl, _, rfl, iteF ?_⟩
            exact ⟨_, _, _, rfl, S2, hl2, F2, fun _ z => nomatch z⟩
        | false =>
          refine iteF ?_
          refine ⟨_, rfl, _, _, _, _, rfl, rfl, .inl (.inl z2), rfl, _, _, rfl, rfl, _, rfl, ?_⟩
          rcases pk with rfl | ⟨j0, pr, lv, c0, cs, rfl, pa, pf, pt⟩
          · refine ifY (by decide) ?_
            refine ⟨_, rfl, _, _, rfl, rfl, ?_⟩
            refine nm ?_
            dsimp only [List.set]
            rw [decide_eq_true (show (0 : Int) ≤ (j : Int) by omega)]
            cases g with
            | false =>
              refine ⟨_, rfl, _, rfl, iteF ?_⟩
              exact ⟨_, _, _, rfl, S2, hl2, F2, fun z => nomatch z⟩
            | true =>
              refine ⟨_, rfl, _, rfl, iteT ?_⟩
              refine ⟨_, rfl, _, rfl, iteF ?_⟩
              exact ⟨_, _, _, rfl, S2, hl2, F2, fun _ z => nomatch z⟩
          · refine ifN (by omega) ?_
            refine nm ?_
            dsimp only [List.set]
            cases g with
            | false =>
              refine ⟨_, rfl, _, rfl, iteF ?_⟩
              exact ⟨_, _, _, rfl, S2, hl2, F2, fun z => nomatch z⟩
            | true =>
              have hin : InCn D c0 pr lv := by
                obtain ⟨c1, cs1, e1, e2⟩ := iv j0 _ pa
                rw [pf] at e1
                cases e1
                exact e2
              have rt := give_right (B := M0) (p := pp) bd okM (by omega) (by omega) (by omega) (sep rfl) sub (inn rfl rfl) pa pf hin pt
              rw [ff] at rt
              obtain rfl := Option.some.inj rt
              have inn' := (inn rfl rfl).give ff pa pf pt
              refine ⟨_, rfl, _, rfl, iteT ?_⟩
              refine ⟨_, rfl, _, rfl, iteT ?_⟩
              refine ⟨_, rfl, _, _, _, _, rfl, rfl, .inl (.inl z2), rfl, _, _, rfl, rfl, _, rfl, ifY (by omega) ?_⟩
              refine ⟨_, rfl, _, rfl, _, _, _, _, rfl, rfl, .inl (.inl z2), rfl, rfl, _, rfl, neN rfl ?_⟩
              exact ⟨_, _, _, rfl, S2, hl2, F2, fun _ _ => inn'⟩
    rintro σ G12 ⟨st, v20, v21, rfl, SG, hog, FG, inn⟩
    rw [show (qs.map fun q => V.ref q.1).length = (ps.map fun p => p.1).length by rw [List.length_map, List.length_map, ql], List.take_length] at hog FG inn
    refine nxP ?_
    dsimp only
    refine ⟨_, rfl, _, _, _, .ref nm', rfl, rfl, .inl (.inl (SG _ _ htM)), rfl, _, rfl, nm', ow, _, _, 0, rfl, rfl, SG _ _ hnmM, hog, rfl, (by decide), fun i x y hx hy => ?_, _, rfl, iteF ?_⟩
    · rw [hx] at hy
      cases hy
      rw [List.getElem?_map] at hx
      cases e : (owns D m w (ps.map fun p => p.1) fs)[i]? with
      | none => rw [e] at hx; cases hx
      | some o =>
        rw [e] at hx
        cases hx
        exact .flat rfl
    refine ⟨_, rfl, _, _, _, .ref fo', rfl, rfl, .inl (.inl (SG _ _ htM)), rfl, _, rfl, _, rfl, fo', fl, na, D, nfs', M0, msk [fl] G12, rfl, SG, msk_same, FOM.same (Same.refl _) SG, by rw [nfe2]; exact FG, by rw [show (nfs'.map fun z => V.str z.1) = ns.map V.str by rw [← nfe1, List.map_map]; rfl]; exact SG _ _ naM, fun nf hnf => ?_, by omega, fun nf hnf c hc => ?_, fun G13 s13 => ?_⟩
    · obtain ⟨_, b1, b2⟩ := okr _ nf.2 (by rw [← nfe2]; exact List.mem_map.mpr ⟨nf, hnf, rfl⟩)
      exact ⟨b1, fun c hc => (b2 c hc).same SG⟩
    · obtain ⟨_, b1, b2⟩ := okr _ nf.2 (by rw [← nfe2]; exact List.mem_map.mpr ⟨nf, hnf, rfl⟩)
      exact (b2 c hc).R.sok C0M
    refine ⟨_, rfl, iteF ?_⟩
    have F13 := FG.same (msk_mono s13) s13
    have S13 := SG.trans s13
    obtain ⟨vs, a1, a2, a3⟩ := AM.same S13
    have vl : vs.length = mn := by rw [← fsl, ← al3, ← a3, List.length_map]
    have curb := okr (ps.map fun p => p.1)
    generalize runF D m w (ps.map fun p => p.1) fs = cur at F13 inn curb
    clear SG hog FG FOM hnmM naM plM htM qM C0M RQM s13 okr
    refine nxP ?_
    dsimp only
    refine ⟨_, rfl, _, rfl, by omega, by omega, for_range (n := ((mn : Nat) : Int).toNat) (fun i σ G => ∃ (v20 v21 v22 v23 v24 v25 v26 v27 : Option V), σ = [some (.ref a), some (.ref d), some (.ref ch), some (.ref ld), some (.ref ru), some (.int (mn : Nat)), some (.int sp), some (.ref fl), some (.ref na), some (.ref al), some (.ref pl), some (.bl g), v12, v13, some (.ref fo), some (.ref hd), some (.ref kk), some (.ref t), some (.ref ow), some (.bl st), v20, v21, v22, v23, v24, v25, v26, v27] ∧ Same G13 G)
      ⟨v20, v21, none, none, none, none, none, none, rfl, Same.refl _⟩ ?_ ?_⟩
    rotate_left
    · rintro σ G ⟨v20, v21, v22, v23, v24, v25, v26, v27, rfl, _⟩
      exact k _
    rintro i σ G hi ⟨v20, v21, v22, v23, v24, v25, v26, v27, rfl, sG⟩
    rw [Int.zero_add]
    refine nm ?_
    dsimp only [List.set]
    cases g with
    | false =>
      refine ⟨_, rfl, _, rfl, iteF ?_⟩
      exact ⟨_, _, _, _, _, _, _, _, rfl, sG⟩
    | true =>
      refine ⟨_, rfl, _, rfl, iteT ?_⟩
      cases st with
      | true =>
        refine ⟨_, rfl, _, rfl, iteF ?_⟩
        exact ⟨_, _, _, _, _, _, _, _, rfl, sG⟩
      | false =>
        refine ⟨_, rfl, _, rfl, iteT ?_⟩
        have inn := inn rfl rfl
        have hiv : i < vs.length := by omega
        have hva := atI_nat (xs := vs.map fun z => z.1) (j := i) (v := vs[i].1) (mapAt hiv)
        have hac := (a2 _ (List.getElem_mem hiv)).same sG
        have eac : acs[i]? = some vs[i].2 := by rw [← a3, List.getElem?_map, List.getElem?_eq_getElem hiv]; rfl
        generalize vs[i].1 = va at hva hac
        generalize vs[i].2 = oa at hac eac
        refine ⟨_, rfl, _, rfl, _, _, _, _, rfl, rfl, .inl (.inl (sG _ _ a1)), hva, rfl, _, rfl, ?_⟩
        cases oa with
        | none =>
          have hac : va = .non := hac
          refine ifNotY hac ?_
          exact ⟨_, _, _, _, _, _, _, _, rfl, sG⟩
        | some z =>
          obtain ⟨pr, lv⟩ := z
          obtain ⟨qa, rfl, hqa⟩ := hac
          refine ifNotN (fun z => nomatch z) ?_
          refine ⟨_, rfl, _, rfl, _, _, _, _, rfl, rfl, .inl (.inl (sG _ _ a1)), hva, ?_⟩
          refine ⟨_, _, rfl, .inl (.inl hqa), rfl, _, _, rfl, _, _, rfl, rfl, ?_⟩
          dsimp only [List.set]
          obtain ⟨c0, cs, e1, e2⟩ := iv i _ eac
          obtain ⟨cs', c', e3, hc', _, ic⟩ := inn i pr lv c0 cs eac e1
          have csl := (curb cs' (List.mem_of_getElem? e3)).2.1
          obtain ⟨us, l, f1, f2, f3, f4⟩ := F13.get e3
          obtain ⟨rs, p1, p2, p3⟩ := f4.same msk_same
          have f1 := sG _ _ f1
          have p1 := sG _ _ p1
          have p2 : ∀ q ∈ rs, G q.1 = some (.lst [.ref q.2.2.rt, .ref q.2.2.b, .ref q.2.2.p, .ref q.2.1]) ∧ G q.2.1 = some q.2.2.B.t := fun q hq => ⟨sG _ _ (p2 q hq).1, sG _ _ (p2 q hq).2⟩
          have rl : rs.length ≤ 100 := by rw [← p3, List.length_map] at csl; exact csl
          refine ⟨_, rfl, _, rfl, _, _, _, _, rfl, rfl, .inl (.inl f1), atI_nat f3, l, rfl, ⟨_, .inl (.inl p1)⟩, fun bl hbl => ?_⟩
          refine lc_list (K := K) (a := l) (xs := rs.map fun q => V.ref q.1) (fun j G' => Same G G' ∧ G' bl = some (.lst ((rs.take j).map fun q => V.ref q.2.1))) ⟨same_new hbl, upd_same⟩ (fun j G' _ h => .inl (.inl (h.1 _ _ p1))) ?_ ?_
          · rintro j y G' hj ⟨sm, hA⟩
            obtain ⟨z, rfl, hz, hjl, ht0⟩ := getMap hj
            obtain ⟨z1, _⟩ := p2 z hz
            refine ⟨rfl, yes_if ?_⟩
            refine ⟨_, rfl, _, _, _, _, rfl, rfl, .inl (.inl (sm _ _ z1)), rfl, ?_⟩
            refine ⟨_, hA, small1000 (by rw [List.length_map, List.length_take]; omega), fun b o e => ?_, by rw [upd_same, ht0, List.map_append]; rfl⟩
            rw [upd_ne (ne_of_none e hbl)]
            exact sm _ _ e
          rintro G14 ⟨sm, hA⟩
          rw [List.length_map, List.take_length] at hA
          refine nm ?_
          dsimp only [List.set]
          have p4 : ∀ q ∈ rs, G14 q.2.1 = some (.tup [.int q.2.2.B.lo, .int q.2.2.B.hi, .int q.2.2.B.dn, .int q.2.2.B.up]) := fun q hq => sm _ _ (p2 q hq).2
          have sG := sG.trans sm
          refine ⟨_, rfl, bl, rfl, ⟨_, .inl (.inl hA)⟩, fun E2 hE2 => ?_⟩
          refine lc_list (K := K) (a := bl) (xs := rs.map fun q => V.ref q.2.1) (fun j G' => Same G14 G' ∧ ∃ bs : List Bool, G' E2 = some (.lst (bs.map V.bl)) ∧ bs.length = j ∧ ∀ (k : Nat) (q : Addr × Addr × Cn), k < j → rs[k]? = some q → (q.2.2.B.lo ≤ pr ∧ pr ≤ q.2.2.B.hi ∧ q.2.2.B.dn ≤ lv ∧ lv ≤ q.2.2.B.up) → bs[k]? = some true) ⟨same_new hE2, [], upd_same, rfl, fun k q h => absurd h (Nat.not_lt_zero _)⟩ (fun j G' _ h => .inl (.inl (h.1 _ _ hA))) ?_ ?_
          · rintro j y G' hj ⟨sm2, bs, hB, bsl, bk⟩
            obtain ⟨z, ez, rfl⟩ : ∃ z, rs[j]? = some z ∧ y = .ref z.2.1 := by
              rw [List.getElem?_map] at hj
              cases e : rs[j]? with
              | none => rw [e] at hj; cases hj
              | some z => rw [e] at hj; exact ⟨z, rfl, (Option.some.inj hj).symm⟩
            have hjl : j < rs.length := (List.getElem?_eq_some_iff.mp ez).1
            have z1 := sm2 _ _ (p4 z (List.mem_of_getElem? ez))
            have fin : ∀ b : Bool, ((z.2.2.B.lo ≤ pr ∧ pr ≤ z.2.2.B.hi ∧ z.2.2.B.dn ≤ lv ∧ lv ≤ z.2.2.B.up) → b = true) → ∃ acc, G' E2 = some (.lst acc) ∧ acc.length < sizeLine ∧ (Same G14 (upd G' E2 (.lst (acc ++ [V.bl b]))) ∧ ∃ bs : List Bool, (upd G' E2 (.lst (acc ++ [V.bl b]))) E2 = some (.lst (bs.map V.bl)) ∧ bs.length = j + 1 ∧ ∀ (k : Nat) (q : Addr × Addr × Cn), k < j + 1 → rs[k]? = some q → (q.2.2.B.lo ≤ pr ∧ pr ≤ q.2.2.B.hi ∧ q.2.2.B.dn ≤ lv ∧ lv ≤ q.2.2.B.up) → bs[k]? = some true) := by
              intro b hb
              refine ⟨_, hB, small1000 (by rw [List.length_map]; omega), same_app hE2 sm2, bs ++ [b], by rw [upd_same, List.map_append]; rfl, by rw [List.length_append, bsl]; rfl, fun k q hk hq hc => ?_⟩
              rcases Nat.lt_or_ge k j with w | w
              · rw [List.getElem?_append_left (by omega)]
                exact bk k q w hq hc
              · obtain rfl : k = j := by omega
                rw [ez] at hq
                cases hq
                rw [List.getElem?_append_right (by omega), show k - bs.length = 0 by omega, hb hc]
                rfl
            refine ⟨rfl, yes_if ?_⟩
            refine ⟨_, rfl, _, _, _, _, rfl, rfl, .inl (.inl z1), rfl, _, rfl, _, _, rfl, rfl, _, rfl, ite2 (fun c1 => ?_) (fun c1 => ?_)⟩
            rotate_left
            · refine ⟨_, rfl, ?_⟩
              refine iteF ?_
              exact fin false (fun c => absurd (decide_eq_true c.1) c1)
            refine ⟨_, rfl, _, _, _, _, rfl, rfl, .inl (.inl z1), rfl, _, _, rfl, rfl, _, rfl, ite2 (fun c2 => ?_) (fun c2 => ?_)⟩
            rotate_left
            · exact fin false (fun c => absurd (decide_eq_true c.2.1) c2)
            refine ⟨_, rfl, _, _, _, _, rfl, rfl, .inl (.inl z1), rfl, _, rfl, _, _, rfl, rfl, _, rfl, ite2 (fun c3 => ?_) (fun c3 => ?_)⟩
            rotate_left
            · exact fin false (fun c => absurd (decide_eq_true c.2.2.1) c3)
            refine ⟨_, rfl, _, _, _, _, rfl, rfl, .inl (.inl z1), rfl, _, _, rfl, rfl, ?_⟩
            exact fin _ (fun c => decide_eq_true c.2.2.2)
          rintro G15 ⟨sm2, bs, hB, bsl, bk⟩
          refine ⟨E2, _, rfl, .inl (.inl hB), ?_⟩
          rw [← p3] at hc'
          obtain ⟨q, hq, rfl⟩ := List.mem_map.mp hc'
          obtain ⟨n, hn, e⟩ := List.getElem_of_mem hq
          have bt := bk n q (by rw [List.length_map]; exact hn) (by rw [List.getElem?_eq_getElem hn, e]) ⟨ic.l, ic.h, ic.d, ic.u⟩
          have ea : bs.any id = true := List.any_eq_true.mpr ⟨true, List.mem_of_getElem? bt, rfl⟩
          rw [ea]
          refine ⟨_, rfl, iteF ?_⟩
          exact ⟨_, _, _, _, _, _, _, _, rfl, sG.trans sm2⟩

end
end Sk

set_option Elab.async false
set_option linter.all false
set_option maxRecDepth 100000
set_option maxHeartbeats 4000000
namespace Sk
open PySem PySem.Spec PyProof.Rows L2
/-! the end -/
theorem all_mk {l : PySem.W.OpenLaw} {w : World} {K : PySem.W.Frag} {h : Heap} {mg : Str → Option Value} {fa C f1 f2 f3 f4 f5 f6 f7 f8 f9 f10 f11 f12 f13 f14 f15 f16 f17 f18 f19 f20 f21 f22 f23 f24 f25 f26 f27 f28 f29 f30 f31 f32 f33 f34 f35 f36 f37 f38 f39 f40 f41 f42 f43 f44 f45 f46 f47 f48 f49 f50 : Addr} (X : K.In h) (G : h.Ns mainGlobals mg) (hfa : mg "law" = some (.ref fa))
    {od1 an1 od2 an2 od3 an3 od4 an4 od5 an5 od6 an6 od7 an7 od8 an8 od9 an9 od10 an10 od11 an11 od12 an12 od13 an13 od14 an14 od15 an15 od16 an16 od17 an17 od18 an18 od19 an19 od20 an20 od21 an21 od22 an22 od23 an23 od24 an24 od25 an25 od26 an26 od27 an27 od28 an28 od29 an29 od30 an30 od31 an31 od32 an32 od33 an33 od34 an34 od35 an35 od36 an36 od37 an37 od38 an38 od39 an39 od40 an40 od41 an41 od42 an42 od43 an43 od44 an44 od45 an45 od46 an46 od47 an47 od48 an48 od49 an49 od50 an50 : Option Addr} {sl1 sl2 sl3 sl4 sl5 sl6 sl7 sl8 sl9 sl10 sl11 sl12 sl13 sl14 sl15 sl16 sl17 sl18 sl19 sl20 sl21 sl22 sl23 sl24 sl25 sl26 sl27 sl28 sl29 sl30 sl31 sl32 sl33 sl34 sl35 sl36 sl37 sl38 sl39 sl40 sl41 sl42 sl43 sl44 sl45 sl46 sl47 sl48 sl49 sl50 : Array (Option Value)} {oc1 kV1 dc1 pm1 cd1 ct1 oc2 kV2 dc2 pm2 cd2 ct2 oc3 kV3 dc3 pm3 cd3 ct3 oc4 kV4 dc4 pm4 cd4 ct4 oc5 kV5 dc5 pm5 cd5 ct5 oc6 kV6 dc6 pm6 cd6 ct6 oc7 kV7 dc7 pm7 cd7 ct7 oc8 kV8 dc8 pm8 cd8 ct8 oc9 kV9 dc9 pm9 cd9 ct9 oc10 kV10 dc10 pm10 cd10 ct10 oc11 kV11 dc11 pm11 cd11 ct11 oc12 kV12 dc12 pm12 cd12 ct12 oc13 kV13 dc13 pm13 cd13 ct13 oc14 kV14 dc14 pm14 cd14 ct14 oc15 kV15 dc15 pm15 cd15 ct15 oc16 kV16 dc16 pm16 cd16 ct16 oc17 kV17 dc17 pm17 cd17 ct17 oc18 kV18 dc18 pm18 cd18 ct18 oc19 kV19 dc19 pm19 cd19 ct19 oc20 kV20 dc20 pm20 cd20 ct20 oc21 kV21 dc21 pm21 cd21 ct21 oc22 kV22 dc22 pm22 cd22 ct22 oc23 kV23 dc23 pm23 cd23 ct23 oc24 kV24 dc24 pm24 cd24 ct24 oc25 kV25 dc25 pm25 cd25 ct25 oc26 kV26 dc26 pm26 cd26 ct26 oc27 kV27 dc27 pm27 cd27 ct27 oc28 kV28 dc28 pm28 cd28 ct28 oc29 kV29 dc29 pm29 cd29 ct29 oc30 kV30 dc30 pm30 cd30 ct30 oc31 kV31 dc31 pm31 cd31 ct31 oc32 kV32 dc32 pm32 cd32 ct32 oc33 kV33 dc33 pm33 cd33 ct33 oc34 kV34 dc34 pm34 cd34 ct34 oc35 kV35 dc35 pm35 cd35 ct35 oc36 kV36 dc36 pm36 cd36 ct36 oc37 kV37 dc37 pm37 cd37 ct37 oc38 kV38 dc38 pm38 cd38 ct38 oc39 kV39 dc39 pm39 cd39 ct39 oc40 kV40 dc40 pm40 cd40 ct40 oc41 kV41 dc41 pm41 cd41 ct41 oc42 kV42 dc42 pm42 cd42 ct42 oc43 kV43 dc43 pm43 cd43 ct43 oc44 kV44 dc44 pm44 cd44 ct44 oc45 kV45 dc45 pm45 cd45 ct45 oc46 kV46 dc46 pm46 cd46 ct46 oc47 kV47 dc47 pm47 cd47 ct47 oc48 kV48 dc48 pm48 cd48 ct48 oc49 kV49 dc49 pm49 cd49 ct49 oc50 kV50 dc50 pm50 cd50 ct50 : Value}
    (aC : PySem.W.nsIn K mainGlobals "Path" = some (some (.ref C))) (pg : PySem.W.plainGet K C Str.empty = true) (hd : PySem.W.hasDictIn K C = true) (po : PySem.W.plainOver K C = true) (sa : PySem.W.findIn K (.ref C) "__setattr__" = some (some (.builtin "object.__setattr__"))) (mk : PySem.W.makesIn K C = true) (kc : PySem.W.keepIn K (.ref C) = true)
    (nA1 : PySem.W.findIn K (.ref C) "_route" = some none) (nA2 : PySem.W.findIn K (.ref C) "_legs" = some none) (nA3 : PySem.W.findIn K (.ref C) "_starts" = some none) (nA4 : PySem.W.findIn K (.ref C) "_vectors" = some none) (nA5 : PySem.W.findIn K (.ref C) "_begins" = some none)
    (a1 : PySem.W.nsIn K mainGlobals "_law_start" = some (some (.ref f1))) (l1 : K.lookup f1 = some ⟨oc1, od1, .func (PySem.W.fnOf "_law_start" "_law_start" (defArgs s_law_start) (defBody s_law_start) (defScope s_law_start) .none kV1 dc1 pm1 an1 cd1 ct1), sl1⟩) (c1 : PySem.W.codeIn K cd1 "_law_start" = true) (k1 : PySem.W.keepIn K (.ref f1) = true)
    (a2 : PySem.W.nsIn K mainGlobals "_law_draw" = some (some (.ref f2))) (l2 : K.lookup f2 = some ⟨oc2, od2, .func (PySem.W.fnOf "_law_draw" "_law_draw" (defArgs s_law_draw) (defBody s_law_draw) (defScope s_law_draw) .none kV2 dc2 pm2 an2 cd2 ct2), sl2⟩) (c2 : PySem.W.codeIn K cd2 "_law_draw" = true) (k2 : PySem.W.keepIn K (.ref f2) = true)
    (a3 : PySem.W.nsIn K mainGlobals "_law_pick" = some (some (.ref f3))) (l3 : K.lookup f3 = some ⟨oc3, od3, .func (PySem.W.fnOf "_law_pick" "_law_pick" (defArgs s_law_pick) (defBody s_law_pick) (defScope s_law_pick) .none kV3 dc3 pm3 an3 cd3 ct3), sl3⟩) (c3 : PySem.W.codeIn K cd3 "_law_pick" = true) (k3 : PySem.W.keepIn K (.ref f3) = true)
    (a4 : PySem.W.nsIn K mainGlobals "root_down" = some (some (.ref f4))) (l4 : K.lookup f4 = some ⟨oc4, od4, .func (PySem.W.fnOf "root_down" "root_down" (defArgs s_root_down) (defBody s_root_down) (defScope s_root_down) .none kV4 dc4 pm4 an4 cd4 ct4), sl4⟩) (c4 : PySem.W.codeIn K cd4 "root_down" = true) (k4 : PySem.W.keepIn K (.ref f4) = true)
    (a5 : PySem.W.nsIn K mainGlobals "root_up" = some (some (.ref f5))) (l5 : K.lookup f5 = some ⟨oc5, od5, .func (PySem.W.fnOf "root_up" "root_up" (defArgs s_root_up) (defBody s_root_up) (defScope s_root_up) .none kV5 dc5 pm5 an5 cd5 ct5), sl5⟩) (c5 : PySem.W.codeIn K cd5 "root_up" = true) (k5 : PySem.W.keepIn K (.ref f5) = true)
    (a6 : PySem.W.nsIn K mainGlobals "leg_length" = some (some (.ref f6))) (l6 : K.lookup f6 = some ⟨oc6, od6, .func (PySem.W.fnOf "leg_length" "leg_length" (defArgs s_leg_length) (defBody s_leg_length) (defScope s_leg_length) .none kV6 dc6 pm6 an6 cd6 ct6), sl6⟩) (c6 : PySem.W.codeIn K cd6 "leg_length" = true) (k6 : PySem.W.keepIn K (.ref f6) = true)
    (a7 : PySem.W.nsIn K mainGlobals "leg_between" = some (some (.ref f7))) (l7 : K.lookup f7 = some ⟨oc7, od7, .func (PySem.W.fnOf "leg_between" "leg_between" (defArgs s_leg_between) (defBody s_leg_between) (defScope s_leg_between) .none kV7 dc7 pm7 an7 cd7 ct7), sl7⟩) (c7 : PySem.W.codeIn K cd7 "leg_between" = true) (k7 : PySem.W.keepIn K (.ref f7) = true)
    (a8 : PySem.W.nsIn K mainGlobals "_law_root_up" = some (some (.ref f8))) (l8 : K.lookup f8 = some ⟨oc8, od8, .func (PySem.W.fnOf "_law_root_up" "_law_root_up" (defArgs s_law_root_up) (defBody s_law_root_up) (defScope s_law_root_up) .none kV8 dc8 pm8 an8 cd8 ct8), sl8⟩) (c8 : PySem.W.codeIn K cd8 "_law_root_up" = true) (k8 : PySem.W.keepIn K (.ref f8) = true)
    (a9 : PySem.W.nsIn K mainGlobals "_law_names" = some (some (.ref f9))) (l9 : K.lookup f9 = some ⟨oc9, od9, .func (PySem.W.fnOf "_law_names" "_law_names" (defArgs s_law_names) (defBody s_law_names) (defScope s_law_names) .none kV9 dc9 pm9 an9 cd9 ct9), sl9⟩) (c9 : PySem.W.codeIn K cd9 "_law_names" = true) (k9 : PySem.W.keepIn K (.ref f9) = true)
    (a10 : PySem.W.nsIn K mainGlobals "_law_legs" = some (some (.ref f10))) (l10 : K.lookup f10 = some ⟨oc10, od10, .func (PySem.W.fnOf "_law_legs" "_law_legs" (defArgs s_law_legs) (defBody s_law_legs) (defScope s_law_legs) .none kV10 dc10 pm10 an10 cd10 ct10), sl10⟩) (c10 : PySem.W.codeIn K cd10 "_law_legs" = true) (k10 : PySem.W.keepIn K (.ref f10) = true)
    (a11 : PySem.W.nsIn K mainGlobals "_law_chart" = some (some (.ref f11))) (l11 : K.lookup f11 = some ⟨oc11, od11, .func (PySem.W.fnOf "_law_chart" "_law_chart" (defArgs s_law_chart) (defBody s_law_chart) (defScope s_law_chart) .none kV11 dc11 pm11 an11 cd11 ct11), sl11⟩) (c11 : PySem.W.codeIn K cd11 "_law_chart" = true) (k11 : PySem.W.keepIn K (.ref f11) = true)
    (a12 : PySem.W.nsIn K mainGlobals "_law_lengths" = some (some (.ref f12))) (l12 : K.lookup f12 = some ⟨oc12, od12, .func (PySem.W.fnOf "_law_lengths" "_law_lengths" (defArgs s_law_lengths) (defBody s_law_lengths) (defScope s_law_lengths) .none kV12 dc12 pm12 an12 cd12 ct12), sl12⟩) (c12 : PySem.W.codeIn K cd12 "_law_lengths" = true) (k12 : PySem.W.keepIn K (.ref f12) = true)
    (a13 : PySem.W.nsIn K mainGlobals "_law_walk" = some (some (.ref f13))) (l13 : K.lookup f13 = some ⟨oc13, od13, .func (PySem.W.fnOf "_law_walk" "_law_walk" (defArgs s_law_walk) (defBody s_law_walk) (defScope s_law_walk) .none kV13 dc13 pm13 an13 cd13 ct13), sl13⟩) (c13 : PySem.W.codeIn K cd13 "_law_walk" = true) (k13 : PySem.W.keepIn K (.ref f13) = true)
    (a14 : PySem.W.findIn K (.ref C) "total" = some (some (.ref f14))) (i14 : PySem.W.isFn K (.ref f14) = true) (l14 : K.lookup f14 = some ⟨oc14, od14, .func (PySem.W.fnOf "total" "Path.total" (defArgs s_Path_total) (defBody s_Path_total) (defScope s_Path_total) .none kV14 dc14 pm14 an14 cd14 ct14), sl14⟩) (c14 : PySem.W.codeIn K cd14 "Path.total" = true) (k14 : PySem.W.keepIn K (.ref f14) = true)
    (a15 : PySem.W.findIn K (.ref C) "leg_at" = some (some (.ref f15))) (i15 : PySem.W.isFn K (.ref f15) = true) (l15 : K.lookup f15 = some ⟨oc15, od15, .func (PySem.W.fnOf "leg_at" "Path.leg_at" (defArgs s_Path_leg_at) (defBody s_Path_leg_at) (defScope s_Path_leg_at) .none kV15 dc15 pm15 an15 cd15 ct15), sl15⟩) (c15 : PySem.W.codeIn K cd15 "Path.leg_at" = true) (k15 : PySem.W.keepIn K (.ref f15) = true)
    (a16 : PySem.W.findIn K (.ref C) "begin" = some (some (.ref f16))) (i16 : PySem.W.isFn K (.ref f16) = true) (l16 : K.lookup f16 = some ⟨oc16, od16, .func (PySem.W.fnOf "begin" "Path.begin" (defArgs s_Path_begin) (defBody s_Path_begin) (defScope s_Path_begin) .none kV16 dc16 pm16 an16 cd16 ct16), sl16⟩) (c16 : PySem.W.codeIn K cd16 "Path.begin" = true) (k16 : PySem.W.keepIn K (.ref f16) = true)
    (a17 : PySem.W.findIn K (.ref C) "vector" = some (some (.ref f17))) (i17 : PySem.W.isFn K (.ref f17) = true) (l17 : K.lookup f17 = some ⟨oc17, od17, .func (PySem.W.fnOf "vector" "Path.vector" (defArgs s_Path_vector) (defBody s_Path_vector) (defScope s_Path_vector) .none kV17 dc17 pm17 an17 cd17 ct17), sl17⟩) (c17 : PySem.W.codeIn K cd17 "Path.vector" = true) (k17 : PySem.W.keepIn K (.ref f17) = true)
    (a18 : PySem.W.findIn K (.ref C) "route" = some (some (.ref f18))) (i18 : PySem.W.isFn K (.ref f18) = true) (l18 : K.lookup f18 = some ⟨oc18, od18, .func (PySem.W.fnOf "route" "Path.route" (defArgs s_Path_route) (defBody s_Path_route) (defScope s_Path_route) .none kV18 dc18 pm18 an18 cd18 ct18), sl18⟩) (c18 : PySem.W.codeIn K cd18 "Path.route" = true) (k18 : PySem.W.keepIn K (.ref f18) = true)
    (a19 : PySem.W.findIn K (.ref C) "_point" = some (some (.ref f19))) (i19 : PySem.W.isFn K (.ref f19) = true) (l19 : K.lookup f19 = some ⟨oc19, od19, .func (PySem.W.fnOf "_point" "Path._point" (defArgs s_Path__point) (defBody s_Path__point) (defScope s_Path__point) .none kV19 dc19 pm19 an19 cd19 ct19), sl19⟩) (c19 : PySem.W.codeIn K cd19 "Path._point" = true) (k19 : PySem.W.keepIn K (.ref f19) = true)
    (a20 : PySem.W.findIn K (.ref C) "place" = some (some (.ref f20))) (i20 : PySem.W.isFn K (.ref f20) = true) (l20 : K.lookup f20 = some ⟨oc20, od20, .func (PySem.W.fnOf "place" "Path.place" (defArgs s_Path_place) (defBody s_Path_place) (defScope s_Path_place) .none kV20 dc20 pm20 an20 cd20 ct20), sl20⟩) (c20 : PySem.W.codeIn K cd20 "Path.place" = true) (k20 : PySem.W.keepIn K (.ref f20) = true)
    (a21 : PySem.W.findIn K (.ref C) "_join" = some (some (.ref f21))) (i21 : PySem.W.isFn K (.ref f21) = true) (l21 : K.lookup f21 = some ⟨oc21, od21, .func (PySem.W.fnOf "_join" "Path._join" (defArgs s_Path__join) (defBody s_Path__join) (defScope s_Path__join) .none kV21 dc21 pm21 an21 cd21 ct21), sl21⟩) (c21 : PySem.W.codeIn K cd21 "Path._join" = true) (k21 : PySem.W.keepIn K (.ref f21) = true)
    (a22 : PySem.W.findIn K (.ref C) "__init__" = some (some (.ref f22))) (i22 : PySem.W.isFn K (.ref f22) = true) (l22 : K.lookup f22 = some ⟨oc22, od22, .func (PySem.W.fnOf "__init__" "Path.__init__" (defArgs s_Path___init__) (defBody s_Path___init__) (defScope s_Path___init__) .none kV22 dc22 pm22 an22 cd22 ct22), sl22⟩) (c22 : PySem.W.codeIn K cd22 "Path.__init__" = true) (k22 : PySem.W.keepIn K (.ref f22) = true)
    (a23 : PySem.W.nsIn K mainGlobals "_law_begins" = some (some (.ref f23))) (l23 : K.lookup f23 = some ⟨oc23, od23, .func (PySem.W.fnOf "_law_begins" "_law_begins" (defArgs s_law_begins) (defBody s_law_begins) (defScope s_law_begins) .none kV23 dc23 pm23 an23 cd23 ct23), sl23⟩) (c23 : PySem.W.codeIn K cd23 "_law_begins" = true) (k23 : PySem.W.keepIn K (.ref f23) = true)
    (a24 : PySem.W.nsIn K mainGlobals "_law_leg_at" = some (some (.ref f24))) (l24 : K.lookup f24 = some ⟨oc24, od24, .func (PySem.W.fnOf "_law_leg_at" "_law_leg_at" (defArgs s_law_leg_at) (defBody s_law_leg_at) (defScope s_law_leg_at) .none kV24 dc24 pm24 an24 cd24 ct24), sl24⟩) (c24 : PySem.W.codeIn K cd24 "_law_leg_at" = true) (k24 : PySem.W.keepIn K (.ref f24) = true)
    (a25 : PySem.W.nsIn K mainGlobals "_law_place_on" = some (some (.ref f25))) (l25 : K.lookup f25 = some ⟨oc25, od25, .func (PySem.W.fnOf "_law_place_on" "_law_place_on" (defArgs s_law_place_on) (defBody s_law_place_on) (defScope s_law_place_on) .none kV25 dc25 pm25 an25 cd25 ct25), sl25⟩) (c25 : PySem.W.codeIn K cd25 "_law_place_on" = true) (k25 : PySem.W.keepIn K (.ref f25) = true)
    (a26 : PySem.W.nsIn K mainGlobals "_law_piece" = some (some (.ref f26))) (l26 : K.lookup f26 = some ⟨oc26, od26, .func (PySem.W.fnOf "_law_piece" "_law_piece" (defArgs s_law_piece) (defBody s_law_piece) (defScope s_law_piece) .none kV26 dc26 pm26 an26 cd26 ct26), sl26⟩) (c26 : PySem.W.codeIn K cd26 "_law_piece" = true) (k26 : PySem.W.keepIn K (.ref f26) = true)
    (a27 : PySem.W.nsIn K mainGlobals "_near_on_leg" = some (some (.ref f27))) (l27 : K.lookup f27 = some ⟨oc27, od27, .func (PySem.W.fnOf "_near_on_leg" "_near_on_leg" (defArgs s_near_on_leg) (defBody s_near_on_leg) (defScope s_near_on_leg) .none kV27 dc27 pm27 an27 cd27 ct27), sl27⟩) (c27 : PySem.W.codeIn K cd27 "_near_on_leg" = true) (k27 : PySem.W.keepIn K (.ref f27) = true)
    (a28 : PySem.W.nsIn K mainGlobals "_near_ends" = some (some (.ref f28))) (l28 : K.lookup f28 = some ⟨oc28, od28, .func (PySem.W.fnOf "_near_ends" "_near_ends" (defArgs s_near_ends) (defBody s_near_ends) (defScope s_near_ends) .none kV28 dc28 pm28 an28 cd28 ct28), sl28⟩) (c28 : PySem.W.codeIn K cd28 "_near_ends" = true) (k28 : PySem.W.keepIn K (.ref f28) = true)
    (a29 : PySem.W.nsIn K mainGlobals "fitted" = some (some (.ref f29))) (l29 : K.lookup f29 = some ⟨oc29, od29, .func (PySem.W.fnOf "fitted" "fitted" (defArgs s_fitted) (defBody s_fitted) (defScope s_fitted) .none kV29 dc29 pm29 an29 cd29 ct29), sl29⟩) (c29 : PySem.W.codeIn K cd29 "fitted" = true) (k29 : PySem.W.keepIn K (.ref f29) = true)
    (a30 : PySem.W.nsIn K mainGlobals "_law_cross" = some (some (.ref f30))) (l30 : K.lookup f30 = some ⟨oc30, od30, .func (PySem.W.fnOf "_law_cross" "_law_cross" (defArgs s_law_cross) (defBody s_law_cross) (defScope s_law_cross) .none kV30 dc30 pm30 an30 cd30 ct30), sl30⟩) (c30 : PySem.W.codeIn K cd30 "_law_cross" = true) (k30 : PySem.W.keepIn K (.ref f30) = true)
    (a31 : PySem.W.nsIn K mainGlobals "_law_dot" = some (some (.ref f31))) (l31 : K.lookup f31 = some ⟨oc31, od31, .func (PySem.W.fnOf "_law_dot" "_law_dot" (defArgs s_law_dot) (defBody s_law_dot) (defScope s_law_dot) .none kV31 dc31 pm31 an31 cd31 ct31), sl31⟩) (c31 : PySem.W.codeIn K cd31 "_law_dot" = true) (k31 : PySem.W.keepIn K (.ref f31) = true)
    (a32 : PySem.W.nsIn K mainGlobals "_law_point_closer" = some (some (.ref f32))) (l32 : K.lookup f32 = some ⟨oc32, od32, .func (PySem.W.fnOf "_law_point_closer" "_law_point_closer" (defArgs s_law_point_closer) (defBody s_law_point_closer) (defScope s_law_point_closer) .none kV32 dc32 pm32 an32 cd32 ct32), sl32⟩) (c32 : PySem.W.codeIn K cd32 "_law_point_closer" = true) (k32 : PySem.W.keepIn K (.ref f32) = true)
    (a33 : PySem.W.nsIn K mainGlobals "_law_closer" = some (some (.ref f33))) (l33 : K.lookup f33 = some ⟨oc33, od33, .func (PySem.W.fnOf "_law_closer" "_law_closer" (defArgs s_law_closer) (defBody s_law_closer) (defScope s_law_closer) .none kV33 dc33 pm33 an33 cd33 ct33), sl33⟩) (c33 : PySem.W.codeIn K cd33 "_law_closer" = true) (k33 : PySem.W.keepIn K (.ref f33) = true)
    (a34 : PySem.W.nsIn K mainGlobals "_law_allowed" = some (some (.ref f34))) (l34 : K.lookup f34 = some ⟨oc34, od34, .func (PySem.W.fnOf "_law_allowed" "_law_allowed" (defArgs s_law_allowed) (defBody s_law_allowed) (defScope s_law_allowed) .none kV34 dc34 pm34 an34 cd34 ct34), sl34⟩) (c34 : PySem.W.codeIn K cd34 "_law_allowed" = true) (k34 : PySem.W.keepIn K (.ref f34) = true)
    (a35 : PySem.W.nsIn K mainGlobals "_law_fitted" = some (some (.ref f35))) (l35 : K.lookup f35 = some ⟨oc35, od35, .func (PySem.W.fnOf "_law_fitted" "_law_fitted" (defArgs s_law_fitted) (defBody s_law_fitted) (defScope s_law_fitted) .none kV35 dc35 pm35 an35 cd35 ct35), sl35⟩) (c35 : PySem.W.codeIn K cd35 "_law_fitted" = true) (k35 : PySem.W.keepIn K (.ref f35) = true)
    (a36 : PySem.W.nsIn K mainGlobals "_law_near" = some (some (.ref f36))) (l36 : K.lookup f36 = some ⟨oc36, od36, .func (PySem.W.fnOf "_law_near" "_law_near" (defArgs s_law_near) (defBody s_law_near) (defScope s_law_near) .none kV36 dc36 pm36 an36 cd36 ct36), sl36⟩) (c36 : PySem.W.codeIn K cd36 "_law_near" = true) (k36 : PySem.W.keepIn K (.ref f36) = true)
    (a37 : PySem.W.nsIn K mainGlobals "_law_vector" = some (some (.ref f37))) (l37 : K.lookup f37 = some ⟨oc37, od37, .func (PySem.W.fnOf "_law_vector" "_law_vector" (defArgs s_law_vector) (defBody s_law_vector) (defScope s_law_vector) .none kV37 dc37 pm37 an37 cd37 ct37), sl37⟩) (c37 : PySem.W.codeIn K cd37 "_law_vector" = true) (k37 : PySem.W.keepIn K (.ref f37) = true)
    (a38 : PySem.W.nsIn K mainGlobals "_law_true_plot" = some (some (.ref f38))) (l38 : K.lookup f38 = some ⟨oc38, od38, .func (PySem.W.fnOf "_law_true_plot" "_law_true_plot" (defArgs s_law_true_plot) (defBody s_law_true_plot) (defScope s_law_true_plot) .none kV38 dc38 pm38 an38 cd38 ct38), sl38⟩) (c38 : PySem.W.codeIn K cd38 "_law_true_plot" = true) (k38 : PySem.W.keepIn K (.ref f38) = true)
    (a39 : PySem.W.nsIn K mainGlobals "_law_rules" = some (some (.ref f39))) (l39 : K.lookup f39 = some ⟨oc39, od39, .func (PySem.W.fnOf "_law_rules" "_law_rules" (defArgs s_law_rules) (defBody s_law_rules) (defScope s_law_rules) .none kV39 dc39 pm39 an39 cd39 ct39), sl39⟩) (c39 : PySem.W.codeIn K cd39 "_law_rules" = true) (k39 : PySem.W.keepIn K (.ref f39) = true)
    (a40 : PySem.W.nsIn K mainGlobals "_law_small_chart" = some (some (.ref f40))) (l40 : K.lookup f40 = some ⟨oc40, od40, .func (PySem.W.fnOf "_law_small_chart" "_law_small_chart" (defArgs s_law_small_chart) (defBody s_law_small_chart) (defScope s_law_small_chart) .none kV40 dc40 pm40 an40 cd40 ct40), sl40⟩) (c40 : PySem.W.codeIn K cd40 "_law_small_chart" = true) (k40 : PySem.W.keepIn K (.ref f40) = true)
    (a41 : PySem.W.nsIn K mainGlobals "_fitting" = some (some (.ref f41))) (l41 : K.lookup f41 = some ⟨oc41, od41, .func (PySem.W.fnOf "_fitting" "_fitting" (defArgs s_fitting) (defBody s_fitting) (defScope s_fitting) .none kV41 dc41 pm41 an41 cd41 ct41), sl41⟩) (c41 : PySem.W.codeIn K cd41 "_fitting" = true) (k41 : PySem.W.keepIn K (.ref f41) = true)
    (a42 : PySem.W.nsIn K mainGlobals "_first_fitting" = some (some (.ref f42))) (l42 : K.lookup f42 = some ⟨oc42, od42, .func (PySem.W.fnOf "_first_fitting" "_first_fitting" (defArgs s_first_fitting) (defBody s_first_fitting) (defScope s_first_fitting) .none kV42 dc42 pm42 an42 cd42 ct42), sl42⟩) (c42 : PySem.W.codeIn K cd42 "_first_fitting" = true) (k42 : PySem.W.keepIn K (.ref f42) = true)
    (a43 : PySem.W.nsIn K mainGlobals "assign" = some (some (.ref f43))) (l43 : K.lookup f43 = some ⟨oc43, od43, .func (PySem.W.fnOf "assign" "assign" (defArgs s_assign) (defBody s_assign) (defScope s_assign) .none kV43 dc43 pm43 an43 cd43 ct43), sl43⟩) (c43 : PySem.W.codeIn K cd43 "assign" = true) (k43 : PySem.W.keepIn K (.ref f43) = true)
    (a44 : PySem.W.nsIn K mainGlobals "_law_flight" = some (some (.ref f44))) (l44 : K.lookup f44 = some ⟨oc44, od44, .func (PySem.W.fnOf "_law_flight" "_law_flight" (defArgs s_law_flight) (defBody s_law_flight) (defScope s_law_flight) .none kV44 dc44 pm44 an44 cd44 ct44), sl44⟩) (c44 : PySem.W.codeIn K cd44 "_law_flight" = true) (k44 : PySem.W.keepIn K (.ref f44) = true)
    (a45 : PySem.W.nsIn K mainGlobals "_law_aircraft" = some (some (.ref f45))) (l45 : K.lookup f45 = some ⟨oc45, od45, .func (PySem.W.fnOf "_law_aircraft" "_law_aircraft" (defArgs s_law_aircraft) (defBody s_law_aircraft) (defScope s_law_aircraft) .none kV45 dc45 pm45 an45 cd45 ct45), sl45⟩) (c45 : PySem.W.codeIn K cd45 "_law_aircraft" = true) (k45 : PySem.W.keepIn K (.ref f45) = true)
    (a46 : PySem.W.nsIn K mainGlobals "_law_apart" = some (some (.ref f46))) (l46 : K.lookup f46 = some ⟨oc46, od46, .func (PySem.W.fnOf "_law_apart" "_law_apart" (defArgs s_law_apart) (defBody s_law_apart) (defScope s_law_apart) .none kV46 dc46 pm46 an46 cd46 ct46), sl46⟩) (c46 : PySem.W.codeIn K cd46 "_law_apart" = true) (k46 : PySem.W.keepIn K (.ref f46) = true)
    (a47 : PySem.W.nsIn K mainGlobals "_law_give" = some (some (.ref f47))) (l47 : K.lookup f47 = some ⟨oc47, od47, .func (PySem.W.fnOf "_law_give" "_law_give" (defArgs s_law_give) (defBody s_law_give) (defScope s_law_give) .none kV47 dc47 pm47 an47 cd47 ct47), sl47⟩) (c47 : PySem.W.codeIn K cd47 "_law_give" = true) (k47 : PySem.W.keepIn K (.ref f47) = true)
    (a48 : PySem.W.nsIn K mainGlobals "_law_told" = some (some (.ref f48))) (l48 : K.lookup f48 = some ⟨oc48, od48, .func (PySem.W.fnOf "_law_told" "_law_told" (defArgs s_law_told) (defBody s_law_told) (defScope s_law_told) .none kV48 dc48 pm48 an48 cd48 ct48), sl48⟩) (c48 : PySem.W.codeIn K cd48 "_law_told" = true) (k48 : PySem.W.keepIn K (.ref f48) = true)
    (a49 : PySem.W.nsIn K mainGlobals "_law_plots" = some (some (.ref f49))) (l49 : K.lookup f49 = some ⟨oc49, od49, .func (PySem.W.fnOf "_law_plots" "_law_plots" (defArgs s_law_plots) (defBody s_law_plots) (defScope s_law_plots) .none kV49 dc49 pm49 an49 cd49 ct49), sl49⟩) (c49 : PySem.W.codeIn K cd49 "_law_plots" = true) (k49 : PySem.W.keepIn K (.ref f49) = true)
    (a50 : PySem.W.nsIn K mainGlobals "law" = some (some (.ref f50))) (l50 : K.lookup f50 = some ⟨oc50, od50, .func (PySem.W.fnOf "law" "law" (defArgs s_law) (defBody s_law) (defScope s_law) .none kV50 dc50 pm50 an50 cd50 ct50), sl50⟩) (c50 : PySem.W.codeIn K cd50 "law" = true) (k50 : PySem.W.keepIn K (.ref f50) = true)
    (z1 : PySem.W.nsIn K mainGlobals "abs" = some none) (z2 : PySem.W.nsIn K mainGlobals "int" = some none) (z3 : PySem.W.nsIn K mainGlobals "len" = some none) (z4 : PySem.W.nsIn K mainGlobals "bool" = some none) (z5 : PySem.W.nsIn K mainGlobals "isinstance" = some none) (z6 : PySem.W.nsIn K mainGlobals "max" = some none) (z7 : PySem.W.nsIn K mainGlobals "min" = some none) (z8 : PySem.W.nsIn K mainGlobals "range" = some none) (z9 : PySem.W.nsIn K mainGlobals "tuple" = some none) (z10 : PySem.W.nsIn K mainGlobals "list" = some none) (z11 : PySem.W.nsIn K mainGlobals "sum" = some none) (z12 : PySem.W.nsIn K mainGlobals "any" = some none) (z13 : PySem.W.nsIn K mainGlobals "all" = some none) (z14 : PySem.W.nsIn K mainGlobals "sorted" = some none) (z15 : PySem.W.nsIn K mainGlobals "dict" = some none) (z16 : PySem.W.nsIn K mainGlobals "enumerate" = some none) (yq : PySem.W.nsIn K mainGlobals "isqrt" = some (some (.builtin "math.isqrt"))) (ys : PySem.W.nsIn K mainGlobals "str" = some none) :
    ∃ fd : FuncData, (∀ (s : Shared) (v : Value), BindsTo s fd ⟨[v], []⟩ [("script", v)]) ∧ ∀ base : Heap, K.In base → base.Ns mainGlobals mg → FnOk l.prog w K mg base CX0 12 fa fd ["script"] (spLaw K) := by
  have e := hfa.symm.trans (PySem.W.mg_of X G a50)
  cases e
  have F1 := fun_mk (st := s_law_start) l1 c1 k1
  have F2 := fun_mk (st := s_law_draw) l2 c2 k2
  have F3 := fun_mk (st := s_law_pick) l3 c3 k3
  have F4 := fun_mk (st := s_root_down) l4 c4 k4
  have F5 := fun_mk (st := s_root_up) l5 c5 k5
  have F6 := fun_mk (st := s_leg_length) l6 c6 k6
  have F7 := fun_mk (st := s_leg_between) l7 c7 k7
  have F8 := fun_mk (st := s_law_root_up) l8 c8 k8
  have F9 := fun_mk (st := s_law_names) l9 c9 k9
  have F10 := fun_mk (st := s_law_legs) l10 c10 k10
  have F11 := fun_mk (st := s_law_chart) l11 c11 k11
  have F12 := fun_mk (st := s_law_lengths) l12 c12 k12
  have F13 := fun_mk (st := s_law_walk) l13 c13 k13
  have F14 := fun_mk (st := s_Path_total) l14 c14 k14
  have F15 := fun_mk (st := s_Path_leg_at) l15 c15 k15
  have F16 := fun_mk (st := s_Path_begin) l16 c16 k16
  have F17 := fun_mk (st := s_Path_vector) l17 c17 k17
  have F18 := fun_mk (st := s_Path_route) l18 c18 k18
  have F19 := fun_mk (st := s_Path__point) l19 c19 k19
  have F20 := fun_mk (st := s_Path_place) l20 c20 k20
  have F21 := fun_mk (st := s_Path__join) l21 c21 k21
  have F22 := fun_mk (st := s_Path___init__) l22 c22 k22
  have F23 := fun_mk (st := s_law_begins) l23 c23 k23
  have F24 := fun_mk (st := s_law_leg_at) l24 c24 k24
  have F25 := fun_mk (st := s_law_place_on) l25 c25 k25
  have F26 := fun_mk (st := s_law_piece) l26 c26 k26
  have F27 := fun_mk (st := s_near_on_leg) l27 c27 k27
  have F28 := fun_mk (st := s_near_ends) l28 c28 k28
  have F29 := fun_mk (st := s_fitted) l29 c29 k29
  have F30 := fun_mk (st := s_law_cross) l30 c30 k30
  have F31 := fun_mk (st := s_law_dot) l31 c31 k31
  have F32 := fun_mk (st := s_law_point_closer) l32 c32 k32
  have F33 := fun_mk (st := s_law_closer) l33 c33 k33
  have F34 := fun_mk (st := s_law_allowed) l34 c34 k34
  have F35 := fun_mk (st := s_law_fitted) l35 c35 k35
  have F36 := fun_mk (st := s_law_near) l36 c36 k36
  have F37 := fun_mk (st := s_law_vector) l37 c37 k37
  have F38 := fun_mk (st := s_law_true_plot) l38 c38 k38
  have F39 := fun_mk (st := s_law_rules) l39 c39 k39
  have F40 := fun_mk (st := s_law_small_chart) l40 c40 k40
  have F41 := fun_mk (st := s_fitting) l41 c41 k41
  have F42 := fun_mk (st := s_first_fitting) l42 c42 k42
  have F43 := fun_mk (st := s_assign) l43 c43 k43
  have F44 := fun_mk (st := s_law_flight) l44 c44 k44
  have F45 := fun_mk (st := s_law_aircraft) l45 c45 k45
  have F46 := fun_mk (st := s_law_apart) l46 c46 k46
  have F47 := fun_mk (st := s_law_give) l47 c47 k47
  have F48 := fun_mk (st := s_law_told) l48 c48 k48
  have F49 := fun_mk (st := s_law_plots) l49 c49 k49
  have F50 := fun_mk (st := s_law) l50 c50 k50
  have b1 := F1.binds (ps := ["script"]) fun _ _ _ _ _ _ us hl => match us, hl with | [_], _ => rfl
  have b2 := F2.binds (ps := ["state", "bound"]) fun _ _ _ _ _ _ us hl => match us, hl with | [_, _], _ => rfl
  have b3 := F3.binds (ps := ["state", "things"]) fun _ _ _ _ _ _ us hl => match us, hl with | [_, _], _ => rfl
  have b4 := F4.binds (ps := ["n"]) fun _ _ _ _ _ _ us hl => match us, hl with | [_], _ => rfl
  have b5 := F5.binds (ps := ["n"]) fun _ _ _ _ _ _ us hl => match us, hl with | [_], _ => rfl
  have b6 := F6.binds (ps := ["chart", "start", "end"]) fun _ _ _ _ _ _ us hl => match us, hl with | [_, _, _], _ => rfl
  have b7 := F7.binds (ps := ["chart", "start", "end"]) fun _ _ _ _ _ _ us hl => match us, hl with | [_, _, _], _ => rfl
  have b8 := F8.binds (ps := ["n"]) fun _ _ _ _ _ _ us hl => match us, hl with | [_], _ => rfl
  have b9 := F9.binds (ps := ["state", "many"]) fun _ _ _ _ _ _ us hl => match us, hl with | [_, _], _ => rfl
  have b10 := F10.binds (ps := ["state", "names"]) fun _ _ _ _ _ _ us hl => match us, hl with | [_, _], _ => rfl
  have b11 := F11.binds (ps := ["state", "many", "size"]) fun _ _ _ _ _ _ us hl => match us, hl with | [_, _, _], _ => rfl
  have b12 := F12.binds (ps := ["chart"]) fun _ _ _ _ _ _ us hl => match us, hl with | [_], _ => rfl
  have b13 := F13.binds (ps := ["state", "chart", "most"]) fun _ _ _ _ _ _ us hl => match us, hl with | [_, _, _], _ => rfl
  have b14 := F14.binds (ps := ["self"]) fun _ _ _ _ _ _ us hl => match us, hl with | [_], _ => rfl
  have b15 := F15.binds (ps := ["self", "progress"]) fun _ _ _ _ _ _ us hl => match us, hl with | [_, _], _ => rfl
  have b16 := F16.binds (ps := ["self", "index"]) fun _ _ _ _ _ _ us hl => match us, hl with | [_, _], _ => rfl
  have b17 := F17.binds (ps := ["self", "index"]) fun _ _ _ _ _ _ us hl => match us, hl with | [_, _], _ => rfl
  have b18 := F18.binds (ps := ["self"]) fun _ _ _ _ _ _ us hl => match us, hl with | [_], _ => rfl
  have b19 := F19.binds (ps := ["self", "index", "progress"]) fun _ _ _ _ _ _ us hl => match us, hl with | [_, _, _], _ => rfl
  have b20 := F20.binds (ps := ["self", "progress"]) fun _ _ _ _ _ _ us hl => match us, hl with | [_, _], _ => rfl
  have b21 := F21.binds (ps := ["self", "chart", "start", "end"]) fun _ _ _ _ _ _ us hl => match us, hl with | [_, _, _, _], _ => rfl
  have b22 := F22.binds (ps := ["self", "chart", "route"]) fun _ _ _ _ _ _ us hl => match us, hl with | [_, _, _], _ => rfl
  have b23 := F23.binds (ps := ["lengths", "route"]) fun _ _ _ _ _ _ us hl => match us, hl with | [_, _], _ => rfl
  have b24 := F24.binds (ps := ["begins", "progress"]) fun _ _ _ _ _ _ us hl => match us, hl with | [_, _], _ => rfl
  have b25 := F25.binds (ps := ["chart", "route", "begins", "k", "progress"]) fun _ _ _ _ _ _ us hl => match us, hl with | [_, _, _, _, _], _ => rfl
  have b26 := F26.binds (ps := ["chart", "route", "begins", "low", "high"]) fun _ _ _ _ _ _ us hl => match us, hl with | [_, _, _, _, _], _ => rfl
  have b27 := F27.binds (ps := ["path", "index", "plot", "reach"]) fun _ _ _ _ _ _ us hl => match us, hl with | [_, _, _, _], _ => rfl
  have b28 := F28.binds (ps := ["path", "low", "high", "plot", "reach"]) fun _ _ _ _ _ _ us hl => match us, hl with | [_, _, _, _, _], _ => rfl
  have b29 := F29.binds (ps := ["rules", "path", "box", "plot"]) fun _ _ _ _ _ _ us hl => match us, hl with | [_, _, _, _], _ => rfl
  have b30 := F30.binds (ps := ["o", "a", "b"]) fun _ _ _ _ _ _ us hl => match us, hl with | [_, _, _], _ => rfl
  have b31 := F31.binds (ps := ["o", "a", "b"]) fun _ _ _ _ _ _ us hl => match us, hl with | [_, _, _], _ => rfl
  have b32 := F32.binds (ps := ["p", "a", "b", "square"]) fun _ _ _ _ _ _ us hl => match us, hl with | [_, _, _, _], _ => rfl
  have b33 := F33.binds (ps := ["first", "second", "limit"]) fun _ _ _ _ _ _ us hl => match us, hl with | [_, _, _], _ => rfl
  have b34 := F34.binds (ps := ["chart", "route", "begins", "progress", "plot", "limit"]) fun _ _ _ _ _ _ us hl => match us, hl with | [_, _, _, _, _, _], _ => rfl
  have b35 := F35.binds (ps := ["chart", "route", "begins", "rules", "box", "plot"]) fun _ _ _ _ _ _ us hl => match us, hl with | [_, _, _, _, _, _], _ => rfl
  have b36 := F36.binds (ps := ["state", "number", "place"]) fun _ _ _ _ _ _ us hl => match us, hl with | [_, _, _], _ => rfl
  have b37 := F37.binds (ps := ["state", "radius"]) fun _ _ _ _ _ _ us hl => match us, hl with | [_, _], _ => rfl
  have b38 := F38.binds (ps := ["state", "rules", "place", "level"]) fun _ _ _ _ _ _ us hl => match us, hl with | [_, _, _, _], _ => rfl
  have b39 := F39.binds (ps := ["state"]) fun _ _ _ _ _ _ us hl => match us, hl with | [_], _ => rfl
  have b40 := F40.binds (ps := ["state"]) fun _ _ _ _ _ _ us hl => match us, hl with | [_], _ => rfl
  have b41 := F41.binds (ps := ["rules", "candidates", "plot"]) fun _ _ _ _ _ _ us hl => match us, hl with | [_, _, _], _ => rfl
  have b42 := F42.binds (ps := ["rules", "followed", "plot"]) fun _ _ _ _ _ _ us hl => match us, hl with | [_, _, _], _ => rfl
  have b43 := F43.binds (ps := ["rules", "flights", "plots"]) fun _ _ _ _ _ _ us hl => match us, hl with | [_, _, _], _ => rfl
  have b44 := F44.binds (ps := ["state", "chart", "lengths", "level"]) fun _ _ _ _ _ _ us hl => match us, hl with | [_, _, _, _], _ => rfl
  have b45 := F45.binds (ps := ["state", "flight"]) fun _ _ _ _ _ _ us hl => match us, hl with | [_, _], _ => rfl
  have b46 := F46.binds (ps := ["chart", "rules", "one", "other"]) fun _ _ _ _ _ _ us hl => match us, hl with | [_, _, _, _], _ => rfl
  have b47 := F47.binds (ps := ["chart", "rules", "flights", "plot"]) fun _ _ _ _ _ _ us hl => match us, hl with | [_, _, _, _], _ => rfl
  have b48 := F48.binds (ps := ["found", "flights", "names"]) fun _ _ _ _ _ _ us hl => match us, hl with | [_, _, _], _ => rfl
  have b49 := F49.binds (ps := ["state", "chart", "rules", "flights", "aircraft"]) fun _ _ _ _ _ _ us hl => match us, hl with | [_, _, _, _, _], _ => rfl
  have T : TxtA mg := { abs := PySem.W.mg_none_of X G z1, int := PySem.W.mg_none_of X G z2, len := PySem.W.mg_none_of X G z3, bool := PySem.W.mg_none_of X G z4, isinstance := PySem.W.mg_none_of X G z5, max := PySem.W.mg_none_of X G z6, min := PySem.W.mg_none_of X G z7, range := PySem.W.mg_none_of X G z8, tuple := PySem.W.mg_none_of X G z9, list := PySem.W.mg_none_of X G z10, sum := PySem.W.mg_none_of X G z11, any := PySem.W.mg_none_of X G z12, all := PySem.W.mg_none_of X G z13, sorted := PySem.W.mg_none_of X G z14, dict := PySem.W.mg_none_of X G z15, enumerate := PySem.W.mg_none_of X G z16 }
  have Tq : mg "isqrt" = some (.builtin "math.isqrt") := PySem.W.mg_of X G yq
  have Ts : mg "str" = none := PySem.W.mg_none_of X G ys
  have Y : PathY K mg C := ⟨⟨pg, hd, po, sa⟩, nA1, nA2, nA3, nA4, nA5⟩
  refine ⟨PySem.W.fnOf "law" "law" (defArgs s_law) (defBody s_law) (defScope s_law) .none kV50 dc50 pm50 an50 cd50 ct50, fun s v => .of_eq rfl, fun base _ _ => ?_⟩
  have D1 : Def l.prog w K mg base 1 "_law_start" ["script"] (spStart K) := .mk' F1 b1 (PySem.W.mg_of X G a1) (ok_law_start F1 T.toTxt0)
  have D2 : Def l.prog w K mg base 1 "_law_draw" ["state", "bound"] (spDraw K) := .mk' F2 b2 (PySem.W.mg_of X G a2) (ok_law_draw F2 T.toTxt0)
  have D3 : Def l.prog w K mg base 2 "_law_pick" ["state", "things"] (spPick K) := .mk' F3 b3 (PySem.W.mg_of X G a3) (ok_law_pick F3 T.toTxt0 D2)
  have D4 : Def l.prog w K mg base 1 "root_down" ["n"] (spDownR) := .mk' F4 b4 (PySem.W.mg_of X G a4) (ok_root_down F4 T Tq)
  have D5 : Def l.prog w K mg base 2 "root_up" ["n"] (spUpR) := .mk' F5 b5 (PySem.W.mg_of X G a5) (ok_root_up F5 T D4)
  have D6 : Def l.prog w K mg base 3 "leg_length" ["chart", "start", "end"] (spLegLen) := .mk' F6 b6 (PySem.W.mg_of X G a6) (ok_leg_length F6 T D5)
  have D7 : Def l.prog w K mg base 1 "leg_between" ["chart", "start", "end"] (spLegBt) := .mk' F7 b7 (PySem.W.mg_of X G a7) (ok_leg_between F7 T)
  have D8 : Def l.prog w K mg base 1 "_law_root_up" ["n"] (spRootR) := .mk' F8 b8 (PySem.W.mg_of X G a8) (ok_law_root_up F8 T)
  have D9 : Def l.prog w K mg base 3 "_law_names" ["state", "many"] (spNames K) := .mk' F9 b9 (PySem.W.mg_of X G a9) (ok_law_names F9 T D2 D3)
  have D10 : Def l.prog w K mg base 3 "_law_legs" ["state", "names"] (spLegs K) := .mk' F10 b10 (PySem.W.mg_of X G a10) (ok_law_legs F10 T D2 D3)
  have D11 : Def l.prog w K mg base 4 "_law_chart" ["state", "many", "size"] (spChartB K) := .mk' F11 b11 (PySem.W.mg_of X G a11) (ok_law_chart F11 T D2 D9 D10)
  have D12 : Def l.prog w K mg base 2 "_law_lengths" ["chart"] (spLens) := .mk' F12 b12 (PySem.W.mg_of X G a12) (ok_law_lengths F12 T D8)
  have D13 : Def l.prog w K mg base 3 "_law_walk" ["state", "chart", "most"] (spWalk K) := .mk' F13 b13 (PySem.W.mg_of X G a13) (ok_law_walk F13 T D2 D3)
  have D14 : MDef l.prog w K mg base 1 C "total" ["self"] (spTotal C) := ⟨_, _, ok_Path_total F14 T Y, ⟨a14, i14, k14⟩, b14⟩
  have D15 : MDef l.prog w K mg base 1 C "leg_at" ["self", "progress"] (spLegAt C) := ⟨_, _, ok_Path_leg_at F15 T Y, ⟨a15, i15, k15⟩, b15⟩
  have D16 : MDef l.prog w K mg base 1 C "begin" ["self", "index"] (spBegin C) := ⟨_, _, ok_Path_begin F16 T Y, ⟨a16, i16, k16⟩, b16⟩
  have D17 : MDef l.prog w K mg base 1 C "vector" ["self", "index"] (spVec C) := ⟨_, _, ok_Path_vector F17 T Y, ⟨a17, i17, k17⟩, b17⟩
  have D18 : MDef l.prog w K mg base 1 C "route" ["self"] (spRoute C) := ⟨_, _, ok_Path_route F18 T Y, ⟨a18, i18, k18⟩, b18⟩
  have D19 : MDef l.prog w K mg base 1 C "_point" ["self", "index", "progress"] (spPoint C) := ⟨_, _, ok_Path__point F19 T Y, ⟨a19, i19, k19⟩, b19⟩
  have D20 : MDef l.prog w K mg base 2 C "place" ["self", "progress"] (spPlace C) := ⟨_, _, ok_Path_place F20 T Y D15 D19, ⟨a20, i20, k20⟩, b20⟩
  have D21 : MDef l.prog w K mg base 4 C "_join" ["self", "chart", "start", "end"] (spJoin C) := ⟨_, _, ok_Path__join F21 T Y D6 D7 D14, ⟨a21, i21, k21⟩, b21⟩
  have DC : CDef l.prog w K mg base 5 C "Path" ["self", "chart", "route"] (spPInit C) := ⟨_, _, ok_Path___init__ F22 T Y D21, ⟨mk, a22, i22, kc⟩, PySem.W.mg_of X G aC, b22⟩
  have D23 : Def l.prog w K mg base 1 "_law_begins" ["lengths", "route"] (spBegins) := .mk' F23 b23 (PySem.W.mg_of X G a23) (ok_law_begins F23 T)
  have D24 : Def l.prog w K mg base 1 "_law_leg_at" ["begins", "progress"] (spLawLegAt) := .mk' F24 b24 (PySem.W.mg_of X G a24) (ok_law_leg_at F24 T)
  have D25 : Def l.prog w K mg base 1 "_law_place_on" ["chart", "route", "begins", "k", "progress"] (spPlaceOn) := .mk' F25 b25 (PySem.W.mg_of X G a25) (ok_law_place_on F25 T)
  have D26 : Def l.prog w K mg base 2 "_law_piece" ["chart", "route", "begins", "low", "high"] (spLawPiece) := .mk' F26 b26 (PySem.W.mg_of X G a26) (ok_law_piece F26 T D25 D24)
  have D27 : Def l.prog w K mg base 6 "_near_on_leg" ["path", "index", "plot", "reach"] (spNearLeg C) := .mk' F27 b27 (PySem.W.mg_of X G a27) (ok_near_on_leg F27 T Y D4 D16 D17 D20)
  have D28 : Def l.prog w K mg base 7 "_near_ends" ["path", "low", "high", "plot", "reach"] (spNearEnds C) := .mk' F28 b28 (PySem.W.mg_of X G a28) (ok_near_ends F28 T Y D27 D15 D16)
  have D29 : Def l.prog w K mg base 8 "fitted" ["rules", "path", "box", "plot"] (spFitted C) := .mk' F29 b29 (PySem.W.mg_of X G a29) (ok_fitted F29 T D28)
  have D30 : Def l.prog w K mg base 1 "_law_cross" ["o", "a", "b"] (spLCross) := .mk' F30 b30 (PySem.W.mg_of X G a30) (ok_law_cross F30 T)
  have D31 : Def l.prog w K mg base 1 "_law_dot" ["o", "a", "b"] (spLDot) := .mk' F31 b31 (PySem.W.mg_of X G a31) (ok_law_dot F31 T)
  have D32 : Def l.prog w K mg base 2 "_law_point_closer" ["p", "a", "b", "square"] (spPtc) := .mk' F32 b32 (PySem.W.mg_of X G a32) (ok_law_point_closer F32 T D31 D30)
  have D33 : Def l.prog w K mg base 3 "_law_closer" ["first", "second", "limit"] (spLClo) := .mk' F33 b33 (PySem.W.mg_of X G a33) (ok_law_closer F33 T D30 D32)
  have D34 : Def l.prog w K mg base 2 "_law_allowed" ["chart", "route", "begins", "progress", "plot", "limit"] (spAllowed) := .mk' F34 b34 (PySem.W.mg_of X G a34) (ok_law_allowed F34 T D24 D25)
  have D35 : Def l.prog w K mg base 3 "_law_fitted" ["chart", "route", "begins", "rules", "box", "plot"] (spLFitted) := .mk' F35 b35 (PySem.W.mg_of X G a35) (ok_law_fitted F35 T D34)
  have D36 : Def l.prog w K mg base 2 "_law_near" ["state", "number", "place"] (spNearP K) := .mk' F36 b36 (PySem.W.mg_of X G a36) (ok_law_near F36 T D2)
  have D37 : Def l.prog w K mg base 2 "_law_vector" ["state", "radius"] (spVector K) := .mk' F37 b37 (PySem.W.mg_of X G a37) (ok_law_vector F37 T D2)
  have D38 : Def l.prog w K mg base 3 "_law_true_plot" ["state", "rules", "place", "level"] (spTruePlot K) := .mk' F38 b38 (PySem.W.mg_of X G a38) (ok_law_true_plot F38 T D2 D37 D36)
  have D39 : Def l.prog w K mg base 3 "_law_rules" ["state"] (spRulesP K) := .mk' F39 b39 (PySem.W.mg_of X G a39) (ok_law_rules F39 T D2 D3)
  have D40 : Def l.prog w K mg base 5 "_law_small_chart" ["state"] (spSmall K) := .mk' F40 b40 (PySem.W.mg_of X G a40) (ok_law_small_chart F40 T D2 D3 D11)
  have D41 : Def l.prog w K mg base 9 "_fitting" ["rules", "candidates", "plot"] (spFitting C) := .mk' F41 b41 (PySem.W.mg_of X G a41) (ok_fitting F41 T D29)
  have D42 : Def l.prog w K mg base 10 "_first_fitting" ["rules", "followed", "plot"] (spFirst C) := .mk' F42 b42 (PySem.W.mg_of X G a42) (ok_first_fitting F42 T D41)
  have D43 : Def l.prog w K mg base 11 "assign" ["rules", "flights", "plots"] (spAssign C) := .mk' F43 b43 (PySem.W.mg_of X G a43) (ok_assign F43 T D42)
  have D44 : Def l.prog w K mg base 7 "_law_flight" ["state", "chart", "lengths", "level"] (spFlight K C) := .mk' F44 b44 (PySem.W.mg_of X G a44) (ok_law_flight F44 T Y D2 D3 D13 D23 DC)
  have D45 : Def l.prog w K mg base 2 "_law_aircraft" ["state", "flight"] (spAircraft K C) := .mk' F45 b45 (PySem.W.mg_of X G a45) (ok_law_aircraft F45 T D2)
  have D46 : Def l.prog w K mg base 4 "_law_apart" ["chart", "rules", "one", "other"] (spApart C) := .mk' F46 b46 (PySem.W.mg_of X G a46) (ok_law_apart F46 T D26 D33)
  have D47 : Def l.prog w K mg base 4 "_law_give" ["chart", "rules", "flights", "plot"] (spGive C) := .mk' F47 b47 (PySem.W.mg_of X G a47) (ok_law_give F47 T D35)
  have D48 : Def l.prog w K mg base 4 "_law_told" ["found", "flights", "names"] (spTold C) := .mk' F48 b48 (PySem.W.mg_of X G a48) (ok_law_told F48 T Y D18)
  have D49 : Def l.prog w K mg base 4 "_law_plots" ["state", "chart", "rules", "flights", "aircraft"] (spPlots K C) := .mk' F49 b49 (PySem.W.mg_of X G a49) (ok_law_plots F49 T D2 D25 D24 D38 D34)
  exact ok_law F50 T Ts D1 D40 D12 D39 D2 D3 D44 D45 D49 D46 D43 D47 D48
theorem walk {l : PySem.W.OpenLaw} {q : Program} {loose : List Str} {XP : (Str → Option Value) → Heap → Prop} {YP : World → Heap → Prop} {d : DefRec} {K : Params → PySem.W.Frag} (hn : l.most = some 63) (hdf : d.params.defaults = [])
    (hY : ∀ (w : World) (h : Heap), YP w h → (K w.params).In h)
    (F : ∀ (w : World) (mg : Str → Option Value) (fa : Addr) (h : Heap), (K w.params).In h → h.Ns mainGlobals mg → mg d.name = some (.ref fa) →
      ∃ fd : FuncData, (∀ (s : Shared) (u : Value), BindsTo s fd ⟨[u], []⟩ [("script", u)]) ∧ ∀ base : Heap, (K w.params).In base → base.Ns mainGlobals mg → FnOk l.prog w (K w.params) mg base CX0 12 fa fd ["script"] (spLaw (K w.params))) :
    PySem.W.WalkO q loose XP YP l.row.toRowW d [] (fun f vs => PySem.call f vs) :=
  L2.walk_of (n := 63) (k := 12) (x := "script") (CX := fun _ => CX0) (sp := fun w => spLaw (K w.params)) hn (by decide) hdf ⟨rfl, by decide, by decide⟩ hY F (fun _ _ a ns hl _ hS => ⟨a, ns, rfl, hS, hl, fun _ => rfl⟩) fun _ _ _ _ _ z => z
end Sk
open PySem PySem.W PyProof.Rows
set_option maxRecDepth 100000 in
set_option maxHeartbeats 0 in
theorem PySem.Challenge.cw_skyapart_k21_whole_nameless_plots_holds : PySem.Challenge.rw_skyapart_k21_whole_nameless_plots.Holds := by
  w_on; o_law; k_head; (case hw => w_witness2)
  k_fill
  refine Sk.walk (l := PySem.Challenge.rw_skyapart_k21_whole_nameless_plots) rfl rfl (fun w h Y => PySem.W.kIn_of Y) ?F
  case F =>
    intro w mg fa h KX G hmg
    refine' Sk.all_mk KX G hmg ?aC ?pg ?hd ?po ?sa ?mk ?kc ?nA1 ?nA2 ?nA3 ?nA4 ?nA5 ?a1 ?l1 ?c1 ?k1 ?a2 ?l2 ?c2 ?k2 ?a3 ?l3 ?c3 ?k3 ?a4 ?l4 ?c4 ?k4 ?a5 ?l5 ?c5 ?k5 ?a6 ?l6 ?c6 ?k6 ?a7 ?l7 ?c7 ?k7 ?a8 ?l8 ?c8 ?k8 ?a9 ?l9 ?c9 ?k9 ?a10 ?l10 ?c10 ?k10 ?a11 ?l11 ?c11 ?k11 ?a12 ?l12 ?c12 ?k12 ?a13 ?l13 ?c13 ?k13 ?a14 ?i14 ?l14 ?c14 ?k14 ?a15 ?i15 ?l15 ?c15 ?k15 ?a16 ?i16 ?l16 ?c16 ?k16 ?a17 ?i17 ?l17 ?c17 ?k17 ?a18 ?i18 ?l18 ?c18 ?k18 ?a19 ?i19 ?l19 ?c19 ?k19 ?a20 ?i20 ?l20 ?c20 ?k20 ?a21 ?i21 ?l21 ?c21 ?k21 ?a22 ?i22 ?l22 ?c22 ?k22 ?a23 ?l23 ?c23 ?k23 ?a24 ?l24 ?c24 ?k24 ?a25 ?l25 ?c25 ?k25 ?a26 ?l26 ?c26 ?k26 ?a27 ?l27 ?c27 ?k27 ?a28 ?l28 ?c28 ?k28 ?a29 ?l29 ?c29 ?k29 ?a30 ?l30 ?c30 ?k30 ?a31 ?l31 ?c31 ?k31 ?a32 ?l32 ?c32 ?k32 ?a33 ?l33 ?c33 ?k33 ?a34 ?l34 ?c34 ?k34 ?a35 ?l35 ?c35 ?k35 ?a36 ?l36 ?c36 ?k36 ?a37 ?l37 ?c37 ?k37 ?a38 ?l38 ?c38 ?k38 ?a39 ?l39 ?c39 ?k39 ?a40 ?l40 ?c40 ?k40 ?a41 ?l41 ?c41 ?k41 ?a42 ?l42 ?c42 ?k42 ?a43 ?l43 ?c43 ?k43 ?a44 ?l44 ?c44 ?k44 ?a45 ?l45 ?c45 ?k45 ?a46 ?l46 ?c46 ?k46 ?a47 ?l47 ?c47 ?k47 ?a48 ?l48 ?c48 ?k48 ?a49 ?l49 ?c49 ?k49 ?a50 ?l50 ?c50 ?k50 ?z1 ?z2 ?z3 ?z4 ?z5 ?z6 ?z7 ?z8 ?z9 ?z10 ?z11 ?z12 ?z13 ?z14 ?z15 ?z16 ?yq ?ys
    (case aC => k_is); (case pg => k_is); (case hd => k_is); (case po => k_is)
    (case sa => k_is); (case mk => k_is); (case kc => k_is); (case nA1 => k_is)
    (case nA2 => k_is); (case nA3 => k_is); (case nA4 => k_is); (case nA5 => k_is)
    (case a1 => k_is); (case l1 => k_is); (case c1 => k_is); (case k1 => k_is)
    (case a2 => k_is); (case l2 => k_is); (case c2 => k_is); (case k2 => k_is)
    (case a3 => k_is); (case l3 => k_is); (case c3 => k_is); (case k3 => k_is)
    (case a4 => k_is); (case l4 => k_is); (case c4 => k_is); (case k4 => k_is)
    (case a5 => k_is); (case l5 => k_is); (case c5 => k_is); (case k5 => k_is)
    (case a6 => k_is); (case l6 => k_is); (case c6 => k_is); (case k6 => k_is)
    (case a7 => k_is); (case l7 => k_is); (case c7 => k_is); (case k7 => k_is)
    (case a8 => k_is); (case l8 => k_is); (case c8 => k_is); (case k8 => k_is)
    (case a9 => k_is); (case l9 => k_is); (case c9 => k_is); (case k9 => k_is)
    (case a10 => k_is); (case l10 => k_is); (case c10 => k_is); (case k10 => k_is)
    (case a11 => k_is); (case l11 => k_is); (case c11 => k_is); (case k11 => k_is)
    (case a12 => k_is); (case l12 => k_is); (case c12 => k_is); (case k12 => k_is)
    (case a13 => k_is); (case l13 => k_is); (case c13 => k_is); (case k13 => k_is)
    (case a14 => k_is); (case i14 => k_is); (case l14 => k_is); (case c14 => k_is)
    (case k14 => k_is); (case a15 => k_is); (case i15 => k_is); (case l15 => k_is)
    (case c15 => k_is); (case k15 => k_is); (case a16 => k_is); (case i16 => k_is)
    (case l16 => k_is); (case c16 => k_is); (case k16 => k_is); (case a17 => k_is)
    (case i17 => k_is); (case l17 => k_is); (case c17 => k_is); (case k17 => k_is)
    (case a18 => k_is); (case i18 => k_is); (case l18 => k_is); (case c18 => k_is)
    (case k18 => k_is); (case a19 => k_is); (case i19 => k_is); (case l19 => k_is)
    (case c19 => k_is); (case k19 => k_is); (case a20 => k_is); (case i20 => k_is)
    (case l20 => k_is); (case c20 => k_is); (case k20 => k_is); (case a21 => k_is)
    (case i21 => k_is); (case l21 => k_is); (case c21 => k_is); (case k21 => k_is)
    (case a22 => k_is); (case i22 => k_is); (case l22 => k_is); (case c22 => k_is)
    (case k22 => k_is); (case a23 => k_is); (case l23 => k_is); (case c23 => k_is)
    (case k23 => k_is); (case a24 => k_is); (case l24 => k_is); (case c24 => k_is)
    (case k24 => k_is); (case a25 => k_is); (case l25 => k_is); (case c25 => k_is)
    (case k25 => k_is); (case a26 => k_is); (case l26 => k_is); (case c26 => k_is)
    (case k26 => k_is); (case a27 => k_is); (case l27 => k_is); (case c27 => k_is)
    (case k27 => k_is); (case a28 => k_is); (case l28 => k_is); (case c28 => k_is)
    (case k28 => k_is); (case a29 => k_is); (case l29 => k_is); (case c29 => k_is)
    (case k29 => k_is); (case a30 => k_is); (case l30 => k_is); (case c30 => k_is)
    (case k30 => k_is); (case a31 => k_is); (case l31 => k_is); (case c31 => k_is)
    (case k31 => k_is); (case a32 => k_is); (case l32 => k_is); (case c32 => k_is)
    (case k32 => k_is); (case a33 => k_is); (case l33 => k_is); (case c33 => k_is)
    (case k33 => k_is); (case a34 => k_is); (case l34 => k_is); (case c34 => k_is)
    (case k34 => k_is); (case a35 => k_is); (case l35 => k_is); (case c35 => k_is)
    (case k35 => k_is); (case a36 => k_is); (case l36 => k_is); (case c36 => k_is)
    (case k36 => k_is); (case a37 => k_is); (case l37 => k_is); (case c37 => k_is)
    (case k37 => k_is); (case a38 => k_is); (case l38 => k_is); (case c38 => k_is)
    (case k38 => k_is); (case a39 => k_is); (case l39 => k_is); (case c39 => k_is)
    (case k39 => k_is); (case a40 => k_is); (case l40 => k_is); (case c40 => k_is)
    (case k40 => k_is); (case a41 => k_is); (case l41 => k_is); (case c41 => k_is)
    (case k41 => k_is); (case a42 => k_is); (case l42 => k_is); (case c42 => k_is)
    (case k42 => k_is); (case a43 => k_is); (case l43 => k_is); (case c43 => k_is)
    (case k43 => k_is); (case a44 => k_is); (case l44 => k_is); (case c44 => k_is)
    (case k44 => k_is); (case a45 => k_is); (case l45 => k_is); (case c45 => k_is)
    (case k45 => k_is); (case a46 => k_is); (case l46 => k_is); (case c46 => k_is)
    (case k46 => k_is); (case a47 => k_is); (case l47 => k_is); (case c47 => k_is)
    (case k47 => k_is); (case a48 => k_is); (case l48 => k_is); (case c48 => k_is)
    (case k48 => k_is); (case a49 => k_is); (case l49 => k_is); (case c49 => k_is)
    (case k49 => k_is); (case a50 => k_is); (case l50 => k_is); (case c50 => k_is)
    (case k50 => k_is); (case z1 => k_is); (case z2 => k_is); (case z3 => k_is)
    (case z4 => k_is); (case z5 => k_is); (case z6 => k_is); (case z7 => k_is)
    (case z8 => k_is); (case z9 => k_is); (case z10 => k_is); (case z11 => k_is)
    (case z12 => k_is); (case z13 => k_is); (case z14 => k_is); (case z15 => k_is)
    (case z16 => k_is); (case yq => k_is); (case ys => k_is)
