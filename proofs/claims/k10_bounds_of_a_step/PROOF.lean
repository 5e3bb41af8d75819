import PyProof.Rows.All
import Wide.All
import OpenK.AllK
import Wide.FinOn
import HandS.Base
import HandS.Call
import HandS.List
import HandS.Comp
import HandS.Ends
import HandS.Dict
import HandS.Iter
import HandS.Words
import HandS.WordsList
import HandS.Wide
import HandS.Gcd
import HandS.IsInst
import Flt.RightSqrt
import PySem.Challenge.RW_skyapart_k10_bounds_of_a_step
set_option Elab.async false
set_option linter.all false
set_option maxRecDepth 100000
set_option maxHeartbeats 4000000
namespace Sk
open PySem PySem.Spec PyProof.Rows L2

/-! a def of the text, ready to be called by its name -/
structure Def (P : Program) (w : World) (K : PySem.W.Frag) (mg : Str → Option Value) (base : Heap) (k : Nat) (x : Str) (ps : List Str) (sp : Sp) : Prop where
  ex : ∃ (f : Addr) (fd : FuncData), FnOk P w K mg base CX0 k f fd ps sp ∧ mg x = some (.ref f) ∧ PySem.W.keepIn K (.ref f) = true ∧ Binds K fd ps []
theorem Def.mk' {P : Program} {w : World} {K : PySem.W.Frag} {mg : Str → Option Value} {base : Heap} {k : Nat} {x qual : Str} {st : Stmt} {f : Addr} {fd : FuncData} {ps : List Str} {sp : Sp}
    (F : Fun K x qual st f fd) (b : Binds K fd ps []) (m : mg x = some (.ref f)) (G : FnOk P w K mg base CX0 k f fd ps sp) : Def P w K mg base k x ps sp := ⟨f, fd, G, m, F.kp, b⟩
theorem pe_def {X : Cx} {k : Nat} {x : Str} {ps : List Str} {sp : Sp} {p pos : Pos} {e : Expr} {es : List Expr} {t : TA} (D : Def X.prog X.w X.K X.mg X.base k x ps sp) (hr : Room k X.A) (hg : Gl X x)
    (ha : PA X (e :: es) t) (hdb : (x == ("__debug__" : Str)) = false := by decide) (he : starEach (e :: es) X.env = (false, eval e X.env) :: starEach es X.env := by rfl) (hpl : (backTo pos (starEach es X.env)).any (·.1) = false := by rfl) :
    PE X (.Call (.Name x p) (e :: es) [] pos) (tCall sp [] E0 t) := by
  obtain ⟨f, fd, F, m, kp, b⟩ := D.ex
  exact pe_call F hr hg m kp b .nil pass0 ha hdb he hpl
/-- a call's reading: the values of the arguments as they are -/
theorem sp_nil {sp : Sp} {vs : List V} {H : Hp} {Q : VK} {E : XK} (h : sp vs H Q E) : sp (vs ++ []) H Q E := by
  rw [List.append_nil]
  exact h

/-! heaps -/
/-- all but what stands at d is as it was -/
def Keep (d : Addr) (H H' : Hp) : Prop := ∀ c o, H c = some o → c ≠ d → H' c = some o
theorem Keep.refl (d : Addr) (H : Hp) : Keep d H H := fun _ _ h _ => h
theorem Keep.trans {d : Addr} {H H1 H2 : Hp} (a : Keep d H H1) (b : Keep d H1 H2) : Keep d H H2 := fun c o h n => b c o (a c o h n) n
theorem Keep.of {d : Addr} {H H1 : Hp} (a : Same H H1) : Keep d H H1 := fun c o h _ => a c o h
theorem Keep.upd (d : Addr) (H : Hp) (o : HO) : Keep d H (upd H d o) := fun c u h n => by
  rw [upd_ne n]
  exact h
theorem same_new {H : Hp} {p : Addr} {o : HO} (h : H p = none) : Same H (upd H p o) := fun b x e => by
  rw [upd_ne (ne_of_none e h)]
  exact e
theorem lst_ne {H : Hp} {a d : Addr} {xs : List V} {o : HO} (h : H d = some (.dK o')) (ha : H a = some (.lst xs)) : a ≠ d := ne_of ha h (by intro z; cases z)
/-- a list to be read stays, if it isn't the dict at d -/
theorem Keep.seq {K : PySem.W.Frag} {d : Addr} {kvs : List (Key × V)} {H H' : Hp} {a : Addr} {xs : List V} (k : Keep d H H') (hd : H d = some (.dK kvs)) (h : SqL K H a xs) : SqL K H' a xs := by
  rcases h with (h | ⟨o, h⟩) | h
  · exact .inl (.inl (k _ _ h (ne_of h hd (by intro z; cases z))))
  · exact .inl (.inr ⟨o, k _ _ h (ne_of h hd (by intro z; cases z))⟩)
  · exact .inr h
theorem Keep.tup {K : PySem.W.Frag} {d : Addr} {kvs : List (Key × V)} {H H' : Hp} {a : Addr} {xs : List V} (k : Keep d H H') (hd : H d = some (.dK kvs)) (h : SqT K H a xs) : SqT K H' a xs := by
  rcases h with (h | ⟨o, h⟩) | h
  · exact .inl (.inl (k _ _ h (ne_of h hd (by intro z; cases z))))
  · exact .inl (.inr ⟨o, k _ _ h (ne_of h hd (by intro z; cases z))⟩)
  · exact .inr h
theorem Keep.lst {d : Addr} {kvs : List (Key × V)} {H H' : Hp} {a : Addr} {xs : List V} (k : Keep d H H') (hd : H d = some (.dK kvs)) (h : H a = some (.lst xs)) : H' a = some (.lst xs) := k _ _ h (ne_of h hd (by intro z; cases z))
theorem Keep.tp {d : Addr} {kvs : List (Key × V)} {H H' : Hp} {a : Addr} {xs : List V} (k : Keep d H H') (hd : H d = some (.dK kvs)) (h : H a = some (.tup xs)) : H' a = some (.tup xs) := k _ _ h (ne_of h hd (by intro z; cases z))
theorem same_tup {K : PySem.W.Frag} {H H' : Hp} {a : Addr} {xs : List V} (e : Same H H') (h : SqT K H a xs) : SqT K H' a xs := by
  rcases h with (h | ⟨o, h⟩) | h
  · exact .inl (.inl (e _ _ h))
  · exact .inl (.inr ⟨o, e _ _ h⟩)
  · exact .inr h

/-! the state of the draws -/
theorem k01 : ¬ ("cells" : Str) = "at" := by decide +kernel
theorem k02 : ¬ ("cells" : Str) = "left" := by decide +kernel
theorem k03 : ¬ ("cells" : Str) = "mix" := by decide +kernel
theorem k10 : ¬ ("at" : Str) = "cells" := by decide +kernel
theorem k12 : ¬ ("at" : Str) = "left" := by decide +kernel
theorem k13 : ¬ ("at" : Str) = "mix" := by decide +kernel
theorem k20 : ¬ ("left" : Str) = "cells" := by decide +kernel
theorem k21 : ¬ ("left" : Str) = "at" := by decide +kernel
theorem k23 : ¬ ("left" : Str) = "mix" := by decide +kernel
theorem k30 : ¬ ("mix" : Str) = "cells" := by decide +kernel
theorem k31 : ¬ ("mix" : Str) = "at" := by decide +kernel
theorem k32 : ¬ ("mix" : Str) = "left" := by decide +kernel
theorem kr {a b : Str} (h : ¬ a = b) : ¬ (Sum.inr a : Key) = Sum.inr b := fun z => h (Sum.inr.inj z)
def stK (c : Addr) (i l m : Int) : List (Key × V) := [(.inr "cells", .ref c), (.inr "at", .int i), (.inr "left", .int l), (.inr "mix", .int m)]
theorem g_cells (c : Addr) (i l m : Int) : valV (stK c i l m) (.inr "cells") = some (.ref c) := valV_pos rfl
theorem g_at (c : Addr) (i l m : Int) : valV (stK c i l m) (.inr "at") = some (.int i) := by
  unfold stK
  rw [valV_neg (kr k01), valV_pos rfl]
theorem g_left (c : Addr) (i l m : Int) : valV (stK c i l m) (.inr "left") = some (.int l) := by
  unfold stK
  rw [valV_neg (kr k02), valV_neg (kr k12), valV_pos rfl]
theorem g_mix (c : Addr) (i l m : Int) : valV (stK c i l m) (.inr "mix") = some (.int m) := by
  unfold stK
  rw [valV_neg (kr k03), valV_neg (kr k13), valV_neg (kr k23), valV_pos rfl]
theorem put_any {kvs : List (Key × V)} {k : Key} {v y : V} (h : valV kvs k = some v) : putK kvs k y = kvs.map (fun kv => if kv.1 = k then (kv.1, y) else kv) := by
  unfold putK
  rw [valV_any, h]
  exact if_pos rfl
theorem p_at (c : Addr) (i l m j : Int) : putK (stK c i l m) (.inr "at") (.int j) = stK c j l m := by
  rw [put_any (g_at c i l m)]
  unfold stK
  simp only [List.map_cons, List.map_nil, if_neg (kr k01), if_neg (kr k21), if_neg (kr k31), if_true]
theorem p_left (c : Addr) (i l m j : Int) : putK (stK c i l m) (.inr "left") (.int j) = stK c i j m := by
  rw [put_any (g_left c i l m)]
  unfold stK
  simp only [List.map_cons, List.map_nil, if_neg (kr k02), if_neg (kr k12), if_neg (kr k32), if_true]
theorem p_mix (c : Addr) (i l m j : Int) : putK (stK c i l m) (.inr "mix") (.int j) = stK c i l j := by
  rw [put_any (g_mix c i l m)]
  unfold stK
  simp only [List.map_cons, List.map_nil, if_neg (kr k03), if_neg (kr k13), if_neg (kr k23), if_true]
theorem merge_st (c : Addr) (i l m : Int) : mergeK [] (stK c i l m) = stK c i l m := by
  have e0 : putK ([] : List (Key × V)) (.inr "cells" : Key) (.ref c) = [((.inr "cells" : Key), V.ref c)] := rfl
  have e1 : putK [((.inr "cells" : Key), V.ref c)] (.inr "at" : Key) (.int i) = [((.inr "cells" : Key), V.ref c), (.inr "at", .int i)] := by
    rw [putK_new _ (by rw [valV_neg (kr k01)]; rfl)]
    all_goals rfl
  have e2 : putK [((.inr "cells" : Key), V.ref c), (.inr "at", .int i)] (.inr "left") (.int l) = [((.inr "cells" : Key), V.ref c), (.inr "at", .int i), (.inr "left", .int l)] := by
    rw [putK_new _ (by rw [valV_neg (kr k02), valV_neg (kr k12)]; rfl)]
    all_goals rfl
  have e3 : putK [((.inr "cells" : Key), V.ref c), (.inr "at", .int i), (.inr "left", .int l)] (.inr "mix") (.int m) = stK c i l m := by
    rw [putK_new _ (by rw [valV_neg (kr k03), valV_neg (kr k13), valV_neg (kr k23)]; rfl)]
    all_goals rfl
  show putK (putK (putK (putK ([] : List (Key × V)) (.inr "cells" : Key) (.ref c)) (.inr "at" : Key) (.int i)) (.inr "left" : Key) (.int l)) (.inr "mix" : Key) (.int m) = stK c i l m
  rw [e0, e1, e2, e3]
/-- the dict of the draws stands at d -/
structure StAt (K : PySem.W.Frag) (H : Hp) (d : Addr) (c : Addr) (ns : List Int) (i l m : Int) : Prop where
  dc : H d = some (.dK (stK c i l m))
  cs : H c = some (.lst (ns.map V.int))
  nn : ∀ x ∈ ns, 0 ≤ x
  i0 : 0 ≤ i
  l0 : 0 ≤ l
  m0 : 0 ≤ m
  m1 : m < 2147483648
def St1 (K : PySem.W.Frag) (H : Hp) (d c : Addr) : Prop := ∃ ns i l m, StAt K H d c ns i l m
theorem St1.dk {K : PySem.W.Frag} {H : Hp} {d c : Addr} (S : St1 K H d c) : ∃ kvs, H d = some (.dK kvs) := let ⟨_, _, _, _, S⟩ := S; ⟨_, S.dc⟩
theorem St1.cl {K : PySem.W.Frag} {H : Hp} {d c : Addr} (S : St1 K H d c) : ∃ xs, H c = some (.lst xs) := let ⟨_, _, _, _, S⟩ := S; ⟨_, S.cs⟩
/-- the state stands on where both its objects stand -/
theorem St1.of {K : PySem.W.Frag} {H H' : Hp} {d c : Addr} (S : St1 K H d c) (e1 : H' d = H d) (e2 : H' c = H c) : St1 K H' d c := by
  obtain ⟨ns, i, l, m, S⟩ := S
  exact ⟨ns, i, l, m, e1.trans S.dc, e2.trans S.cs, S.nn, S.i0, S.l0, S.m0, S.m1⟩
theorem St1.same {K : PySem.W.Frag} {H H' : Hp} {d c : Addr} (S : St1 K H d c) (e : Same H H') : St1 K H' d c := by
  obtain ⟨ns, i, l, m, S⟩ := S
  exact ⟨ns, i, l, m, e _ _ S.dc, e _ _ S.cs, S.nn, S.i0, S.l0, S.m0, S.m1⟩
theorem St1.new {K : PySem.W.Frag} {H : Hp} {d c a : Addr} {o : HO} (S : St1 K H d c) (h : H a = none) : St1 K (upd H a o) d c := S.same (same_new h)
theorem St1.nd {K : PySem.W.Frag} {H : Hp} {d c a : Addr} (S : St1 K H d c) (h : H a = none) : a ≠ d := let ⟨_, e⟩ := S.dk; (ne_of_none e h).symm
theorem St1.nc {K : PySem.W.Frag} {H : Hp} {d c a : Addr} (S : St1 K H d c) (h : H a = none) : a ≠ c := let ⟨_, e⟩ := S.cl; (ne_of_none e h).symm
theorem St1.put {K : PySem.W.Frag} {H : Hp} {d c a : Addr} {o : HO} (S : St1 K H d c) (h1 : a ≠ d) (h2 : a ≠ c) : St1 K (upd H a o) d c := S.of (upd_ne h1.symm) (upd_ne h2.symm)
theorem StAt.put {K : PySem.W.Frag} {H : Hp} {d c : Addr} {ns : List Int} {i l m i' l' m' : Int} (S : StAt K H d c ns i l m) (h0 : 0 ≤ i') (h1 : 0 ≤ l') (h2 : 0 ≤ m') (h3 : m' < 2147483648) :
    StAt K (upd H d (.dK (stK c i' l' m'))) d c ns i' l' m' := ⟨upd_same, (Keep.upd d H _).lst S.dc S.cs, S.nn, h0, h1, h2, h3⟩
section
variable {H : Hp} {d c : Addr} {i l m j : Int}
theorem dg_cells (h : H d = some (.dK (stK c i l m))) : DGet H d (.str "cells") (some (.ref c)) := g_cells c i l m ▸ DGet.k (k := .inr "cells") h
theorem dg_at (h : H d = some (.dK (stK c i l m))) : DGet H d (.str "at") (some (.int i)) := g_at c i l m ▸ DGet.k (k := .inr "at") h
theorem dg_left (h : H d = some (.dK (stK c i l m))) : DGet H d (.str "left") (some (.int l)) := g_left c i l m ▸ DGet.k (k := .inr "left") h
theorem dg_mix (h : H d = some (.dK (stK c i l m))) : DGet H d (.str "mix") (some (.int m)) := g_mix c i l m ▸ DGet.k (k := .inr "mix") h
theorem st_few : (stK c i l m).length < sizeLine := Nat.lt_of_le_of_lt (show 4 ≤ 1000 by decide) (by decide)
theorem dp_at (h : H d = some (.dK (stK c i l m))) : DPut H d (.str "at") (.int j) (upd H d (.dK (stK c j l m))) := p_at c i l m j ▸ DPut.k (k := .inr "at") h st_few
theorem dp_left (h : H d = some (.dK (stK c i l m))) : DPut H d (.str "left") (.int j) (upd H d (.dK (stK c i j m))) := p_left c i l m j ▸ DPut.k (k := .inr "left") h st_few
theorem dp_mix (h : H d = some (.dK (stK c i l m))) : DPut H d (.str "mix") (.int j) (upd H d (.dK (stK c i l j))) := p_mix c i l m j ▸ DPut.k (k := .inr "mix") h st_few
end
/-! what follows is shown once, for both ways of an if ahead of it -/
theorem cut {t u : TS} {D : Ends} {σ : L2.St} {H : Hp} (I : L2.St → Hp → Prop) (h2 : ∀ σ' H', I σ' H' → u D σ' H') (h1 : (∀ σ' H', I σ' H' → u D σ' H') → t { D with nx := u D } σ H) : tSeq t u D σ H := h1 h2

/-! the promises of the draws -/
/-- the bound's bound -/
def big : Int := 10000000000000000000000000000000000000000000000000000000000000000000000
def spStart (K : PySem.W.Frag) : Sp := fun vs H Q _ => ∃ (a : Addr) (ns : List Int), vs = [.ref a] ∧ SqL K H a (ns.map V.int) ∧ ns.length ≤ 63 ∧ ∀ d c H', H d = none → H c = none → St1 K H' d c → Same H H' → Q (.ref d) H'
def spDraw (K : PySem.W.Frag) : Sp := fun vs H Q _ => ∃ (d c : Addr) (b : Int), vs = [.ref d, .int b] ∧ St1 K H d c ∧ 0 < b ∧ b ≤ 10000000000000000000000000000000000000000000000000000000000000000000000 ∧
  ∀ n H', 0 ≤ n → n < b → St1 K H' d c → Keep d H H' → Q (.int n) H'
def spPick (K : PySem.W.Frag) : Sp := fun vs H Q _ => ∃ (d c l : Addr) (xs : List V), vs = [.ref d, .ref l] ∧ St1 K H d c ∧ SqL K H l xs ∧ xs ≠ [] ∧ xs.length ≤ 1000 ∧
  ∀ v H', v ∈ xs → St1 K H' d c → Keep d H H' → Q v H'
/-- a value's kind -/
def isInt : V → Bool | .int _ => true | _ => false
def isBl : V → Bool | .bl _ => true | _ => false
def spIsNum : Sp := fun vs H Q _ => ∃ n : Int, vs = [.int n] ∧ Q (.bl true) H
theorem log_of {b : Int} (h0 : 0 < b) (h1 : b ≤ 10000000000000000000000000000000000000000000000000000000000000000000000) : CDivW l b := wide_div (b := 300) h0 (by
  have : (b.natAbs : Int) = b := by omega
  have e : (2 : Nat) ^ 300 = 2037035976334486086268445688409378161051468393665936250636140449354381299763336706183397376 := by decide +kernel
  rw [e]
  omega) (by decide) (by decide)
/-! tests whose answer is known -/
theorem ifN {c A B : Prop} [Decidable c] (h : ¬ c) (q : B) : if decide c = true then A else B := by
  rw [decide_eq_false h]
  exact iteF q
theorem ifY {c A B : Prop} [Decidable c] (h : c) (q : A) : if decide c = true then A else B := by
  rw [decide_eq_true h]
  exact iteT q
theorem wm {i j : Int} (hi : i.natAbs < 2 ^ 250) (hj : j.natAbs < 2 ^ 250) : CMulW i j := wide_mul hi hj (by decide) (by decide) (by decide)
theorem ltge (a b : Int) : a < b ∨ b ≤ a := by omega
theorem nm {i : Nat} {x : V} {σ : L2.St} {H : Hp} {k : L2.St → Hp → Prop} (h : k (σ.set i (some x)) H) : gName i x σ H k := h
/-! math.isqrt -/
def rIsqrt : List V → Hp → VK → Prop := fun vs H Q => ∃ n : Int, vs = [.int n] ∧ 0 ≤ n ∧ n.natAbs < 2 ^ 250 ∧ ∀ r : Int, 0 ≤ r → r * r ≤ n → n < (r + 1) * (r + 1) → Q (.int r) H
theorem cr_isqrt {X : Cx} : CallR X (.builtin "math.isqrt") rIsqrt := by
  intro pins s σ H vs us Q I r h
  obtain ⟨a, rfl, h0, h1, q⟩ := h
  obtain ⟨u, rfl, t, rfl⟩ := vals1 r
  have hl : a.toNat.log2 < 250 := by
    have e : a.toNat = a.natAbs := by omega
    rw [e]
    exact PySem.Flt.log2_lt_of (by decide) h1
  obtain ⟨z1, z2⟩ := PySem.Float64.isqrt_spec a.toNat
  refine call_function_meets PySem.W.MGF.kind_isqrt PySem.W.MGF.plain_isqrt PySem.W.MGF.entry_isqrt (PySem.W.MGF.args_isqrt _) (PySem.W.mg_run_isqrt a t (by omega) (by omega) (by omega)).meets ?_
  refine ⟨.int ((Float64.isqrt a.toNat : Nat) : Int), H, I.tok _, ⟨_, rfl⟩, q _ (Int.natCast_nonneg _) ?_ ?_⟩
  · have := Int.ofNat_le.mpr z1
    rw [Int.natCast_mul] at this
    omega
  · have := Int.ofNat_lt.mpr z2
    rw [Int.natCast_mul, Int.natCast_add] at this
    have e : ((a.toNat : Nat) : Int) = a := by omega
    rw [e] at this
    exact this
theorem szOk {xs : List V} (h : Nat.ble xs.length 1000 = true) : xs.length ≤ sizeLine := Nat.le_trans (Nat.le_of_ble_eq_true h) (by decide)
theorem eqN {a b : Int} {A B : Prop} (h : a ≠ b) (q : B) : if decide (V.int a = V.int b) = true then A else B := ifN (fun z => h (V.int.inj z)) q
theorem eqY {a b : Int} {A B : Prop} (h : a = b) (q : A) : if decide (V.int a = V.int b) = true then A else B := ifY (congrArg V.int h) q
theorem neN {a b : Int} {A B : Prop} (h : a = b) (q : B) : if (!decide (V.int a = V.int b)) = true then A else B := iteNS (congrArg V.int h) q
/-! tracked things behind a call that changes the state alone -/
section
variable {K : PySem.W.Frag} {d c : Addr} {H H' : Hp}
theorem Keep.l (k : Keep d H H') (S : St1 K H d c) {a : Addr} {xs : List V} (h : H a = some (.lst xs)) : H' a = some (.lst xs) := let ⟨_, e⟩ := S.dk; k.lst e h
theorem Keep.t (k : Keep d H H') (S : St1 K H d c) {a : Addr} {xs : List V} (h : H a = some (.tup xs)) : H' a = some (.tup xs) := let ⟨_, e⟩ := S.dk; k.tp e h
theorem Keep.sl (k : Keep d H H') (S : St1 K H d c) {a : Addr} {xs : List V} (h : SqL K H a xs) : SqL K H' a xs := let ⟨_, e⟩ := S.dk; k.seq e h
theorem Keep.st (k : Keep d H H') (S : St1 K H d c) {a : Addr} {xs : List V} (h : SqT K H a xs) : SqT K H' a xs := let ⟨_, e⟩ := S.dk; k.tup e h
end
theorem sq0 (x : Int) : 0 ≤ x * x := by
  rcases ltge x 0 with z | z
  · have := Int.mul_nonneg (show 0 ≤ -x by omega) (show 0 ≤ -x by omega)
    rw [Int.neg_mul_neg] at this
    exact this
  · exact Int.mul_nonneg z z
theorem atI0 {α : Type} {xs : List α} {j : Nat} {v : α} (h : xs[j]? = some v) : atI xs (0 + (j : Int)) = some v := by
  rw [Int.zero_add]
  exact atI_nat h
theorem atI_back {α : Type} {xs : List α} {v : α} (h : xs.getLast? = some v) : atI xs (-1) = some v := by
  obtain ⟨ys, rfl⟩ := List.getLast?_eq_some_iff.mp h
  exact atI_last ys v
theorem eqvN {d : PyData} {A B : Prop} (h : d.canLay0 = true) (q : B) : if (!PyData.eqv d d) = true then A else B := by
  rw [SeqAt.eqv_refl d h]
  exact q
theorem getInt {ns : List Int} {i : Nat} {y : V} (h : (ns.map V.int)[i]? = some y) : ∃ x, y = .int x ∧ x ∈ ns ∧ i < ns.length ∧ ns.take (i + 1) = ns.take i ++ [x] := by
  rw [List.getElem?_map] at h
  cases e : ns[i]? with
  | none => rw [e] at h; cases h
  | some x =>
    rw [e] at h
    exact ⟨x, (Option.some.inj h).symm, List.mem_of_getElem? e, (List.getElem?_eq_some_iff.mp e).1, by rw [List.take_add_one, e]; rfl⟩
end Sk

set_option Elab.async false
set_option linter.all false
set_option maxRecDepth 100000
set_option maxHeartbeats 4000000
namespace Sk
open PySem PySem.Spec PyProof.Rows L2
def top (i : Nat) : Stmt := PySem.Challenge.pw_skyapart_k10_bounds_of_a_step.main.body.getD i (.Pass ⟨0, 0, 0, 0⟩)
abbrev s_law_start : Stmt := top 4
abbrev s_law_draw : Stmt := top 5
abbrev s_law_pick : Stmt := top 6
abbrev s_law_is_number : Stmt := top 7
/-- the built-in names that the text has not bound -/
structure Txt0 (mg : Str → Option Value) : Prop where
  abs : mg "abs" = none
  int : mg "int" = none
  len : mg "len" = none
  bool : mg "bool" = none
  isinstance : mg "isinstance" = none
section
variable {P : Program} {w : World} {K : PySem.W.Frag} {mg : Str → Option Value} {base : Heap}
theorem sc_law_start : FnScope ["script", "cell"] ["script"] (defScope s_law_start) := ⟨rfl, rfl, rfl, by decide +kernel, rfl, by decide +kernel, by decide +kernel⟩
theorem ok_law_start {f : Addr} {fd : FuncData} (F : Fun K "_law_start" "_law_start" s_law_start f fd) (T : Txt0 mg) : FnOk P w K mg base CX0 1 f fd ["script"] (spStart K) := by
  refine F.ok sc_law_start (fun vs H Q E h => ?_) (fun cdv A outer s H vs Q E hr h => ?_)
  · obtain ⟨a, ns, rfl, _⟩ := h
    rfl
  · obtain ⟨a, ns, rfl, hS, hl, k⟩ := h
    refine ⟨_, (pss_one (ps_ret (pe_disp (pps_cons pe_str (pe_lc (own := [("cell", 1)]) (g := gName 1) (by rfl) sc_law_start.nd (pi_list (pv 0)) (blkOk_by (own := [("cell", 1)]) (N := ["script", "cell"]) (sc := defScope s_law_start) (by decide +kernel)) (fun _ _ _ _ _ => (pg_name (i := 1) sc_law_start.nd rfl (Or.inl rfl))) (fun _ _ _ _ _ => pts_nil) (fun _ _ _ _ _ => (pe_callB call_abs (by rfl) T.abs boot_abs (pa_cons (pe_callTy call_int1 (by rfl) T.int boot_int (pa_cons (pv 1) pa_nil)) pa_nil)))) (pps_cons pe_str pe_int (pps_cons pe_str pe_int (pps_cons pe_str (pe_op op_add pe_int (pe_callB call_len_seq (by rfl) T.len boot_len (pa_cons (pv 0) pa_nil))) pps_nil)))) (by rfl) (by rfl) (fun z => by cases z) (by decide)))), ?_⟩
    -- the dict
    intro d hd
    have s0 : Same H (upd H d (.dK [])) := same_new hd
    refine ⟨_, rfl, a, rfl, ⟨_, s0.seq hS⟩, fun D hD => ?_⟩
    have nDd : d ≠ D := fun z => by rw [← z, upd_same] at hD; cases hD
    refine lc_list (K := K) (a := a) (xs := ns.map V.int) (fun i H' => ∃ cs : List Int, H' D = some (.lst (cs.map V.int)) ∧ cs.length = i ∧ (∀ x ∈ cs, 0 ≤ x) ∧ Same H H' ∧ H' d = some (.dK []))
      ⟨[], upd_same, rfl, (fun _ h => nomatch h), fun b o e => (same_new hD) b o (s0 b o e), by rw [upd_ne nDd, upd_same]⟩ (fun i H' _ ⟨_, _, _, _, s2, _⟩ => s2.seq hS) ?_ ?_
    · rintro i x H' hx ⟨cs, hc, hi, hn, s2, h2⟩
      obtain ⟨z, rfl⟩ : ∃ z, x = V.int z := by
        rw [List.getElem?_map] at hx
        cases e : ns[i]? with
        | none => rw [e] at hx; cases hx
        | some z => rw [e] at hx; exact ⟨z, (Option.some.inj hx).symm⟩
      have hil : i < (ns.map V.int).length := (List.getElem?_eq_some_iff.mp hx).1
      rw [List.length_map] at hil
      refine ⟨rfl, ?_⟩
      refine ⟨_, rfl, .inl ⟨_, rfl, _, rfl, _, hc, ?_, cs ++ [if z < 0 then -z else z], ?_, ?_, ?_, ?_, ?_⟩⟩
      · rw [List.length_map]; exact small1000 (by omega)
      · rw [upd_same, List.map_append]; rfl
      · rw [List.length_append, hi]; rfl
      · intro y hy
        rcases List.mem_append.mp hy with hy | hy
        · exact hn y hy
        · rw [List.mem_singleton.mp hy]; split <;> omega
      · intro b o e
        rw [upd_ne (ne_of_none e (s0.free hD))]
        exact s2 b o e
      · rw [upd_ne nDd]; exact h2
    · rintro H' ⟨cs, hc, hi, hn, s2, h2⟩
      refine ⟨_, rfl, a, _, rfl, .inl (s2.seq hS), _, _, rfl, rfl, h2, stK D 0 0 (7 + ((ns.map V.int).length : Int)), rfl, (by show 4 ≤ 15; decide), ?_⟩
      rw [merge_st]
      have hDd : D ≠ d := fun z => nDd z.symm
      refine k d D _ hd (s0.free hD) ⟨cs, 0, 0, _, upd_same, (by rw [upd_ne hDd]; exact hc), hn, by omega, by omega, ?_, ?_⟩ fun b o e => ?_
      · omega
      · rw [List.length_map]; omega
      · rw [upd_ne (ne_of_none e hd)]
        exact s2 b o e
theorem sc_law_draw : FnScope ["state", "bound", "cell", "number"] ["state", "bound"] (defScope s_law_draw) := ⟨rfl, rfl, rfl, by decide +kernel, rfl, by decide +kernel, by decide +kernel⟩
theorem ok_law_draw {f : Addr} {fd : FuncData} (F : Fun K "_law_draw" "_law_draw" s_law_draw f fd) (T : Txt0 mg) : FnOk P w K mg base CX0 1 f fd ["state", "bound"] (spDraw K) := by
  refine F.ok sc_law_draw (fun vs H Q E h => ?_) (fun cdv A outer s H vs Q E hr h => ?_)
  · obtain ⟨d, c, b, rfl, _⟩ := h
    rfl
  · obtain ⟨d, c, b, rfl, S1, b0, b1, k⟩ := h
    have hu := hu_of hr
    have hm : ∀ x : Int, 0 ≤ x % b ∧ x % b < b := fun x => ⟨Int.emod_nonneg x (by omega), Int.emod_lt_of_pos x b0⟩
    have hmx : ∀ x : Int, 0 ≤ x % 2147483647 ∧ x % 2147483647 < 2147483648 := fun x => by omega
    refine ⟨_, (pss_cons (ps_if (PW.pt (pw_and (pt_cmpR op_eq (pe_dget hu (pv 0) pe_str (fun _ _ => rfl)) pe_int (nomark _)) (pw_and1 (pt_cmpR op_lt (pe_dget hu (pv 0) pe_str (fun _ _ => rfl)) (pe_callB call_len_seq (by rfl) T.len boot_len (pa_cons (pe_dget hu (pv 0) pe_str (fun _ _ => rfl)) pa_nil)) (nomark _))))) (pss_cons (ps_set (i := 2) sc_law_draw.nd rfl (Or.inl rfl) (pe_ix ix_list (pe_dget hu (pv 0) pe_str (fun _ _ => rfl)) (pe_dget hu (pv 0) pe_str (fun _ _ => rfl)) (fun _ _ => rfl)))
    (pss_cons (ps_dput hu (pv 0) pe_str (pe_op op_add (pe_dget hu (pv 0) pe_str (fun _ _ => rfl)) pe_int) rfl)
    (pss_cons (ps_dput hu (pv 0) pe_str (pe_op op_mod (pe_callTy call_int1 (by rfl) T.int boot_int (pa_cons (pe_op op_add (pe_op op_add (pe_op op_mul (pe_dget hu (pv 0) pe_str (fun _ _ => rfl)) pe_int) (pv 2)) pe_int) pa_nil)) pe_int) rfl)
    (pss_cons (ps_if (pt_cmpR op_lt (pv 2) (pe_op op_pow pe_int pe_int) (nomark _)) (pss_one (ps_ret (pe_op op_mod (pe_callTy call_int1 (by rfl) T.int boot_int (pa_cons (pv 2) pa_nil)) (pv 1))))
      pss_nil)
    (pss_one (ps_dput hu (pv 0) pe_str (pv 2) rfl))))))
      pss_nil)
    (pss_cons (ps_if (pt_cmpR op_gt (pe_dget hu (pv 0) pe_str (fun _ _ => rfl)) pe_int (nomark _)) (pss_cons (ps_set (i := 3) sc_law_draw.nd rfl (Or.inl rfl) (pe_op op_mod (pe_callTy call_int1 (by rfl) T.int boot_int (pa_cons (pe_dget hu (pv 0) pe_str (fun _ _ => rfl)) pa_nil)) (pv 1)))
    (pss_cons (ps_dput hu (pv 0) pe_str (pe_op op_fdivW (pe_dget hu (pv 0) pe_str (fun _ _ => rfl)) (pv 1)) rfl)
    (pss_one (ps_ret (pv 3)))))
      pss_nil)
    (pss_cons (ps_dput hu (pv 0) pe_str (pe_op op_mod (pe_callTy call_int1 (by rfl) T.int boot_int (pa_cons (pe_op op_add (pe_op op_mul (pe_dget hu (pv 0) pe_str (fun _ _ => rfl)) pe_int) pe_int) pa_nil)) pe_int) rfl)
    (pss_one (ps_ret (pe_op op_mod (pe_callTy call_int1 (by rfl) T.int boot_int (pa_cons (pe_op op_mod (pe_callTy call_int1 (by rfl) T.int boot_int (pa_cons (pe_op op_add (pe_op op_mul (pe_dget hu (pv 0) pe_str (fun _ _ => rfl)) pe_int) pe_int) pa_nil)) pe_int) pa_nil)) (pv 1))))))), ?_⟩
    refine cut (fun σ' H' => ∃ v2 v3, σ' = [some (.ref d), some (.int b), v2, v3] ∧ St1 K H' d c ∧ Keep d H H') ?_ (fun rest => ?_)
    · -- the rest: from a number that is left, or from the mix
      rintro σ' H' ⟨v2, v3, rfl, ⟨ns, i, l, m, S⟩, kp⟩
      refine ⟨_, rfl, _, _, rfl, dg_left S.dc, _, _, rfl, rfl, _, rfl, ite2 (fun e => ?_) (fun e => ?_)⟩
      · refine ⟨_, rfl, _, _, rfl, dg_left S.dc, .inl ⟨_, rfl, _, rfl, _, _, rfl, rfl, b0, ?_⟩⟩
        refine ⟨_, rfl, _, _, rfl, dg_left S.dc, _, rfl, _, _, rfl, rfl, log_of b0 b1, _, rfl, _, _, rfl, dp_left S.dc, ?_⟩
        refine ⟨_, rfl, ?_⟩
        exact k _ _ (hm l).1 (hm l).2 ⟨_, _, _, _, S.put S.i0 (Int.ediv_nonneg S.l0 (by omega)) S.m0 S.m1⟩ (kp.trans (Keep.upd _ _ _))
      · refine ⟨_, rfl, _, _, rfl, dg_mix S.dc, _, _, rfl, rfl, .inr ⟨by decide, by decide⟩, _, _, rfl, rfl, .inl ⟨_, rfl, _, _, rfl, rfl, (by show (0:Int) < 2147483647; decide), _, rfl, _, _, rfl, dp_mix S.dc, ?_⟩⟩
        have S2 := S.put (i' := i) (l' := l) S.i0 S.l0 (hmx (m * 48271 + 11)).1 (hmx (m * 48271 + 11)).2
        refine ⟨_, rfl, _, _, rfl, dg_mix S2.dc, _, _, rfl, rfl, .inr ⟨by decide, by decide⟩, _, _, rfl, rfl, .inl ⟨_, rfl, _, _, rfl, rfl, (by show (0:Int) < 2147483629; decide), .inl ⟨_, rfl, _, rfl, _, _, rfl, rfl, b0, ?_⟩⟩⟩
        exact k _ _ (hm _).1 (hm _).2 ⟨_, _, _, _, S2⟩ (kp.trans (Keep.upd _ _ _))
    · -- the first if
      obtain ⟨ns, i, l, m, S⟩ := id S1
      refine ⟨_, rfl, _, _, rfl, dg_left S.dc, rfl, _, rfl, ite2 (fun e => ?_) (fun e => ?_)⟩
      · refine ⟨_, rfl, _, _, rfl, dg_at S.dc, _, rfl, _, _, rfl, dg_cells S.dc, _, _, rfl, .inl (.inl (.inl S.cs)), _, _, rfl, rfl, _, rfl, ite2 (fun e => ?_) (fun e => ?_)⟩
        · have hi : i < (ns.length : Int) := by
            have := of_decide_eq_true e
            rw [List.length_map] at this
            exact this
          obtain ⟨j, rfl⟩ : ∃ j : Nat, i = (j : Int) := ⟨i.toNat, by have := S.i0; omega⟩
          have hj : j < ns.length := by omega
          refine ⟨_, rfl, _, _, rfl, dg_cells S.dc, _, rfl, _, _, rfl, dg_at S.dc, _, _, _, _, rfl, rfl, .inl (.inl S.cs), atI_nat (j := j) (v := .int ns[j]) (by simp [hj]), ?_⟩
          have S2 := S.put (i' := (j : Int) + 1) (l' := l) (m' := m) (by omega) S.l0 S.m0 S.m1
          refine ⟨_, rfl, _, _, rfl, dg_at S.dc, _, _, rfl, rfl, _, rfl, _, _, rfl, dp_at S.dc, ?_⟩
          refine ⟨_, rfl, _, _, rfl, dg_mix S2.dc, _, _, rfl, rfl, .inr ⟨by decide, by decide⟩, _, rfl, _, _, rfl, rfl, _, _, rfl, rfl, .inl ⟨_, rfl, _, _, rfl, rfl, (by show (0:Int) < 2147483647; decide), _, rfl, _, _, rfl, dp_mix S2.dc, ?_⟩⟩
          have S3 := S2.put (i' := (j : Int) + 1) (l' := l) S2.i0 S.l0 (hmx (m * 48271 + ns[j] + 11)).1 (hmx (m * 48271 + ns[j] + 11)).2
          refine ⟨_, rfl, _, _, rfl, rfl, ⟨by decide, by decide, by decide⟩, _, _, rfl, rfl, _, rfl, ite2 (fun e => ?_) (fun e => ?_)⟩
          · refine ⟨_, rfl, .inl ⟨_, rfl, _, rfl, _, _, rfl, rfl, b0, ?_⟩⟩
            exact k _ _ (hm _).1 (hm _).2 ⟨_, _, _, _, S3⟩ ((Keep.upd _ _ _).trans (Keep.upd _ _ _))
          · refine ⟨_, rfl, _, rfl, _, _, rfl, dp_left S3.dc, ?_⟩
            have S4 := S3.put (i' := (j : Int) + 1) (l' := ns[j]) S2.i0 (S.nn _ (List.getElem_mem hj)) S3.m0 S3.m1
            exact rest _ _ ⟨_, _, rfl, ⟨_, _, _, _, S4⟩, ((Keep.upd _ _ _).trans (Keep.upd _ _ _)).trans (Keep.upd _ _ _)⟩
        · exact rest _ _ ⟨_, _, rfl, S1, Keep.refl _ _⟩
      · refine iteF ?_
        exact rest _ _ ⟨_, _, rfl, S1, Keep.refl _ _⟩
theorem sc_law_pick : FnScope ["state", "things"] ["state", "things"] (defScope s_law_pick) := ⟨rfl, rfl, rfl, by decide +kernel, rfl, by decide +kernel, by decide +kernel⟩
theorem ok_law_pick {f : Addr} {fd : FuncData} (F : Fun K "_law_pick" "_law_pick" s_law_pick f fd) (T : Txt0 mg) (D_law_draw : Def P w K mg base 1 "_law_draw" ["state", "bound"] (spDraw K)) : FnOk P w K mg base CX0 2 f fd ["state", "things"] (spPick K) := by
  refine F.ok sc_law_pick (fun vs H Q E h => ?_) (fun cdv A outer s H vs Q E hr h => ?_)
  · obtain ⟨d, c, l, xs, rfl, _⟩ := h
    rfl
  · obtain ⟨d, c, l, xs, rfl, S, hl, hn, hz, k⟩ := h
    refine ⟨_, (pss_one (ps_ret (pe_ix ix_list (pv 1) (pe_def D_law_draw (hr.mono (by decide)) (by rfl) (pa_cons (pv 0) (pa_cons (pe_callB call_len_seq (by rfl) T.len boot_len (pa_cons (pv 1) pa_nil)) pa_nil))) (fun _ _ => rfl)))), ?_⟩
    have hp : 0 < xs.length := List.length_pos_iff.mpr hn
    refine ⟨_, rfl, _, rfl, _, rfl, _, _, rfl, .inl hl, d, c, _, rfl, S, by omega, by omega, fun n H' n0 n1 S' kp => ?_⟩
    obtain ⟨kvs, hd⟩ := S.dk
    obtain ⟨j, rfl⟩ : ∃ j : Nat, n = (j : Int) := ⟨n.toNat, by omega⟩
    have hj : j < xs.length := by omega
    refine ⟨_, _, _, _, rfl, rfl, kp.seq hd hl, atI_nat (j := j) (v := xs[j]) (by simp [hj]), ?_⟩
    exact k _ _ (List.getElem_mem hj) S' kp
theorem sc_law_is_number : FnScope ["thing"] ["thing"] (defScope s_law_is_number) := ⟨rfl, rfl, rfl, by decide +kernel, rfl, by decide +kernel, by decide +kernel⟩
theorem ok_law_is_number {f : Addr} {fd : FuncData} (F : Fun K "_law_is_number" "_law_is_number" s_law_is_number f fd) (T : Txt0 mg) : FnOk P w K mg base CX0 1 f fd ["thing"] spIsNum := by
  refine F.ok sc_law_is_number (fun vs H Q E h => ?_) (fun cdv A outer s H vs Q E hr h => ?_)
  · obtain ⟨n, rfl, _⟩ := h
    rfl
  · obtain ⟨n, rfl, k⟩ := h
    refine ⟨_, (pss_one (ps_ret (pe_and (pe_callB call_isi (by rfl) T.isinstance boot_isinstance (pa_cons (pv 0) (pa_cons (pe_bltn (v := .ty "int") (by rfl) T.int boot_int rfl) pa_nil))) (pe_one (pe_not (pe_callB call_isi (by rfl) T.isinstance boot_isinstance (pa_cons (pv 0) (pa_cons (pe_bltn (v := .ty "bool") (by rfl) T.bool boot_bool rfl) pa_nil)))))))), ?_⟩
    refine ⟨_, rfl, _, _, _, _, true, rfl, ClsV.ty _, .base (.int n), kit_ty (by decide +kernel), true, rfl, ?_⟩
    refine iteT ?_
    refine ⟨_, rfl, _, _, _, _, false, rfl, ClsV.ty _, .base (.int n), kit_ty (by decide +kernel), false, rfl, ?_⟩
    exact k
end
end Sk

set_option Elab.async false
set_option linter.all false
set_option maxRecDepth 100000
set_option maxHeartbeats 4000000
namespace Sk
open PySem PySem.Spec PyProof.Rows L2
abbrev s_wind_at : Stmt := top 1
abbrev s_step_bounds : Stmt := top 2
abbrev s_law_root_up : Stmt := top 9
abbrev s_law : Stmt := top 10
structure Txt (mg : Str → Option Value) : Prop extends Txt0 mg where
  max : mg "max" = none
  min : mg "min" = none
  range : mg "range" = none
  tuple : mg "tuple" = none
/-! the mathematics -/
abbrev WQ := Addr × Int × Int × Int × Int
def wv (q : WQ) : List V := [.int q.2.1, .int q.2.2.1, .int q.2.2.2.1, .int q.2.2.2.2]
def lb (t : Int) (qs : List WQ) : List WQ := qs.filter fun q => decide (q.2.1 ≤ t)
theorem lb_snoc (t : Int) (qs : List WQ) (q : WQ) : lb t (qs ++ [q]) = lb t qs ++ (if q.2.1 ≤ t then [q] else []) := by
  unfold lb
  rw [List.filter_append]
  congr 1
  by_cases h : q.2.1 ≤ t <;> simp [h]
structure WAt (H : Hp) (l : Addr) (qs : List WQ) : Prop where
  li : H l = some (.lst (qs.map fun q => V.ref q.1))
  tu : ∀ q ∈ qs, H q.1 = some (.tup (wv q))
  bd : ∀ q ∈ qs, -10001 ≤ q.2.2.1 ∧ q.2.2.1 ≤ 10001 ∧ -10001 ≤ q.2.2.2.1 ∧ q.2.2.2.1 ≤ 10001 ∧ 0 ≤ q.2.2.2.2 ∧ q.2.2.2.2 ≤ 10001
  hd : ∃ q r, qs = q :: r ∧ q.2.1 = 0
theorem WAt.keep {K : PySem.W.Frag} {d c l : Addr} {H H' : Hp} {qs : List WQ} (W : WAt H l qs) (S : St1 K H d c) (k : Keep d H H') : WAt H' l qs := ⟨k.l S W.li, fun q h => k.t S (W.tu q h), W.bd, W.hd⟩
theorem WAt.same {l : Addr} {H H' : Hp} {qs : List WQ} (W : WAt H l qs) (e : Same H H') : WAt H' l qs := ⟨e _ _ W.li, fun q h => e _ _ (W.tu q h), W.bd, W.hd⟩
theorem WAt.at {l : Addr} {H : Hp} {qs : List WQ} (W : WAt H l qs) {i : Nat} (h : i < qs.length) : (qs.map fun q => V.ref q.1)[i]? = some (.ref qs[i].1) := by simp [h]
theorem WAt.snoc {l : Addr} {H : Hp} {qs : List WQ} {q : WQ} (W : WAt H l qs) (hp : H q.1 = some (.tup (wv q))) (hb : -10001 ≤ q.2.2.1 ∧ q.2.2.1 ≤ 10001 ∧ -10001 ≤ q.2.2.2.1 ∧ q.2.2.2.1 ≤ 10001 ∧ 0 ≤ q.2.2.2.2 ∧ q.2.2.2.2 ≤ 10001) :
    WAt (upd H l (.lst ((qs.map fun q => V.ref q.1) ++ [.ref q.1]))) l (qs ++ [q]) := by
  refine ⟨by rw [upd_same, List.map_append]; rfl, fun z hz => ?_, fun z hz => ?_, ?_⟩
  · have ht : H z.1 = some (.tup (wv z)) := by
      rcases List.mem_append.mp hz with h | h
      · exact W.tu z h
      · rw [List.mem_singleton.mp h]; exact hp
    rw [upd_ne (ne_of ht W.li (by intro e; cases e))]
    exact ht
  · rcases List.mem_append.mp hz with h | h
    · exact W.bd z h
    · rw [List.mem_singleton.mp h]; exact hb
  · obtain ⟨q0, r, h, h0⟩ := W.hd
    exact ⟨q0, r ++ [q], by rw [h]; rfl, h0⟩
theorem sqpos {x : Int} (h : x ≠ 0) : 1 ≤ x * x := by
  rcases ltge x 0 with z | z
  · have := Int.mul_le_mul_of_nonneg_left (show 1 ≤ -x by omega) (show 0 ≤ -x by omega)
    rw [Int.neg_mul_neg] at this
    omega
  · have := Int.mul_le_mul_of_nonneg_left (show 1 ≤ x by omega) (show 0 ≤ x by omega)
    omega
def ab (x : Int) : Int := if x < 0 then -x else x
theorem mul_ab {f e x : Int} (h0 : -e ≤ f) (h1 : f ≤ e) : -(e * ab x) ≤ f * x ∧ f * x ≤ e * ab x := by
  unfold ab
  split
  · rename_i h
    have a := Int.mul_le_mul_of_nonneg_right h1 (show 0 ≤ -x by omega)
    have b := Int.mul_le_mul_of_nonneg_right h0 (show 0 ≤ -x by omega)
    simp only [Int.mul_neg, Int.neg_mul, Int.neg_neg] at a b ⊢
    omega
  · rename_i h
    have a := Int.mul_le_mul_of_nonneg_right h1 (show 0 ≤ x by omega)
    have b := Int.mul_le_mul_of_nonneg_right h0 (show 0 ≤ x by omega)
    rw [Int.neg_mul] at b
    omega
def lo (dx dy n s sl wx wy e : Int) : Int := s - sl + (wx * dx + wy * dy - e * (ab dx + ab dy)) / n
def hi (dx dy n s sl wx wy e : Int) : Int := s + sl + (wx * dx + wy * dy + e * (ab dx + ab dy)) / n
def fp (dx dy n x y : Int) : Int := (x * dx + y * dy) / n
theorem div_mono {a b n : Int} (hn : 0 < n) (h : a ≤ b) : a / n ≤ b / n := Int.ediv_le_ediv hn h
theorem corner (dx dy wx wy e : Int) (he : 0 ≤ e) : ∃ x y, (x = wx - e ∨ x = wx + e) ∧ (y = wy - e ∨ y = wy + e) ∧ x * dx + y * dy = wx * dx + wy * dy - e * (ab dx + ab dy) := by
  refine ⟨if dx < 0 then wx + e else wx - e, if dy < 0 then wy + e else wy - e, ?_, ?_, ?_⟩
  · split <;> simp
  · split <;> simp
  · unfold ab
    split <;> split <;> simp only [Int.add_mul, Int.sub_mul, Int.mul_add, Int.mul_neg] <;> omega
theorem corner' (dx dy wx wy e : Int) (he : 0 ≤ e) : ∃ x y, (x = wx - e ∨ x = wx + e) ∧ (y = wy - e ∨ y = wy + e) ∧ x * dx + y * dy = wx * dx + wy * dy + e * (ab dx + ab dy) := by
  refine ⟨if dx < 0 then wx - e else wx + e, if dy < 0 then wy - e else wy + e, ?_, ?_, ?_⟩
  · split <;> simp
  · split <;> simp
  · unfold ab
    split <;> split <;> simp only [Int.add_mul, Int.sub_mul, Int.mul_add, Int.mul_neg] <;> omega
theorem within (dx dy wx wy e f g : Int) (h0 : -e ≤ f) (h1 : f ≤ e) (h2 : -e ≤ g) (h3 : g ≤ e) :
    wx * dx + wy * dy - e * (ab dx + ab dy) ≤ (wx + f) * dx + (wy + g) * dy ∧ (wx + f) * dx + (wy + g) * dy ≤ wx * dx + wy * dy + e * (ab dx + ab dy) := by
  have a := mul_ab (x := dx) h0 h1
  have b := mul_ab (x := dy) h2 h3
  rw [Int.add_mul, Int.add_mul, Int.mul_add]
  omega
def four (dx dy n wx wy e : Int) : List Int := [fp dx dy n (wx - e) (wy - e), fp dx dy n (wx - e) (wy + e), fp dx dy n (wx + e) (wy - e), fp dx dy n (wx + e) (wy + e)]
theorem four_mem {dx dy n wx wy e x y : Int} (hx : x = wx - e ∨ x = wx + e) (hy : y = wy - e ∨ y = wy + e) : fp dx dy n x y ∈ four dx dy n wx wy e := by
  unfold four
  rcases hx with rfl | rfl <;> rcases hy with rfl | rfl <;> simp
theorem four_in {dx dy n wx wy e m : Int} (h : m ∈ four dx dy n wx wy e) : ∃ f g, (f = -e ∨ f = e) ∧ (g = -e ∨ g = e) ∧ m = fp dx dy n (wx + f) (wy + g) := by
  unfold four at h
  simp only [List.mem_cons, List.not_mem_nil, or_false] at h
  rcases h with rfl | rfl | rfl | rfl
  · exact ⟨-e, -e, .inl rfl, .inl rfl, rfl⟩
  · exact ⟨-e, e, .inl rfl, .inr rfl, rfl⟩
  · exact ⟨e, -e, .inr rfl, .inl rfl, rfl⟩
  · exact ⟨e, e, .inr rfl, .inr rfl, rfl⟩
theorem min_four {dx dy n wx wy e m : Int} (hn : 0 < n) (he : 0 ≤ e) (hm : m ∈ four dx dy n wx wy e) (hl : ∀ y ∈ four dx dy n wx wy e, m ≤ y) : m = (wx * dx + wy * dy - e * (ab dx + ab dy)) / n := by
  obtain ⟨x, y, hx, hy, hc⟩ := corner dx dy wx wy e he
  have h1 := hl _ (four_mem hx hy)
  unfold fp at h1
  rw [hc] at h1
  obtain ⟨f, g, hf, hg, rfl⟩ := four_in hm
  have h2 := div_mono hn (within dx dy wx wy e f g (by omega) (by omega) (by omega) (by omega)).1
  unfold fp at h1 ⊢
  omega
theorem max_four {dx dy n wx wy e m : Int} (hn : 0 < n) (he : 0 ≤ e) (hm : m ∈ four dx dy n wx wy e) (hl : ∀ y ∈ four dx dy n wx wy e, y ≤ m) : m = (wx * dx + wy * dy + e * (ab dx + ab dy)) / n := by
  obtain ⟨x, y, hx, hy, hc⟩ := corner' dx dy wx wy e he
  have h1 := hl _ (four_mem hx hy)
  unfold fp at h1
  rw [hc] at h1
  obtain ⟨f, g, hf, hg, rfl⟩ := four_in hm
  have h2 := div_mono hn (within dx dy wx wy e f g (by omega) (by omega) (by omega) (by omega)).2
  unfold fp at h1 ⊢
  omega
def flat (dx dy n wy e : Int) (xs : List Int) : List Int := xs.flatMap fun x => [fp dx dy n x (wy - e), fp dx dy n x (wy + e)]
theorem flat_len (dx dy n wy e : Int) : ∀ xs : List Int, (flat dx dy n wy e xs).length = 2 * xs.length
  | [] => rfl
  | x :: xs => by
    have := flat_len dx dy n wy e xs
    unfold flat at this ⊢
    rw [List.flatMap_cons, List.length_append, this]
    simp only [List.length_cons, List.length_nil]
    omega
theorem flat_snoc (dx dy n wy e x : Int) (xs : List Int) : flat dx dy n wy e (xs ++ [x]) = flat dx dy n wy e xs ++ [wy - e, wy + e].map (fp dx dy n x) := by
  unfold flat
  rw [List.flatMap_append]
  rfl
/-! the promises -/
def spRoot : Sp := fun vs H Q _ => ∃ n : Int, vs = [.int n] ∧ 1 ≤ n ∧ ∀ r : Int, 1 ≤ r → r ≤ 10000000 → Q (.int r) H
def spWind (K : PySem.W.Frag) : Sp := fun vs H Q _ => ∃ (l : Addr) (t : Int) (qs : List WQ), vs = [.ref l, .int t] ∧ WAt H l qs ∧ 0 ≤ t ∧ ∀ q, (lb t qs).getLast? = some q → Q (.ref q.1) H
def spStep : Sp := fun vs H Q _ => ∃ (v w : Addr) (s sl dx dy n t wx wy e : Int), vs = [.ref v, .int s, .int sl, .ref w] ∧ H v = some (.tup [.int dx, .int dy, .int n]) ∧ H w = some (.tup [.int t, .int wx, .int wy, .int e]) ∧
  (-10000000 ≤ dx ∧ dx ≤ 10000000 ∧ -10000000 ≤ dy ∧ dy ≤ 10000000 ∧ -10000000 ≤ wx ∧ wx ≤ 10000000 ∧ -10000000 ≤ wy ∧ wy ≤ 10000000 ∧ -10000000 ≤ e ∧ e ≤ 10000000 ∧ 0 < n ∧ n ≤ 100000000) ∧
  ∀ p, H p = none → Q (.ref p) (upd H p (.tup [.int (lo dx dy n s sl wx wy e), .int (hi dx dy n s sl wx wy e)]))
def spLaw (K : PySem.W.Frag) : Sp := fun vs H Q _ => ∃ (a : Addr) (ns : List Int), vs = [.ref a] ∧ SqL K H a (ns.map V.int) ∧ ns.length ≤ 63 ∧ ∀ H', Q (.bl true) H'
local macro_rules | `(tactic| walk_at "ms") => `(tactic| first | exact .inl ⟨by decide, by decide⟩ | exact .inl ⟨by omega, by omega⟩ | exact .inr ⟨by omega, by omega⟩ | exact wm (by omega) (by omega) | exact log_of (by omega) (by omega) | (show (0:Int) < _; omega) | exact ⟨by decide, by decide, by decide⟩)
local macro_rules | `(tactic| walk_at "rd") => `(tactic| first
  | refine ⟨_, rfl, ?_⟩
  | refine ⟨_, _, rfl, rfl, ?_⟩
  | refine ⟨rfl, ?_⟩
  | refine Or.inl ⟨_, rfl, ?_⟩
  | refine ⟨_, _, rfl, .inl (.inl (by assumption)), rfl, ?_⟩
  | refine ⟨_, _, _, _, rfl, rfl, .inl (.inl (by assumption)), rfl, ?_⟩
  | refine ⟨_, _, rfl, ?_⟩
  | refine ⟨(by walk_at "ms"), ?_⟩)
section
variable {P : Program} {w : World} {K : PySem.W.Frag} {mg : Str → Option Value} {base : Heap}
theorem sc_wind_at : FnScope ["winds", "tick", "found", "wind"] ["winds", "tick"] (defScope s_wind_at) := ⟨rfl, rfl, rfl, by decide +kernel, rfl, by decide +kernel, by decide +kernel⟩
theorem ok_wind_at {f : Addr} {fd : FuncData} (F : Fun K "wind_at" "wind_at" s_wind_at f fd) (T : Txt mg) : FnOk P w K mg base CX0 1 f fd ["winds", "tick"] (spWind K) := by
  refine F.ok sc_wind_at (fun vs H Q E h => ?_) (fun cdv A outer s H vs Q E hr h => ?_)
  · obtain ⟨l, t, qs, rfl, _⟩ := h
    rfl
  · obtain ⟨l, t, qs, rfl, W, t0, k⟩ := h
    refine ⟨_, (pss_cons (ps_set (i := 2) sc_wind_at.nd rfl (Or.inl rfl) (pe_ix ix_list (pv 0) pe_int (fun _ _ => rfl)))
    (pss_cons (ps_for PassesOwn.never rfl (pi_list (pv 0)) (pg_name (i := 3) sc_wind_at.nd rfl (Or.inl rfl))
      (pss_one (ps_if (pt_cmpR op_le (pe_ix ix_tup (pv 3) pe_int (fun _ _ => rfl)) (pv 1) (nomark _)) (pss_one (ps_set (i := 2) sc_wind_at.nd rfl (Or.inl rfl) (pv 3)))
      pss_nil)))
    (pss_one (ps_ret (pv 2))))), ?_⟩
    obtain ⟨q0, r, hq, h00⟩ := W.hd
    have hL : SqL K H l (qs.map fun q => V.ref q.1) := .inl (.inl W.li)
    refine ⟨_, rfl, _, _, _, .ref q0.1, rfl, rfl, hL, by rw [hq]; exact atI_nat (j := 0) rfl, ?_⟩
    refine ⟨_, rfl, l, rfl, ⟨_, hL⟩, for_list (K := K) (a := l) (xs := qs.map fun q => V.ref q.1) (fun i σ H2 => ∃ v, σ = [some (.ref l), some (.int t), some (.ref (((lb t (qs.take i)).getLast?).getD q0).1), v] ∧ H2 = H)
      ⟨none, rfl, rfl⟩ (fun i σ H2 _ ⟨_, _, e⟩ => e ▸ hL) ?_ ?_⟩
    · rintro i y σ H2 hi ⟨v, rfl, rfl⟩
      have hil : i < qs.length := by
        have := (List.getElem?_eq_some_iff.mp hi).1
        rw [List.length_map] at this
        exact this
      have ey : y = .ref qs[i].1 := Option.some.inj (hi.symm.trans (W.at hil))
      subst ey
      have hq1 := W.tu qs[i] (List.getElem_mem hil)
      have et : qs.take (i + 1) = qs.take i ++ [qs[i]] := by rw [List.take_add_one, List.getElem?_eq_getElem hil]; rfl
      refine ⟨_, rfl, _, _, _, .int qs[i].2.1, rfl, rfl, .inl (.inl hq1), rfl, _, rfl, _, _, rfl, rfl, _, rfl, ite2 (fun e => ?_) (fun e => ?_)⟩
      · refine ⟨_, rfl, some (.ref qs[i].1), ?_, rfl⟩
        rw [et, lb_snoc, if_pos (of_decide_eq_true e), List.getLast?_concat]
        rfl
      · refine ⟨some (.ref qs[i].1), ?_, rfl⟩
        rw [et, lb_snoc, if_neg (fun z => e (decide_eq_true z)), List.append_nil]
        rfl
    · rintro σ H2 ⟨v, rfl, rfl⟩
      refine ⟨_, rfl, ?_⟩
      rw [List.length_map, List.take_length]
      cases e : (lb t qs).getLast? with
      | some q => exact k q e
      | none =>
        exfalso
        have hz := List.getLast?_eq_none_iff.mp e
        rw [hq] at hz
        unfold lb at hz
        rw [List.filter_cons, if_pos (decide_eq_true (show q0.2.1 ≤ t by omega))] at hz
        cases hz
theorem sc_step_bounds : FnScope ["vector", "speed", "slip", "wind", "dx", "dy", "length", "_", "wx", "wy", "error", "push", "doubt"] ["vector", "speed", "slip", "wind"] (defScope s_step_bounds) := ⟨rfl, rfl, rfl, by decide +kernel, rfl, by decide +kernel, by decide +kernel⟩
theorem ok_step_bounds {f : Addr} {fd : FuncData} (F : Fun K "step_bounds" "step_bounds" s_step_bounds f fd) (T : Txt mg) : FnOk P w K mg base CX0 1 f fd ["vector", "speed", "slip", "wind"] spStep := by
  refine F.ok sc_step_bounds (fun vs H Q E h => ?_) (fun cdv A outer s H vs Q E hr h => ?_)
  · obtain ⟨_, _, _, _, _, _, _, _, _, _, _, rfl, _⟩ := h
    rfl
  · obtain ⟨v, wa, s, sl, dx, dy, n, t, wx, wy, e, rfl, hv, hw, ⟨b1, b2, b3, b4, b5, b6, b7, b8, b9, b10, b11, b12⟩, k⟩ := h
    refine ⟨_, (pss_cons (ps_asg (pv 0) (pg_tup (by rfl) (pgs_cons (pg_name (i := 4) sc_step_bounds.nd rfl (Or.inl rfl)) (pgs_cons (pg_name (i := 5) sc_step_bounds.nd rfl (Or.inl rfl)) (pgs_cons (pg_name (i := 6) sc_step_bounds.nd rfl (Or.inl rfl)) pgs_nil)))))
    (pss_cons (ps_asg (pv 3) (pg_tup (by rfl) (pgs_cons (pg_name (i := 7) sc_step_bounds.nd rfl (Or.inl rfl)) (pgs_cons (pg_name (i := 8) sc_step_bounds.nd rfl (Or.inl rfl)) (pgs_cons (pg_name (i := 9) sc_step_bounds.nd rfl (Or.inl rfl)) (pgs_cons (pg_name (i := 10) sc_step_bounds.nd rfl (Or.inl rfl)) pgs_nil))))))
    (pss_cons (ps_set (i := 11) sc_step_bounds.nd rfl (Or.inl rfl) (pe_op op_add (pe_op op_mul (pv 8) (pv 4)) (pe_op op_mul (pv 9) (pv 5))))
    (pss_cons (ps_set (i := 12) sc_step_bounds.nd rfl (Or.inl rfl) (pe_op op_mul (pv 10) (pe_op op_add (pe_callB call_abs (by rfl) T.abs boot_abs (pa_cons (pv 4) pa_nil)) (pe_callB call_abs (by rfl) T.abs boot_abs (pa_cons (pv 5) pa_nil)))))
    (pss_one (ps_ret (pe_tup (pa_cons (pe_op op_add (pe_op op_sub (pv 1) (pv 2)) (pe_op op_fdivW (pe_op op_sub (pv 11) (pv 12)) (pv 6))) (pa_cons (pe_op op_add (pe_op op_add (pv 1) (pv 2)) (pe_op op_fdivW (pe_op op_add (pv 11) (pv 12)) (pv 6))) pa_nil))))))))), ?_⟩
    refine ⟨_, rfl, _, _, rfl, .inl (.inl hv), rfl, _, _, rfl, _, _, rfl, _, _, rfl, rfl, ?_⟩
    refine ⟨_, rfl, _, _, rfl, .inl (.inl hw), rfl, _, _, rfl, _, _, rfl, _, _, rfl, _, _, rfl, rfl, ?_⟩
    refine ⟨_, rfl, _, rfl, _, _, rfl, rfl, (by walk_at "ms"), _, rfl, _, rfl, _, _, rfl, rfl, (by walk_at "ms"), _, _, rfl, rfl, ?_⟩
    refine ⟨_, rfl, _, rfl, _, rfl, _, rfl, _, rfl, _, _, rfl, rfl, _, _, rfl, rfl, (by walk_at "ms"), ?_⟩
    refine ⟨_, rfl, _, rfl, _, _, rfl, rfl, _, rfl, _, rfl, _, _, rfl, rfl, _, rfl, _, _, rfl, rfl, (by walk_at "ms"), _, _, rfl, rfl, _, rfl, _, rfl, _, _, rfl, rfl, _, rfl, _, rfl, _, _, rfl, rfl, _, rfl, _, _, rfl, rfl, (by walk_at "ms"), _, _, rfl, rfl, ?_⟩
    refine ⟨szOk rfl, fun p hp => ?_⟩
    exact k p hp
theorem sc_law_root_up : FnScope ["n", "low", "high", "k", "middle"] ["n"] (defScope s_law_root_up) := ⟨rfl, rfl, rfl, by decide +kernel, rfl, by decide +kernel, by decide +kernel⟩
theorem ok_law_root_up {f : Addr} {fd : FuncData} (F : Fun K "_law_root_up" "_law_root_up" s_law_root_up f fd) (T : Txt mg) : FnOk P w K mg base CX0 1 f fd ["n"] spRoot := by
  refine F.ok sc_law_root_up (fun vs H Q E h => ?_) (fun cdv A outer s H vs Q E hr h => ?_)
  · obtain ⟨n, rfl, _⟩ := h
    rfl
  · obtain ⟨n, rfl, hn, k⟩ := h
    refine ⟨_, (pss_cons (ps_set (i := 1) sc_law_root_up.nd rfl (Or.inl rfl) pe_int)
    (pss_cons (ps_set (i := 2) sc_law_root_up.nd rfl (Or.inl rfl) (pe_op op_pow pe_int pe_int))
    (pss_cons (ps_for PassesOwn.never rfl (pi_range1 (by rfl) T.range (pa_cons pe_int pa_nil)) (pg_name (i := 3) sc_law_root_up.nd rfl (Or.inl rfl))
      (pss_cons (ps_set (i := 4) sc_law_root_up.nd rfl (Or.inl rfl) (pe_op op_fdivW (pe_op op_add (pv 1) (pv 2)) pe_int))
    (pss_one (ps_if (pt_cmpR op_ge (pe_op op_mul (pv 4) (pv 4)) (pv 0) (nomark _)) (pss_one (ps_set (i := 2) sc_law_root_up.nd rfl (Or.inl rfl) (pv 4)))
      (pss_one (ps_set (i := 1) sc_law_root_up.nd rfl (Or.inl rfl) (pe_op op_add (pv 4) pe_int)))))))
    (pss_one (ps_ret (pv 2)))))), ?_⟩
    refine ⟨_, _, rfl, rfl, ⟨by decide, by decide, by decide⟩, ?_⟩
    refine ⟨_, rfl, by decide, by decide, for_range (n := 24) (fun i σ H2 => ∃ lw hg v3 v4, σ = [some (.int n), some (.int lw), some (.int hg), v3, v4] ∧ 0 ≤ lw ∧ lw ≤ 10000001 ∧ 1 ≤ hg ∧ hg ≤ 10000000 ∧ H2 = H) ⟨0, 10000000, none, none, rfl, by omega, by omega, by omega, by omega, rfl⟩ ?_ ?_⟩
    · rintro i σ H2 hi ⟨lw, hg, v3, v4, rfl, l0, l1, h0, h1, rfl⟩
      refine ⟨_, rfl, _, rfl, _, _, rfl, rfl, _, _, rfl, rfl, log_of (by decide) (by decide), ?_⟩
      refine ⟨_, rfl, _, rfl, _, _, rfl, rfl, .inl ⟨by omega, by omega⟩, _, rfl, _, _, rfl, rfl, _, rfl, ite2 (fun e => ?_) (fun e => ?_)⟩
      · have e := of_decide_eq_true e
        have e1 : (lw + hg) / 2 ≠ 0 := fun z => by rw [z] at e; omega
        refine ⟨_, rfl, lw, (lw + hg) / 2, _, _, rfl, by omega, by omega, by omega, by omega, rfl⟩
      · refine ⟨_, rfl, _, _, rfl, rfl, (lw + hg) / 2 + 1, hg, _, _, rfl, by omega, by omega, by omega, by omega, rfl⟩
    · rintro σ H2 ⟨lw, hg, v3, v4, rfl, l0, l1, h0, h1, rfl⟩
      exact ⟨_, rfl, k hg h0 h1⟩
theorem sc_law : FnScope ["script", "state", "size", "dx", "dy", "length", "speed", "slip", "strong", "winds", "k", "tick", "wind", "bounds", "error", "pushes", "x", "y", "true_x", "true_y", "true_speed", "each"] ["script"] (defScope s_law) := ⟨rfl, rfl, rfl, by decide +kernel, rfl, by decide +kernel, by decide +kernel⟩
theorem ok_law {f : Addr} {fd : FuncData} (F : Fun K "law" "law" s_law f fd) (T : Txt mg)
    (D_law_start : Def P w K mg base 1 "_law_start" ["script"] (spStart K)) (D_law_draw : Def P w K mg base 1 "_law_draw" ["state", "bound"] (spDraw K)) (D_law_pick : Def P w K mg base 2 "_law_pick" ["state", "things"] (spPick K))
    (D_law_is_number : Def P w K mg base 1 "_law_is_number" ["thing"] spIsNum) (D_law_root_up : Def P w K mg base 1 "_law_root_up" ["n"] spRoot) (D_wind_at : Def P w K mg base 1 "wind_at" ["winds", "tick"] (spWind K)) (D_step_bounds : Def P w K mg base 1 "step_bounds" ["vector", "speed", "slip", "wind"] spStep) : FnOk P w K mg base CX0 3 f fd ["script"] (spLaw K) := by
  refine F.ok sc_law (fun vs H Q E h => ?_) (fun cdv A outer s H vs Q E hr h => ?_)
  · obtain ⟨n, ns, rfl, _⟩ := h
    rfl
  · obtain ⟨a, ns, rfl, hS, hl, k⟩ := h
    refine ⟨_, (pss_cons (ps_set (i := 1) sc_law.nd rfl (Or.inl rfl) (pe_def D_law_start (hr.mono (by decide)) (by rfl) (pa_cons (pv 0) pa_nil)))
    (pss_cons (ps_set (i := 2) sc_law.nd rfl (Or.inl rfl) (pe_def D_law_pick (hr.mono (by decide)) (by rfl) (pa_cons (pv 1) (pa_cons (pe_lst (pa_cons pe_int (pa_cons pe_int (pa_cons pe_int pa_nil)))) pa_nil))))
    (pss_cons (ps_set (i := 3) sc_law.nd rfl (Or.inl rfl) (pe_op op_sub (pe_def D_law_draw (hr.mono (by decide)) (by rfl) (pa_cons (pv 1) (pa_cons (pe_op op_add (pe_op op_mul pe_int (pv 2)) pe_int) pa_nil))) (pv 2)))
    (pss_cons (ps_set (i := 4) sc_law.nd rfl (Or.inl rfl) (pe_op op_sub (pe_def D_law_draw (hr.mono (by decide)) (by rfl) (pa_cons (pv 1) (pa_cons (pe_op op_add (pe_op op_mul pe_int (pv 2)) pe_int) pa_nil))) (pv 2)))
    (pss_cons (ps_if (PW.pt (pw_and (pt_cmpR op_eq (pv 3) pe_int (nomark _)) (pw_and1 (pt_cmpR op_eq (pv 4) pe_int (nomark _))))) (pss_one (ps_set (i := 3) sc_law.nd rfl (Or.inl rfl) pe_int))
      pss_nil)
    (pss_cons (ps_set (i := 5) sc_law.nd rfl (Or.inl rfl) (pe_def D_law_root_up (hr.mono (by decide)) (by rfl) (pa_cons (pe_op op_add (pe_op op_mul (pv 3) (pv 3)) (pe_op op_mul (pv 4) (pv 4))) pa_nil)))
    (pss_cons (ps_set (i := 6) sc_law.nd rfl (Or.inl rfl) (pe_op op_add pe_int (pe_def D_law_draw (hr.mono (by decide)) (by rfl) (pa_cons (pv 1) (pa_cons (pe_def D_law_pick (hr.mono (by decide)) (by rfl) (pa_cons (pv 1) (pa_cons (pe_lst (pa_cons pe_int (pa_cons pe_int pa_nil))) pa_nil))) pa_nil)))))
    (pss_cons (ps_set (i := 7) sc_law.nd rfl (Or.inl rfl) (pe_def D_law_draw (hr.mono (by decide)) (by rfl) (pa_cons (pv 1) (pa_cons (pe_def D_law_pick (hr.mono (by decide)) (by rfl) (pa_cons (pv 1) (pa_cons (pe_lst (pa_cons pe_int (pa_cons pe_int pa_nil))) pa_nil))) pa_nil))))
    (pss_cons (ps_set (i := 8) sc_law.nd rfl (Or.inl rfl) (pe_def D_law_pick (hr.mono (by decide)) (by rfl) (pa_cons (pv 1) (pa_cons (pe_lst (pa_cons pe_int (pa_cons pe_int pa_nil))) pa_nil))))
    (pss_cons (ps_set (i := 9) sc_law.nd rfl (Or.inl rfl) (pe_lst (pa_cons (pe_tup (pa_cons pe_int (pa_cons (pe_def D_law_draw (hr.mono (by decide)) (by rfl) (pa_cons (pv 1) (pa_cons (pv 8) pa_nil))) (pa_cons (pe_un un_neg (pe_def D_law_draw (hr.mono (by decide)) (by rfl) (pa_cons (pv 1) (pa_cons (pv 8) pa_nil)))) (pa_cons (pe_def D_law_draw (hr.mono (by decide)) (by rfl) (pa_cons (pv 1) (pa_cons (pv 8) pa_nil))) pa_nil))))) pa_nil)))
    (pss_cons (ps_for PassesOwn.never rfl (pi_range1 (by rfl) T.range (pa_cons (pe_def D_law_draw (hr.mono (by decide)) (by rfl) (pa_cons (pv 1) (pa_cons pe_int pa_nil))) pa_nil)) (pg_name (i := 10) sc_law.nd rfl (Or.inl rfl))
      (pss_cons (ps_set (i := 11) sc_law.nd rfl (Or.inr rfl) (pe_op op_add (pe_op op_add (pe_ix (r := rIxT K) ix_tup (pe_ix (r := rIxL K) ix_list (pv 9) (pv 10) (fun _ _ => rfl)) pe_int (fun _ _ => rfl)) pe_int) (pe_def D_law_draw (hr.mono (by decide)) (by rfl) (pa_cons (pv 1) (pa_cons pe_int pa_nil)))))
    (pss_one (ps_expr (pe_bm PySem.F.plainAttrs_list PySem.F.slot_list_append PySem.F.type_list_append mt_append (pv 9) (pa_cons (pe_tup (pa_cons (pv 11) (pa_cons (pe_un un_neg (pe_def D_law_draw (hr.mono (by decide)) (by rfl) (pa_cons (pv 1) (pa_cons (pv 8) pa_nil)))) (pa_cons (pe_def D_law_draw (hr.mono (by decide)) (by rfl) (pa_cons (pv 1) (pa_cons (pv 8) pa_nil))) (pa_cons (pe_def D_law_draw (hr.mono (by decide)) (by rfl) (pa_cons (pv 1) (pa_cons (pv 8) pa_nil))) pa_nil))))) pa_nil))))))
    (pss_cons (ps_set (i := 11) sc_law.nd rfl (Or.inr rfl) (pe_callB (call_max2 rfl) (by rfl) T.max boot_max (pa_cons pe_int (pa_cons (pe_op op_sub (pe_op op_add (pe_ix (r := rIxT K) ix_tup (pe_def D_law_pick (hr.mono (by decide)) (by rfl) (pa_cons (pv 1) (pa_cons (pv 9) pa_nil))) pe_int (fun _ _ => rfl)) (pe_def D_law_draw (hr.mono (by decide)) (by rfl) (pa_cons (pv 1) (pa_cons pe_int pa_nil)))) pe_int) pa_nil))))
    (pss_cons (ps_set (i := 12) sc_law.nd rfl (Or.inl rfl) (pe_ix (r := rIxL K) ix_list (pe_lc (own := [("each", 21)]) (g := gName 21) (by rfl) sc_law.nd (pi_list (pv 9)) (blkOk_by (own := [("each", 21)]) (N := ["script", "state", "size", "dx", "dy", "length", "speed", "slip", "strong", "winds", "k", "tick", "wind", "bounds", "error", "pushes", "x", "y", "true_x", "true_y", "true_speed", "each"]) (sc := defScope s_law) (by decide +kernel)) (fun _ _ _ _ _ => (pg_name (i := 21) sc_law.nd rfl (Or.inl rfl))) (fun _ _ _ _ _ => pts_one (pt_cmpR op_le (pe_ix (r := rIxT K) ix_tup (pv 21) pe_int (fun _ _ => rfl)) (pv 11) (nomark _))) (fun _ _ _ _ _ => (pv 21))) (pe_un un_neg pe_int) (fun _ _ => rfl)))
    (pss_cons (ps_if (pt_cmpR (op_neD hr.units) (pe_def D_wind_at (hr.mono (by decide)) (by rfl) (pa_cons (pv 9) (pa_cons (pv 11) pa_nil))) (pv 12) (nomark _)) (pss_one (ps_ret pe_bl))
      pss_nil)
    (pss_cons (ps_set (i := 13) sc_law.nd rfl (Or.inl rfl) (pe_def D_step_bounds (hr.mono (by decide)) (by rfl) (pa_cons (pe_tup (pa_cons (pv 3) (pa_cons (pv 4) (pa_cons (pv 5) pa_nil)))) (pa_cons (pv 6) (pa_cons (pv 7) (pa_cons (pv 12) pa_nil))))))
    (pss_cons (ps_if (PW.pt (pw_or (pt_not (pt_val (pe_callB call_isi (by rfl) T.isinstance boot_isinstance (pa_cons (pv 13) (pa_cons (pe_bltn (v := .ty "tuple") (by rfl) T.tuple boot_tuple rfl) pa_nil))))) (pw_or1 (pt_cmpR op_ne (pe_callB call_len_seq (by rfl) T.len boot_len (pa_cons (pv 13) pa_nil)) pe_int (nomark _))))) (pss_one (ps_ret pe_bl))
      pss_nil)
    (pss_cons (ps_if (PW.pt (pw_or (pt_not (pt_val (pe_def D_law_is_number (hr.mono (by decide)) (by rfl) (pa_cons (pe_ix (r := rIxT K) ix_tup (pv 13) pe_int (fun _ _ => rfl)) pa_nil)))) (pw_or1 (pt_not (pt_val (pe_def D_law_is_number (hr.mono (by decide)) (by rfl) (pa_cons (pe_ix (r := rIxT K) ix_tup (pv 13) pe_int (fun _ _ => rfl)) pa_nil))))))) (pss_one (ps_ret pe_bl))
      pss_nil)
    (pss_cons (ps_set (i := 14) sc_law.nd rfl (Or.inl rfl) (pe_ix (r := rIxT K) ix_tup (pv 12) pe_int (fun _ _ => rfl)))
    (pss_cons (ps_set (i := 15) sc_law.nd rfl (Or.inl rfl) (pe_lst pa_nil))
    (pss_cons (ps_for PassesOwn.never rfl (pi_list (pe_lst (pa_cons (pe_op op_sub (pe_ix (r := rIxT K) ix_tup (pv 12) pe_int (fun _ _ => rfl)) (pv 14)) (pa_cons (pe_op op_add (pe_ix (r := rIxT K) ix_tup (pv 12) pe_int (fun _ _ => rfl)) (pv 14)) pa_nil)))) (pg_name (i := 16) sc_law.nd rfl (Or.inl rfl))
      (pss_one (ps_for PassesOwn.never rfl (pi_list (pe_lst (pa_cons (pe_op op_sub (pe_ix (r := rIxT K) ix_tup (pv 12) pe_int (fun _ _ => rfl)) (pv 14)) (pa_cons (pe_op op_add (pe_ix (r := rIxT K) ix_tup (pv 12) pe_int (fun _ _ => rfl)) (pv 14)) pa_nil)))) (pg_name (i := 17) sc_law.nd rfl (Or.inl rfl))
      (pss_one (ps_expr (pe_bm PySem.F.plainAttrs_list PySem.F.slot_list_append PySem.F.type_list_append mt_append (pv 15) (pa_cons (pe_op op_fdivW (pe_op op_add (pe_op op_mul (pv 16) (pv 3)) (pe_op op_mul (pv 17) (pv 4))) (pv 5)) pa_nil)))))))
    (pss_cons (ps_if (PW.pt (pw_or (pt_cmpR op_ne (pe_ix (r := rIxT K) ix_tup (pv 13) pe_int (fun _ _ => rfl)) (pe_op op_add (pe_op op_sub (pv 6) (pv 7)) (pe_callB (cr_min rfl) (by rfl) T.min boot_min (pa_cons (pv 15) pa_nil))) (nomark _)) (pw_or1 (pt_cmpR op_ne (pe_ix (r := rIxT K) ix_tup (pv 13) pe_int (fun _ _ => rfl)) (pe_op op_add (pe_op op_add (pv 6) (pv 7)) (pe_callB (cr_max rfl) (by rfl) T.max boot_max (pa_cons (pv 15) pa_nil))) (nomark _))))) (pss_one (ps_ret pe_bl))
      pss_nil)
    (pss_cons (ps_set (i := 18) sc_law.nd rfl (Or.inl rfl) (pe_op op_sub (pe_op op_add (pe_ix (r := rIxT K) ix_tup (pv 12) pe_int (fun _ _ => rfl)) (pe_def D_law_draw (hr.mono (by decide)) (by rfl) (pa_cons (pv 1) (pa_cons (pe_op op_add (pe_op op_mul pe_int (pv 14)) pe_int) pa_nil)))) (pv 14)))
    (pss_cons (ps_set (i := 19) sc_law.nd rfl (Or.inl rfl) (pe_op op_sub (pe_op op_add (pe_ix (r := rIxT K) ix_tup (pv 12) pe_int (fun _ _ => rfl)) (pe_def D_law_draw (hr.mono (by decide)) (by rfl) (pa_cons (pv 1) (pa_cons (pe_op op_add (pe_op op_mul pe_int (pv 14)) pe_int) pa_nil)))) (pv 14)))
    (pss_cons (ps_set (i := 20) sc_law.nd rfl (Or.inl rfl) (pe_op op_sub (pe_op op_add (pv 6) (pe_def D_law_draw (hr.mono (by decide)) (by rfl) (pa_cons (pv 1) (pa_cons (pe_op op_add (pe_op op_mul pe_int (pv 7)) pe_int) pa_nil)))) (pv 7)))
    (pss_one (ps_ret (pe_chain op_le op_le (pe_ix (r := rIxT K) ix_tup (pv 13) pe_int (fun _ _ => rfl)) (pe_op op_add (pv 20) (pe_op op_fdivW (pe_op op_add (pe_op op_mul (pv 18) (pv 3)) (pe_op op_mul (pv 19) (pv 4))) (pv 5))) (pe_ix (r := rIxT K) ix_tup (pv 13) pe_int (fun _ _ => rfl))))))))))))))))))))))))))))), ?_⟩
    refine ⟨_, rfl, a, ns, rfl, hS, hl, fun d c H0 hd hc S0 s1 => ?_⟩
    refine ⟨_, rfl, szOk rfl, fun p2 hp2 => ?_⟩
    refine ⟨d, c, _, _, rfl, (S0.new hp2), .inl (.inl upd_same), (fun z => nomatch z), (by show 3 ≤ 1000; decide), fun v3 H3 hv3 S3 kp3 => ?_⟩
    obtain ⟨x3, rfl, x3a, x3b⟩ : ∃ z : Int, v3 = .int z ∧ 50 ≤ z ∧ z ≤ 100000 := by
      simp only [List.mem_cons, List.not_mem_nil, or_false] at hv3
      rcases hv3 with rfl | rfl | rfl <;> exact ⟨_, rfl, by decide, by decide⟩
    refine ⟨_, rfl, _, rfl, _, _, rfl, rfl, (by walk_at "ms"), _, _, rfl, rfl, d, c, _, rfl, S3, (by omega), (by omega), fun x4 H4 x4a x4b S4 kp4 => ?_⟩
    refine ⟨_, rfl, _, _, rfl, rfl, _, rfl, _, rfl, _, _, rfl, rfl, (by walk_at "ms"), _, _, rfl, rfl, d, c, _, rfl, S4, (by omega), (by omega), fun x5 H5 x5a x5b S5 kp5 => ?_⟩
    refine ⟨_, rfl, _, _, rfl, rfl, ?_⟩
    refine nm ?_
    dsimp only
    refine cut (t := tIfS _ _ _) (fun σ' H' => ∃ dx dy, σ' = some (.ref a) :: some (.ref d) :: some (.int x3) :: some (.int dx) :: some (.int dy) :: List.replicate 17 none ∧ H' = H5 ∧ -100000 ≤ dx ∧ dx ≤ 100000 ∧ -100000 ≤ dy ∧ dy ≤ 100000 ∧ (dx ≠ 0 ∨ dy ≠ 0)) ?_ (fun rest => ?_)
    rotate_left
    · refine ⟨_, rfl, rfl, _, rfl, ite2 (fun e => ?_) (fun e => ?_)⟩
      · refine ⟨_, rfl, rfl, _, rfl, ite2 (fun e => ?_) (fun e => ?_)⟩
        · exact rest _ _ ⟨1, _, rfl, rfl, by omega, by omega, by omega, by omega, .inl (by omega)⟩
        · exact rest _ _ ⟨_, _, rfl, rfl, by omega, by omega, by omega, by omega, .inr fun z => e (decide_eq_true (congrArg V.int z))⟩
      · refine iteF ?_
        exact rest _ _ ⟨_, _, rfl, rfl, by omega, by omega, by omega, by omega, .inl fun z => e (decide_eq_true (congrArg V.int z))⟩
    rintro σ' H' ⟨dx, dy, rfl, rfl, dx0, dx1, dy0, dy1, dxy⟩
    have hn1 : 1 ≤ dx * dx + dy * dy := by
      have z1 := sq0 dx
      have z2 := sq0 dy
      rcases dxy with z | z <;> (have := sqpos z; omega)
    refine ⟨_, rfl, _, rfl, _, _, rfl, rfl, (by walk_at "ms"), _, rfl, _, rfl, _, _, rfl, rfl, (by walk_at "ms"), _, _, rfl, rfl, _, rfl, hn1, fun len len0 len1 => ?_⟩
    refine ⟨_, rfl, _, rfl, szOk rfl, fun p7 hp7 => ?_⟩
    refine ⟨d, c, _, _, rfl, (S5.new hp7), .inl (.inl upd_same), (fun z => nomatch z), (by show 2 ≤ 1000; decide), fun v8 H8 hv8 S8 kp8 => ?_⟩
    obtain ⟨x8, rfl, x8a, x8b⟩ : ∃ z : Int, v8 = .int z ∧ 20 ≤ z ∧ z ≤ 10000 := by
      simp only [List.mem_cons, List.not_mem_nil, or_false] at hv8
      rcases hv8 with rfl | rfl <;> exact ⟨_, rfl, by decide, by decide⟩
    refine ⟨d, c, _, rfl, S8, (by omega), (by omega), fun x9 H9 x9a x9b S9 kp9 => ?_⟩
    refine ⟨_, _, rfl, rfl, _, rfl, _, rfl, szOk rfl, fun p10 hp10 => ?_⟩
    refine ⟨d, c, _, _, rfl, (S9.new hp10), .inl (.inl upd_same), (fun z => nomatch z), (by show 2 ≤ 1000; decide), fun v11 H11 hv11 S11 kp11 => ?_⟩
    obtain ⟨x11, rfl, x11a, x11b⟩ : ∃ z : Int, v11 = .int z ∧ 3 ≤ z ∧ z ≤ 1001 := by
      simp only [List.mem_cons, List.not_mem_nil, or_false] at hv11
      rcases hv11 with rfl | rfl <;> exact ⟨_, rfl, by decide, by decide⟩
    refine ⟨d, c, _, rfl, S11, (by omega), (by omega), fun x12 H12 x12a x12b S12 kp12 => ?_⟩
    refine ⟨_, rfl, szOk rfl, fun p13 hp13 => ?_⟩
    refine ⟨d, c, _, _, rfl, (S12.new hp13), .inl (.inl upd_same), (fun z => nomatch z), (by show 2 ≤ 1000; decide), fun v14 H14 hv14 S14 kp14 => ?_⟩
    obtain ⟨x14, rfl, x14a, x14b⟩ : ∃ z : Int, v14 = .int z ∧ 3 ≤ z ∧ z ≤ 10001 := by
      simp only [List.mem_cons, List.not_mem_nil, or_false] at hv14
      rcases hv14 with rfl | rfl <;> exact ⟨_, rfl, by decide, by decide⟩
    refine ⟨_, rfl, _, rfl, d, c, _, rfl, S14, (by omega), (by omega), fun x15 H15 x15a x15b S15 kp15 => ?_⟩
    refine ⟨_, rfl, _, rfl, d, c, _, rfl, S15, (by omega), (by omega), fun x16 H16 x16a x16b S16 kp16 => ?_⟩
    refine ⟨_, rfl, _, rfl, _, rfl, d, c, _, rfl, S16, (by omega), (by omega), fun x17 H17 x17a x17b S17 kp17 => ?_⟩
    refine ⟨szOk rfl, fun p18 hp18 => ?_⟩
    refine ⟨szOk rfl, fun p19 hp19 => ?_⟩
    have hW : WAt (upd (upd H17 p18 (.tup [.int 0, .int x15, .int (-x16), .int x17])) p19 (.lst [.ref p18])) p19 [(p18, 0, x15, -x16, x17)] :=
      ⟨upd_same, (fun q hq => by rw [List.mem_singleton.mp hq]; exact same_new hp19 _ _ upd_same), (fun q hq => by rw [List.mem_singleton.mp hq]; show -10001 ≤ x15 ∧ x15 ≤ 10001 ∧ -10001 ≤ -x16 ∧ -x16 ≤ 10001 ∧ 0 ≤ x17 ∧ x17 ≤ 10001; omega), _, _, rfl, rfl⟩
    have nld : p19 ≠ d := St1.nd (St1.new S17 hp18) hp19
    have nlc : p19 ≠ c := St1.nc (St1.new S17 hp18) hp19
    refine ⟨_, rfl, d, c, _, rfl, ((S17.new hp18).new hp19), (by omega), (by omega), fun x20 H20 x20a x20b S20 kp20 => ?_⟩
    have hW := hW.keep ((S17.new hp18).new hp19) kp20
    refine ⟨_, rfl, by omega, by omega, for_range (n := x20.toNat) (fun i σ2 H2 => ∃ qs v10 v11, σ2 = some (.ref a) :: some (.ref d) :: some (.int x3) :: some (.int dx) :: some (.int dy) :: some (.int len) :: some (.int (1 + x9)) :: some (.int x12) :: some (.int x14) :: some (.ref p19) :: v10 :: v11 :: List.replicate 10 none ∧ St1 K H2 d c ∧ WAt H2 p19 qs ∧ qs.length = i + 1)
      ⟨_, _, _, rfl, S20, hW, rfl⟩ ?_ ?_⟩
    · rintro i σ2 H2 hi ⟨qs, v10, v11, rfl, S0, hW, hq⟩
      have hik : i < qs.length := by omega
      refine ⟨_, rfl, _, rfl, _, _, _, _, rfl, rfl, (.inl (.inl hW.li)), (atI0 (hW.at hik)), _, _, _, _, rfl, rfl, (.inl (.inl (hW.tu _ (List.getElem_mem hik)))), rfl, _, _, rfl, rfl, _, rfl, d, c, _, rfl, S0, (by omega), (by omega), fun x21 H21 x21a x21b S21 kp21 => ?_⟩
      have hW := hW.keep S0 kp21
      refine ⟨_, _, rfl, rfl, _, rfl, (.inl ⟨rfl, _, .inl (.inl hW.li)⟩), _, rfl, _, rfl, _, rfl, d, c, _, rfl, S21, (by omega), (by omega), fun x22 H22 x22a x22b S22 kp22 => ?_⟩
      have hW := hW.keep S21 kp22
      refine ⟨_, rfl, _, rfl, _, rfl, d, c, _, rfl, S22, (by omega), (by omega), fun x23 H23 x23a x23b S23 kp23 => ?_⟩
      have hW := hW.keep S22 kp23
      refine ⟨_, rfl, _, rfl, d, c, _, rfl, S23, (by omega), (by omega), fun x24 H24 x24a x24b S24 kp24 => ?_⟩
      have hW := hW.keep S23 kp24
      refine ⟨szOk rfl, fun p25 hp25 => ?_⟩
      refine ⟨_, _, _, rfl, rfl, (hW.same (same_new hp25)).li, (by rw [List.length_map]; exact small1000 (by omega)), ?_⟩
      exact ⟨qs ++ [(p25, qs[i].2.1 + 1 + x21, -x22, x23, x24)], _, _, rfl, St1.put (S24.new hp25) nld nlc, WAt.snoc (q := (p25, qs[i].2.1 + 1 + x21, -x22, x23, x24)) (hW.same (same_new hp25)) upd_same (by show -10001 ≤ -x22 ∧ -x22 ≤ 10001 ∧ -10001 ≤ x23 ∧ x23 ≤ 10001 ∧ 0 ≤ x24 ∧ x24 ≤ 10001; omega), by rw [List.length_append, hq]; rfl⟩
    rintro σ2 H2 ⟨qs, v10, v11, rfl, S0, hW, hq⟩
    refine ⟨_, rfl, _, rfl, d, c, _, _, rfl, S0, .inl (.inl hW.li), (fun z => by rw [List.map_eq_nil_iff.mp z] at hq; simp at hq), (by rw [List.length_map]; omega), fun v26 H26 hv26 S26 kp26 => ?_⟩
    have hW := hW.keep S0 kp26
    obtain ⟨qp, hqp, rfl⟩ := List.mem_map.mp hv26
    refine ⟨_, _, _, _, rfl, rfl, (.inl (.inl (hW.tu _ hqp))), rfl, _, rfl, d, c, _, rfl, S26, (by omega), (by omega), fun x27 H27 x27a x27b S27 kp27 => ?_⟩
    have hW := hW.keep S26 kp27
    refine ⟨_, _, rfl, rfl, _, _, rfl, rfl, _, _, rfl, ?_⟩
    refine nm ?_
    dsimp only
    generalize hT : (if qp.2.1 + x27 - 1 > 0 then qp.2.1 + x27 - 1 else 0) = tick
    have tk0 : 0 ≤ tick := by rw [← hT]; split <;> omega
    obtain ⟨q0, r, hq0, hz0⟩ := hW.hd
    obtain ⟨qw, hqw⟩ : ∃ q, (lb tick qs).getLast? = some q := by
      cases e : (lb tick qs).getLast? with
      | some q => exact ⟨q, rfl⟩
      | none =>
        exfalso
        have hz := List.getLast?_eq_none_iff.mp e
        rw [hq0] at hz
        unfold lb at hz
        rw [List.filter_cons, if_pos (decide_eq_true (show q0.2.1 ≤ tick by omega))] at hz
        cases hz
    have hqm : qw ∈ qs := (List.mem_filter.mp (List.mem_of_getLast? hqw)).1
    refine ⟨_, rfl, p19, rfl, ⟨_, .inl (.inl hW.li)⟩, fun D hD => ?_⟩
    refine lc_list (K := K) (a := p19) (xs := qs.map fun q => V.ref q.1) (fun i H' => H' = upd H27 D (.lst ((lb tick (qs.take i)).map fun q => V.ref q.1))) rfl (fun i H' _ e => .inl (.inl (by rw [e, upd_ne (ne_of_none hW.li hD)]; exact hW.li))) ?_ ?_
    · rintro i y H' hi rfl
      have hil : i < qs.length := by
        have := (List.getElem?_eq_some_iff.mp hi).1
        rw [List.length_map] at this
        exact this
      have ey : y = .ref qs[i].1 := Option.some.inj (hi.symm.trans (hW.at hil))
      subst ey
      have hq1 := hW.tu qs[i] (List.getElem_mem hil)
      have et : qs.take (i + 1) = qs.take i ++ [qs[i]] := by rw [List.take_add_one, List.getElem?_eq_getElem hil]; rfl
      refine ⟨rfl, ?_⟩
      refine ⟨_, rfl, _, _, _, .int qs[i].2.1, rfl, rfl, .inl (.inl (by rw [upd_ne (ne_of_none hq1 hD)]; exact hq1)), rfl, _, rfl, _, _, rfl, rfl, _, rfl, ite2 (fun e => ?_) (fun e => ?_)⟩
      · refine ⟨_, rfl, _, upd_same, ?_, ?_⟩
        · rw [List.length_map]
          have h1 := List.length_filter_le (fun q : WQ => decide (q.2.1 ≤ tick)) (qs.take i)
          have h2 := List.length_take_le i qs
          unfold lb
          exact small1000 (by omega)
        · rw [upd_upd, et, lb_snoc, if_pos (of_decide_eq_true e), List.map_append]
          rfl
      · show _ = _
        rw [et, lb_snoc, if_neg (fun z => e (decide_eq_true z)), List.append_nil]
    rintro H' rfl
    rw [List.length_map, List.take_length]
    have S2 := S27.new (o := .lst ((lb tick qs).map fun q => V.ref q.1)) hD
    have hW2 := hW.same (same_new (o := .lst ((lb tick qs).map fun q => V.ref q.1)) hD)
    refine ⟨_, rfl, _, _, _, .ref qw.1, rfl, rfl, .inl (.inl upd_same), atI_back (by rw [List.getLast?_map, hqw]; rfl), ?_⟩
    have hT2 := hW2.tu qw hqm
    have hbd := hW2.bd qw hqm
    -- the last wind that holds
    refine ⟨_, rfl, _, rfl, p19, tick, qs, rfl, hW2, tk0, fun q hq => ?_⟩
    obtain rfl := Option.some.inj (hq.symm.trans hqw)
    refine ⟨_, rfl, _, _, Dp.tup (.inl (.inl hT2)) (.cons (.int _) (.cons (.int _) (.cons (.int _) (.cons (.int _) .nil)))), Dp.tup (.inl (.inl hT2)) (.cons (.int _) (.cons (.int _) (.cons (.int _) (.cons (.int _) .nil)))), rfl, rfl, _, rfl, ?_⟩
    refine eqvN rfl ?_
    refine ⟨_, rfl, _, rfl, _, rfl, szOk rfl, fun p28 hp28 => ?_⟩
    refine ⟨_, rfl, _, rfl, _, rfl, _, _, _, _, _, _, _, _, _, _, _, rfl, upd_same, (same_new hp28 _ _ hT2), (by omega), fun p29 hp29 => ?_⟩
    refine ⟨_, rfl, _, _, _, _, true, rfl, ClsV.ty _, .base (.tup upd_same), kit_ty (by decide +kernel), true, rfl, ?_⟩
    refine ⟨_, rfl, _, _, rfl, .inr (.inl (.inl upd_same)), rfl, _, rfl, ?_⟩
    refine neN rfl ?_
    refine ⟨_, rfl, _, _, _, _, rfl, rfl, .inl (.inl upd_same), rfl, _, rfl, true, rfl, ?_⟩
    refine ⟨_, rfl, _, _, _, _, rfl, rfl, .inl (.inl upd_same), rfl, _, rfl, true, rfl, ?_⟩
    have S3 := St1.new (o := .tup [.int (lo dx dy len (1 + x9) x12 q.2.2.1 q.2.2.2.1 q.2.2.2.2), .int (hi dx dy len (1 + x9) x12 q.2.2.1 q.2.2.2.1 q.2.2.2.2)]) (S2.new hp28) hp29
    have hT3 := same_new (o := .tup [.int (lo dx dy len (1 + x9) x12 q.2.2.1 q.2.2.2.1 q.2.2.2.2), .int (hi dx dy len (1 + x9) x12 q.2.2.1 q.2.2.2.1 q.2.2.2.2)]) hp29 _ _ (same_new hp28 _ _ hT2)
    generalize hH3 : upd _ p29 _ = H3 at S3 hT3 ⊢
    have hB3 : H3 p29 = some (.tup [.int (lo dx dy len (1 + x9) x12 q.2.2.1 q.2.2.2.1 q.2.2.2.2), .int (hi dx dy len (1 + x9) x12 q.2.2.1 q.2.2.2.1 q.2.2.2.2)]) := by rw [← hH3, upd_same]
    refine ⟨_, rfl, _, _, _, _, rfl, rfl, (.inl (.inl hT3)), rfl, szOk rfl, fun p30 hp30 => ?_⟩
    have npd : p30 ≠ d := S3.nd hp30
    have npc : p30 ≠ c := S3.nc hp30
    have nTp : q.1 ≠ p30 := ne_of_none hT3 hp30
    have nBp : p29 ≠ p30 := ne_of_none hB3 hp30
    refine ⟨_, rfl, _, _, _, _, rfl, rfl, (.inl (.inl (same_new hp30 _ _ hT3))), rfl, _, rfl, _, _, rfl, rfl, _, rfl, _, _, _, _, rfl, rfl, (.inl (.inl (same_new hp30 _ _ hT3))), rfl, _, rfl, _, _, rfl, rfl, szOk rfl, fun p31 hp31 => ?_⟩
    have nxp : p31 ≠ p30 := (ne_of_none upd_same hp31).symm
    refine ⟨_, rfl, ⟨_, .inl (.inl upd_same)⟩, for_list (K := K) (a := p31) (xs := ([q.2.2.1 - q.2.2.2.2, q.2.2.1 + q.2.2.2.2] : List Int).map V.int) (fun i σ2 H2 => ∃ v16 v17, σ2 = some (.ref a) :: some (.ref d) :: some (.int x3) :: some (.int dx) :: some (.int dy) :: some (.int len) :: some (.int (1 + x9)) :: some (.int x12) :: some (.int x14) :: some (.ref p19) :: v10 :: some (.int tick) :: some (.ref q.1) :: some (.ref p29) :: some (.int q.2.2.2.2) :: some (.ref p30) :: v16 :: v17 :: List.replicate 4 none ∧ St1 K H2 d c ∧ H2 q.1 = some (.tup (wv q)) ∧ H2 p29 = some (.tup [.int (lo dx dy len (1 + x9) x12 q.2.2.1 q.2.2.2.1 q.2.2.2.2), .int (hi dx dy len (1 + x9) x12 q.2.2.1 q.2.2.2.1 q.2.2.2.2)]) ∧ H2 p31 = some (.lst (([q.2.2.1 - q.2.2.2.2, q.2.2.1 + q.2.2.2.2] : List Int).map V.int)) ∧ H2 p30 = some (.lst ((flat dx dy len q.2.2.2.1 q.2.2.2.2 (([q.2.2.1 - q.2.2.2.2, q.2.2.1 + q.2.2.2.2] : List Int).take i)).map V.int)))
      ⟨none, none, rfl, ((S3.new hp30).new hp31), (same_new hp31 _ _ (same_new hp30 _ _ hT3)), (same_new hp31 _ _ (same_new hp30 _ _ hB3)), upd_same, (same_new hp31 _ _ upd_same)⟩ (fun i σ2 H2 _ ⟨_, _, _, _, _, _, h, _⟩ => .inl (.inl h)) ?_ ?_⟩
    · rintro i y σ2 H2 hii ⟨v16, v17, rfl, S0, hT, hB, hX, hP⟩
      obtain ⟨x, rfl, hx, hil, hx1⟩ := getInt hii
      have hx2 : x = q.2.2.1 - q.2.2.2.2 ∨ x = q.2.2.1 + q.2.2.2.2 := by simpa using hx
      refine ⟨_, rfl, _, _, _, _, rfl, rfl, (.inl (.inl hT)), rfl, _, rfl, _, _, rfl, rfl, _, rfl, _, _, _, _, rfl, rfl, (.inl (.inl hT)), rfl, _, rfl, _, _, rfl, rfl, szOk rfl, fun p32 hp32 => ?_⟩
      have nyp : p32 ≠ p30 := (ne_of_none hP hp32).symm
      refine ⟨_, rfl, ⟨_, .inl (.inl upd_same)⟩, for_list (K := K) (a := p32) (xs := ([q.2.2.2.1 - q.2.2.2.2, q.2.2.2.1 + q.2.2.2.2] : List Int).map V.int) (fun j σ3 H4 => ∃ v17, σ3 = some (.ref a) :: some (.ref d) :: some (.int x3) :: some (.int dx) :: some (.int dy) :: some (.int len) :: some (.int (1 + x9)) :: some (.int x12) :: some (.int x14) :: some (.ref p19) :: v10 :: some (.int tick) :: some (.ref q.1) :: some (.ref p29) :: some (.int q.2.2.2.2) :: some (.ref p30) :: some (.int x) :: v17 :: List.replicate 4 none ∧ St1 K H4 d c ∧ H4 q.1 = some (.tup (wv q)) ∧ H4 p29 = some (.tup [.int (lo dx dy len (1 + x9) x12 q.2.2.1 q.2.2.2.1 q.2.2.2.2), .int (hi dx dy len (1 + x9) x12 q.2.2.1 q.2.2.2.1 q.2.2.2.2)]) ∧ H4 p31 = some (.lst (([q.2.2.1 - q.2.2.2.2, q.2.2.1 + q.2.2.2.2] : List Int).map V.int)) ∧ H4 p32 = some (.lst (([q.2.2.2.1 - q.2.2.2.2, q.2.2.2.1 + q.2.2.2.2] : List Int).map V.int)) ∧ H4 p30 = some (.lst ((flat dx dy len q.2.2.2.1 q.2.2.2.2 (([q.2.2.1 - q.2.2.2.2, q.2.2.1 + q.2.2.2.2] : List Int).take i) ++ (([q.2.2.2.1 - q.2.2.2.2, q.2.2.2.1 + q.2.2.2.2] : List Int).take j).map (fp dx dy len x)).map V.int)))
        ⟨_, rfl, (S0.new hp32), (same_new hp32 _ _ hT), (same_new hp32 _ _ hB), (same_new hp32 _ _ hX), upd_same, by rw [List.take_zero, List.map_nil, List.append_nil]; exact (same_new hp32 _ _ hP)⟩ (fun i σ2 H2 _ ⟨_, _, _, _, _, _, h, _⟩ => .inl (.inl h)) ?_ ?_⟩
      · rintro j y σ3 H4 hj ⟨v17, rfl, S0, hT, hB, hX, hY, hP⟩
        obtain ⟨y, rfl, hy, hjl, hy1⟩ := getInt hj
        have hy2 : y = q.2.2.2.1 - q.2.2.2.2 ∨ y = q.2.2.2.1 + q.2.2.2.2 := by simpa using hy
        have hln : (flat dx dy len q.2.2.2.1 q.2.2.2.2 (([q.2.2.1 - q.2.2.2.2, q.2.2.1 + q.2.2.2.2] : List Int).take i)).length ≤ 4 := by
          rw [flat_len]
          have := List.length_take_le i ([q.2.2.1 - q.2.2.2.2, q.2.2.1 + q.2.2.2.2] : List Int)
          have : (List.take i ([q.2.2.1 - q.2.2.2.2, q.2.2.1 + q.2.2.2.2] : List Int)).length ≤ 2 := List.length_take_le' i ([q.2.2.1 - q.2.2.2.2, q.2.2.1 + q.2.2.2.2] : List Int)
          omega
        have hlm : (([q.2.2.2.1 - q.2.2.2.2, q.2.2.2.1 + q.2.2.2.2] : List Int).take j).length ≤ 2 := List.length_take_le' j ([q.2.2.2.1 - q.2.2.2.2, q.2.2.2.1 + q.2.2.2.2] : List Int)
        refine ⟨_, rfl, (.inl ⟨rfl, _, .inl (.inl hP)⟩), _, rfl, _, rfl, _, _, rfl, rfl, (by walk_at "ms"), _, rfl, _, rfl, _, _, rfl, rfl, (by walk_at "ms"), _, _, rfl, rfl, _, rfl, _, _, rfl, rfl, (by walk_at "ms"), _, _, _, rfl, rfl, hP, (by rw [List.length_map, List.length_append, List.length_map]; exact small1000 (by omega)), ?_⟩
        exact ⟨_, rfl, S0.put npd npc, by rw [upd_ne nTp]; exact hT, by rw [upd_ne nBp]; exact hB, by rw [upd_ne nxp]; exact hX, by rw [upd_ne nyp]; exact hY, by rw [upd_same, hy1, List.map_append (l₁ := ([q.2.2.2.1 - q.2.2.2.2, q.2.2.2.1 + q.2.2.2.2] : List Int).take j), ← List.append_assoc, List.map_append (l₂ := List.map (fp dx dy len x) [y])]; rfl⟩
      rintro σ3 H4 ⟨v17, rfl, S0, hT, hB, hX, hY, hP⟩
      refine ⟨_, _, rfl, S0, hT, hB, hX, ?_⟩
      rw [hP, hx1, List.length_map, List.take_length, flat_snoc]
    rintro σ2 H2 ⟨v16, v17, rfl, S0, hT, hB, hX, hP⟩
    rw [List.length_map, List.take_length] at hP
    have hP4 : H2 p30 = some (.lst ((four dx dy len q.2.2.1 q.2.2.2.1 q.2.2.2.2).map V.int)) := hP
    have e0 : 0 ≤ q.2.2.2.2 := by omega
    refine ⟨_, rfl, _, _, _, _, rfl, rfl, .inl (.inl hB), rfl, _, rfl, _, rfl, _, _, rfl, rfl, _, rfl, p30, _, rfl, .inl (.inl hP4), (by show 0 < 4; decide), fun m hm hml => ?_⟩
    refine ⟨_, _, rfl, rfl, rfl, _, rfl, neN (by rw [min_four (by omega) e0 hm hml]; rfl) ?_⟩
    refine ⟨_, rfl, _, _, _, _, rfl, rfl, .inl (.inl hB), rfl, _, rfl, _, rfl, _, _, rfl, rfl, _, rfl, p30, _, rfl, .inl (.inl hP4), (by show 0 < 4; decide), fun m' hm' hml' => ?_⟩
    refine ⟨_, _, rfl, rfl, rfl, _, rfl, neN (by rw [max_four (by omega) e0 hm' hml']; rfl) ?_⟩
    refine ⟨_, rfl, _, _, _, _, rfl, rfl, (.inl (.inl hT)), rfl, _, rfl, _, rfl, _, _, rfl, rfl, (by walk_at "ms"), _, _, rfl, rfl, d, c, _, rfl, S0, (by omega), (by omega), fun x33 H33 x33a x33b S33 kp33 => ?_⟩
    have hT := kp33.t S0 hT
    have hB := kp33.t S0 hB
    refine ⟨_, _, rfl, rfl, _, rfl, _, _, rfl, rfl, _, rfl, _, _, _, _, rfl, rfl, (.inl (.inl hT)), rfl, _, rfl, _, rfl, _, _, rfl, rfl, (by walk_at "ms"), _, _, rfl, rfl, d, c, _, rfl, S33, (by omega), (by omega), fun x34 H34 x34a x34b S34 kp34 => ?_⟩
    have hT := kp34.t S33 hT
    have hB := kp34.t S33 hB
    refine ⟨_, _, rfl, rfl, _, rfl, _, _, rfl, rfl, _, rfl, _, rfl, _, rfl, _, _, rfl, rfl, (by walk_at "ms"), _, _, rfl, rfl, d, c, _, rfl, S34, (by omega), (by omega), fun x35 H35 x35a x35b S35 kp35 => ?_⟩
    have hT := kp35.t S34 hT
    have hB := kp35.t S34 hB
    refine ⟨_, _, rfl, rfl, _, rfl, _, _, rfl, rfl, ?_⟩
    have hin := within dx dy q.2.2.1 q.2.2.2.1 q.2.2.2.2 (x33 - q.2.2.2.2) (x34 - q.2.2.2.2) (by omega) (by omega) (by omega) (by omega)
    have ex : q.2.2.1 + (x33 - q.2.2.2.2) = q.2.2.1 + x33 - q.2.2.2.2 := by omega
    have ey : q.2.2.2.1 + (x34 - q.2.2.2.2) = q.2.2.2.1 + x34 - q.2.2.2.2 := by omega
    rw [ex, ey] at hin
    have h1 := div_mono (n := len) (by omega) hin.1
    have h2 := div_mono (n := len) (by omega) hin.2
    have hl1 : lo dx dy len (1 + x9) x12 q.2.2.1 q.2.2.2.1 q.2.2.2.2 ≤ 1 + x9 + x35 - x12 + ((q.2.2.1 + x33 - q.2.2.2.2) * dx + (q.2.2.2.1 + x34 - q.2.2.2.2) * dy) / len := by unfold lo; omega
    have hl2 : 1 + x9 + x35 - x12 + ((q.2.2.1 + x33 - q.2.2.2.2) * dx + (q.2.2.2.1 + x34 - q.2.2.2.2) * dy) / len ≤ hi dx dy len (1 + x9) x12 q.2.2.1 q.2.2.2.1 q.2.2.2.2 := by unfold hi; omega
    refine ⟨_, rfl, _, _, _, _, rfl, rfl, (.inl (.inl hB)), rfl, _, rfl, _, rfl, _, rfl, _, _, rfl, rfl, (by walk_at "ms"), _, rfl, _, rfl, _, _, rfl, rfl, (by walk_at "ms"), _, _, rfl, rfl, _, rfl, _, _, rfl, rfl, (by walk_at "ms"), _, _, rfl, rfl, _, _, rfl, rfl, _, rfl, ifY hl1 ?_⟩
    refine ⟨_, rfl, _, _, _, _, rfl, rfl, (.inl (.inl hB)), rfl, _, _, rfl, rfl, ?_⟩
    show Q (.bl (decide (1 + x9 + x35 - x12 + ((q.2.2.1 + x33 - q.2.2.2.2) * dx + (q.2.2.2.1 + x34 - q.2.2.2.2) * dy) / len ≤ hi dx dy len (1 + x9) x12 q.2.2.1 q.2.2.2.1 q.2.2.2.2))) _
    rw [decide_eq_true hl2]
    exact k _
end
end Sk

set_option Elab.async false
set_option linter.all false
set_option maxRecDepth 100000
set_option maxHeartbeats 4000000
namespace Sk
open PySem PySem.Spec PyProof.Rows L2
/-! the end -/
theorem all_mk {l : PySem.W.OpenLaw} {w : World} {K : PySem.W.Frag} {h : Heap} {mg : Str → Option Value} {fa f1 f2 f3 f4 f5 f6 f7 f8 : Addr} (X : K.In h) (G : h.Ns mainGlobals mg) (hfa : mg "law" = some (.ref fa))
    {od1 an1 od2 an2 od3 an3 od4 an4 od5 an5 od6 an6 od7 an7 od8 an8 : Option Addr} {sl1 sl2 sl3 sl4 sl5 sl6 sl7 sl8 : Array (Option Value)} {oc1 kV1 dc1 pm1 cd1 ct1 oc2 kV2 dc2 pm2 cd2 ct2 oc3 kV3 dc3 pm3 cd3 ct3 oc4 kV4 dc4 pm4 cd4 ct4 oc5 kV5 dc5 pm5 cd5 ct5 oc6 kV6 dc6 pm6 cd6 ct6 oc7 kV7 dc7 pm7 cd7 ct7 oc8 kV8 dc8 pm8 cd8 ct8 : Value}
    (a1 : PySem.W.nsIn K mainGlobals "_law_start" = some (some (.ref f1))) (l1 : K.lookup f1 = some ⟨oc1, od1, .func (PySem.W.fnOf "_law_start" "_law_start" (defArgs s_law_start) (defBody s_law_start) (defScope s_law_start) .none kV1 dc1 pm1 an1 cd1 ct1), sl1⟩) (c1 : PySem.W.codeIn K cd1 "_law_start" = true) (k1 : PySem.W.keepIn K (.ref f1) = true)
    (a2 : PySem.W.nsIn K mainGlobals "_law_draw" = some (some (.ref f2))) (l2 : K.lookup f2 = some ⟨oc2, od2, .func (PySem.W.fnOf "_law_draw" "_law_draw" (defArgs s_law_draw) (defBody s_law_draw) (defScope s_law_draw) .none kV2 dc2 pm2 an2 cd2 ct2), sl2⟩) (c2 : PySem.W.codeIn K cd2 "_law_draw" = true) (k2 : PySem.W.keepIn K (.ref f2) = true)
    (a3 : PySem.W.nsIn K mainGlobals "_law_pick" = some (some (.ref f3))) (l3 : K.lookup f3 = some ⟨oc3, od3, .func (PySem.W.fnOf "_law_pick" "_law_pick" (defArgs s_law_pick) (defBody s_law_pick) (defScope s_law_pick) .none kV3 dc3 pm3 an3 cd3 ct3), sl3⟩) (c3 : PySem.W.codeIn K cd3 "_law_pick" = true) (k3 : PySem.W.keepIn K (.ref f3) = true)
    (a4 : PySem.W.nsIn K mainGlobals "_law_is_number" = some (some (.ref f4))) (l4 : K.lookup f4 = some ⟨oc4, od4, .func (PySem.W.fnOf "_law_is_number" "_law_is_number" (defArgs s_law_is_number) (defBody s_law_is_number) (defScope s_law_is_number) .none kV4 dc4 pm4 an4 cd4 ct4), sl4⟩) (c4 : PySem.W.codeIn K cd4 "_law_is_number" = true) (k4 : PySem.W.keepIn K (.ref f4) = true)
    (a5 : PySem.W.nsIn K mainGlobals "_law_root_up" = some (some (.ref f5))) (l5 : K.lookup f5 = some ⟨oc5, od5, .func (PySem.W.fnOf "_law_root_up" "_law_root_up" (defArgs s_law_root_up) (defBody s_law_root_up) (defScope s_law_root_up) .none kV5 dc5 pm5 an5 cd5 ct5), sl5⟩) (c5 : PySem.W.codeIn K cd5 "_law_root_up" = true) (k5 : PySem.W.keepIn K (.ref f5) = true)
    (a6 : PySem.W.nsIn K mainGlobals "wind_at" = some (some (.ref f6))) (l6 : K.lookup f6 = some ⟨oc6, od6, .func (PySem.W.fnOf "wind_at" "wind_at" (defArgs s_wind_at) (defBody s_wind_at) (defScope s_wind_at) .none kV6 dc6 pm6 an6 cd6 ct6), sl6⟩) (c6 : PySem.W.codeIn K cd6 "wind_at" = true) (k6 : PySem.W.keepIn K (.ref f6) = true)
    (a7 : PySem.W.nsIn K mainGlobals "step_bounds" = some (some (.ref f7))) (l7 : K.lookup f7 = some ⟨oc7, od7, .func (PySem.W.fnOf "step_bounds" "step_bounds" (defArgs s_step_bounds) (defBody s_step_bounds) (defScope s_step_bounds) .none kV7 dc7 pm7 an7 cd7 ct7), sl7⟩) (c7 : PySem.W.codeIn K cd7 "step_bounds" = true) (k7 : PySem.W.keepIn K (.ref f7) = true)
    (a8 : PySem.W.nsIn K mainGlobals "law" = some (some (.ref f8))) (l8 : K.lookup f8 = some ⟨oc8, od8, .func (PySem.W.fnOf "law" "law" (defArgs s_law) (defBody s_law) (defScope s_law) .none kV8 dc8 pm8 an8 cd8 ct8), sl8⟩) (c8 : PySem.W.codeIn K cd8 "law" = true) (k8 : PySem.W.keepIn K (.ref f8) = true)
    (z1 : PySem.W.nsIn K mainGlobals "abs" = some none) (z2 : PySem.W.nsIn K mainGlobals "int" = some none) (z3 : PySem.W.nsIn K mainGlobals "len" = some none) (z4 : PySem.W.nsIn K mainGlobals "bool" = some none) (z5 : PySem.W.nsIn K mainGlobals "isinstance" = some none) (z6 : PySem.W.nsIn K mainGlobals "max" = some none) (z7 : PySem.W.nsIn K mainGlobals "min" = some none) (z8 : PySem.W.nsIn K mainGlobals "range" = some none) (z9 : PySem.W.nsIn K mainGlobals "tuple" = some none) :
    ∃ fd : FuncData, (∀ (s : Shared) (v : Value), BindsTo s fd ⟨[v], []⟩ [("script", v)]) ∧ ∀ base : Heap, K.In base → base.Ns mainGlobals mg → FnOk l.prog w K mg base CX0 3 fa fd ["script"] (spLaw K) := by
  have e := hfa.symm.trans (PySem.W.mg_of X G a8)
  cases e
  have F1 := fun_mk (st := s_law_start) l1 c1 k1
  have F2 := fun_mk (st := s_law_draw) l2 c2 k2
  have F3 := fun_mk (st := s_law_pick) l3 c3 k3
  have F4 := fun_mk (st := s_law_is_number) l4 c4 k4
  have F5 := fun_mk (st := s_law_root_up) l5 c5 k5
  have F6 := fun_mk (st := s_wind_at) l6 c6 k6
  have F7 := fun_mk (st := s_step_bounds) l7 c7 k7
  have F8 := fun_mk (st := s_law) l8 c8 k8
  have b1 := F1.binds (ps := ["script"]) fun _ _ _ _ _ _ us hl => match us, hl with | [_], _ => rfl
  have b2 := F2.binds (ps := ["state", "bound"]) fun _ _ _ _ _ _ us hl => match us, hl with | [_, _], _ => rfl
  have b3 := F3.binds (ps := ["state", "things"]) fun _ _ _ _ _ _ us hl => match us, hl with | [_, _], _ => rfl
  have b4 := F4.binds (ps := ["thing"]) fun _ _ _ _ _ _ us hl => match us, hl with | [_], _ => rfl
  have b5 := F5.binds (ps := ["n"]) fun _ _ _ _ _ _ us hl => match us, hl with | [_], _ => rfl
  have b6 := F6.binds (ps := ["winds", "tick"]) fun _ _ _ _ _ _ us hl => match us, hl with | [_, _], _ => rfl
  have b7 := F7.binds (ps := ["vector", "speed", "slip", "wind"]) fun _ _ _ _ _ _ us hl => match us, hl with | [_, _, _, _], _ => rfl
  have T : Txt mg := { abs := PySem.W.mg_none_of X G z1, int := PySem.W.mg_none_of X G z2, len := PySem.W.mg_none_of X G z3, bool := PySem.W.mg_none_of X G z4, isinstance := PySem.W.mg_none_of X G z5, max := PySem.W.mg_none_of X G z6, min := PySem.W.mg_none_of X G z7, range := PySem.W.mg_none_of X G z8, tuple := PySem.W.mg_none_of X G z9 }
  refine ⟨PySem.W.fnOf "law" "law" (defArgs s_law) (defBody s_law) (defScope s_law) .none kV8 dc8 pm8 an8 cd8 ct8, fun s v => .of_eq rfl, fun base _ _ => ?_⟩
  have D1 : Def l.prog w K mg base 1 "_law_start" ["script"] (spStart K) := .mk' F1 b1 (PySem.W.mg_of X G a1) (ok_law_start F1 T.toTxt0 )
  have D2 : Def l.prog w K mg base 1 "_law_draw" ["state", "bound"] (spDraw K) := .mk' F2 b2 (PySem.W.mg_of X G a2) (ok_law_draw F2 T.toTxt0 )
  have D3 : Def l.prog w K mg base 2 "_law_pick" ["state", "things"] (spPick K) := .mk' F3 b3 (PySem.W.mg_of X G a3) (ok_law_pick F3 T.toTxt0 D2)
  have D4 : Def l.prog w K mg base 1 "_law_is_number" ["thing"] (spIsNum) := .mk' F4 b4 (PySem.W.mg_of X G a4) (ok_law_is_number F4 T.toTxt0 )
  have D5 : Def l.prog w K mg base 1 "_law_root_up" ["n"] (spRoot) := .mk' F5 b5 (PySem.W.mg_of X G a5) (ok_law_root_up F5 T )
  have D6 : Def l.prog w K mg base 1 "wind_at" ["winds", "tick"] (spWind K) := .mk' F6 b6 (PySem.W.mg_of X G a6) (ok_wind_at F6 T )
  have D7 : Def l.prog w K mg base 1 "step_bounds" ["vector", "speed", "slip", "wind"] (spStep) := .mk' F7 b7 (PySem.W.mg_of X G a7) (ok_step_bounds F7 T )
  exact ok_law F8 T D1 D2 D3 D4 D5 D6 D7
theorem walk {l : PySem.W.OpenLaw} {q : Program} {loose : List Str} {XP : (Str → Option Value) → Heap → Prop} {YP : World → Heap → Prop} {d : DefRec} {K : Params → PySem.W.Frag} (hn : l.most = some 63) (hdf : d.params.defaults = [])
    (hY : ∀ (w : World) (h : Heap), YP w h → (K w.params).In h)
    (F : ∀ (w : World) (mg : Str → Option Value) (fa : Addr) (h : Heap), (K w.params).In h → h.Ns mainGlobals mg → mg d.name = some (.ref fa) →
      ∃ fd : FuncData, (∀ (s : Shared) (u : Value), BindsTo s fd ⟨[u], []⟩ [("script", u)]) ∧ ∀ base : Heap, (K w.params).In base → base.Ns mainGlobals mg → FnOk l.prog w (K w.params) mg base CX0 3 fa fd ["script"] (spLaw (K w.params))) :
    PySem.W.WalkO q loose XP YP l.row.toRowW d [] (fun f vs => PySem.call f vs) :=
  L2.walk_of (n := 63) (k := 3) (x := "script") (CX := fun _ => CX0) (sp := fun w => spLaw (K w.params)) hn (by decide) hdf ⟨rfl, by decide, by decide⟩ hY F (fun _ _ a ns hl _ hS => ⟨a, ns, rfl, hS, hl, fun _ => rfl⟩) fun _ _ _ _ _ z => z
end Sk
open PySem PySem.W PyProof.Rows
set_option maxRecDepth 100000 in
set_option maxHeartbeats 0 in
theorem PySem.Challenge.cw_skyapart_k10_bounds_of_a_step_holds : PySem.Challenge.rw_skyapart_k10_bounds_of_a_step.Holds := by
  w_on; o_law; k_head; (case hw => w_witness2)
  k_fill
  refine Sk.walk (l := PySem.Challenge.rw_skyapart_k10_bounds_of_a_step) rfl rfl (fun w h Y => PySem.W.kIn_of Y) ?F
  case F =>
    intro w mg fa h KX G hmg
    refine' Sk.all_mk KX G hmg ?a1 ?l1 ?c1 ?k1 ?a2 ?l2 ?c2 ?k2 ?a3 ?l3 ?c3 ?k3 ?a4 ?l4 ?c4 ?k4 ?a5 ?l5 ?c5 ?k5 ?a6 ?l6 ?c6 ?k6 ?a7 ?l7 ?c7 ?k7 ?a8 ?l8 ?c8 ?k8 ?z1 ?z2 ?z3 ?z4 ?z5 ?z6 ?z7 ?z8 ?z9
    (case a1 => k_is); (case l1 => k_is); (case c1 => k_is); (case k1 => k_is)
    (case a2 => k_is); (case l2 => k_is); (case c2 => k_is); (case k2 => k_is)
    (case a3 => k_is); (case l3 => k_is); (case c3 => k_is); (case k3 => k_is)
    (case a4 => k_is); (case l4 => k_is); (case c4 => k_is); (case k4 => k_is)
    (case a5 => k_is); (case l5 => k_is); (case c5 => k_is); (case k5 => k_is)
    (case a6 => k_is); (case l6 => k_is); (case c6 => k_is); (case k6 => k_is)
    (case a7 => k_is); (case l7 => k_is); (case c7 => k_is); (case k7 => k_is)
    (case a8 => k_is); (case l8 => k_is); (case c8 => k_is); (case k8 => k_is)
    (case z1 => k_is); (case z2 => k_is); (case z3 => k_is); (case z4 => k_is)
    (case z5 => k_is); (case z6 => k_is); (case z7 => k_is); (case z8 => k_is)
    (case z9 => k_is)
