import PyProof.Rows.All
import Wide.All
import OpenK.AllK
import Wide.FinOn
import HandS.Base
import HandS.Call
import HandS.List
import HandS.Comp
import HandS.Ends
import HandS.Dict
import HandS.Iter
import HandS.Words
import HandS.WordsList
import HandS.Wide
import HandS.Gcd
import HandS.IsInst
import Flt.RightSqrt
import KE.DataCmp
import HandS.Deep
import PySem.Challenge.RW_skyapart_k28_whole_pilot
set_option Elab.async false
set_option linter.all false
set_option maxRecDepth 100000
set_option maxHeartbeats 4000000
namespace Sk
open PySem PySem.Spec PyProof.Rows L2

/-! a def of the text, ready to be called by its name -/
structure Def (P : Program) (w : World) (K : PySem.W.Frag) (mg : Str → Option Value) (base : Heap) (k : Nat) (x : Str) (ps : List Str) (sp : Sp) : Prop where
  ex : ∃ (f : Addr) (fd : FuncData), FnOk P w K mg base CX0 k f fd ps sp ∧ mg x = some (.ref f) ∧ PySem.W.keepIn K (.ref f) = true ∧ Binds K fd ps []
theorem Def.mk' {P : Program} {w : World} {K : PySem.W.Frag} {mg : Str → Option Value} {base : Heap} {k : Nat} {x qual : Str} {st : Stmt} {f : Addr} {fd : FuncData} {ps : List Str} {sp : Sp}
    (F : Fun K x qual st f fd) (b : Binds K fd ps []) (m : mg x = some (.ref f)) (G : FnOk P w K mg base CX0 k f fd ps sp) : Def P w K mg base k x ps sp := ⟨f, fd, G, m, F.kp, b⟩
theorem pe_def {X : Cx} {k : Nat} {x : Str} {ps : List Str} {sp : Sp} {p pos : Pos} {e : Expr} {es : List Expr} {t : TA} (D : Def X.prog X.w X.K X.mg X.base k x ps sp) (hr : Room k X.A) (hg : Gl X x)
    (ha : PA X (e :: es) t) (hdb : (x == ("__debug__" : Str)) = false := by decide) (he : starEach (e :: es) X.env = (false, eval e X.env) :: starEach es X.env := by rfl) (hpl : (backTo pos (starEach es X.env)).any (·.1) = false := by rfl) :
    PE X (.Call (.Name x p) (e :: es) [] pos) (tCall sp [] E0 t) := by
  obtain ⟨f, fd, F, m, kp, b⟩ := D.ex
  exact pe_call F hr hg m kp b .nil pass0 ha hdb he hpl
/-- a call's reading: the values of the arguments as they are -/
theorem sp_nil {sp : Sp} {vs : List V} {H : Hp} {Q : VK} {E : XK} (h : sp vs H Q E) : sp (vs ++ []) H Q E := by
  rw [List.append_nil]
  exact h

/-! heaps -/
/-- all but what stands at d is as it was -/
def Keep (d : Addr) (H H' : Hp) : Prop := ∀ c o, H c = some o → c ≠ d → H' c = some o
theorem Keep.refl (d : Addr) (H : Hp) : Keep d H H := fun _ _ h _ => h
theorem Keep.trans {d : Addr} {H H1 H2 : Hp} (a : Keep d H H1) (b : Keep d H1 H2) : Keep d H H2 := fun c o h n => b c o (a c o h n) n
theorem Keep.of {d : Addr} {H H1 : Hp} (a : Same H H1) : Keep d H H1 := fun c o h _ => a c o h
theorem Keep.upd (d : Addr) (H : Hp) (o : HO) : Keep d H (upd H d o) := fun c u h n => by
  rw [upd_ne n]
  exact h
theorem same_new {H : Hp} {p : Addr} {o : HO} (h : H p = none) : Same H (upd H p o) := fun b x e => by
  rw [upd_ne (ne_of_none e h)]
  exact e
theorem lst_ne {H : Hp} {a d : Addr} {xs : List V} {o : HO} (h : H d = some (.dK o')) (ha : H a = some (.lst xs)) : a ≠ d := ne_of ha h (by intro z; cases z)
/-- a list to be read stays, if it isn't the dict at d -/
theorem Keep.seq {K : PySem.W.Frag} {d : Addr} {kvs : List (Key × V)} {H H' : Hp} {a : Addr} {xs : List V} (k : Keep d H H') (hd : H d = some (.dK kvs)) (h : SqL K H a xs) : SqL K H' a xs := by
  rcases h with (h | ⟨o, h⟩) | h
  · exact .inl (.inl (k _ _ h (ne_of h hd (by intro z; cases z))))
  · exact .inl (.inr ⟨o, k _ _ h (ne_of h hd (by intro z; cases z))⟩)
  · exact .inr h
theorem Keep.tup {K : PySem.W.Frag} {d : Addr} {kvs : List (Key × V)} {H H' : Hp} {a : Addr} {xs : List V} (k : Keep d H H') (hd : H d = some (.dK kvs)) (h : SqT K H a xs) : SqT K H' a xs := by
  rcases h with (h | ⟨o, h⟩) | h
  · exact .inl (.inl (k _ _ h (ne_of h hd (by intro z; cases z))))
  · exact .inl (.inr ⟨o, k _ _ h (ne_of h hd (by intro z; cases z))⟩)
  · exact .inr h
theorem Keep.lst {d : Addr} {kvs : List (Key × V)} {H H' : Hp} {a : Addr} {xs : List V} (k : Keep d H H') (hd : H d = some (.dK kvs)) (h : H a = some (.lst xs)) : H' a = some (.lst xs) := k _ _ h (ne_of h hd (by intro z; cases z))
theorem Keep.tp {d : Addr} {kvs : List (Key × V)} {H H' : Hp} {a : Addr} {xs : List V} (k : Keep d H H') (hd : H d = some (.dK kvs)) (h : H a = some (.tup xs)) : H' a = some (.tup xs) := k _ _ h (ne_of h hd (by intro z; cases z))
theorem same_tup {K : PySem.W.Frag} {H H' : Hp} {a : Addr} {xs : List V} (e : Same H H') (h : SqT K H a xs) : SqT K H' a xs := by
  rcases h with (h | ⟨o, h⟩) | h
  · exact .inl (.inl (e _ _ h))
  · exact .inl (.inr ⟨o, e _ _ h⟩)
  · exact .inr h

/-! the state of the draws -/
theorem k01 : ¬ ("cells" : Str) = "at" := by decide +kernel
theorem k02 : ¬ ("cells" : Str) = "left" := by decide +kernel
theorem k03 : ¬ ("cells" : Str) = "mix" := by decide +kernel
theorem k10 : ¬ ("at" : Str) = "cells" := by decide +kernel
theorem k12 : ¬ ("at" : Str) = "left" := by decide +kernel
theorem k13 : ¬ ("at" : Str) = "mix" := by decide +kernel
theorem k20 : ¬ ("left" : Str) = "cells" := by decide +kernel
theorem k21 : ¬ ("left" : Str) = "at" := by decide +kernel
theorem k23 : ¬ ("left" : Str) = "mix" := by decide +kernel
theorem k30 : ¬ ("mix" : Str) = "cells" := by decide +kernel
theorem k31 : ¬ ("mix" : Str) = "at" := by decide +kernel
theorem k32 : ¬ ("mix" : Str) = "left" := by decide +kernel
theorem kr {a b : Str} (h : ¬ a = b) : ¬ (Sum.inr a : Key) = Sum.inr b := fun z => h (Sum.inr.inj z)
def stK (c : Addr) (i l m : Int) : List (Key × V) := [(.inr "cells", .ref c), (.inr "at", .int i), (.inr "left", .int l), (.inr "mix", .int m)]
theorem g_cells (c : Addr) (i l m : Int) : valV (stK c i l m) (.inr "cells") = some (.ref c) := valV_pos rfl
theorem g_at (c : Addr) (i l m : Int) : valV (stK c i l m) (.inr "at") = some (.int i) := by
  unfold stK
  rw [valV_neg (kr k01), valV_pos rfl]
theorem g_left (c : Addr) (i l m : Int) : valV (stK c i l m) (.inr "left") = some (.int l) := by
  unfold stK
  rw [valV_neg (kr k02), valV_neg (kr k12), valV_pos rfl]
theorem g_mix (c : Addr) (i l m : Int) : valV (stK c i l m) (.inr "mix") = some (.int m) := by
  unfold stK
  rw [valV_neg (kr k03), valV_neg (kr k13), valV_neg (kr k23), valV_pos rfl]
theorem put_any {kvs : List (Key × V)} {k : Key} {v y : V} (h : valV kvs k = some v) : putK kvs k y = kvs.map (fun kv => if kv.1 = k then (kv.1, y) else kv) := by
  unfold putK
  rw [valV_any, h]
  exact if_pos rfl
theorem p_at (c : Addr) (i l m j : Int) : putK (stK c i l m) (.inr "at") (.int j) = stK c j l m := by
  rw [put_any (g_at c i l m)]
  unfold stK
  simp only [List.map_cons, List.map_nil, if_neg (kr k01), if_neg (kr k21), if_neg (kr k31), if_true]
theorem p_left (c : Addr) (i l m j : Int) : putK (stK c i l m) (.inr "left") (.int j) = stK c i j m := by
  rw [put_any (g_left c i l m)]
  unfold stK
  simp only [List.map_cons, List.map_nil, if_neg (kr k02), if_neg (kr k12), if_neg (kr k32), if_true]
theorem p_mix (c : Addr) (i l m j : Int) : putK (stK c i l m) (.inr "mix") (.int j) = stK c i l j := by
  rw [put_any (g_mix c i l m)]
  unfold stK
  simp only [List.map_cons, List.map_nil, if_neg (kr k03), if_neg (kr k13), if_neg (kr k23), if_true]
theorem merge_st (c : Addr) (i l m : Int) : mergeK [] (stK c i l m) = stK c i l m := by
  have e0 : putK ([] : List (Key × V)) (.inr "cells" : Key) (.ref c) = [((.inr "cells" : Key), V.ref c)] := rfl
  have e1 : putK [((.inr "cells" : Key), V.ref c)] (.inr "at" : Key) (.int i) = [((.inr "cells" : Key), V.ref c), (.inr "at", .int i)] := by
    rw [putK_new _ (by rw [valV_neg (kr k01)]; rfl)]
    all_goals rfl
  have e2 : putK [((.inr "cells" : Key), V.ref c), (.inr "at", .int i)] (.inr "left") (.int l) = [((.inr "cells" : Key), V.ref c), (.inr "at", .int i), (.inr "left", .int l)] := by
    rw [putK_new _ (by rw [valV_neg (kr k02), valV_neg (kr k12)]; rfl)]
    all_goals rfl
  have e3 : putK [((.inr "cells" : Key), V.ref c), (.inr "at", .int i), (.inr "left", .int l)] (.inr "mix") (.int m) = stK c i l m := by
    rw [putK_new _ (by rw [valV_neg (kr k03), valV_neg (kr k13), valV_neg (kr k23)]; rfl)]
    all_goals rfl
  show putK (putK (putK (putK ([] : List (Key × V)) (.inr "cells" : Key) (.ref c)) (.inr "at" : Key) (.int i)) (.inr "left" : Key) (.int l)) (.inr "mix" : Key) (.int m) = stK c i l m
  rw [e0, e1, e2, e3]
/-- the dict of the draws stands at d -/
structure StAt (K : PySem.W.Frag) (H : Hp) (d : Addr) (c : Addr) (ns : List Int) (i l m : Int) : Prop where
  dc : H d = some (.dK (stK c i l m))
  cs : H c = some (.lst (ns.map V.int))
  nn : ∀ x ∈ ns, 0 ≤ x
  i0 : 0 ≤ i
  l0 : 0 ≤ l
  m0 : 0 ≤ m
  m1 : m < 2147483648
def St1 (K : PySem.W.Frag) (H : Hp) (d c : Addr) : Prop := ∃ ns i l m, StAt K H d c ns i l m
theorem St1.dk {K : PySem.W.Frag} {H : Hp} {d c : Addr} (S : St1 K H d c) : ∃ kvs, H d = some (.dK kvs) := let ⟨_, _, _, _, S⟩ := S; ⟨_, S.dc⟩
theorem St1.cl {K : PySem.W.Frag} {H : Hp} {d c : Addr} (S : St1 K H d c) : ∃ xs, H c = some (.lst xs) := let ⟨_, _, _, _, S⟩ := S; ⟨_, S.cs⟩
/-- the state stands on where both its objects stand -/
theorem St1.of {K : PySem.W.Frag} {H H' : Hp} {d c : Addr} (S : St1 K H d c) (e1 : H' d = H d) (e2 : H' c = H c) : St1 K H' d c := by
  obtain ⟨ns, i, l, m, S⟩ := S
  exact ⟨ns, i, l, m, e1.trans S.dc, e2.trans S.cs, S.nn, S.i0, S.l0, S.m0, S.m1⟩
theorem St1.same {K : PySem.W.Frag} {H H' : Hp} {d c : Addr} (S : St1 K H d c) (e : Same H H') : St1 K H' d c := by
  obtain ⟨ns, i, l, m, S⟩ := S
  exact ⟨ns, i, l, m, e _ _ S.dc, e _ _ S.cs, S.nn, S.i0, S.l0, S.m0, S.m1⟩
theorem St1.new {K : PySem.W.Frag} {H : Hp} {d c a : Addr} {o : HO} (S : St1 K H d c) (h : H a = none) : St1 K (upd H a o) d c := S.same (same_new h)
theorem St1.nd {K : PySem.W.Frag} {H : Hp} {d c a : Addr} (S : St1 K H d c) (h : H a = none) : a ≠ d := let ⟨_, e⟩ := S.dk; (ne_of_none e h).symm
theorem St1.nc {K : PySem.W.Frag} {H : Hp} {d c a : Addr} (S : St1 K H d c) (h : H a = none) : a ≠ c := let ⟨_, e⟩ := S.cl; (ne_of_none e h).symm
theorem St1.put {K : PySem.W.Frag} {H : Hp} {d c a : Addr} {o : HO} (S : St1 K H d c) (h1 : a ≠ d) (h2 : a ≠ c) : St1 K (upd H a o) d c := S.of (upd_ne h1.symm) (upd_ne h2.symm)
theorem StAt.put {K : PySem.W.Frag} {H : Hp} {d c : Addr} {ns : List Int} {i l m i' l' m' : Int} (S : StAt K H d c ns i l m) (h0 : 0 ≤ i') (h1 : 0 ≤ l') (h2 : 0 ≤ m') (h3 : m' < 2147483648) :
    StAt K (upd H d (.dK (stK c i' l' m'))) d c ns i' l' m' := ⟨upd_same, (Keep.upd d H _).lst S.dc S.cs, S.nn, h0, h1, h2, h3⟩
section
variable {H : Hp} {d c : Addr} {i l m j : Int}
theorem dg_cells (h : H d = some (.dK (stK c i l m))) : DGet H d (.str "cells") (some (.ref c)) := g_cells c i l m ▸ DGet.k (k := .inr "cells") h
theorem dg_at (h : H d = some (.dK (stK c i l m))) : DGet H d (.str "at") (some (.int i)) := g_at c i l m ▸ DGet.k (k := .inr "at") h
theorem dg_left (h : H d = some (.dK (stK c i l m))) : DGet H d (.str "left") (some (.int l)) := g_left c i l m ▸ DGet.k (k := .inr "left") h
theorem dg_mix (h : H d = some (.dK (stK c i l m))) : DGet H d (.str "mix") (some (.int m)) := g_mix c i l m ▸ DGet.k (k := .inr "mix") h
theorem st_few : (stK c i l m).length < sizeLine := Nat.lt_of_le_of_lt (show 4 ≤ 1000 by decide) (by decide)
theorem dp_at (h : H d = some (.dK (stK c i l m))) : DPut H d (.str "at") (.int j) (upd H d (.dK (stK c j l m))) := p_at c i l m j ▸ DPut.k (k := .inr "at") h st_few
theorem dp_left (h : H d = some (.dK (stK c i l m))) : DPut H d (.str "left") (.int j) (upd H d (.dK (stK c i j m))) := p_left c i l m j ▸ DPut.k (k := .inr "left") h st_few
theorem dp_mix (h : H d = some (.dK (stK c i l m))) : DPut H d (.str "mix") (.int j) (upd H d (.dK (stK c i l j))) := p_mix c i l m j ▸ DPut.k (k := .inr "mix") h st_few
end
/-! what follows is shown once, for both ways of an if ahead of it -/
theorem cut {t u : TS} {D : Ends} {σ : L2.St} {H : Hp} (I : L2.St → Hp → Prop) (h2 : ∀ σ' H', I σ' H' → u D σ' H') (h1 : (∀ σ' H', I σ' H' → u D σ' H') → t { D with nx := u D } σ H) : tSeq t u D σ H := h1 h2

/-! the promises of the draws -/
/-- the bound's bound -/
def big : Int := 10000000000000000000000000000000000000000000000000000000000000000000000
def spStart (K : PySem.W.Frag) : Sp := fun vs H Q _ => ∃ (a : Addr) (ns : List Int), vs = [.ref a] ∧ SqL K H a (ns.map V.int) ∧ ns.length ≤ 63 ∧ ∀ d c H', H d = none → H c = none → St1 K H' d c → Same H H' → Q (.ref d) H'
def spDraw (K : PySem.W.Frag) : Sp := fun vs H Q _ => ∃ (d c : Addr) (b : Int), vs = [.ref d, .int b] ∧ St1 K H d c ∧ 0 < b ∧ b ≤ 10000000000000000000000000000000000000000000000000000000000000000000000 ∧
  ∀ n H', 0 ≤ n → n < b → St1 K H' d c → Keep d H H' → Q (.int n) H'
def spPick (K : PySem.W.Frag) : Sp := fun vs H Q _ => ∃ (d c l : Addr) (xs : List V), vs = [.ref d, .ref l] ∧ St1 K H d c ∧ SqL K H l xs ∧ xs ≠ [] ∧ xs.length ≤ 1000 ∧
  ∀ v H', v ∈ xs → St1 K H' d c → Keep d H H' → Q v H'
/-- a value's kind -/
def isInt : V → Bool | .int _ => true | _ => false
def isBl : V → Bool | .bl _ => true | _ => false
def spIsNum : Sp := fun vs H Q _ => ∃ n : Int, vs = [.int n] ∧ Q (.bl true) H
theorem log_of {b : Int} (h0 : 0 < b) (h1 : b ≤ 10000000000000000000000000000000000000000000000000000000000000000000000) : CDivW l b := wide_div (b := 300) h0 (by
  have : (b.natAbs : Int) = b := by omega
  have e : (2 : Nat) ^ 300 = 2037035976334486086268445688409378161051468393665936250636140449354381299763336706183397376 := by decide +kernel
  rw [e]
  omega) (by decide) (by decide)
/-! tests whose answer is known -/
theorem ifN {c A B : Prop} [Decidable c] (h : ¬ c) (q : B) : if decide c = true then A else B := by
  rw [decide_eq_false h]
  exact iteF q
theorem ifY {c A B : Prop} [Decidable c] (h : c) (q : A) : if decide c = true then A else B := by
  rw [decide_eq_true h]
  exact iteT q
theorem wm {i j : Int} (hi : i.natAbs < 2 ^ 250) (hj : j.natAbs < 2 ^ 250) : CMulW i j := wide_mul hi hj (by decide) (by decide) (by decide)
theorem ltge (a b : Int) : a < b ∨ b ≤ a := by omega
theorem nm {i : Nat} {x : V} {σ : L2.St} {H : Hp} {k : L2.St → Hp → Prop} (h : k (σ.set i (some x)) H) : gName i x σ H k := h
/-! math.isqrt -/
def rIsqrt : List V → Hp → VK → Prop := fun vs H Q => ∃ n : Int, vs = [.int n] ∧ 0 ≤ n ∧ n.natAbs < 2 ^ 250 ∧ ∀ r : Int, 0 ≤ r → r * r ≤ n → n < (r + 1) * (r + 1) → Q (.int r) H
theorem cr_isqrt {X : Cx} : CallR X (.builtin "math.isqrt") rIsqrt := by
  intro pins s σ H vs us Q I r h
  obtain ⟨a, rfl, h0, h1, q⟩ := h
  obtain ⟨u, rfl, t, rfl⟩ := vals1 r
  have hl : a.toNat.log2 < 250 := by
    have e : a.toNat = a.natAbs := by omega
    rw [e]
    exact PySem.Flt.log2_lt_of (by decide) h1
  obtain ⟨z1, z2⟩ := PySem.Float64.isqrt_spec a.toNat
  refine call_function_meets PySem.W.MGF.kind_isqrt PySem.W.MGF.plain_isqrt PySem.W.MGF.entry_isqrt (PySem.W.MGF.args_isqrt _) (PySem.W.mg_run_isqrt a t (by omega) (by omega) (by omega)).meets ?_
  refine ⟨.int ((Float64.isqrt a.toNat : Nat) : Int), H, I.tok _, ⟨_, rfl⟩, q _ (Int.natCast_nonneg _) ?_ ?_⟩
  · have := Int.ofNat_le.mpr z1
    rw [Int.natCast_mul] at this
    omega
  · have := Int.ofNat_lt.mpr z2
    rw [Int.natCast_mul, Int.natCast_add] at this
    have e : ((a.toNat : Nat) : Int) = a := by omega
    rw [e] at this
    exact this
theorem szOk {xs : List V} (h : Nat.ble xs.length 1000 = true) : xs.length ≤ sizeLine := Nat.le_trans (Nat.le_of_ble_eq_true h) (by decide)
theorem eqN {a b : Int} {A B : Prop} (h : a ≠ b) (q : B) : if decide (V.int a = V.int b) = true then A else B := ifN (fun z => h (V.int.inj z)) q
theorem eqY {a b : Int} {A B : Prop} (h : a = b) (q : A) : if decide (V.int a = V.int b) = true then A else B := ifY (congrArg V.int h) q
theorem neN {a b : Int} {A B : Prop} (h : a = b) (q : B) : if (!decide (V.int a = V.int b)) = true then A else B := iteNS (congrArg V.int h) q
/-! tracked things behind a call that changes the state alone -/
section
variable {K : PySem.W.Frag} {d c : Addr} {H H' : Hp}
theorem Keep.l (k : Keep d H H') (S : St1 K H d c) {a : Addr} {xs : List V} (h : H a = some (.lst xs)) : H' a = some (.lst xs) := let ⟨_, e⟩ := S.dk; k.lst e h
theorem Keep.t (k : Keep d H H') (S : St1 K H d c) {a : Addr} {xs : List V} (h : H a = some (.tup xs)) : H' a = some (.tup xs) := let ⟨_, e⟩ := S.dk; k.tp e h
theorem Keep.sl (k : Keep d H H') (S : St1 K H d c) {a : Addr} {xs : List V} (h : SqL K H a xs) : SqL K H' a xs := let ⟨_, e⟩ := S.dk; k.seq e h
theorem Keep.st (k : Keep d H H') (S : St1 K H d c) {a : Addr} {xs : List V} (h : SqT K H a xs) : SqT K H' a xs := let ⟨_, e⟩ := S.dk; k.tup e h
end
theorem sq0 (x : Int) : 0 ≤ x * x := by
  rcases ltge x 0 with z | z
  · have := Int.mul_nonneg (show 0 ≤ -x by omega) (show 0 ≤ -x by omega)
    rw [Int.neg_mul_neg] at this
    exact this
  · exact Int.mul_nonneg z z
theorem atI0 {α : Type} {xs : List α} {j : Nat} {v : α} (h : xs[j]? = some v) : atI xs (0 + (j : Int)) = some v := by
  rw [Int.zero_add]
  exact atI_nat h
theorem atI_back {α : Type} {xs : List α} {v : α} (h : xs.getLast? = some v) : atI xs (-1) = some v := by
  obtain ⟨ys, rfl⟩ := List.getLast?_eq_some_iff.mp h
  exact atI_last ys v
theorem eqvN {d : PyData} {A B : Prop} (h : d.canLay0 = true) (q : B) : if (!PyData.eqv d d) = true then A else B := by
  rw [SeqAt.eqv_refl d h]
  exact q
theorem getInt {ns : List Int} {i : Nat} {y : V} (h : (ns.map V.int)[i]? = some y) : ∃ x, y = .int x ∧ x ∈ ns ∧ i < ns.length ∧ ns.take (i + 1) = ns.take i ++ [x] := by
  rw [List.getElem?_map] at h
  cases e : ns[i]? with
  | none => rw [e] at h; cases h
  | some x =>
    rw [e] at h
    exact ⟨x, (Option.some.inj h).symm, List.mem_of_getElem? e, (List.getElem?_eq_some_iff.mp e).1, by rw [List.take_add_one, e]; rfl⟩
/-- the built-in names that the text has not bound -/
structure Txt0 (mg : Str → Option Value) : Prop where
  abs : mg "abs" = none
  int : mg "int" = none
  len : mg "len" = none
  bool : mg "bool" = none
  isinstance : mg "isinstance" = none
structure TxtA (mg : Str → Option Value) : Prop extends Txt0 mg where
  max : mg "max" = none
  min : mg "min" = none
  range : mg "range" = none
  tuple : mg "tuple" = none
  list : mg "list" = none
  sum : mg "sum" = none
  any : mg "any" = none
  all : mg "all" = none
  sorted : mg "sorted" = none
  dict : mg "dict" = none
  enumerate : mg "enumerate" = none
theorem getMap {α : Type} {f : α → V} {ns : List α} {i : Nat} {y : V} (h : (ns.map f)[i]? = some y) : ∃ x, y = f x ∧ x ∈ ns ∧ i < ns.length ∧ ns.take (i + 1) = ns.take i ++ [x] := by
  rw [List.getElem?_map] at h
  cases e : ns[i]? with
  | none => rw [e] at h; cases h
  | some x =>
    rw [e] at h
    exact ⟨x, (Option.some.inj h).symm, List.mem_of_getElem? e, (List.getElem?_eq_some_iff.mp e).1, by rw [List.take_add_one, e]; rfl⟩
theorem sq_le {x b : Int} (h0 : -b ≤ x) (h1 : x ≤ b) : x * x ≤ b * b := by
  rcases ltge x 0 with z | z
  · have := Int.mul_le_mul (show -x ≤ b by omega) (show -x ≤ b by omega) (show 0 ≤ -x by omega) (show 0 ≤ b by omega)
    rw [Int.neg_mul_neg] at this
    exact this
  · exact Int.mul_le_mul h1 h1 z (by omega)
/-- 2 ^ (24 - i) -/
def pw (i : Nat) : Int := (2 ^ (24 - i) : Nat)
theorem pw_step {i : Nat} (h : i < 24) : pw i = 2 * pw (i + 1) := by
  unfold pw
  rw [show 24 - i = (24 - (i + 1)) + 1 by omega, Nat.pow_succ]
  omega
theorem mapAt {α : Type} {f : α → V} {ns : List α} {i : Nat} (h : i < ns.length) : (ns.map f)[i]? = some (f ns[i]) := by simp [h]
theorem at_mod {α : Type} {f : α → V} {ns : List α} {z m : Int} (hm : m = (ns.length : Int)) (h : 0 < ns.length) : ∃ x, x ∈ ns ∧ atI (ns.map f) (z % m) = some (f x) := by
  obtain ⟨j, hj⟩ : ∃ j : Nat, z % m = (j : Int) := ⟨(z % m).toNat, by have := Int.emod_nonneg z (show m ≠ 0 by omega); omega⟩
  have hj2 : j < ns.length := by have := Int.emod_lt_of_pos z (show 0 < m by omega); omega
  exact ⟨ns[j], List.getElem_mem hj2, by rw [hj]; exact atI_nat (mapAt hj2)⟩
/-- all that stood, but at d -/
theorem Keep.none {d a : Addr} {H H' : Hp} (k : Keep d H H') (n : a ≠ d) (h : H' a = none) : H a = none := by
  cases e : H a with
  | none => rfl
  | some o => rw [k _ _ e n] at h; cases h
theorem atI_lastn {α : Type} {xs : List α} {v : α} {m : Int} (hm : m = (xs.length : Int) - 1) (h : xs.getLast? = some v) : atI xs m = some v := by
  obtain ⟨ys, rfl⟩ := List.getLast?_eq_some_iff.mp h
  rw [hm, List.length_append, List.length_singleton]
  have e : ((ys.length + 1 : Nat) : Int) - 1 = ((ys.length : Nat) : Int) := by omega
  rw [e]
  exact atI_nat (by simp)
theorem sq_swap (a b : Int) : (a - b) * (a - b) = (b - a) * (b - a) := by
  have e : a - b = -(b - a) := by omega
  rw [e, Int.neg_mul_neg]
def rLenK (K : PySem.W.Frag) : List V → Hp → VK → Prop := fun xs H Q => ∃ p ys, xs = [V.ref p] ∧ (SqL K H p ys ∨ SqT K H p ys) ∧ Q (.int ys.length) H
end Sk

set_option Elab.async false
set_option linter.all false
set_option maxRecDepth 100000
set_option maxHeartbeats 4000000
namespace Sk
open PySem PySem.Spec PyProof.Rows L2
/-! a method of the text, ready to be called -/
structure MDef (P : Program) (w : World) (K : PySem.W.Frag) (mg : Str → Option Value) (base : Heap) (k : Nat) (C : Addr) (m : Str) (ps : List Str) (sp : Sp) : Prop where
  ex : ∃ (f : Addr) (fd : FuncData), FnOk P w K mg base CX0 k f fd ps sp ∧ Meth K C m f ∧ Binds K fd ps []
theorem pe_mdef {X : Cx} {k : Nat} {C : Addr} {m : Str} {ps : List Str} {sp : Sp} {pos apos : Pos} {o e : Expr} {es : List Expr} {ta : TE} {t : TA} {pl : Sem Bool} (D : MDef X.prog X.w X.K X.mg X.base k C m ps sp) (cl : Cls X.K C) (hr : Room k X.A) (ho : PE X o ta)
    (ha : PA X (e :: es) t) (he : starEach (e :: es) X.env = (false, eval e X.env) :: starEach es X.env := by rfl) (hpl : (backTo pos (starEach es X.env)).any (·.1) = false := by rfl)
    (ht : eval (.Call (.Attribute o m apos) (e :: es) [] pos) X.env = (do
      let ov ← eval o X.env
      standAt apos.atName
      let (f, first) ← holding [ov] (getMethod ov m pl)
      callWith pos f first (backTo pos (starEach (e :: es) X.env)) (backToKw pos (keywordEach [] X.env))) := by rfl) :
    PE X (.Call (.Attribute o m apos) (e :: es) [] pos) (tMeth C m sp [] E0 ta t) := by
  obtain ⟨f, fd, F, M, b⟩ := D.ex
  exact pe_meth ho cl M F hr b .nil pass0 ha he hpl ht
theorem pe_mdef0 {X : Cx} {k : Nat} {C : Addr} {m : Str} {ps : List Str} {sp : Sp} {pos apos : Pos} {o : Expr} {ta : TE} {pl : Sem Bool} (D : MDef X.prog X.w X.K X.mg X.base k C m ps sp) (cl : Cls X.K C) (hr : Room k X.A) (ho : PE X o ta)
    (ht : eval (.Call (.Attribute o m apos) [] [] pos) X.env = (do
      let ov ← eval o X.env
      standAt apos.atName
      let (f, first) ← holding [ov] (getMethod ov m pl)
      callWith pos f first (backTo pos (starEach [] X.env)) (backToKw pos (keywordEach [] X.env))) := by rfl) :
    PE X (.Call (.Attribute o m apos) [] [] pos) (tMeth C m sp [] E0 ta tNil) := by
  obtain ⟨f, fd, F, M, b⟩ := D.ex
  exact pe_meth0 ho cl M F hr b .nil pass0 ht
/-! a class of the text, ready to be made -/
structure CDef (P : Program) (w : World) (K : PySem.W.Frag) (mg : Str → Option Value) (base : Heap) (k : Nat) (C : Addr) (x : Str) (ps : List Str) (sp : Sp) : Prop where
  ex : ∃ (f : Addr) (fd : FuncData), FnOk P w K mg base CX0 k f fd ps sp ∧ Mk K C f ∧ mg x = some (.ref C) ∧ Binds K fd ps []
theorem pe_cdef {X : Cx} {k : Nat} {C : Addr} {x : Str} {ps : List Str} {sp : Sp} {p pos : Pos} {e : Expr} {es : List Expr} {t : TA} (D : CDef X.prog X.w X.K X.mg X.base k C x ps sp) (hr : Room (k + 1) X.A) (hg : Gl X x)
    (ha : PA X (e :: es) t) (hdb : (x == ("__debug__" : Str)) = false := by decide) (he : starEach (e :: es) X.env = (false, eval e X.env) :: starEach es X.env := by rfl) (hpl : (backTo pos (starEach es X.env)).any (·.1) = false := by rfl) :
    PE X (.Call (.Name x p) (e :: es) [] pos) (tMake C sp [] E0 t) := by
  obtain ⟨f, fd, F, M, m, b⟩ := D.ex
  exact pe_make M F hr hg m b .nil pass0 ha hdb he hpl
abbrev sOk (x : Str) : Prop := PySem.PyData.strOk x = true
/-! data that can be compared -/
theorem cla {xs : List PyData} (h : ∀ x ∈ xs, x.canLay0 = true) : PyData.canLayAll0 xs = true := by
  induction xs with
  | nil => rfl
  | cons x xs ih =>
    show (PyData.canLay0 x && PyData.canLayAll0 xs) = true
    rw [h x List.mem_cons_self, ih fun y hy => h y (List.mem_cons_of_mem _ hy)]
    rfl
theorem dpa {xs : List PyData} {n : Nat} (h : ∀ x ∈ xs, x.depth ≤ n) : PyData.depthAll xs ≤ n := by
  induction xs with
  | nil => exact Nat.zero_le _
  | cons x xs ih =>
    show max (PyData.depth x) (PyData.depthAll xs) ≤ n
    exact Nat.max_le.mpr ⟨h x List.mem_cons_self, ih fun y hy => h y (List.mem_cons_of_mem _ hy)⟩
theorem sh_of {d : PyData} (h1 : d.canLay0 = true) (h2 : d.depth ≤ 64) : SeqAt.shaped d = true := by
  unfold SeqAt.shaped
  rw [h1, decide_eq_true h2]
  rfl
theorem can_str {ns : List Str} (h : ∀ n ∈ ns, sOk n) : (PyData.tuple (ns.map PyData.str)).canLay0 = true := by
  show PyData.canLayAll0 _ = true
  refine cla fun x hx => ?_
  obtain ⟨n, hn, rfl⟩ := List.mem_map.mp hx
  exact h n hn
theorem sh_str {ns : List Str} (h : ∀ n ∈ ns, sOk n) : SeqAt.shaped (.tuple (ns.map PyData.str)) = true := by
  refine sh_of (can_str h) ?_
  show PyData.depthAll _ + 1 ≤ 64
  have : PyData.depthAll (ns.map PyData.str) ≤ 1 := dpa fun x hx => by
    obtain ⟨n, _, rfl⟩ := List.mem_map.mp hx
    exact Nat.zero_le _
  omega
theorem dpAll_str {K : PySem.W.Frag} {H : Hp} : ∀ xs : List Str, DpAll K H (xs.map V.str) (xs.map PyData.str)
  | [] => .nil
  | x :: xs => .cons (.str x) (dpAll_str xs)
theorem hu65 {A : Around} {k : Nat} (hr : Room k A) : A.units + 65 < cLine := by
  have := hr.un
  omega
/-- all tuples stay -/
def TK (H H' : Hp) : Prop := ∀ a xs, H a = some (.tup xs) → H' a = some (.tup xs)
theorem TK.refl (H : Hp) : TK H H := fun _ _ h => h
theorem TK.trans {H H1 H2 : Hp} (a : TK H H1) (b : TK H1 H2) : TK H H2 := fun x xs h => b x xs (a x xs h)
theorem Same.tk {H H' : Hp} (e : Same H H') : TK H H' := fun _ _ h => e _ _ h
theorem Keep.tk {d : Addr} {H H' : Hp} {o : HO} (k : Keep d H H') (h : H d = some o) (n : ∀ xs, o ≠ .tup xs) : TK H H' := fun a xs e => k a _ e (ne_of e h (fun z => n xs z.symm))
theorem tk_new {H : Hp} {p : Addr} {o : HO} (h : H p = none) : TK H (upd H p o) := Same.tk (same_new h)
theorem keep_new {d p : Addr} {H H1 : Hp} {o : HO} (k : Keep d H H1) (h : H1 p = none) : Keep d H (upd H1 p o) := k.trans (Keep.of (same_new h))
theorem keep_put {d : Addr} {H H1 : Hp} {o : HO} (k : Keep d H H1) : Keep d H (upd H1 d o) := k.trans (Keep.upd d H1 o)
end Sk

set_option Elab.async false
set_option linter.all false
set_option maxRecDepth 100000
set_option maxHeartbeats 4000000
namespace Sk
open PySem PySem.Spec PyProof.Rows L2
/-! data of clearances, courses, messages, answers: all tuples -/
def VAt (H : Hp) (v : V) (d : PyData) : Prop := (∃ i, v = .int i ∧ d = .int i) ∨ (∃ (t : Addr) (ss : List Str), v = .ref t ∧ H t = some (.tup (ss.map V.str)) ∧ d = .tuple (ss.map PyData.str) ∧ (∀ s ∈ ss, sOk s))
section
variable {K : PySem.W.Frag} {H H' : Hp} {v : V} {d : PyData} {a q p : Addr}
theorem VAt.tk (h : VAt H v d) (k : TK H H') : VAt H' v d := by
  rcases h with h | ⟨t, ss, e1, e2, e3, e4⟩
  · exact .inl h
  · exact .inr ⟨t, ss, e1, k _ _ e2, e3, e4⟩
theorem VAt.dp (h : VAt H v d) : Dp K H v d := by
  rcases h with ⟨i, rfl, rfl⟩ | ⟨t, ss, rfl, e2, rfl, e4⟩
  · exact .int i
  · exact .tup (.inl (.inl e2)) (dpAll_str ss)
theorem VAt.can (h : VAt H v d) : d.canLay0 = true := by
  rcases h with ⟨i, rfl, rfl⟩ | ⟨t, ss, rfl, e2, rfl, e4⟩
  · rfl
  · exact can_str e4
theorem VAt.dep (h : VAt H v d) : d.depth ≤ 2 := by
  rcases h with ⟨i, rfl, rfl⟩ | ⟨t, ss, rfl, e2, rfl, e4⟩
  · exact Nat.zero_le _
  · show PyData.depthAll _ + 1 ≤ 2
    have : PyData.depthAll (ss.map PyData.str) ≤ 1 := dpa fun x hx => by
      obtain ⟨n, _, rfl⟩ := List.mem_map.mp hx
      exact Nat.zero_le _
    omega
structure CL where
  f : Str
  n : Int
  b : Int
  g : Addr
  w : Str
  v : V
  vd : PyData
structure ClAt (H : Hp) (a : Addr) (z : CL) : Prop where
  t : H a = some (.tup [.str z.f, .int z.n, .int z.b, .ref z.g])
  g : H z.g = some (.tup [.str z.w, z.v])
  v : VAt H z.v z.vd
  f : sOk z.f
  w : z.w = "level" ∨ z.w = "speed" ∨ z.w = "route"
def CL.dt (z : CL) : PyData := .tuple [.str z.f, .int z.n, .int z.b, .tuple [.str z.w, z.vd]]
theorem w_ok {w : Str} (h : w = "level" ∨ w = "speed" ∨ w = "route") : sOk w := by rcases h with rfl | rfl | rfl <;> decide +kernel
variable {z : CL}
theorem ClAt.tk (h : ClAt H a z) (k : TK H H') : ClAt H' a z := ⟨k _ _ h.t, k _ _ h.g, h.v.tk k, h.f, h.w⟩
theorem ClAt.dp (h : ClAt H a z) : Dp K H (.ref a) z.dt := .tup (.inl (.inl h.t)) (.cons (.str _) (.cons (.int _) (.cons (.int _) (.cons (.tup (.inl (.inl h.g)) (.cons (.str _) (.cons h.v.dp .nil))) .nil))))
theorem ClAt.can (h : ClAt H a z) : z.dt.canLay0 = true := by
  show PyData.canLayAll0 _ = true
  refine cla fun x hx => ?_
  simp only [List.mem_cons, List.not_mem_nil, or_false] at hx
  rcases hx with rfl | rfl | rfl | rfl
  · exact h.f
  · rfl
  · rfl
  · show PyData.canLayAll0 _ = true
    refine cla fun x hx => ?_
    simp only [List.mem_cons, List.not_mem_nil, or_false] at hx
    rcases hx with rfl | rfl
    · exact w_ok h.w
    · exact h.v.can
theorem ClAt.dep (h : ClAt H a z) : z.dt.depth ≤ 10 := by
  show PyData.depthAll _ + 1 ≤ 10
  have : PyData.depthAll [.str z.f, .int z.n, .int z.b, .tuple [.str z.w, z.vd]] ≤ 6 := dpa fun x hx => by
    simp only [List.mem_cons, List.not_mem_nil, or_false] at hx
    rcases hx with rfl | rfl | rfl | rfl
    · exact Nat.zero_le _
    · exact Nat.zero_le _
    · exact Nat.zero_le _
    · show PyData.depthAll _ + 1 ≤ 6
      have : PyData.depthAll [.str z.w, z.vd] ≤ 2 := dpa fun x hx => by
        simp only [List.mem_cons, List.not_mem_nil, or_false] at hx
        rcases hx with rfl | rfl
        · exact Nat.zero_le _
        · exact h.v.dep
      omega
  omega
theorem ClAt.sh (h : ClAt H a z) : SeqAt.shaped z.dt = true := sh_of h.can (Nat.le_trans h.dep (by decide))
/-- a course -/
structure CO where
  x : V
  y : V
  z : V
  dx : PyData
  dy : PyData
  dz : PyData
structure CoAt (H : Hp) (a : Addr) (c : CO) : Prop where
  t : H a = some (.tup [c.x, c.y, c.z])
  x : VAt H c.x c.dx
  y : VAt H c.y c.dy
  z : VAt H c.z c.dz
def CO.dt (c : CO) : PyData := .tuple [c.dx, c.dy, c.dz]
variable {c : CO}
theorem CoAt.tk (h : CoAt H a c) (k : TK H H') : CoAt H' a c := ⟨k _ _ h.t, h.x.tk k, h.y.tk k, h.z.tk k⟩
theorem CoAt.dp (h : CoAt H a c) : Dp K H (.ref a) c.dt := .tup (.inl (.inl h.t)) (.cons h.x.dp (.cons h.y.dp (.cons h.z.dp .nil)))
theorem CoAt.can (h : CoAt H a c) : c.dt.canLay0 = true := by
  show PyData.canLayAll0 _ = true
  refine cla fun x hx => ?_
  simp only [List.mem_cons, List.not_mem_nil, or_false] at hx
  rcases hx with rfl | rfl | rfl
  · exact h.x.can
  · exact h.y.can
  · exact h.z.can
theorem CoAt.dep (h : CoAt H a c) : c.dt.depth ≤ 3 := by
  show PyData.depthAll _ + 1 ≤ 3
  have : PyData.depthAll [c.dx, c.dy, c.dz] ≤ 2 := dpa fun x hx => by
    simp only [List.mem_cons, List.not_mem_nil, or_false] at hx
    rcases hx with rfl | rfl | rfl
    · exact h.x.dep
    · exact h.y.dep
    · exact h.z.dep
  omega
theorem CoAt.sh (h : CoAt H a c) : SeqAt.shaped c.dt = true := sh_of h.can (Nat.le_trans h.dep (by decide))
def CO.ch (c : CO) (z : CL) : CO := if z.w = "route" then { c with x := z.v, dx := z.vd } else if z.w = "speed" then { c with y := z.v, dy := z.vd } else { c with z := z.v, dz := z.vd }
/-! the state of a pilot -/
abbrev Hd := Option (Addr × CL)
def oV : Hd → V
  | none => .non
  | some z => .ref z.1
def OAt (H : Hp) (o : Hd) : Prop := ∀ z, o = some z → ClAt H z.1 z.2
theorem OAt.tk {o : Hd} (h : OAt H o) (k : TK H H') : OAt H' o := fun z e => (h z e).tk k
structure AS where
  f : Str
  co : CO
  he : Hd
  nx : Hd
  dn : Int
  ts : List Int
def Sb (i : Int) : Prop := -1000000 ≤ i ∧ i ≤ 1000000
/-- that it is a state: what stands in memory apart from its own objects -/
structure AsAt (H : Hp) (s : AS) : Prop where
  he : OAt H s.he
  nx : OAt H s.nx
  f : sOk s.f
  ts : s.ts.length ≤ 1000
theorem AsAt.tk {s : AS} (h : AsAt H s) (k : TK H H') : AsAt H' s := ⟨h.he.tk k, h.nx.tk k, h.f, h.ts⟩
def plf (s : AS) (ca tk : Addr) : List (Str × V) := [("_flight", .str s.f), ("_course", .ref ca), ("_heard", oV s.he), ("_upcoming", oV s.nx), ("_done", .int s.dn), ("_taken", .ref tk)]
/-- a pilot -/
structure PiAt (C : Addr) (H : Hp) (p tk : Addr) (s : AS) : Prop where
  o : ∃ dx ca, H p = some (.ins C dx (plf s ca tk)) ∧ CoAt H ca s.co
  tk : ∃ ks : List (Key × V), H tk = some (.dK ks) ∧ ks.length ≤ s.ts.length ∧ ∀ n, (valV ks (.inl n)).isSome = true ↔ n ∈ s.ts
  st : AsAt H s
def mkv (s : AS) (ca tl : Addr) : List (Key × V) := [(.inr "flight", .str s.f), (.inr "course", .ref ca), (.inr "heard", oV s.he), (.inr "next", oV s.nx), (.inr "done", .int s.dn), (.inr "taken", .ref tl)]
/-- the law's own -/
structure MiAt (H : Hp) (m tl : Addr) (s : AS) : Prop where
  o : ∃ ca, H m = some (.dK (mkv s ca tl)) ∧ CoAt H ca s.co
  tl : H tl = some (.lst (s.ts.map V.int))
  st : AsAt H s
/-- messages -/
inductive Msg
  | cl (w : Str) (a : Addr) (z : CL)
  | no (w : Str) (f : Str) (n : Int)
def MsgAt (H : Hp) (q : Addr) : Msg → Prop
  | .cl w a z => H q = some (.tup [.str w, .ref a]) ∧ ClAt H a z ∧ (w = "say" ∨ w = "confirm" ∨ w = "read")
  | .no w f n => H q = some (.tup [.str w, .str f, .int n]) ∧ sOk f ∧ (w = "ask" ∨ w = "taken" ∨ w = "not")
theorem MsgAt.tk {m : Msg} (h : MsgAt H q m) (k : TK H H') : MsgAt H' q m := by
  cases m with
  | cl w a z => exact ⟨k _ _ h.1, h.2.1.tk k, h.2.2⟩
  | no w f n => exact ⟨k _ _ h.1, h.2⟩
/-- answers -/
inductive Rp
  | read (a : Addr) (z : CL)
  | num (w : Str) (f : Str) (n : Int)
def RpAt (H : Hp) (v : V) : Option Rp → Prop
  | none => v = .non
  | some (.read a z) => ∃ q, v = .ref q ∧ H q = some (.tup [.str "read", .ref a]) ∧ ClAt H a z
  | some (.num w f n) => ∃ q, v = .ref q ∧ H q = some (.tup [.str w, .str f, .int n]) ∧ sOk f ∧ (w = "taken" ∨ w = "not")
theorem RpAt.tk {r : Option Rp} (h : RpAt H v r) (k : TK H H') : RpAt H' v r := by
  match r, h with
  | none, h => exact h
  | some (.read a z), ⟨q, e, h1, h2⟩ => exact ⟨q, e, k _ _ h1, h2.tk k⟩
  | some (.num w f n), ⟨q, e, h1, h2⟩ => exact ⟨q, e, k _ _ h1, h2⟩
def rpD : Option Rp → PyData
  | none => .none
  | some (.read _ z) => .tuple [.str "read", z.dt]
  | some (.num w f n) => .tuple [.str w, .str f, .int n]
theorem RpAt.dp {r : Option Rp} (h : RpAt H v r) : Dp K H v (rpD r) := by
  match r, h with
  | none, h => rw [show v = .non from h]; exact .non
  | some (.read a z), ⟨q, e, h1, h2⟩ => rw [e]; exact .tup (.inl (.inl h1)) (.cons (.str _) (.cons h2.dp .nil))
  | some (.num w f n), ⟨q, e, h1, h2⟩ => rw [e]; exact .tup (.inl (.inl h1)) (.cons (.str _) (.cons (.str _) (.cons (.int _) .nil)))
theorem RpAt.can {r : Option Rp} (h : RpAt H v r) : (rpD r).canLay0 = true := by
  match r, h with
  | none, h => rfl
  | some (.read a z), ⟨q, e, h1, h2⟩ =>
    show PyData.canLayAll0 _ = true
    refine cla fun x hx => ?_
    simp only [List.mem_cons, List.not_mem_nil, or_false] at hx
    rcases hx with rfl | rfl
    · exact (by decide +kernel : sOk "read")
    · exact h2.can
  | some (.num w f n), ⟨q, e, h1, h2, h3⟩ =>
    show PyData.canLayAll0 _ = true
    refine cla fun x hx => ?_
    simp only [List.mem_cons, List.not_mem_nil, or_false] at hx
    rcases hx with rfl | rfl | rfl
    · rcases h3 with rfl | rfl
      · exact (by decide +kernel : sOk "taken")
      · exact (by decide +kernel : sOk "not")
    · exact h2
    · rfl
theorem RpAt.sh {r : Option Rp} (h : RpAt H v r) : SeqAt.shaped (rpD r) = true := by
  refine sh_of h.can ?_
  match r, h with
  | none, h => exact Nat.zero_le _
  | some (.read a z), ⟨q, e, h1, h2⟩ =>
    show PyData.depthAll _ + 1 ≤ 64
    have : PyData.depthAll [.str "read", z.dt] ≤ 10 := dpa fun x hx => by
      simp only [List.mem_cons, List.not_mem_nil, or_false] at hx
      rcases hx with rfl | rfl
      · exact Nat.zero_le _
      · exact h2.dep
    omega
  | some (.num w f n), ⟨q, e, h1, h2, h3⟩ =>
    show PyData.depthAll _ + 1 ≤ 64
    have : PyData.depthAll [.str w, .str f, .int n] ≤ 10 := dpa fun x hx => by
      simp only [List.mem_cons, List.not_mem_nil, or_false] at hx
      rcases hx with rfl | rfl | rfl <;> exact Nat.zero_le _
    omega
end
/-! what is done -/
open Classical in
noncomputable def sayA (s : AS) (a : Addr) (z : CL) (t : Int) : AS × Option Rp :=
  if z.n ≤ s.dn ∨ z.b ≤ t ∨ s.nx ≠ none then (s, none) else if ∃ h, s.he = some h ∧ z.n < h.2.n then (s, none) else ({ s with he := some (a, z) }, some (.read a z))
open Classical in
noncomputable def confA (s : AS) (a : Addr) (z : CL) (t : Int) : AS := if (∃ h, s.he = some h ∧ PyData.eqv z.dt h.2.dt = true) ∧ t < z.b then { s with nx := some (a, z), he := none } else s
open Classical in
noncomputable def askA (s : AS) (n : Int) : AS × Option Rp :=
  if ∃ h, s.nx = some h ∧ h.2.n = n then (s, none) else if n ∈ s.ts then (s, some (.num "taken" s.f n)) else
    ({ s with dn := if n > s.dn then n else s.dn, he := if ∃ h, s.he = some h ∧ h.2.n ≤ n then none else s.he }, some (.num "not" s.f n))
open Classical in
noncomputable def hearA (s : AS) (m : Msg) (t : Int) : AS × Option Rp := match m with
  | .cl w a z => if z.f = s.f then (if w = "say" then sayA s a z t else if w = "confirm" then (confA s a z t, none) else (s, none)) else (s, none)
  | .no w f n => if w = "ask" ∧ f = s.f then askA s n else (s, none)
def begA (s : AS) (t : Int) : AS × Option Rp := match s.nx with
  | none => (s, none)
  | some h => if t < h.2.b then (s, none) else ({ s with nx := none, co := s.co.ch h.2, ts := s.ts ++ [h.2.n], dn := if h.2.n > s.dn then h.2.n else s.dn }, some (.num "taken" s.f h.2.n))
/-! the class -/
structure PilY (K : PySem.W.Frag) (mg : Str → Option Value) (C : Addr) : Prop where
  cl : Cls K C
  n1 : NoAttr K C "_flight"
  n2 : NoAttr K C "_course"
  n3 : NoAttr K C "_heard"
  n4 : NoAttr K C "_upcoming"
  n5 : NoAttr K C "_done"
  n6 : NoAttr K C "_taken"
end Sk
namespace Sk
open PySem PySem.Spec PyProof.Rows L2
/-! promises -/
def Oth (T : List Addr) (H H' : Hp) : Prop := ∀ b o, H b = some o → b ∉ T → H' b = some o
theorem Oth.refl (T : List Addr) (H : Hp) : Oth T H H := fun _ _ e _ => e
theorem Oth.of {T : List Addr} {H H' : Hp} (s : Same H H') : Oth T H H' := fun b o e _ => s b o e
theorem Oth.trans {T : List Addr} {H H1 H2 : Hp} (a : Oth T H H1) (b : Oth T H1 H2) : Oth T H H2 := fun x o e n => b x o (a x o e n) n
theorem Oth.put {T : List Addr} {H : Hp} {a : Addr} {o : HO} (h : a ∈ T) : Oth T H (upd H a o) := fun b x e n => by
  rw [upd_ne (fun z => n (by rw [z]; exact h))]
  exact e
theorem tk_put {H : Hp} {a : Addr} {o o' : HO} (h : H a = some o) (n : ∀ xs, o ≠ .tup xs) : TK H (upd H a o') := fun b xs e => by
  rw [upd_ne (ne_of e h (fun z => n xs z.symm))]
  exact e
def spChanged : Sp := fun vs H Q _ => ∃ (ca a : Addr) (c : CO) (z : CL), vs = [.ref ca, .ref z.g] ∧ CoAt H ca c ∧ ClAt H a z ∧ ∀ q H', H q = none → Same H H' → CoAt H' q (c.ch z) → Q (.ref q) H'
def spCourse28 (C : Addr) : Sp := fun vs H Q _ => ∃ (p tk : Addr) (s : AS), vs = [.ref p] ∧ PiAt C H p tk s ∧ ∀ ca, CoAt H ca s.co → (∃ dx, H p = some (.ins C dx (plf s ca tk))) → Q (.ref ca) H
def spSay (C : Addr) : Sp := fun vs H Q _ => ∃ (p tk a : Addr) (s : AS) (z : CL) (t : Int), vs = [.ref p, .ref a, .int t] ∧ PiAt C H p tk s ∧ ClAt H a z ∧ ∀ v H', PiAt C H' p tk (sayA s a z t).1 → RpAt H' v (sayA s a z t).2 → Oth [p, tk] H H' → TK H H' → Q v H'
def spConf (C : Addr) : Sp := fun vs H Q _ => ∃ (p tk a : Addr) (s : AS) (z : CL) (t : Int), vs = [.ref p, .ref a, .int t] ∧ PiAt C H p tk s ∧ ClAt H a z ∧ ∀ H', PiAt C H' p tk (confA s a z t) → Oth [p, tk] H H' → TK H H' → Q .non H'
def spAsk (C : Addr) : Sp := fun vs H Q _ => ∃ (p tk : Addr) (s : AS) (n : Int), vs = [.ref p, .int n] ∧ PiAt C H p tk s ∧ ∀ v H', PiAt C H' p tk (askA s n).1 → RpAt H' v (askA s n).2 → Oth [p, tk] H H' → TK H H' → Q v H'
def spHear (C : Addr) : Sp := fun vs H Q _ => ∃ (p tk q : Addr) (s : AS) (m : Msg) (t : Int), vs = [.ref p, .ref q, .int t] ∧ PiAt C H p tk s ∧ MsgAt H q m ∧ ∀ v H', PiAt C H' p tk (hearA s m t).1 → RpAt H' v (hearA s m t).2 → Oth [p, tk] H H' → TK H H' → Q v H'
def spBegin28 (C : Addr) : Sp := fun vs H Q _ => ∃ (p tk : Addr) (s : AS) (t : Int), vs = [.ref p, .int t] ∧ PiAt C H p tk s ∧ s.ts.length < 1000 ∧ ∀ v H', PiAt C H' p tk (begA s t).1 → RpAt H' v (begA s t).2 → Oth [p, tk] H H' → TK H H' → Q v H'
def spPil (C : Addr) : Sp := fun vs H Q _ => ∃ (p dx ca : Addr) (f : Str) (c : CO), vs = [.ref p, .str f, .ref ca] ∧ H p = some (.ins C dx []) ∧ CoAt H ca c ∧ sOk f ∧ ∀ tk H', H tk = none → tk ≠ p → PiAt C H' p tk ⟨f, c, none, none, 0, []⟩ → Oth [p] H H' → Q .non H'
def spLAsk : Sp := fun vs H Q _ => ∃ (m tl : Addr) (s : AS) (n : Int), vs = [.ref m, .int n] ∧ MiAt H m tl s ∧ ∀ v H', MiAt H' m tl (askA s n).1 → RpAt H' v (askA s n).2 → Oth [m, tl] H H' → TK H H' → Q v H'
def spLHear : Sp := fun vs H Q _ => ∃ (m tl q : Addr) (s : AS) (ms : Msg) (t : Int), vs = [.ref m, .ref q, .int t] ∧ MiAt H m tl s ∧ MsgAt H q ms ∧ ∀ v H', MiAt H' m tl (hearA s ms t).1 → RpAt H' v (hearA s ms t).2 → Oth [m, tl] H H' → TK H H' → Q v H'
def spLBegin : Sp := fun vs H Q _ => ∃ (m tl : Addr) (s : AS) (t : Int), vs = [.ref m, .int t] ∧ MiAt H m tl s ∧ s.ts.length < 1000 ∧ ∀ v H', MiAt H' m tl (begA s t).1 → RpAt H' v (begA s t).2 → Oth [m, tl] H H' → TK H H' → Q v H'
def spLNew : Sp := fun vs H Q _ => ∃ (ca : Addr) (f : Str) (c : CO), vs = [.str f, .ref ca] ∧ CoAt H ca c ∧ sOk f ∧ ∀ m tl H', H m = none → H tl = none → MiAt H' m tl ⟨f, c, none, none, 0, []⟩ → Same H H' → Q (.ref m) H'
/-! pilots stay -/
theorem PiAt.stay {C p tk : Addr} {H H' : Hp} {s : AS} (h : PiAt C H p tk s) (k : ∀ b o, H b = some o → (b = p ∨ b = tk) → H' b = some o) (t : TK H H') : PiAt C H' p tk s := by
  obtain ⟨⟨dx, ca, o, co⟩, ⟨ks, e, i⟩, st⟩ := h
  exact ⟨⟨dx, ca, k _ _ o (.inl rfl), co.tk t⟩, ⟨ks, k _ _ e (.inr rfl), i⟩, st.tk t⟩
theorem PiAt.same {C p tk : Addr} {H H' : Hp} {s : AS} (h : PiAt C H p tk s) (k : Same H H') : PiAt C H' p tk s := h.stay (fun b o e _ => k b o e) (Same.tk k)
theorem MiAt.stay {m tl : Addr} {H H' : Hp} {s : AS} (h : MiAt H m tl s) (k : ∀ b o, H b = some o → (b = m ∨ b = tl) → H' b = some o) (t : TK H H') : MiAt H' m tl s := by
  obtain ⟨⟨ca, o, co⟩, e, st⟩ := h
  exact ⟨⟨ca, k _ _ o (.inl rfl), co.tk t⟩, k _ _ e (.inr rfl), st.tk t⟩
theorem MiAt.same {m tl : Addr} {H H' : Hp} {s : AS} (h : MiAt H m tl s) (k : Same H H') : MiAt H' m tl s := h.stay (fun b o e _ => k b o e) (Same.tk k)
end Sk
namespace Sk
open PySem PySem.Spec PyProof.Rows L2
theorem ch_route {c : CO} {z : CL} (e : z.w = "route") : c.ch z = { c with x := z.v, dx := z.vd } := if_pos e
theorem ch_speed {c : CO} {z : CL} (e : z.w = "speed") : c.ch z = { c with y := z.v, dy := z.vd } := by
  unfold CO.ch
  rw [e, if_neg (by decide +kernel), if_pos rfl]
theorem ch_level {c : CO} {z : CL} (e : z.w = "level") : c.ch z = { c with z := z.v, dz := z.vd } := by
  unfold CO.ch
  rw [e, if_neg (by decide +kernel), if_neg (by decide +kernel)]
theorem CoAt.ch {H H' : Hp} {ca a q : Addr} {c : CO} {z : CL} (h : CoAt H ca c) (k : ClAt H a z) (s : Same H H') (t : H' q = some (.tup [(c.ch z).x, (c.ch z).y, (c.ch z).z])) : CoAt H' q (c.ch z) := by
  refine ⟨t, ?_, ?_, ?_⟩
  · rcases k.w with e | e | e
    · rw [ch_level e]; exact h.x.tk (Same.tk s)
    · rw [ch_speed e]; exact h.x.tk (Same.tk s)
    · rw [ch_route e]; exact k.v.tk (Same.tk s)
  · rcases k.w with e | e | e
    · rw [ch_level e]; exact h.y.tk (Same.tk s)
    · rw [ch_speed e]; exact k.v.tk (Same.tk s)
    · rw [ch_route e]; exact h.y.tk (Same.tk s)
  · rcases k.w with e | e | e
    · rw [ch_level e]; exact k.v.tk (Same.tk s)
    · rw [ch_speed e]; exact h.z.tk (Same.tk s)
    · rw [ch_route e]; exact h.z.tk (Same.tk s)
/-- a field is set -/
theorem PiAt.put {C p tk ca dx : Addr} {H : Hp} {s s' : AS} (ho : H p = some (.ins C dx (plf s ca tk))) (hco : CoAt H ca s.co) (hk : ∃ ks : List (Key × V), H tk = some (.dK ks) ∧ ks.length ≤ s.ts.length ∧ ∀ n, (valV ks (.inl n)).isSome = true ↔ n ∈ s.ts) (st : AsAt H s') (e1 : s'.ts = s.ts) (e2 : s'.co = s.co) : PiAt C (upd H p (.ins C dx (plf s' ca tk))) p tk s' ∧ TK H (upd H p (.ins C dx (plf s' ca tk))) ∧ Oth [p, tk] H (upd H p (.ins C dx (plf s' ca tk))) := by
  obtain ⟨ks, k1, kl, k2⟩ := hk
  have t := tk_put (o' := .ins C dx (plf s' ca tk)) ho (fun xs z => nomatch z)
  exact ⟨⟨⟨dx, ca, upd_same, by rw [e2]; exact hco.tk t⟩, ⟨ks, by rw [upd_ne (ne_of k1 ho (by intro z; cases z))]; exact k1, by rw [e1]; exact kl, by rw [e1]; exact k2⟩, st.tk t⟩, t, Oth.put (by simp)⟩
theorem MiAt.put {m tl ca : Addr} {H : Hp} {s s' : AS} (ho : H m = some (.dK (mkv s ca tl))) (hco : CoAt H ca s.co) (hl : H tl = some (.lst (s.ts.map V.int))) (st : AsAt H s') (e1 : s'.ts = s.ts) (e2 : s'.co = s.co) : MiAt (upd H m (.dK (mkv s' ca tl))) m tl s' ∧ TK H (upd H m (.dK (mkv s' ca tl))) ∧ Oth [m, tl] H (upd H m (.dK (mkv s' ca tl))) := by
  have t := tk_put (o' := .dK (mkv s' ca tl)) ho (fun xs z => nomatch z)
  exact ⟨⟨⟨ca, upd_same, by rw [e2]; exact hco.tk t⟩, by rw [upd_ne (ne_of hl ho (by intro z; cases z)), e1]; exact hl, st.tk t⟩, t, Oth.put (by simp)⟩
theorem sh_non : SeqAt.shaped .none = true := sh_of rfl (Nat.zero_le _)
theorem oV_non {o : Hd} (h : o ≠ none) : oV o ≠ .non := by
  cases o with
  | none => exact absurd rfl h
  | some z => exact fun e => nomatch e
/-- what a heard clearance is, as data -/
def hdD : Hd → PyData
  | none => .none
  | some z => z.2.dt
theorem OAt.dp {K : PySem.W.Frag} {H : Hp} {o : Hd} (h : OAt H o) : Dp K H (oV o) (hdD o) := by
  cases o with
  | none => exact .non
  | some z => exact (h z rfl).dp
theorem OAt.sh {H : Hp} {o : Hd} (h : OAt H o) : SeqAt.shaped (hdD o) = true := by
  cases o with
  | none => exact sh_non
  | some z => exact (h z rfl).sh
theorem eqv_hd {z : CL} {o : Hd} : PyData.eqv z.dt (hdD o) = true ↔ ∃ h, o = some h ∧ PyData.eqv z.dt h.2.dt = true := by
  cases o with
  | none => exact ⟨fun e => by simp [hdD, CL.dt, PyData.eqv] at e, fun ⟨h, e, _⟩ => nomatch e⟩
  | some h => exact ⟨fun e => ⟨h, rfl, e⟩, fun ⟨h', e, q⟩ => by cases e; exact q⟩
theorem putK_len {κ α : Type} [DecidableEq κ] (k : κ) (y : V) (kvs : List (κ × V)) : (putK kvs k y).length ≤ kvs.length + 1 := by
  unfold putK
  split
  · rw [List.length_map]; omega
  · rw [List.length_append]; exact Nat.le_refl _
section
variable {H : Hp} {m ca tl : Addr} {s : AS}
theorem mg_f (e : H m = some (.dK (mkv s ca tl))) : DGet H m (.str "flight") (some (.str s.f)) := DGet.k (k := .inr "flight") e
theorem mg_c (e : H m = some (.dK (mkv s ca tl))) : DGet H m (.str "course") (some (.ref ca)) := DGet.k (k := .inr "course") e
theorem mg_h (e : H m = some (.dK (mkv s ca tl))) : DGet H m (.str "heard") (some (oV s.he)) := DGet.k (k := .inr "heard") e
theorem mg_n (e : H m = some (.dK (mkv s ca tl))) : DGet H m (.str "next") (some (oV s.nx)) := DGet.k (k := .inr "next") e
theorem mg_d (e : H m = some (.dK (mkv s ca tl))) : DGet H m (.str "done") (some (.int s.dn)) := DGet.k (k := .inr "done") e
theorem mg_t (e : H m = some (.dK (mkv s ca tl))) : DGet H m (.str "taken") (some (.ref tl)) := DGet.k (k := .inr "taken") e
theorem mp_h (e : H m = some (.dK (mkv s ca tl))) (o : Hd) : DPut H m (.str "heard") (oV o) (upd H m (.dK (mkv { s with he := o } ca tl))) := DPut.k (k := .inr "heard") (v := oV o) e (small1000 (by show 6 ≤ 1000; decide))
theorem mp_n (e : H m = some (.dK (mkv s ca tl))) (o : Hd) : DPut H m (.str "next") (oV o) (upd H m (.dK (mkv { s with nx := o } ca tl))) := DPut.k (k := .inr "next") (v := oV o) e (small1000 (by show 6 ≤ 1000; decide))
theorem mp_d (e : H m = some (.dK (mkv s ca tl))) (i : Int) : DPut H m (.str "done") (.int i) (upd H m (.dK (mkv { s with dn := i } ca tl))) := DPut.k (k := .inr "done") (v := .int i) e (small1000 (by show 6 ≤ 1000; decide))
theorem mp_c (e : H m = some (.dK (mkv s ca tl))) (q : Addr) (c : CO) : DPut H m (.str "course") (.ref q) (upd H m (.dK (mkv { s with co := c } q tl))) := DPut.k (k := .inr "course") (v := .ref q) e (small1000 (by show 6 ≤ 1000; decide))
end
end Sk
namespace Sk
open PySem PySem.Spec PyProof.Rows L2
def spClr (K : PySem.W.Frag) : Sp := fun vs H Q _ => ∃ (d c : Addr) (f : Str) (t : Int), vs = [.ref d, .str f, .int t] ∧ St1 K H d c ∧ sOk f ∧ ∀ a z H', H a = none → ClAt H' a z → St1 K H' d c → Keep d H H' → Q (.ref a) H'
/-- all stays but the draws' state and one more -/
def KP (d po : Addr) (H H' : Hp) : Prop := ∀ b o, H b = some o → b ≠ d → b ≠ po → H' b = some o
theorem KP.trans {d po : Addr} {H H1 H2 : Hp} (a : KP d po H H1) (b : KP d po H1 H2) : KP d po H H2 := fun x o e n1 n2 => b x o (a x o e n1 n2) n1 n2
theorem KP.keep {d po : Addr} {H H' : Hp} (k : Keep d H H') : KP d po H H' := fun x o e n _ => k x o e n
theorem KP.put {d po : Addr} {H : Hp} {o : HO} : KP d po H (upd H po o) := fun x y e _ n => by rw [upd_ne n]; exact e
def Pool (H : Hp) (po : Addr) (as : List Addr) : Prop := H po = some (.lst (as.map V.ref)) ∧ ∀ a ∈ as, ∃ z, ClAt H a z
def spMsg (K : PySem.W.Frag) : Sp := fun vs H Q _ => ∃ (d c po : Addr) (f : Str) (t : Int) (as : List Addr), vs = [.ref d, .ref po, .str f, .int t] ∧ St1 K H d c ∧ sOk f ∧ Pool H po as ∧ as.length ≤ 100 ∧ po ≠ d ∧ po ≠ c ∧
  ∀ q m as' H', MsgAt H' q m → Pool H' po as' → as'.length ≤ as.length + 1 → St1 K H' d c → KP d po H H' → TK H H' → Q (.ref q) H'
theorem Pool.keep {K : PySem.W.Frag} {d c po : Addr} {H H' : Hp} {as : List Addr} (h : Pool H po as) (S : St1 K H d c) (k : Keep d H H') : Pool H' po as := ⟨k.l S h.1, fun a ha => let ⟨z, hz⟩ := h.2 a ha; ⟨z, hz.tk fun b xs e => k.t S e⟩⟩
theorem Pool.same {po : Addr} {H H' : Hp} {as : List Addr} (h : Pool H po as) (s : Same H H') : Pool H' po as := ⟨s _ _ h.1, fun a ha => let ⟨z, hz⟩ := h.2 a ha; ⟨z, hz.tk (Same.tk s)⟩⟩
theorem Pool.snoc {po a : Addr} {H : Hp} {as : List Addr} {z : CL} (h : Pool H po as) (hz : ClAt H a z) : Pool (upd H po (.lst (as.map V.ref ++ [.ref a]))) po (as ++ [a]) ∧ TK H (upd H po (.lst (as.map V.ref ++ [.ref a]))) := by
  have t := tk_put (o' := .lst (as.map V.ref ++ [.ref a])) h.1 (fun xs z => nomatch z)
  refine ⟨⟨by rw [upd_same, List.map_append]; rfl, fun b hb => ?_⟩, t⟩
  rcases List.mem_append.mp hb with hb | hb
  · obtain ⟨z, hz⟩ := h.2 b hb
    exact ⟨z, hz.tk t⟩
  · rw [List.mem_singleton.mp hb]
    exact ⟨z, hz.tk t⟩
theorem kp_tk {K : PySem.W.Frag} {d c : Addr} {H H' : Hp} (k : Keep d H H') (S : St1 K H d c) : TK H H' := fun b xs e => k.t S e
end Sk

set_option Elab.async false
set_option linter.all false
set_option maxRecDepth 100000
set_option maxHeartbeats 4000000
namespace Sk
open PySem PySem.Spec PyProof.Rows L2
/-! what is true of a pilot and of what was said to it -/
structure Lg (s : AS) (sds cfs : List (Addr × CL)) (rfs : List Int) : Prop where
  nx : ∀ h, s.nx = some h → h ∈ cfs ∧ (∃ x ∈ sds, PyData.eqv x.2.dt h.2.dt = true) ∧ h.2.n ∉ rfs ∧ s.he = none
  he : ∀ h, s.he = some h → h ∈ sds ∧ s.dn < h.2.n
  rf : ∀ r ∈ rfs, r ≤ s.dn
def sdA (m : Msg) (sds : List (Addr × CL)) : List (Addr × CL) := match m with
  | .cl w a z => if w = "say" then sds ++ [(a, z)] else sds
  | .no _ _ _ => sds
def cfA (m : Msg) (cfs : List (Addr × CL)) : List (Addr × CL) := match m with
  | .cl w a z => if w = "confirm" then cfs ++ [(a, z)] else cfs
  | .no _ _ _ => cfs
def rfA (r : Option Rp) (rfs : List Int) : List Int := match r with
  | some (.num w _ n) => if w = "not" then rfs ++ [n] else rfs
  | _ => rfs
theorem eqv_n {x y : CL} (h : PyData.eqv x.dt y.dt = true) : x.n = y.n := by
  simp only [CL.dt, PyData.eqv, PyData.eqvAll, Bool.and_eq_true] at h
  have h2 := h.2.1
  simpa using h2
section
variable {s : AS} {sds cfs : List (Addr × CL)} {rfs : List Int}
theorem Lg.more (L : Lg s sds cfs rfs) (a b : List (Addr × CL)) : Lg s (sds ++ a) (cfs ++ b) rfs := ⟨fun h e => by
    obtain ⟨h1, ⟨x, hx, ex⟩, h2, h3⟩ := L.nx h e
    exact ⟨List.mem_append_left _ h1, ⟨x, List.mem_append_left _ hx, ex⟩, h2, h3⟩, fun h e => ⟨List.mem_append_left _ (L.he h e).1, (L.he h e).2⟩, L.rf⟩
theorem Lg.say (L : Lg s sds cfs rfs) (a : Addr) (z : CL) (t : Int) : Lg (sayA s a z t).1 (sds ++ [(a, z)]) cfs (rfA (sayA s a z t).2 rfs) := by
  have M : Lg s (sds ++ [(a, z)]) cfs rfs := by have := L.more [(a, z)] []; rwa [List.append_nil] at this
  unfold sayA
  split
  · exact M
  · rename_i h1
    split
    · exact M
    · refine ⟨fun h e => ?_, fun h e => ?_, L.rf⟩
      · exact absurd (show s.nx ≠ none by rw [show s.nx = some h from e]; exact fun w => nomatch w) (fun w => h1 (.inr (.inr w)))
      · cases e
        exact ⟨List.mem_append_right _ (List.mem_singleton.mpr rfl), by
          show s.dn < z.n
          have : ¬ z.n ≤ s.dn := fun w => h1 (.inl w)
          omega⟩
theorem Lg.conf (L : Lg s sds cfs rfs) (a : Addr) (z : CL) (t : Int) : Lg (confA s a z t) sds (cfs ++ [(a, z)]) rfs := by
  have M : Lg s sds (cfs ++ [(a, z)]) rfs := by have := L.more [] [(a, z)]; rwa [List.append_nil] at this
  unfold confA
  split
  · rename_i h1
    obtain ⟨⟨h, e, q⟩, _⟩ := h1
    obtain ⟨hs, hd⟩ := L.he h e
    refine ⟨fun g eg => ?_, fun g eg => (nomatch eg), L.rf⟩
    cases eg
    refine ⟨List.mem_append_right _ (List.mem_singleton.mpr rfl), ⟨h, hs, by rw [PySem.W.eqv_comm]; exact q⟩, fun w => ?_, rfl⟩
    have := L.rf _ w
    have := eqv_n q
    dsimp only at *
    omega
  · exact M
theorem Lg.ask (L : Lg s sds cfs rfs) (n : Int) : Lg (askA s n).1 sds cfs (rfA (askA s n).2 rfs) := by
  unfold askA
  split
  · exact L
  · rename_i h1
    split
    · show Lg s sds cfs (if ("taken" : Str) = "not" then rfs ++ [n] else rfs)
      rw [if_neg (by decide +kernel)]
      exact L
    · show Lg _ sds cfs (if ("not" : Str) = "not" then rfs ++ [n] else rfs)
      rw [if_pos rfl]
      refine ⟨fun h e => ?_, fun h e => ?_, fun r hr => ?_⟩
      · obtain ⟨a1, a2, a3, a4⟩ := L.nx h e
        refine ⟨a1, a2, fun w => ?_, ?_⟩
        · rcases List.mem_append.mp w with w | w
          · exact a3 w
          · exact h1 ⟨h, e, List.mem_singleton.mp w⟩
        · show (if _ then none else s.he) = none
          rw [a4]
          split <;> rfl
      · have e : (if ∃ h, s.he = some h ∧ h.2.n ≤ n then none else s.he) = some h := e
        split at e
        · cases e
        · rename_i h2
          obtain ⟨b1, b2⟩ := L.he h e
          refine ⟨b1, ?_⟩
          have : ¬ h.2.n ≤ n := fun w => h2 ⟨h, e, w⟩
          show (if n > s.dn then n else s.dn) < h.2.n
          split <;> omega
      · show r ≤ (if n > s.dn then n else s.dn)
        rcases List.mem_append.mp hr with w | w
        · have := L.rf r w
          split <;> omega
        · rw [List.mem_singleton.mp w]
          split <;> omega
theorem Lg.hear (L : Lg s sds cfs rfs) (m : Msg) (t : Int) : Lg (hearA s m t).1 (sdA m sds) (cfA m cfs) (rfA (hearA s m t).2 rfs) := by
  cases m with
  | cl w a z =>
    have M : Lg s (sdA (.cl w a z) sds) (cfA (.cl w a z) cfs) rfs := by
      unfold sdA cfA
      dsimp only
      split <;> split
      · exact L.more _ _
      · have := L.more [(a, z)] []; rwa [List.append_nil] at this
      · have := L.more [] [(a, z)]; rwa [List.append_nil] at this
      · exact L
    unfold hearA
    dsimp only
    split
    · split
      · rename_i e
        subst e
        unfold sdA cfA
        dsimp only
        rw [if_pos rfl, if_neg (by decide +kernel)]
        exact L.say a z t
      · split
        · rename_i e
          subst e
          unfold sdA cfA
          dsimp only
          rw [if_pos rfl, if_neg (by decide +kernel)]
          exact L.conf a z t
        · exact M
    · exact M
  | no w f n =>
    unfold hearA
    dsimp only
    split
    · exact L.ask n
    · exact L
theorem Lg.beg (L : Lg s sds cfs rfs) (t : Int) : (begA s t = (s, none) ∧ (s.nx = none ∨ ∃ h, s.nx = some h ∧ t < h.2.b)) ∨ ∃ h, s.nx = some h ∧ h.2.b ≤ t ∧ (begA s t).2 = some (.num "taken" s.f h.2.n) ∧ (begA s t).1.co = s.co.ch h.2 ∧ h ∈ cfs ∧ (∃ x ∈ sds, PyData.eqv x.2.dt h.2.dt = true) ∧ h.2.n ∉ rfs ∧ Lg (begA s t).1 sds cfs (rfs ++ [h.2.n]) := by
  unfold begA
  cases e : s.nx with
  | none => exact .inl ⟨rfl, .inl rfl⟩
  | some h =>
    dsimp only
    split
    · rename_i w
      exact .inl ⟨rfl, .inr ⟨h, rfl, w⟩⟩
    · rename_i w
      obtain ⟨a1, a2, a3, a4⟩ := L.nx h e
      refine .inr ⟨h, rfl, by omega, rfl, rfl, a1, a2, a3, fun g eg => (nomatch eg), fun g eg => ?_, fun r hr => ?_⟩
      · have eg : s.he = some g := eg
        rw [a4] at eg
        cases eg
      · show r ≤ (if h.2.n > s.dn then h.2.n else s.dn)
        rcases List.mem_append.mp hr with w | w
        · have := L.rf r w
          split <;> omega
        · rw [List.mem_singleton.mp w]
          split <;> omega
end
end Sk
namespace Sk
open PySem PySem.Spec PyProof.Rows L2
theorem hear_ts (s : AS) (m : Msg) (t : Int) : (hearA s m t).1.ts = s.ts := by
  cases m with
  | cl w a z =>
    unfold hearA
    dsimp only
    split
    · split
      · unfold sayA
        split
        · rfl
        · split <;> rfl
      · split
        · unfold confA
          split <;> rfl
        · rfl
    · rfl
  | no w f n =>
    unfold hearA
    dsimp only
    split
    · unfold askA
      split
      · rfl
      · split <;> rfl
    · rfl
end Sk

set_option Elab.async false
set_option linter.all false
set_option maxRecDepth 100000
set_option maxHeartbeats 4000000
namespace Sk
open PySem PySem.Spec PyProof.Rows L2
/-! two pilots and what belongs to them -/
structure Ad where
  p : Addr
  tk : Addr
  m : Addr
  tl : Addr
  sd : Addr
  cf : Addr
  rf : Addr
def Ad.l (a : Ad) : List Addr := [a.p, a.tk, a.m, a.tl, a.sd, a.cf, a.rf]
def LL (G : Hp) (l : Addr) (xs : List (Addr × CL)) : Prop := G l = some (.lst (xs.map fun x => V.ref x.1)) ∧ ∀ x ∈ xs, ClAt G x.1 x.2
structure PC (C : Addr) (G : Hp) (A : Ad) (s : AS) (sds cfs : List (Addr × CL)) (rfs : List Int) : Prop where
  P : PiAt C G A.p A.tk s
  M : MiAt G A.m A.tl s
  sd : LL G A.sd sds
  cf : LL G A.cf cfs
  rf : G A.rf = some (.lst (rfs.map V.int))
section
variable {C : Addr} {G G1 G2 : Hp} {A : Ad} {s s' : AS} {sds cfs : List (Addr × CL)} {rfs : List Int}
theorem LL.tk {l : Addr} {xs : List (Addr × CL)} (h : LL G l xs) (e : G1 l = G l) (t : TK G G1) : LL G1 l xs := ⟨e.trans h.1, fun x hx => (h.2 x hx).tk t⟩
theorem PC.stay (h : PC C G A s sds cfs rfs) (k : ∀ b o, G b = some o → b ∈ A.l → G1 b = some o) (t : TK G G1) : PC C G1 A s sds cfs rfs :=
  ⟨h.P.stay (fun b o e w => k b o e (by rcases w with rfl | rfl <;> simp [Ad.l])) t, h.M.stay (fun b o e w => k b o e (by rcases w with rfl | rfl <;> simp [Ad.l])) t,
    h.sd.tk ((k _ _ h.sd.1 (by simp [Ad.l])).trans h.sd.1.symm) t, h.cf.tk ((k _ _ h.cf.1 (by simp [Ad.l])).trans h.cf.1.symm) t, k _ _ h.rf (by simp [Ad.l])⟩
theorem Oth.sub {T T' : List Addr} (h : Oth T G G1) (k : ∀ x ∈ T, x ∈ T') : Oth T' G G1 := fun b o e n => h b o e fun w => n (k b w)
theorem PC.mid (h : PC C G A s sds cfs rfs) (nd : A.l.Nodup) (O : Oth [A.m, A.tl] G G1) (t : TK G G1) : PiAt C G1 A.p A.tk s := by
  simp only [Ad.l, List.nodup_cons, List.mem_cons, List.not_mem_nil, or_false, not_or] at nd
  refine h.P.stay (fun b o e w => O b o e ?_) t
  rcases w with rfl | rfl <;> simp only [List.mem_cons, List.not_mem_nil, or_false, not_or]
  · exact ⟨nd.1.2.1, nd.1.2.2.1⟩
  · exact ⟨nd.2.1.1, nd.2.1.2.1⟩
theorem PC.next (h : PC C G A s sds cfs rfs) (nd : A.l.Nodup) (M1 : MiAt G1 A.m A.tl s') (O1 : Oth [A.m, A.tl] G G1) (t1 : TK G G1) (P2 : PiAt C G2 A.p A.tk s') (O2 : Oth [A.p, A.tk] G1 G2) (t2 : TK G1 G2) : PC C G2 A s' sds cfs rfs ∧ Oth A.l G G2 := by
  simp only [Ad.l, List.nodup_cons, List.mem_cons, List.not_mem_nil, or_false, not_or] at nd
  obtain ⟨⟨n1, n2, n3, n4, n5, n6⟩, ⟨m1, m2, m3, m4, m5⟩, ⟨k1, k2, k3, k4⟩, ⟨j1, j2, j3⟩, _⟩ := nd
  have both : ∀ b o, G b = some o → b ∉ [A.m, A.tl] → b ∉ [A.p, A.tk] → G2 b = some o := fun b o e x y => O2 b o (O1 b o e x) y
  refine ⟨⟨P2, M1.stay (fun b o e w => O2 b o e ?_) t2, h.sd.tk ((both _ _ h.sd.1 ?_ ?_).trans h.sd.1.symm) (t1.trans t2), h.cf.tk ((both _ _ h.cf.1 ?_ ?_).trans h.cf.1.symm) (t1.trans t2), both _ _ h.rf ?_ ?_⟩, (O1.sub (by simp [Ad.l])).trans (O2.sub (by simp [Ad.l]))⟩
  · rcases w with rfl | rfl <;> simp only [List.mem_cons, List.not_mem_nil, or_false, not_or]
    · exact ⟨fun w => n2 w.symm, fun w => m1 w.symm⟩
    · exact ⟨fun w => n3 w.symm, fun w => m2 w.symm⟩
  all_goals simp only [List.mem_cons, List.not_mem_nil, or_false, not_or]
  · exact ⟨fun w => k2 w.symm, fun w => j1 w.symm⟩
  · exact ⟨fun w => n4 w.symm, fun w => m3 w.symm⟩
  · exact ⟨fun w => k3 w.symm, fun w => j2 w.symm⟩
  · exact ⟨fun w => n5 w.symm, fun w => m4 w.symm⟩
  · exact ⟨fun w => k4 w.symm, fun w => j3 w.symm⟩
  · exact ⟨fun w => n6 w.symm, fun w => m5 w.symm⟩
theorem PC.putAt (h : PC C G A s sds cfs rfs) (nd : A.l.Nodup) {l : Addr} {xs : List V} {o : HO} (hl : G l = some (.lst xs)) (ml : l ∈ A.l) :
    TK G (upd G l o) ∧ Oth A.l G (upd G l o) := ⟨tk_put hl (fun ys z => nomatch z), Oth.put ml⟩
theorem PC.putS (h : PC C G A s sds cfs rfs) (nd : A.l.Nodup) {a : Addr} {z : CL} (CZ : ClAt G a z) : PC C (upd G A.sd (.lst ((sds.map fun x => V.ref x.1) ++ [.ref a]))) A s (sds ++ [(a, z)]) cfs rfs := by
  obtain ⟨t, _⟩ := h.putAt nd (o := .lst ((sds.map fun x => V.ref x.1) ++ [.ref a])) h.sd.1 (by simp [Ad.l])
  simp only [Ad.l, List.nodup_cons, List.mem_cons, List.not_mem_nil, or_false, not_or] at nd
  obtain ⟨⟨n1, n2, n3, n4, n5, n6⟩, ⟨m1, m2, m3, m4, m5⟩, ⟨k1, k2, k3, k4⟩, ⟨j1, j2, j3⟩, ⟨i1, i2⟩, _⟩ := nd
  refine ⟨h.P.stay (fun b o e w => ?_) t, h.M.stay (fun b o e w => ?_) t, ⟨by rw [upd_same, List.map_append]; rfl, fun x hx => ?_⟩, h.cf.tk (upd_ne fun w => i1 w.symm) t, by rw [upd_ne fun w => i2 w.symm]; exact h.rf⟩
  · rw [upd_ne (by rcases w with rfl | rfl; exact n4; exact m3)]; exact e
  · rw [upd_ne (by rcases w with rfl | rfl; exact k2; exact j1)]; exact e
  · rcases List.mem_append.mp hx with hx | hx
    · exact (h.sd.2 x hx).tk t
    · rw [List.mem_singleton.mp hx]; exact CZ.tk t
theorem PC.putC (h : PC C G A s sds cfs rfs) (nd : A.l.Nodup) {a : Addr} {z : CL} (CZ : ClAt G a z) : PC C (upd G A.cf (.lst ((cfs.map fun x => V.ref x.1) ++ [.ref a]))) A s sds (cfs ++ [(a, z)]) rfs := by
  obtain ⟨t, _⟩ := h.putAt nd (o := .lst ((cfs.map fun x => V.ref x.1) ++ [.ref a])) h.cf.1 (by simp [Ad.l])
  simp only [Ad.l, List.nodup_cons, List.mem_cons, List.not_mem_nil, or_false, not_or] at nd
  obtain ⟨⟨n1, n2, n3, n4, n5, n6⟩, ⟨m1, m2, m3, m4, m5⟩, ⟨k1, k2, k3, k4⟩, ⟨j1, j2, j3⟩, ⟨i1, i2⟩, h1, _⟩ := nd
  refine ⟨h.P.stay (fun b o e w => ?_) t, h.M.stay (fun b o e w => ?_) t, h.sd.tk (upd_ne i1) t, ⟨by rw [upd_same, List.map_append]; rfl, fun x hx => ?_⟩, by rw [upd_ne fun w => h1 w.symm]; exact h.rf⟩
  · rw [upd_ne (by rcases w with rfl | rfl; exact n5; exact m4)]; exact e
  · rw [upd_ne (by rcases w with rfl | rfl; exact k3; exact j2)]; exact e
  · rcases List.mem_append.mp hx with hx | hx
    · exact (h.cf.2 x hx).tk t
    · rw [List.mem_singleton.mp hx]; exact CZ.tk t
theorem PC.putR (h : PC C G A s sds cfs rfs) (nd : A.l.Nodup) (n : Int) : PC C (upd G A.rf (.lst (rfs.map V.int ++ [.int n]))) A s sds cfs (rfs ++ [n]) := by
  obtain ⟨t, _⟩ := h.putAt nd (o := .lst (rfs.map V.int ++ [.int n])) h.rf (by simp [Ad.l])
  simp only [Ad.l, List.nodup_cons, List.mem_cons, List.not_mem_nil, or_false, not_or] at nd
  obtain ⟨⟨n1, n2, n3, n4, n5, n6⟩, ⟨m1, m2, m3, m4, m5⟩, ⟨k1, k2, k3, k4⟩, ⟨j1, j2, j3⟩, ⟨i1, i2⟩, h1, _⟩ := nd
  refine ⟨h.P.stay (fun b o e w => ?_) t, h.M.stay (fun b o e w => ?_) t, h.sd.tk (upd_ne i2) t, h.cf.tk (upd_ne h1) t, by rw [upd_same, List.map_append]; rfl⟩
  · rw [upd_ne (by rcases w with rfl | rfl; exact n6; exact m5)]; exact e
  · rw [upd_ne (by rcases w with rfl | rfl; exact k4; exact j3)]; exact e
end
/-! all of it -/
structure Ds (A : Nat → Ad) (d c po : Addr) (os : List (Addr × HO)) : Prop where
  nd : ∀ j, j < 2 → (A j).l.Nodup
  dj : ∀ i j, i < 2 → j < 2 → i ≠ j → ∀ x ∈ (A i).l, x ∉ (A j).l
  dc : ∀ j, j < 2 → ∀ x ∈ (A j).l, x ≠ d ∧ x ≠ c ∧ x ≠ po ∧ ∀ y ∈ os, x ≠ y.1
  po : po ≠ d ∧ po ≠ c ∧ ∀ y ∈ os, po ≠ y.1
  od : ∀ y ∈ os, y.1 ≠ d
structure W28 (K : PySem.W.Frag) (C : Addr) (A : Nat → Ad) (d c po : Addr) (os : List (Addr × HO)) (G : Hp) (n : Nat) : Prop where
  S : St1 K G d c
  o : ∀ y ∈ os, G y.1 = some y.2
  po : ∃ as, Pool G po as ∧ as.length ≤ n
  J : ∀ j, j < 2 → ∃ s sds cfs rfs, PC C G (A j) s sds cfs rfs ∧ Lg s sds cfs rfs ∧ sds.length ≤ n ∧ cfs.length ≤ n ∧ rfs.length ≤ 3 * n ∧ s.ts.length ≤ 3 * n
section
variable {K : PySem.W.Frag} {C d c po : Addr} {A : Nat → Ad} {os : List (Addr × HO)} {G G' : Hp} {n n' : Nat}
theorem W28.draw (h : W28 K C A d c po os G n) (D : Ds A d c po os) (S : St1 K G' d c) (k : Keep d G G') : W28 K C A d c po os G' n := by
  have t := kp_tk k h.S
  obtain ⟨as, h1, h2⟩ := h.po
  refine ⟨S, fun y hy => k _ _ (h.o y hy) (D.od y hy), ⟨as, h1.keep h.S k, h2⟩, fun j hj => ?_⟩
  obtain ⟨s, sds, cfs, rfs, P, r⟩ := h.J j hj
  exact ⟨s, sds, cfs, rfs, P.stay (fun b o e hb => k b o e (D.dc j hj b hb).1) t, r⟩
theorem W28.same (h : W28 K C A d c po os G n) (D : Ds A d c po os) (k : Same G G') : W28 K C A d c po os G' n := h.draw D (h.S.same k) (Keep.of k)
theorem W28.mono (h : W28 K C A d c po os G n) (l : n ≤ n') : W28 K C A d c po os G n' := by
  obtain ⟨as, h1, h2⟩ := h.po
  refine ⟨h.S, h.o, ⟨as, h1, by omega⟩, fun j hj => ?_⟩
  obtain ⟨s, sds, cfs, rfs, P, L, a, b, e, f⟩ := h.J j hj
  exact ⟨s, sds, cfs, rfs, P, L, by omega, by omega, by omega, by omega⟩
theorem W28.msg (h : W28 K C A d c po os G n) (D : Ds A d c po os) (S : St1 K G' d c) (k : KP d po G G') (t : TK G G') {as' : List Addr} (P' : Pool G' po as') (l : as'.length ≤ n + 1) : W28 K C A d c po os G' (n + 1) := by
  refine ⟨S, fun y hy => k _ _ (h.o y hy) (D.od y hy) (fun w => D.po.2.2 y hy w.symm), ⟨as', P', l⟩, fun j hj => ?_⟩
  obtain ⟨s, sds, cfs, rfs, P, L, a, b, e, f⟩ := h.J j hj
  exact ⟨s, sds, cfs, rfs, P.stay (fun b o e hb => k b o e (D.dc j hj b hb).1 (D.dc j hj b hb).2.2.1) t, L, by omega, by omega, by omega, by omega⟩
theorem W28.step (h : W28 K C A d c po os G n) (D : Ds A d c po os) {j : Nat} (hj : j < 2) (O : Oth (A j).l G G') (t : TK G G') (l : n ≤ n') (J : ∃ s sds cfs rfs, PC C G' (A j) s sds cfs rfs ∧ Lg s sds cfs rfs ∧ sds.length ≤ n' ∧ cfs.length ≤ n' ∧ rfs.length ≤ 3 * n' ∧ s.ts.length ≤ 3 * n') : W28 K C A d c po os G' n' := by
  obtain ⟨as, h1, h2⟩ := h.po
  have nd : d ∉ (A j).l := fun w => (D.dc j hj d w).1 rfl
  have nc : c ∉ (A j).l := fun w => (D.dc j hj c w).2.1 rfl
  have np : po ∉ (A j).l := fun w => (D.dc j hj po w).2.2.1 rfl
  refine ⟨?_, fun y hy => O _ _ (h.o y hy) (fun w => (D.dc j hj y.1 w).2.2.2 y hy rfl), ⟨as, ⟨O _ _ h1.1 np, fun a ha => let ⟨z, hz⟩ := h1.2 a ha; ⟨z, hz.tk t⟩⟩, by omega⟩, fun i hi => ?_⟩
  · have S := h.S
    obtain ⟨ns, i, l, m, S'⟩ := id S
    exact S.of ((O _ _ S'.dc nd).trans S'.dc.symm) ((O _ _ S'.cs nc).trans S'.cs.symm)
  · by_cases e : i = j
    · rw [e]; exact J
    · obtain ⟨s, sds, cfs, rfs, P, L, a, b, e', f⟩ := h.J i hi
      exact ⟨s, sds, cfs, rfs, P.stay (fun b o e'' hb => O b o e'' (D.dj i j hi hj e b hb)) t, L, by omega, by omega, by omega, by omega⟩
end
end Sk
namespace Sk
open PySem PySem.Spec PyProof.Rows L2
/-! that all objects differ -/
def Dm (G G' : Hp) : Prop := ∀ b, G b ≠ none → G' b ≠ none
theorem Dm.refl (G : Hp) : Dm G G := fun _ h => h
theorem Dm.trans {G G1 G2 : Hp} (a : Dm G G1) (b : Dm G1 G2) : Dm G G2 := fun x h => b x (a x h)
theorem Dm.same {G G' : Hp} (s : Same G G') : Dm G G' := fun b h => by
  cases e : G b with
  | none => exact absurd e h
  | some o => rw [s _ _ e]; exact fun w => nomatch w
theorem Dm.put {G : Hp} {a : Addr} {o : HO} : Dm G (upd G a o) := fun b h => by
  by_cases e : b = a
  · rw [e, upd_same]; exact fun w => nomatch w
  · rw [upd_ne e]; exact h
structure Al (G : Hp) (X0 X1 OU : List Addr) : Prop where
  nd : (X0 ++ (X1 ++ OU)).Nodup
  n : ∀ x ∈ X0 ++ (X1 ++ OU), G x ≠ none
section
variable {G G' : Hp} {X0 X1 OU : List Addr} {a : Addr}
theorem Al.mono (h : Al G X0 X1 OU) (d : Dm G G') : Al G' X0 X1 OU := ⟨h.nd, fun x hx => d x (h.n x hx)⟩
theorem Al.out (h : Al G X0 X1 OU) (f : G a = none) : a ∉ X0 ∧ a ∉ X1 ∧ a ∉ OU := by
  refine ⟨fun w => h.n a (by simp [w]) f, fun w => h.n a (by simp [w]) f, fun w => h.n a (by simp [w]) f⟩
theorem Al.n0 (h : Al G X0 X1 OU) (f : G a = none) (d : Dm G G') (e : G' a ≠ none) : Al G' (X0 ++ [a]) X1 OU := by
  obtain ⟨o0, o1, o2⟩ := h.out f
  have p : (X0 ++ [a] ++ (X1 ++ OU)).Perm (a :: (X0 ++ (X1 ++ OU))) := by
    rw [List.append_assoc]
    exact List.perm_middle
  refine ⟨p.nodup_iff.mpr (List.nodup_cons.mpr ⟨by simp [o0, o1, o2], h.nd⟩), fun x hx => ?_⟩
  rcases List.mem_cons.mp (p.mem_iff.mp hx) with w | w
  · rw [w]; exact e
  · exact d x (h.n x w)
theorem Al.n1 (h : Al G X0 X1 OU) (f : G a = none) (d : Dm G G') (e : G' a ≠ none) : Al G' X0 (X1 ++ [a]) OU := by
  obtain ⟨o0, o1, o2⟩ := h.out f
  have p : (X0 ++ (X1 ++ [a] ++ OU)).Perm (a :: (X0 ++ (X1 ++ OU))) := by
    rw [show X0 ++ (X1 ++ [a] ++ OU) = (X0 ++ X1) ++ a :: OU by simp, show X0 ++ (X1 ++ OU) = (X0 ++ X1) ++ OU by simp]
    exact List.perm_middle
  refine ⟨p.nodup_iff.mpr (List.nodup_cons.mpr ⟨by simp [o0, o1, o2], h.nd⟩), fun x hx => ?_⟩
  rcases List.mem_cons.mp (p.mem_iff.mp hx) with w | w
  · rw [w]; exact e
  · exact d x (h.n x w)
theorem Al.no (h : Al G X0 X1 OU) (f : G a = none) (d : Dm G G') (e : G' a ≠ none) : Al G' X0 X1 (OU ++ [a]) := by
  obtain ⟨o0, o1, o2⟩ := h.out f
  have p : (X0 ++ (X1 ++ (OU ++ [a]))).Perm (a :: (X0 ++ (X1 ++ OU))) := by
    rw [show X0 ++ (X1 ++ (OU ++ [a])) = (X0 ++ (X1 ++ OU)) ++ [a] by simp]
    exact List.perm_append_comm
  refine ⟨p.nodup_iff.mpr (List.nodup_cons.mpr ⟨by simp [o0, o1, o2], h.nd⟩), fun x hx => ?_⟩
  rcases List.mem_cons.mp (p.mem_iff.mp hx) with w | w
  · rw [w]; exact e
  · exact d x (h.n x w)
theorem Al.alloc0 (h : Al G X0 X1 OU) (f : G a = none) (o : HO) : Al (upd G a o) (X0 ++ [a]) X1 OU := h.n0 f Dm.put (by rw [upd_same]; exact fun w => nomatch w)
theorem Al.alloc1 (h : Al G X0 X1 OU) (f : G a = none) (o : HO) : Al (upd G a o) X0 (X1 ++ [a]) OU := h.n1 f Dm.put (by rw [upd_same]; exact fun w => nomatch w)
theorem Al.alloco (h : Al G X0 X1 OU) (f : G a = none) (o : HO) : Al (upd G a o) X0 X1 (OU ++ [a]) := h.no f Dm.put (by rw [upd_same]; exact fun w => nomatch w)
end
/-- from all that, the distinctness that the loop needs -/
theorem Al.ds {G : Hp} {A : Nat → Ad} {d c po : Addr} {os : List (Addr × HO)} (h : Al G (A 0).l (A 1).l ([d, c] ++ (os.map fun y => y.1) ++ [po])) : Ds A d c po os := by
  obtain ⟨n0, n1, x01⟩ := List.nodup_append.mp h.nd
  obtain ⟨n2, n3, x12⟩ := List.nodup_append.mp n1
  have all : ∀ j, j < 2 → ∀ x ∈ (A j).l, x ∉ [d, c] ++ (os.map fun y => y.1) ++ [po] := by
    intro j hj x hx w
    rcases (by omega : j = 0 ∨ j = 1) with rfl | rfl
    · exact x01 x hx x (List.mem_append_right _ w) rfl
    · exact x12 x hx x w rfl
  refine ⟨fun j hj => ?_, fun i j hi hj e x hx w => ?_, fun j hj x hx => ?_, ?_, ?_⟩
  · rcases (by omega : j = 0 ∨ j = 1) with rfl | rfl
    · exact n0
    · exact n2
  · rcases (by omega : i = 0 ∧ j = 1 ∨ i = 1 ∧ j = 0) with ⟨rfl, rfl⟩ | ⟨rfl, rfl⟩
    · exact x01 x hx x (List.mem_append_left _ w) rfl
    · exact x01 x w x (List.mem_append_left _ hx) rfl
  · have w := all j hj x hx
    refine ⟨fun e => w (by simp [e]), fun e => w (by simp [e]), fun e => w (by simp [e]), fun y hy e => w ?_⟩
    rw [e]
    simp only [List.mem_append, List.mem_map]
    exact .inl (.inr ⟨y, hy, rfl⟩)
  · obtain ⟨_, _, q⟩ := List.nodup_append.mp n3
    refine ⟨fun e => q d (by simp) po (by simp) e.symm, fun e => q c (by simp) po (by simp) e.symm, fun y hy e => q y.1 ?_ po (by simp) e.symm⟩
    simp only [List.mem_append, List.mem_map]
    exact .inr ⟨y, hy, rfl⟩
  · obtain ⟨q, _, _⟩ := List.nodup_append.mp n3
    obtain ⟨_, _, q⟩ := List.nodup_append.mp q
    exact fun y hy e => q d (by simp) y.1 (List.mem_map.mpr ⟨y, hy, rfl⟩) e.symm
end Sk
namespace Sk
open PySem PySem.Spec PyProof.Rows L2
def fn28 (k : Nat) : Str := if k = 0 then "AB1" else "A"
def st28 (c0 : CO) (k : Nat) : AS := ⟨fn28 k, c0, none, none, 0, []⟩
def XP (ps : List (Addr × Addr)) (k : Nat) : List Addr := match ps[k]? with
  | some x => [x.1, x.2]
  | none => []
theorem PiAt.putL {C p tk l : Addr} {H : Hp} {s : AS} {xs : List V} {o : HO} (h : PiAt C H p tk s) (hl : H l = some (.lst xs)) : PiAt C (upd H l o) p tk s := by
  obtain ⟨dx, ca, e1, _⟩ := h.o
  obtain ⟨ks, e2, _⟩ := h.tk
  refine h.stay (fun b x e w => ?_) (tk_put hl (fun ys z => nomatch z))
  rw [upd_ne]
  · exact e
  · rcases w with rfl | rfl
    · exact ne_of e1 hl (by intro z; cases z)
    · exact ne_of e2 hl (by intro z; cases z)
theorem MiAt.putL {m tl l : Addr} {H : Hp} {s : AS} {xs : List V} {o : HO} (h : MiAt H m tl s) (hl : H l = some (.lst xs)) (n : tl ≠ l) : MiAt (upd H l o) m tl s := by
  obtain ⟨ca, e1, _⟩ := h.o
  refine h.stay (fun b x e w => ?_) (tk_put hl (fun ys z => nomatch z))
  rw [upd_ne]
  · exact e
  · rcases w with rfl | rfl
    · exact ne_of e1 hl (by intro z; cases z)
    · exact n
theorem fn_ok (k : Nat) : sOk (fn28 k) := by
  unfold fn28
  split <;> decide +kernel
/-- the pilots, one after the other -/
structure PsB (C : Addr) (G3 G : Hp) (c0 : CO) (d c fl pl : Addr) (i : Nat) (ps : List (Addr × Addr)) : Prop where
  l : ps.length = i
  s : Same G3 G
  e : G pl = some (.lst (ps.map fun x => V.ref x.1))
  p : ∀ k x, ps[k]? = some x → PiAt C G x.1 x.2 (st28 c0 k)
  a : Al G (XP ps 0) (XP ps 1) [d, c, fl, pl]
theorem PsB.add {C : Addr} {G3 G H' : Hp} {c0 : CO} {d c fl pl p tk dx : Addr} {i : Nat} {ps : List (Addr × Addr)} (h : PsB C G3 G c0 d c fl pl i ps) (hi : i < 2) (h3 : G3 pl = none) (hp : G p = none) (ht : G tk = none) (ne : tk ≠ p) (s : Same G H') (P : PiAt C H' p tk (st28 c0 i)) : PsB C G3 (upd H' pl (.lst ((ps.map fun x => V.ref x.1) ++ [V.ref p]))) c0 d c fl pl (i + 1) (ps ++ [(p, tk)]) := by
  have e' := s _ _ h.e
  obtain ⟨dx, ca, op, _⟩ := P.o
  obtain ⟨ks, ot, _⟩ := P.tk
  have D : Dm G (upd H' pl (.lst ((ps.map fun x => V.ref x.1) ++ [V.ref p]))) := (Dm.same s).trans Dm.put
  have P' := P.putL (o := .lst ((ps.map fun x => V.ref x.1) ++ [V.ref p])) e'
  obtain ⟨_, _, op', _⟩ := P'.o
  obtain ⟨_, ot', _⟩ := P'.tk
  refine ⟨by rw [List.length_append, h.l]; rfl, fun b o e => by rw [upd_ne (ne_of_none e h3)]; exact s _ _ (h.s _ _ e), by rw [upd_same, List.map_append]; rfl, fun k x hx => ?_, ?_⟩
  · rcases Nat.lt_or_ge k ps.length with w | w
    · rw [List.getElem?_append_left w] at hx
      exact ((h.p k x hx).same s).putL e'
    · have kl := (List.getElem?_eq_some_iff.mp hx).1
      rw [List.length_append, List.length_singleton] at kl
      obtain rfl : k = i := by have := h.l; omega
      rw [List.getElem?_append_right w, show k - ps.length = 0 by omega] at hx
      cases hx
      exact P'
  · have A := h.a
    rcases (by omega : i = 0 ∨ i = 1) with rfl | rfl
    · obtain rfl : ps = [] := List.eq_nil_of_length_eq_zero h.l
      have A1 : Al (upd G p (.lst [])) ([] ++ [p]) [] [d, c, fl, pl] := A.alloc0 hp (.lst [])
      have A2 := A1.n0 (a := tk) (G' := upd H' pl (.lst ((([] : List (Addr × Addr)).map fun x => V.ref x.1) ++ [V.ref p]))) (by rw [upd_ne ne]; exact ht) (fun b hb => by
        by_cases w : b = p
        · rw [w, op']; exact fun z => nomatch z
        · rw [upd_ne w] at hb; exact D b hb) (by rw [ot']; exact fun z => nomatch z)
      exact A2
    · obtain ⟨x, rfl⟩ : ∃ x, ps = [x] := List.length_eq_one_iff.mp h.l
      have A1 : Al (upd G p (.lst [])) [x.1, x.2] ([] ++ [p]) [d, c, fl, pl] := A.alloc1 hp (.lst [])
      have A2 := A1.n1 (a := tk) (G' := upd H' pl (.lst ((([x] : List (Addr × Addr)).map fun x => V.ref x.1) ++ [V.ref p]))) (by rw [upd_ne ne]; exact ht) (fun b hb => by
        by_cases w : b = p
        · rw [w, op']; exact fun z => nomatch z
        · rw [upd_ne w] at hb; exact D b hb) (by rw [ot']; exact fun z => nomatch z)
      exact A2
end Sk
namespace Sk
open PySem PySem.Spec PyProof.Rows L2
/-- the law's own, one after the other -/
structure MsB (G3 G : Hp) (c0 : CO) (X0 X1 OU : List Addr) (ml : Addr) (i : Nat) (ms : List (Addr × Addr)) : Prop where
  l : ms.length = i
  s : Same G3 G
  e : G ml = some (.lst (ms.map fun x => V.ref x.1))
  p : ∀ k x, ms[k]? = some x → MiAt G x.1 x.2 (st28 c0 k) ∧ x.2 ≠ ml
  a : Al G (X0 ++ XP ms 0) (X1 ++ XP ms 1) OU
theorem MsB.add {G3 G H' : Hp} {c0 : CO} {X0 X1 OU : List Addr} {ml m tl : Addr} {i : Nat} {ms : List (Addr × Addr)} (h : MsB G3 G c0 X0 X1 OU ml i ms) (hi : i < 2) (h3 : G3 ml = none) (hm : G m = none) (ht : G tl = none) (s : Same G H') (P : MiAt H' m tl (st28 c0 i)) : MsB G3 (upd H' ml (.lst ((ms.map fun x => V.ref x.1) ++ [V.ref m]))) c0 X0 X1 OU ml (i + 1) (ms ++ [(m, tl)]) := by
  have e' := s _ _ h.e
  have tn : tl ≠ ml := (ne_of_none h.e ht).symm
  obtain ⟨ca, om, _⟩ := P.o
  have ot := P.tl
  have ne : tl ≠ m := ne_of ot om (by intro z; cases z)
  have D : Dm G (upd H' ml (.lst ((ms.map fun x => V.ref x.1) ++ [V.ref m]))) := (Dm.same s).trans Dm.put
  have P' := P.putL (o := .lst ((ms.map fun x => V.ref x.1) ++ [V.ref m])) e' tn
  obtain ⟨_, om', _⟩ := P'.o
  have ot' := P'.tl
  refine ⟨by rw [List.length_append, h.l]; rfl, fun b o e => by rw [upd_ne (ne_of_none e h3)]; exact s _ _ (h.s _ _ e), by rw [upd_same, List.map_append]; rfl, fun k x hx => ?_, ?_⟩
  · rcases Nat.lt_or_ge k ms.length with w | w
    · rw [List.getElem?_append_left w] at hx
      exact ⟨((h.p k x hx).1.same s).putL e' (h.p k x hx).2, (h.p k x hx).2⟩
    · have kl := (List.getElem?_eq_some_iff.mp hx).1
      rw [List.length_append, List.length_singleton] at kl
      obtain rfl : k = i := by have := h.l; omega
      rw [List.getElem?_append_right w, show k - ms.length = 0 by omega] at hx
      cases hx
      exact ⟨P', tn⟩
  · have A := h.a
    rcases (by omega : i = 0 ∨ i = 1) with rfl | rfl
    · obtain rfl : ms = [] := List.eq_nil_of_length_eq_zero h.l
      have A1 := A.alloc0 hm (.lst [])
      have A2 := A1.n0 (a := tl) (G' := upd H' ml (.lst ((([] : List (Addr × Addr)).map fun x => V.ref x.1) ++ [V.ref m]))) (by rw [upd_ne ne]; exact ht) (fun b hb => by
        by_cases w : b = m
        · rw [w, om']; exact fun z => nomatch z
        · rw [upd_ne w] at hb; exact D b hb) (by rw [ot']; exact fun z => nomatch z)
      simpa [XP] using A2
    · obtain ⟨x, rfl⟩ : ∃ x, ms = [x] := List.length_eq_one_iff.mp h.l
      have A1 := A.alloc1 hm (.lst [])
      have A2 := A1.n1 (a := tl) (G' := upd H' ml (.lst ((([x] : List (Addr × Addr)).map fun x => V.ref x.1) ++ [V.ref m]))) (by rw [upd_ne ne]; exact ht) (fun b hb => by
        by_cases w : b = m
        · rw [w, om']; exact fun z => nomatch z
        · rw [upd_ne w] at hb; exact D b hb) (by rw [ot']; exact fun z => nomatch z)
      simpa [XP] using A2
end Sk
namespace Sk
open PySem PySem.Spec PyProof.Rows L2
theorem Ds.os {A : Nat → Ad} {d c po : Addr} {os : List (Addr × HO)} {G G' : Hp} {j : Nat} (D : Ds A d c po os) (hj : j < 2) (O : Oth (A j).l G G') (h : ∀ y ∈ os, G y.1 = some y.2) : ∀ y ∈ os, G' y.1 = some y.2 := fun y hy => O _ _ (h y hy) fun w => (D.dc j hj y.1 w).2.2.2 y hy rfl
end Sk
namespace Sk
open PySem PySem.Spec PyProof.Rows L2
/-! lists as data -/
theorem dpa_list {K : PySem.W.Frag} {G : Hp} {α : Type} {r : α → V} {dt : α → PyData} : ∀ {xs : List α}, (∀ x ∈ xs, Dp K G (r x) (dt x)) → DpAll K G (xs.map r) (xs.map dt)
  | [], _ => .nil
  | x :: xs, h => .cons (h x List.mem_cons_self) (dpa_list fun y hy => h y (List.mem_cons_of_mem _ hy))
theorem sh_list {α : Type} {dt : α → PyData} {xs : List α} (h : ∀ x ∈ xs, (dt x).canLay0 = true ∧ (dt x).depth ≤ 10) : SeqAt.shaped (.list (xs.map dt)) = true := by
  refine sh_of ?_ ?_
  · show PyData.canLayAll0 _ = true
    refine cla fun y hy => ?_
    obtain ⟨x, hx, rfl⟩ := List.mem_map.mp hy
    exact (h x hx).1
  · show PyData.depthAll _ + 1 ≤ 64
    have : PyData.depthAll (xs.map dt) ≤ 10 := dpa fun y hy => by
      obtain ⟨x, hx, rfl⟩ := List.mem_map.mp hy
      exact (h x hx).2
    omega
theorem LL.dp {K : PySem.W.Frag} {G : Hp} {l : Addr} {xs : List (Addr × CL)} (h : LL G l xs) : Dp K G (.ref l) (.list (xs.map fun x => x.2.dt)) := .lst (.inl (.inl h.1)) (dpa_list fun x hx => (h.2 x hx).dp)
theorem LL.sh {G : Hp} {l : Addr} {xs : List (Addr × CL)} (h : LL G l xs) : SeqAt.shaped (.list (xs.map fun x => x.2.dt)) = true := sh_list fun x hx => ⟨(h.2 x hx).can, (h.2 x hx).dep⟩
def LC (G : Hp) (l : Addr) (us : List (Addr × CO)) : Prop := G l = some (.lst (us.map fun x => V.ref x.1)) ∧ ∀ u ∈ us, CoAt G u.1 u.2
theorem LC.dp {K : PySem.W.Frag} {G : Hp} {l : Addr} {xs : List (Addr × CO)} (h : LC G l xs) : Dp K G (.ref l) (.list (xs.map fun x => x.2.dt)) := .lst (.inl (.inl h.1)) (dpa_list fun x hx => (h.2 x hx).dp)
theorem LC.sh {G : Hp} {l : Addr} {xs : List (Addr × CO)} (h : LC G l xs) : SeqAt.shaped (.list (xs.map fun x => x.2.dt)) = true := sh_list fun x hx => ⟨(h.2 x hx).can, Nat.le_trans (h.2 x hx).dep (by decide)⟩
theorem LC.snoc {G : Hp} {l q : Addr} {us : List (Addr × CO)} {c : CO} (h : LC G l us) (k : CoAt G q c) : LC (upd G l (.lst ((us.map fun x => V.ref x.1) ++ [.ref q]))) l (us ++ [(q, c)]) := by
  have t := tk_put (o' := .lst ((us.map fun x => V.ref x.1) ++ [.ref q])) h.1 (fun xs z => nomatch z)
  refine ⟨by rw [upd_same, List.map_append]; rfl, fun u hu => ?_⟩
  rcases List.mem_append.mp hu with hu | hu
  · exact (h.2 u hu).tk t
  · rw [List.mem_singleton.mp hu]; exact k.tk t
theorem LC.same {G G' : Hp} {l : Addr} {us : List (Addr × CO)} (h : LC G l us) (s : Same G G') : LC G' l us := ⟨s _ _ h.1, fun u hu => (h.2 u hu).tk (Same.tk s)⟩
end Sk

set_option Elab.async false
set_option linter.all false
set_option maxRecDepth 100000
set_option maxHeartbeats 4000000
namespace Sk
open PySem PySem.Spec PyProof.Rows L2
def top (i : Nat) : Stmt := PySem.Challenge.pw_skyapart_k28_whole_pilot.main.body.getD i (.Pass ⟨0, 0, 0, 0⟩)
abbrev s_law_start : Stmt := top 5
abbrev s_law_draw : Stmt := top 6
abbrev s_law_pick : Stmt := top 7
abbrev s_law_is_number : Stmt := top 8
section
variable {P : Program} {w : World} {K : PySem.W.Frag} {mg : Str → Option Value} {base : Heap}
theorem sc_law_start : FnScope ["script", "cell"] ["script"] (defScope s_law_start) := ⟨rfl, rfl, rfl, by decide +kernel, rfl, by decide +kernel, by decide +kernel⟩
theorem ok_law_start {f : Addr} {fd : FuncData} (F : Fun K "_law_start" "_law_start" s_law_start f fd) (T : Txt0 mg) : FnOk P w K mg base CX0 1 f fd ["script"] (spStart K) := by
  refine F.ok sc_law_start (fun vs H Q E h => ?_) (fun cdv A outer s H vs Q E hr h => ?_)
  · obtain ⟨a, ns, rfl, _⟩ := h
    rfl
  · obtain ⟨a, ns, rfl, hS, hl, k⟩ := h
    refine ⟨_, (pss_one (ps_ret (pe_disp (pps_cons pe_str (pe_lc (own := [("cell", 1)]) (g := gName 1) (by rfl) sc_law_start.nd (pi_list (pv 0)) (blkOk_by (own := [("cell", 1)]) (N := ["script", "cell"]) (sc := defScope s_law_start) (by decide +kernel)) (fun _ _ _ _ _ => (pg_name (i := 1) sc_law_start.nd rfl (Or.inl rfl))) (fun _ _ _ _ _ => pts_nil) (fun _ _ _ _ _ => (pe_callB call_abs (by rfl) T.abs boot_abs (pa_cons (pe_callTy call_int1 (by rfl) T.int boot_int (pa_cons (pv 1) pa_nil)) pa_nil)))) (pps_cons pe_str pe_int (pps_cons pe_str pe_int (pps_cons pe_str (pe_op op_add pe_int (pe_callB call_len_seq (by rfl) T.len boot_len (pa_cons (pv 0) pa_nil))) pps_nil)))) (by rfl) (by rfl) (fun z => by cases z) (by decide)))), ?_⟩
    -- the dict
    intro d hd
    have s0 : Same H (upd H d (.dK [])) := same_new hd
    refine ⟨_, rfl, a, rfl, ⟨_, s0.seq hS⟩, fun D hD => ?_⟩
    have nDd : d ≠ D := fun z => by rw [← z, upd_same] at hD; cases hD
    refine lc_list (K := K) (a := a) (xs := ns.map V.int) (fun i H' => ∃ cs : List Int, H' D = some (.lst (cs.map V.int)) ∧ cs.length = i ∧ (∀ x ∈ cs, 0 ≤ x) ∧ Same H H' ∧ H' d = some (.dK []))
      ⟨[], upd_same, rfl, (fun _ h => nomatch h), fun b o e => (same_new hD) b o (s0 b o e), by rw [upd_ne nDd, upd_same]⟩ (fun i H' _ ⟨_, _, _, _, s2, _⟩ => s2.seq hS) ?_ ?_
    · rintro i x H' hx ⟨cs, hc, hi, hn, s2, h2⟩
      obtain ⟨z, rfl⟩ : ∃ z, x = V.int z := by
        rw [List.getElem?_map] at hx
        cases e : ns[i]? with
        | none => rw [e] at hx; cases hx
        | some z => rw [e] at hx; exact ⟨z, (Option.some.inj hx).symm⟩
      have hil : i < (ns.map V.int).length := (List.getElem?_eq_some_iff.mp hx).1
      rw [List.length_map] at hil
      refine ⟨rfl, ?_⟩
      refine ⟨_, rfl, .inl ⟨_, rfl, _, rfl, _, hc, ?_, cs ++ [if z < 0 then -z else z], ?_, ?_, ?_, ?_, ?_⟩⟩
      · rw [List.length_map]; exact small1000 (by omega)
      · rw [upd_same, List.map_append]; rfl
      · rw [List.length_append, hi]; rfl
      · intro y hy
        rcases List.mem_append.mp hy with hy | hy
        · exact hn y hy
        · rw [List.mem_singleton.mp hy]; split <;> omega
      · intro b o e
        rw [upd_ne (ne_of_none e (s0.free hD))]
        exact s2 b o e
      · rw [upd_ne nDd]; exact h2
    · rintro H' ⟨cs, hc, hi, hn, s2, h2⟩
      refine ⟨_, rfl, a, _, rfl, .inl (s2.seq hS), _, _, rfl, rfl, h2, stK D 0 0 (7 + ((ns.map V.int).length : Int)), rfl, (by show 4 ≤ 15; decide), ?_⟩
      rw [merge_st]
      have hDd : D ≠ d := fun z => nDd z.symm
      refine k d D _ hd (s0.free hD) ⟨cs, 0, 0, _, upd_same, (by rw [upd_ne hDd]; exact hc), hn, by omega, by omega, ?_, ?_⟩ fun b o e => ?_
      · omega
      · rw [List.length_map]; omega
      · rw [upd_ne (ne_of_none e hd)]
        exact s2 b o e
theorem sc_law_draw : FnScope ["state", "bound", "cell", "number"] ["state", "bound"] (defScope s_law_draw) := ⟨rfl, rfl, rfl, by decide +kernel, rfl, by decide +kernel, by decide +kernel⟩
theorem ok_law_draw {f : Addr} {fd : FuncData} (F : Fun K "_law_draw" "_law_draw" s_law_draw f fd) (T : Txt0 mg) : FnOk P w K mg base CX0 1 f fd ["state", "bound"] (spDraw K) := by
  refine F.ok sc_law_draw (fun vs H Q E h => ?_) (fun cdv A outer s H vs Q E hr h => ?_)
  · obtain ⟨d, c, b, rfl, _⟩ := h
    rfl
  · obtain ⟨d, c, b, rfl, S1, b0, b1, k⟩ := h
    have hu := hu_of hr
    have hm : ∀ x : Int, 0 ≤ x % b ∧ x % b < b := fun x => ⟨Int.emod_nonneg x (by omega), Int.emod_lt_of_pos x b0⟩
    have hmx : ∀ x : Int, 0 ≤ x % 2147483647 ∧ x % 2147483647 < 2147483648 := fun x => by omega
    refine ⟨_, (pss_cons (ps_if (PW.pt (pw_and (pt_cmpR op_eq (pe_dget hu (pv 0) pe_str (fun _ _ => rfl)) pe_int (nomark _)) (pw_and1 (pt_cmpR op_lt (pe_dget hu (pv 0) pe_str (fun _ _ => rfl)) (pe_callB call_len_seq (by rfl) T.len boot_len (pa_cons (pe_dget hu (pv 0) pe_str (fun _ _ => rfl)) pa_nil)) (nomark _))))) (pss_cons (ps_set (i := 2) sc_law_draw.nd rfl (Or.inl rfl) (pe_ix ix_list (pe_dget hu (pv 0) pe_str (fun _ _ => rfl)) (pe_dget hu (pv 0) pe_str (fun _ _ => rfl)) (fun _ _ => rfl)))
    (pss_cons (ps_dput hu (pv 0) pe_str (pe_op op_add (pe_dget hu (pv 0) pe_str (fun _ _ => rfl)) pe_int) rfl)
    (pss_cons (ps_dput hu (pv 0) pe_str (pe_op op_mod (pe_callTy call_int1 (by rfl) T.int boot_int (pa_cons (pe_op op_add (pe_op op_add (pe_op op_mul (pe_dget hu (pv 0) pe_str (fun _ _ => rfl)) pe_int) (pv 2)) pe_int) pa_nil)) pe_int) rfl)
    (pss_cons (ps_if (pt_cmpR op_lt (pv 2) (pe_op op_pow pe_int pe_int) (nomark _)) (pss_one (ps_ret (pe_op op_mod (pe_callTy call_int1 (by rfl) T.int boot_int (pa_cons (pv 2) pa_nil)) (pv 1))))
      pss_nil)
    (pss_one (ps_dput hu (pv 0) pe_str (pv 2) rfl))))))
      pss_nil)
    (pss_cons (ps_if (pt_cmpR op_gt (pe_dget hu (pv 0) pe_str (fun _ _ => rfl)) pe_int (nomark _)) (pss_cons (ps_set (i := 3) sc_law_draw.nd rfl (Or.inl rfl) (pe_op op_mod (pe_callTy call_int1 (by rfl) T.int boot_int (pa_cons (pe_dget hu (pv 0) pe_str (fun _ _ => rfl)) pa_nil)) (pv 1)))
    (pss_cons (ps_dput hu (pv 0) pe_str (pe_op op_fdivW (pe_dget hu (pv 0) pe_str (fun _ _ => rfl)) (pv 1)) rfl)
    (pss_one (ps_ret (pv 3)))))
      pss_nil)
    (pss_cons (ps_dput hu (pv 0) pe_str (pe_op op_mod (pe_callTy call_int1 (by rfl) T.int boot_int (pa_cons (pe_op op_add (pe_op op_mul (pe_dget hu (pv 0) pe_str (fun _ _ => rfl)) pe_int) pe_int) pa_nil)) pe_int) rfl)
    (pss_one (ps_ret (pe_op op_mod (pe_callTy call_int1 (by rfl) T.int boot_int (pa_cons (pe_op op_mod (pe_callTy call_int1 (by rfl) T.int boot_int (pa_cons (pe_op op_add (pe_op op_mul (pe_dget hu (pv 0) pe_str (fun _ _ => rfl)) pe_int) pe_int) pa_nil)) pe_int) pa_nil)) (pv 1))))))), ?_⟩
    refine cut (fun σ' H' => ∃ v2 v3, σ' = [some (.ref d), some (.int b), v2, v3] ∧ St1 K H' d c ∧ Keep d H H') ?_ (fun rest => ?_)
    · -- the rest: from a number that is left, or from the mix
      rintro σ' H' ⟨v2, v3, rfl, ⟨ns, i, l, m, S⟩, kp⟩
      refine ⟨_, rfl, _, _, rfl, dg_left S.dc, _, _, rfl, rfl, _, rfl, ite2 (fun e => ?_) (fun e => ?_)⟩
      · refine ⟨_, rfl, _, _, rfl, dg_left S.dc, .inl ⟨_, rfl, _, rfl, _, _, rfl, rfl, b0, ?_⟩⟩
        refine ⟨_, rfl, _, _, rfl, dg_left S.dc, _, rfl, _, _, rfl, rfl, log_of b0 b1, _, rfl, _, _, rfl, dp_left S.dc, ?_⟩
        refine ⟨_, rfl, ?_⟩
        exact k _ _ (hm l).1 (hm l).2 ⟨_, _, _, _, S.put S.i0 (Int.ediv_nonneg S.l0 (by omega)) S.m0 S.m1⟩ (kp.trans (Keep.upd _ _ _))
      · refine ⟨_, rfl, _, _, rfl, dg_mix S.dc, _, _, rfl, rfl, .inr ⟨by decide, by decide⟩, _, _, rfl, rfl, .inl ⟨_, rfl, _, _, rfl, rfl, (by show (0:Int) < 2147483647; decide), _, rfl, _, _, rfl, dp_mix S.dc, ?_⟩⟩
        have S2 := S.put (i' := i) (l' := l) S.i0 S.l0 (hmx (m * 48271 + 11)).1 (hmx (m * 48271 + 11)).2
        refine ⟨_, rfl, _, _, rfl, dg_mix S2.dc, _, _, rfl, rfl, .inr ⟨by decide, by decide⟩, _, _, rfl, rfl, .inl ⟨_, rfl, _, _, rfl, rfl, (by show (0:Int) < 2147483629; decide), .inl ⟨_, rfl, _, rfl, _, _, rfl, rfl, b0, ?_⟩⟩⟩
        exact k _ _ (hm _).1 (hm _).2 ⟨_, _, _, _, S2⟩ (kp.trans (Keep.upd _ _ _))
    · -- the first if
      obtain ⟨ns, i, l, m, S⟩ := id S1
      refine ⟨_, rfl, _, _, rfl, dg_left S.dc, rfl, _, rfl, ite2 (fun e => ?_) (fun e => ?_)⟩
      · refine ⟨_, rfl, _, _, rfl, dg_at S.dc, _, rfl, _, _, rfl, dg_cells S.dc, _, _, rfl, .inl (.inl (.inl S.cs)), _, _, rfl, rfl, _, rfl, ite2 (fun e => ?_) (fun e => ?_)⟩
        · have hi : i < (ns.length : Int) := by
            have := of_decide_eq_true e
            rw [List.length_map] at this
            exact this
          obtain ⟨j, rfl⟩ : ∃ j : Nat, i = (j : Int) := ⟨i.toNat, by have := S.i0; omega⟩
          have hj : j < ns.length := by omega
          refine ⟨_, rfl, _, _, rfl, dg_cells S.dc, _, rfl, _, _, rfl, dg_at S.dc, _, _, _, _, rfl, rfl, .inl (.inl S.cs), atI_nat (j := j) (v := .int ns[j]) (by simp [hj]), ?_⟩
          have S2 := S.put (i' := (j : Int) + 1) (l' := l) (m' := m) (by omega) S.l0 S.m0 S.m1
          refine ⟨_, rfl, _, _, rfl, dg_at S.dc, _, _, rfl, rfl, _, rfl, _, _, rfl, dp_at S.dc, ?_⟩
          refine ⟨_, rfl, _, _, rfl, dg_mix S2.dc, _, _, rfl, rfl, .inr ⟨by decide, by decide⟩, _, rfl, _, _, rfl, rfl, _, _, rfl, rfl, .inl ⟨_, rfl, _, _, rfl, rfl, (by show (0:Int) < 2147483647; decide), _, rfl, _, _, rfl, dp_mix S2.dc, ?_⟩⟩
          have S3 := S2.put (i' := (j : Int) + 1) (l' := l) S2.i0 S.l0 (hmx (m * 48271 + ns[j] + 11)).1 (hmx (m * 48271 + ns[j] + 11)).2
          refine ⟨_, rfl, _, _, rfl, rfl, ⟨by decide, by decide, by decide⟩, _, _, rfl, rfl, _, rfl, ite2 (fun e => ?_) (fun e => ?_)⟩
          · refine ⟨_, rfl, .inl ⟨_, rfl, _, rfl, _, _, rfl, rfl, b0, ?_⟩⟩
            exact k _ _ (hm _).1 (hm _).2 ⟨_, _, _, _, S3⟩ ((Keep.upd _ _ _).trans (Keep.upd _ _ _))
          · refine ⟨_, rfl, _, rfl, _, _, rfl, dp_left S3.dc, ?_⟩
            have S4 := S3.put (i' := (j : Int) + 1) (l' := ns[j]) S2.i0 (S.nn _ (List.getElem_mem hj)) S3.m0 S3.m1
            exact rest _ _ ⟨_, _, rfl, ⟨_, _, _, _, S4⟩, ((Keep.upd _ _ _).trans (Keep.upd _ _ _)).trans (Keep.upd _ _ _)⟩
        · exact rest _ _ ⟨_, _, rfl, S1, Keep.refl _ _⟩
      · refine iteF ?_
        exact rest _ _ ⟨_, _, rfl, S1, Keep.refl _ _⟩
theorem sc_law_pick : FnScope ["state", "things"] ["state", "things"] (defScope s_law_pick) := ⟨rfl, rfl, rfl, by decide +kernel, rfl, by decide +kernel, by decide +kernel⟩
theorem ok_law_pick {f : Addr} {fd : FuncData} (F : Fun K "_law_pick" "_law_pick" s_law_pick f fd) (T : Txt0 mg) (D_law_draw : Def P w K mg base 1 "_law_draw" ["state", "bound"] (spDraw K)) : FnOk P w K mg base CX0 2 f fd ["state", "things"] (spPick K) := by
  refine F.ok sc_law_pick (fun vs H Q E h => ?_) (fun cdv A outer s H vs Q E hr h => ?_)
  · obtain ⟨d, c, l, xs, rfl, _⟩ := h
    rfl
  · obtain ⟨d, c, l, xs, rfl, S, hl, hn, hz, k⟩ := h
    refine ⟨_, (pss_one (ps_ret (pe_ix ix_list (pv 1) (pe_def D_law_draw (hr.mono (by decide)) (by rfl) (pa_cons (pv 0) (pa_cons (pe_callB call_len_seq (by rfl) T.len boot_len (pa_cons (pv 1) pa_nil)) pa_nil))) (fun _ _ => rfl)))), ?_⟩
    have hp : 0 < xs.length := List.length_pos_iff.mpr hn
    refine ⟨_, rfl, _, rfl, _, rfl, _, _, rfl, .inl hl, d, c, _, rfl, S, by omega, by omega, fun n H' n0 n1 S' kp => ?_⟩
    obtain ⟨kvs, hd⟩ := S.dk
    obtain ⟨j, rfl⟩ : ∃ j : Nat, n = (j : Int) := ⟨n.toNat, by omega⟩
    have hj : j < xs.length := by omega
    refine ⟨_, _, _, _, rfl, rfl, kp.seq hd hl, atI_nat (j := j) (v := xs[j]) (by simp [hj]), ?_⟩
    exact k _ _ (List.getElem_mem hj) S' kp
theorem sc_law_is_number : FnScope ["thing"] ["thing"] (defScope s_law_is_number) := ⟨rfl, rfl, rfl, by decide +kernel, rfl, by decide +kernel, by decide +kernel⟩
theorem ok_law_is_number {f : Addr} {fd : FuncData} (F : Fun K "_law_is_number" "_law_is_number" s_law_is_number f fd) (T : Txt0 mg) : FnOk P w K mg base CX0 1 f fd ["thing"] spIsNum := by
  refine F.ok sc_law_is_number (fun vs H Q E h => ?_) (fun cdv A outer s H vs Q E hr h => ?_)
  · obtain ⟨n, rfl, _⟩ := h
    rfl
  · obtain ⟨n, rfl, k⟩ := h
    refine ⟨_, (pss_one (ps_ret (pe_and (pe_callB call_isi (by rfl) T.isinstance boot_isinstance (pa_cons (pv 0) (pa_cons (pe_bltn (v := .ty "int") (by rfl) T.int boot_int rfl) pa_nil))) (pe_one (pe_not (pe_callB call_isi (by rfl) T.isinstance boot_isinstance (pa_cons (pv 0) (pa_cons (pe_bltn (v := .ty "bool") (by rfl) T.bool boot_bool rfl) pa_nil)))))))), ?_⟩
    refine ⟨_, rfl, _, _, _, _, true, rfl, ClsV.ty _, .base (.int n), kit_ty (by decide +kernel), true, rfl, ?_⟩
    refine iteT ?_
    refine ⟨_, rfl, _, _, _, _, false, rfl, ClsV.ty _, .base (.int n), kit_ty (by decide +kernel), false, rfl, ?_⟩
    exact k
end
end Sk

set_option Elab.async false
set_option linter.all false
set_option maxRecDepth 100000
set_option maxHeartbeats 4000000
namespace Sk
open PySem PySem.Spec PyProof.Rows L2
theorem ifNotY {c A B : Prop} [Decidable c] (h : c) (q : B) : if (!decide c) = true then A else B := by
  rw [decide_eq_true h]
  exact iteF q
theorem ifNotN {c A B : Prop} [Decidable c] (h : ¬ c) (q : A) : if (!decide c) = true then A else B := by
  rw [decide_eq_false h]
  exact iteT q
theorem nxQ {D : Ends} {σ : L2.St} {H : Hp} (h : D.nx σ H) : tNext D σ H := h
section
variable {P : Program} {w : World} {K : PySem.W.Frag} {mg : Str → Option Value} {base : Heap}
abbrev s_changed : Stmt := top 1
theorem sc_changed : FnScope ["course", "change", "route", "speed", "level", "what", "value"] ["course", "change"] (defScope s_changed) := ⟨rfl, rfl, rfl, by decide +kernel, rfl, by decide +kernel, by decide +kernel⟩
theorem ok_changed {f : Addr} {fd : FuncData} (F : Fun K "changed" "changed" s_changed f fd) (T : TxtA mg) : FnOk P w K mg base CX0 1 f fd ["course", "change"] (spChanged) := by
  refine F.ok sc_changed (fun vs H Q E h => ?_) (fun cdv A outer s H vs Q E hr h => ?_)
  · obtain ⟨_, _, _, _, rfl, _⟩ := h
    rfl
  · obtain ⟨ca, a, c, z, rfl, CO, CZ, k⟩ := h
    have hu := hu_of hr
    refine ⟨_, (pss_cons (ps_asg (pv 0) (pg_tup (by rfl) (pgs_cons (pg_name (i := 2) sc_changed.nd rfl (Or.inl rfl)) (pgs_cons (pg_name (i := 3) sc_changed.nd rfl (Or.inl rfl)) (pgs_cons (pg_name (i := 4) sc_changed.nd rfl (Or.inl rfl)) pgs_nil)))))
    (pss_cons (ps_asg (pv 1) (pg_tup (by rfl) (pgs_cons (pg_name (i := 5) sc_changed.nd rfl (Or.inl rfl)) (pgs_cons (pg_name (i := 6) sc_changed.nd rfl (Or.inl rfl)) pgs_nil))))
    (pss_cons (ps_if (pt_cmpR op_eq (pv 5) pe_str (nomark _)) (pss_one (ps_ret (pe_tup (pa_cons (pv 6) (pa_cons (pv 3) (pa_cons (pv 4) pa_nil))))))
      pss_nil)
    (pss_cons (ps_if (pt_cmpR op_eq (pv 5) pe_str (nomark _)) (pss_one (ps_ret (pe_tup (pa_cons (pv 2) (pa_cons (pv 6) (pa_cons (pv 4) pa_nil))))))
      pss_nil)
    (pss_one (ps_ret (pe_tup (pa_cons (pv 2) (pa_cons (pv 3) (pa_cons (pv 6) pa_nil)))))))))), ?_⟩
    rw [show L2.start ["course", "change", "route", "speed", "level", "what", "value"] [V.ref ca, V.ref z.g] = [some (V.ref ca), some (V.ref z.g), none, none, none, none, none] from rfl]
    refine ⟨_, rfl, _, _, rfl, .inl (.inl CO.t), rfl, _, _, rfl, _, _, rfl, _, _, rfl, rfl, ?_⟩
    dsimp only [List.set]
    refine ⟨_, rfl, _, _, rfl, .inl (.inl CZ.g), rfl, _, _, rfl, _, _, rfl, rfl, ?_⟩
    dsimp only [List.set]
    refine ⟨_, rfl, rfl, _, rfl, ?_⟩
    rcases CZ.w with e | e | e
    · rw [e]
      refine ifN (fun z => absurd (V.str.inj z) (by decide +kernel)) ?_
      refine ⟨_, rfl, rfl, _, rfl, ?_⟩
      refine ifN (fun z => absurd (V.str.inj z) (by decide +kernel)) ?_
      exact ⟨_, rfl, _, rfl, _, rfl, szOk rfl, fun q hq => k q _ hq (same_new hq) (CO.ch CZ (same_new hq) (by rw [ch_level e]; exact upd_same))⟩
    · rw [e]
      refine ifN (fun z => absurd (V.str.inj z) (by decide +kernel)) ?_
      refine ⟨_, rfl, rfl, _, rfl, ?_⟩
      refine ifY rfl ?_
      exact ⟨_, rfl, _, rfl, _, rfl, szOk rfl, fun q hq => k q _ hq (same_new hq) (CO.ch CZ (same_new hq) (by rw [ch_speed e]; exact upd_same))⟩
    · rw [e]
      refine ifY rfl ?_
      exact ⟨_, rfl, _, rfl, _, rfl, szOk rfl, fun q hq => k q _ hq (same_new hq) (CO.ch CZ (same_new hq) (by rw [ch_route e]; exact upd_same))⟩

abbrev s_Pilot_course : Stmt := inClass (top 3) 1
theorem sc_Pilot_course : FnScope ["self"] ["self"] (defScope s_Pilot_course) := ⟨rfl, rfl, rfl, by decide +kernel, rfl, by decide +kernel, by decide +kernel⟩
theorem ok_Pilot_course {f : Addr} {fd : FuncData} {C : Addr} (F : Fun K "course" "Pilot.course" s_Pilot_course f fd) (T : TxtA mg) (Y : PilY K mg C) : FnOk P w K mg base CX0 1 f fd ["self"] (spCourse28 C) := by
  refine F.ok sc_Pilot_course (fun vs H Q E h => ?_) (fun cdv A outer s H vs Q E hr h => ?_)
  · obtain ⟨_, _, _, rfl, _⟩ := h
    rfl
  · obtain ⟨p, tk, s, rfl, PA, k⟩ := h
    have hu := hu_of hr
    refine ⟨_, (pss_one (ps_ret (pe_fld (pv 0) rfl))), ?_⟩
    rw [show L2.start ["self"] [V.ref p] = [some (V.ref p)] from rfl]
    obtain ⟨⟨dx, ca, ho, hco⟩, hk, sa⟩ := PA
    exact ⟨_, rfl, _, _, _, _, _, rfl, ho, Y.cl, Y.n2, rfl, k ca hco ⟨dx, ho⟩⟩

abbrev s_Pilot__hear_say : Stmt := inClass (top 3) 4
theorem sc_Pilot__hear_say : FnScope ["self", "clearance", "tick", "_", "number", "begin"] ["self", "clearance", "tick"] (defScope s_Pilot__hear_say) := ⟨rfl, rfl, rfl, by decide +kernel, rfl, by decide +kernel, by decide +kernel⟩
theorem ok_Pilot__hear_say {f : Addr} {fd : FuncData} {C : Addr} (F : Fun K "_hear_say" "Pilot._hear_say" s_Pilot__hear_say f fd) (T : TxtA mg) (Y : PilY K mg C) : FnOk P w K mg base CX0 1 f fd ["self", "clearance", "tick"] (spSay C) := by
  refine F.ok sc_Pilot__hear_say (fun vs H Q E h => ?_) (fun cdv A outer s H vs Q E hr h => ?_)
  · obtain ⟨_, _, _, _, _, _, rfl, _⟩ := h
    rfl
  · obtain ⟨p, tk, a, s, z, t, rfl, PA, CZ, k⟩ := h
    have hu := hu_of hr
    refine ⟨_, (pss_cons (ps_asg (pv 1) (pg_tup (by rfl) (pgs_cons (pg_name (i := 3) sc_Pilot__hear_say.nd rfl (Or.inl rfl)) (pgs_cons (pg_name (i := 4) sc_Pilot__hear_say.nd rfl (Or.inl rfl)) (pgs_cons (pg_name (i := 5) sc_Pilot__hear_say.nd rfl (Or.inl rfl)) (pgs_cons (pg_name (i := 3) sc_Pilot__hear_say.nd rfl (Or.inl rfl)) pgs_nil))))))
    (pss_cons (ps_if (PW.pt (pw_or (pt_cmpR op_le (pv 4) (pe_fld (pv 0) rfl) (nomark _)) (pw_or (pt_cmpR op_le (pv 5) (pv 2) (nomark _)) (pw_or1 (pt_cmpR op_notN (pe_fld (pv 0) rfl) pe_non (nomark _)))))) (pss_one (ps_ret pe_non))
      pss_nil)
    (pss_cons (ps_if (PW.pt (pw_and (pt_cmpR op_notN (pe_fld (pv 0) rfl) pe_non (nomark _)) (pw_and1 (pt_cmpR op_gt (pe_ix (r := rIxT K) ix_tup (pe_fld (pv 0) rfl) pe_int (fun _ _ => rfl)) (pv 4) (nomark _))))) (pss_one (ps_ret pe_non))
      pss_nil)
    (pss_cons (ps_fld (pv 0) (pv 1) rfl)
    (pss_one (ps_ret (pe_tup (pa_cons pe_str (pa_cons (pv 1) pa_nil))))))))), ?_⟩
    rw [show L2.start ["self", "clearance", "tick", "_", "number", "begin"] [V.ref p, V.ref a, V.int t] = [some (V.ref p), some (V.ref a), some (V.int t), none, none, none] from rfl]
    obtain ⟨⟨dx, ca, ho, hco⟩, hk, sa⟩ := id PA
    refine ⟨_, rfl, _, _, rfl, .inl (.inl CZ.t), rfl, _, _, rfl, _, _, rfl, _, _, rfl, _, _, rfl, rfl, ?_⟩
    dsimp only [List.set]
    have none_ : sayA s a z t = (s, none) → Q .non H := fun e => k .non H (by rw [e]; exact PA) (by rw [e]; rfl) (Oth.refl _ _) (TK.refl _)
    refine ⟨_, rfl, _, rfl, _, _, _, _, _, rfl, ho, Y.cl, Y.n5, rfl, _, _, rfl, rfl, _, rfl, ite2 (fun h1 => ?_) (fun h1 => ?_)⟩
    · exact none_ (if_pos (.inl (of_decide_eq_true h1)))
    have h1 : ¬ z.n ≤ s.dn := fun w => h1 (decide_eq_true w)
    refine ⟨_, rfl, _, rfl, _, _, rfl, rfl, _, rfl, ite2 (fun h2 => ?_) (fun h2 => ?_)⟩
    · exact none_ (if_pos (.inr (.inl (of_decide_eq_true h2))))
    have h2 : ¬ z.b ≤ t := fun w => h2 (decide_eq_true w)
    refine ⟨_, rfl, _, _, _, _, _, rfl, ho, Y.cl, Y.n4, rfl, rfl, _, rfl, ?_⟩
    by_cases h3 : s.nx = none
    rotate_left
    · refine ifNotN (oV_non h3) ?_
      exact none_ (if_pos (.inr (.inr h3)))
    rw [h3]
    refine ifNotY rfl ?_
    have e0 : sayA s a z t = if ∃ h, s.he = some h ∧ z.n < h.2.n then (s, none) else ({ s with he := some (a, z) }, some (.read a z)) := if_neg (by rintro (w | w | w); exact h1 w; exact h2 w; exact w h3)
    refine nxQ ?_
    dsimp only
    refine cut (t := tIfS _ _ _) (fun σ' G => σ' = [some (.ref p), some (.ref a), some (.int t), some (.ref z.g), some (.int z.n), some (.int z.b)] ∧ G = H ∧ ¬ ∃ h, s.he = some h ∧ z.n < h.2.n) ?_ (fun rest => ?_)
    · rintro σ' G ⟨rfl, rfl, h4⟩
      rw [e0, if_neg h4] at k
      refine ⟨_, rfl, _, rfl, p, C, dx, _, rfl, ho, Y.cl, Y.n3, (by show 6 < 1000; decide), ?_⟩
      obtain ⟨PA', T', O'⟩ := PiAt.put (s' := { s with he := some (a, z) }) ho hco hk ⟨fun x e => by cases e; exact CZ, sa.nx, sa.f, sa.ts⟩ rfl rfl
      rw [show putF "_heard" (V.ref a) (plf s ca tk) = plf { s with he := some (a, z) } ca tk from rfl]
      generalize upd G p (.ins C dx (plf { s with he := some (a, z) } ca tk)) = G1 at PA' T' O' ⊢
      refine ⟨_, rfl, szOk rfl, fun q hq => ?_⟩
      have s1 := same_new (o := .tup [.str "read", .ref a]) hq
      exact k (.ref q) _ (PA'.same s1) ⟨q, rfl, upd_same, (CZ.tk T').tk (Same.tk s1)⟩ (O'.trans (Oth.of s1)) (T'.trans (Same.tk s1))
    · refine ⟨_, rfl, _, _, _, _, _, rfl, ho, Y.cl, Y.n3, rfl, rfl, _, rfl, ?_⟩
      cases hhe : s.he with
      | none =>
        refine ifNotY rfl ?_
        exact rest _ _ ⟨rfl, rfl, by rw [hhe]; rintro ⟨h, e, _⟩; cases e⟩
      | some hh =>
        have hz := sa.he hh hhe
        have ho2 : H p = some (.ins C dx [("_flight", .str s.f), ("_course", .ref ca), ("_heard", .ref hh.1), ("_upcoming", oV s.nx), ("_done", .int s.dn), ("_taken", .ref tk)]) := by rw [ho]; unfold plf; rw [hhe]; rfl
        refine ifNotN (fun z => nomatch z) ?_
        refine ⟨_, rfl, _, _, _, _, _, rfl, ho2, Y.cl, Y.n3, rfl, _, _, _, _, rfl, rfl, .inl (.inl hz.t), rfl, _, rfl, _, _, rfl, rfl, _, rfl, ite2 (fun h4 => ?_) (fun h4 => ?_)⟩
        · exact none_ (e0.trans (if_pos ⟨hh, hhe, of_decide_eq_true h4⟩))
        · exact rest _ _ ⟨rfl, rfl, fun ⟨h, e, w⟩ => by rw [hhe] at e; cases e; exact h4 (decide_eq_true w)⟩

abbrev s_Pilot__hear_confirm : Stmt := inClass (top 3) 5
theorem sc_Pilot__hear_confirm : FnScope ["self", "clearance", "tick"] ["self", "clearance", "tick"] (defScope s_Pilot__hear_confirm) := ⟨rfl, rfl, rfl, by decide +kernel, rfl, by decide +kernel, by decide +kernel⟩
theorem ok_Pilot__hear_confirm {f : Addr} {fd : FuncData} {C : Addr} (F : Fun K "_hear_confirm" "Pilot._hear_confirm" s_Pilot__hear_confirm f fd) (T : TxtA mg) (Y : PilY K mg C) : FnOk P w K mg base CX0 1 f fd ["self", "clearance", "tick"] (spConf C) := by
  refine F.ok sc_Pilot__hear_confirm (fun vs H Q E h => ?_) (fun cdv A outer s H vs Q E hr h => ?_)
  · obtain ⟨_, _, _, _, _, _, rfl, _⟩ := h
    rfl
  · obtain ⟨p, tk, a, s, z, t, rfl, PA, CZ, k⟩ := h
    have hu := hu_of hr
    refine ⟨_, (pss_one (ps_if (PW.pt (pw_and (pt_cmpR (op_eqD hr.units) (pv 1) (pe_fld (pv 0) rfl) (nomark _)) (pw_and1 (pt_cmpR op_gt (pe_ix (r := rIxT K) ix_tup (pv 1) pe_int (fun _ _ => rfl)) (pv 2) (nomark _))))) (pss_cons (ps_fld (pv 0) (pv 1) rfl)
    (pss_one (ps_fld (pv 0) pe_non rfl)))
      pss_nil)), ?_⟩
    rw [show L2.start ["self", "clearance", "tick"] [V.ref p, V.ref a, V.int t] = [some (V.ref p), some (V.ref a), some (V.int t)] from rfl]
    obtain ⟨⟨dx, ca, ho, hco⟩, hk, sa⟩ := id PA
    have none_ : confA s a z t = s → Q .non H := fun e => k H (by rw [e]; exact PA) (Oth.refl _ _) (TK.refl _)
    refine ⟨_, rfl, _, rfl, _, _, _, _, _, rfl, ho, Y.cl, Y.n3, rfl, _, _, CZ.dp, sa.he.dp, CZ.sh, sa.he.sh, _, rfl, ite2 (fun h1 => ?_) (fun h1 => ?_)⟩
    rotate_left
    · exact none_ (if_neg fun w => h1 (eqv_hd.mpr w.1))
    have h1' := eqv_hd.mp h1
    refine ⟨_, rfl, _, _, _, _, rfl, rfl, .inl (.inl CZ.t), rfl, _, rfl, _, _, rfl, rfl, _, rfl, ite2 (fun h2 => ?_) (fun h2 => ?_)⟩
    rotate_left
    · exact none_ (if_neg fun w => h2 (decide_eq_true w.2))
    have e1 : confA s a z t = { s with nx := some (a, z), he := none } := if_pos ⟨h1', of_decide_eq_true h2⟩
    rw [e1] at k
    refine ⟨_, rfl, _, rfl, p, C, dx, _, rfl, ho, Y.cl, Y.n4, (by show 6 < 1000; decide), ?_⟩
    rw [show putF "_upcoming" (V.ref a) (plf s ca tk) = plf { s with nx := some (a, z) } ca tk from rfl]
    obtain ⟨PA', T', O'⟩ := PiAt.put (s' := { s with nx := some (a, z) }) ho hco hk ⟨sa.he, fun x e => by cases e; exact CZ, sa.f, sa.ts⟩ rfl rfl
    have ho1 : (upd H p (.ins C dx (plf { s with nx := some (a, z) } ca tk))) p = some (.ins C dx (plf { s with nx := some (a, z) } ca tk)) := upd_same
    generalize upd H p (.ins C dx (plf { s with nx := some (a, z) } ca tk)) = G at PA' T' O' ho1 ⊢
    obtain ⟨_, hk1, sa1⟩ := PA'
    refine ⟨_, rfl, p, C, dx, _, rfl, ho1, Y.cl, Y.n3, (by show 6 < 1000; decide), ?_⟩
    rw [show putF "_heard" V.non (plf { s with nx := some (a, z) } ca tk) = plf { s with nx := some (a, z), he := none } ca tk from rfl]
    obtain ⟨PA2, T2, O2⟩ := PiAt.put (s' := { s with nx := some (a, z), he := none }) ho1 (hco.tk T') hk1 ⟨(fun x e => nomatch e), sa1.nx, sa1.f, sa1.ts⟩ rfl rfl
    exact k _ PA2 (O'.trans O2) (T'.trans T2)

abbrev s_Pilot__hear_ask : Stmt := inClass (top 3) 6
theorem sc_Pilot__hear_ask : FnScope ["self", "number"] ["self", "number"] (defScope s_Pilot__hear_ask) := ⟨rfl, rfl, rfl, by decide +kernel, rfl, by decide +kernel, by decide +kernel⟩
theorem ok_Pilot__hear_ask {f : Addr} {fd : FuncData} {C : Addr} (F : Fun K "_hear_ask" "Pilot._hear_ask" s_Pilot__hear_ask f fd) (T : TxtA mg) (Y : PilY K mg C) : FnOk P w K mg base CX0 1 f fd ["self", "number"] (spAsk C) := by
  refine F.ok sc_Pilot__hear_ask (fun vs H Q E h => ?_) (fun cdv A outer s H vs Q E hr h => ?_)
  · obtain ⟨_, _, _, _, rfl, _⟩ := h
    rfl
  · obtain ⟨p, tk, s, n, rfl, PA, k⟩ := h
    have hu := hu_of hr
    refine ⟨_, (pss_cons (ps_if (PW.pt (pw_and (pt_cmpR op_notN (pe_fld (pv 0) rfl) pe_non (nomark _)) (pw_and1 (pt_cmpR op_eq (pe_ix (r := rIxT K) ix_tup (pe_fld (pv 0) rfl) pe_int (fun _ _ => rfl)) (pv 1) (nomark _))))) (pss_one (ps_ret pe_non))
      pss_nil)
    (pss_cons (ps_if (pt_cmp (pc_din hu (pv 1) (pe_fld (pv 0) rfl))) (pss_one (ps_ret (pe_tup (pa_cons pe_str (pa_cons (pe_fld (pv 0) rfl) (pa_cons (pv 1) pa_nil))))))
      pss_nil)
    (pss_cons (ps_fld (pv 0) (pe_callB (call_max2 rfl) (by rfl) T.max boot_max (pa_cons (pe_fld (pv 0) rfl) (pa_cons (pv 1) pa_nil))) rfl)
    (pss_cons (ps_if (PW.pt (pw_and (pt_cmpR op_notN (pe_fld (pv 0) rfl) pe_non (nomark _)) (pw_and1 (pt_cmpR op_le (pe_ix (r := rIxT K) ix_tup (pe_fld (pv 0) rfl) pe_int (fun _ _ => rfl)) (pv 1) (nomark _))))) (pss_one (ps_fld (pv 0) pe_non rfl))
      pss_nil)
    (pss_one (ps_ret (pe_tup (pa_cons pe_str (pa_cons (pe_fld (pv 0) rfl) (pa_cons (pv 1) pa_nil)))))))))), ?_⟩
    rw [show L2.start ["self", "number"] [V.ref p, V.int n] = [some (V.ref p), some (V.int n)] from rfl]
    obtain ⟨⟨dx, ca, ho, hco⟩, hk, sa⟩ := id PA
    refine cut (t := tIfS _ _ _) (fun σ' G => σ' = [some (.ref p), some (.int n)] ∧ G = H ∧ ¬ ∃ h, s.nx = some h ∧ h.2.n = n) ?_ (fun rest => ?_)
    rotate_left
    · refine ⟨_, rfl, _, _, _, _, _, rfl, ho, Y.cl, Y.n4, rfl, rfl, _, rfl, ?_⟩
      cases hnx : s.nx with
      | none =>
        refine ifNotY rfl ?_
        exact rest _ _ ⟨rfl, rfl, by rw [hnx]; rintro ⟨h, e, _⟩; cases e⟩
      | some hh =>
        have hz := sa.nx hh hnx
        have ho2 : H p = some (.ins C dx [("_flight", .str s.f), ("_course", .ref ca), ("_heard", oV s.he), ("_upcoming", .ref hh.1), ("_done", .int s.dn), ("_taken", .ref tk)]) := by rw [ho]; unfold plf; rw [hnx]; rfl
        refine ifNotN (fun z => nomatch z) ?_
        refine ⟨_, rfl, _, _, _, _, _, rfl, ho2, Y.cl, Y.n4, rfl, _, _, _, _, rfl, rfl, .inl (.inl hz.t), rfl, _, rfl, rfl, _, rfl, ?_⟩
        by_cases e : hh.2.n = n
        · refine eqY e ?_
          have e1 : askA s n = (s, none) := if_pos ⟨hh, hnx, e⟩
          exact k .non H (by rw [e1]; exact PA) (by rw [e1]; rfl) (Oth.refl _ _) (TK.refl _)
        · refine eqN e ?_
          exact rest _ _ ⟨rfl, rfl, fun ⟨h, e', w⟩ => by rw [hnx] at e'; cases e'; exact e w⟩
    rintro σ' G ⟨rfl, rfl, h1⟩
    obtain ⟨ks, k1, kl, k2⟩ := id hk
    refine ⟨_, rfl, _, rfl, _, _, _, _, _, rfl, ho, Y.cl, Y.n6, rfl, _, _, rfl, DGet.k (k := .inl n) k1, _, rfl, ite2 (fun h2 => ?_) (fun h2 => ?_)⟩
    · have e1 : askA s n = (s, some (.num "taken" s.f n)) := (if_neg h1).trans (if_pos ((k2 n).mp h2))
      rw [e1] at k
      refine ⟨_, rfl, _, _, _, _, _, rfl, ho, Y.cl, Y.n1, rfl, _, rfl, szOk rfl, fun q hq => ?_⟩
      have s1 := same_new (o := .tup [.str "taken", .str s.f, .int n]) hq
      exact k (.ref q) _ (PA.same s1) ⟨q, rfl, upd_same, sa.f, .inl rfl⟩ (Oth.of s1) (Same.tk s1)
    have h2 : ¬ n ∈ s.ts := fun w => h2 ((k2 n).mpr w)
    refine nxQ ?_
    dsimp only
    obtain ⟨dn, edn⟩ : ∃ dn, (if n > s.dn then n else s.dn) = dn := ⟨_, rfl⟩
    refine ⟨_, rfl, _, _, _, _, _, rfl, ho, Y.cl, Y.n5, rfl, _, rfl, _, _, rfl, _, rfl, p, C, dx, _, rfl, ho, Y.cl, Y.n5, (by show 6 < 1000; decide), ?_⟩
    rw [edn]
    rw [show putF "_done" (V.int dn) (plf s ca tk) = plf { s with dn := dn } ca tk from rfl]
    obtain ⟨PA', T', O'⟩ := PiAt.put (s' := { s with dn := dn }) ho hco hk ⟨sa.he, sa.nx, sa.f, sa.ts⟩ rfl rfl
    have ho1 : (upd G p (.ins C dx (plf { s with dn := dn } ca tk))) p = some (.ins C dx (plf { s with dn := dn } ca tk)) := upd_same
    generalize upd G p (.ins C dx (plf { s with dn := dn } ca tk)) = G1 at PA' T' O' ho1 ⊢
    obtain ⟨_, hk1, sa1⟩ := id PA'
    dsimp only
    refine cut (t := tIfS _ _ _) (fun σ' G2 => σ' = [some (.ref p), some (.int n)] ∧ PiAt C G2 p tk (askA s n).1 ∧ Oth [p, tk] G G2 ∧ TK G G2) ?_ (fun rest => ?_)
    · rintro σ' G2 ⟨rfl, PA2, O2, T2⟩
      have e2 : (askA s n).2 = some (.num "not" s.f n) := by unfold askA; rw [if_neg h1, if_neg h2]
      have ef : (askA s n).1.f = s.f := by unfold askA; rw [if_neg h1, if_neg h2]
      obtain ⟨⟨dx2, ca2, ho3, _⟩, _, _⟩ := id PA2
      refine ⟨_, rfl, _, _, _, _, _, rfl, ho3, Y.cl, Y.n1, rfl, _, rfl, szOk rfl, fun q hq => ?_⟩
      rw [ef]
      have s1 := same_new (o := .tup [.str "not", .str s.f, .int n]) hq
      exact k (.ref q) _ (PA2.same s1) (by rw [e2]; exact ⟨q, rfl, upd_same, sa.f, .inr rfl⟩) (O2.trans (Oth.of s1)) (T2.trans (Same.tk s1))
    have e1 : (askA s n).1 = { s with dn := dn, he := if ∃ h, s.he = some h ∧ h.2.n ≤ n then none else s.he } := by unfold askA; rw [if_neg h1, if_neg h2, edn]
    refine ⟨_, rfl, _, _, _, _, _, rfl, ho1, Y.cl, Y.n3, rfl, rfl, _, rfl, ?_⟩
    have skip : ¬ (∃ h, s.he = some h ∧ h.2.n ≤ n) → PiAt C G1 p tk (askA s n).1 := fun w => by
      rw [e1, if_neg w]
      exact PA'
    dsimp only
    cases hhe : s.he with
    | none =>
      refine ifNotY rfl ?_
      exact rest _ _ ⟨rfl, skip (by rw [hhe]; rintro ⟨h, e, _⟩; cases e), O', T'⟩
    | some hh =>
      have hz := (sa.he hh hhe).tk T'
      have ho2 : G1 p = some (.ins C dx [("_flight", .str s.f), ("_course", .ref ca), ("_heard", .ref hh.1), ("_upcoming", oV s.nx), ("_done", .int dn), ("_taken", .ref tk)]) := by rw [ho1]; unfold plf; dsimp only; rw [hhe]; rfl
      refine ifNotN (fun z => nomatch z) ?_
      refine ⟨_, rfl, _, _, _, _, _, rfl, ho2, Y.cl, Y.n3, rfl, _, _, _, _, rfl, rfl, .inl (.inl hz.t), rfl, _, rfl, _, _, rfl, rfl, _, rfl, ite2 (fun h4 => ?_) (fun h4 => ?_)⟩
      · refine ⟨_, rfl, p, C, dx, _, rfl, ho1, Y.cl, Y.n3, (by show 6 < 1000; decide), ?_⟩
        rw [show putF "_heard" V.non (plf { s with dn := dn } ca tk) = plf { s with dn := dn, he := none } ca tk from rfl]
        obtain ⟨PA2, T2, O2⟩ := PiAt.put (s' := { s with dn := dn, he := none }) ho1 (hco.tk T') hk1 ⟨(fun x e => nomatch e), sa1.nx, sa1.f, sa1.ts⟩ rfl rfl
        exact rest _ _ ⟨rfl, by rw [e1, if_pos ⟨hh, hhe, of_decide_eq_true h4⟩]; exact PA2, O'.trans O2, T'.trans T2⟩
      · exact rest _ _ ⟨rfl, skip (fun ⟨h, e, w⟩ => by rw [hhe] at e; cases e; exact h4 (decide_eq_true w)), O', T'⟩

abbrev s_Pilot_begin_tick : Stmt := inClass (top 3) 3
theorem sc_Pilot_begin_tick : FnScope ["self", "tick", "_", "number", "change"] ["self", "tick"] (defScope s_Pilot_begin_tick) := ⟨rfl, rfl, rfl, by decide +kernel, rfl, by decide +kernel, by decide +kernel⟩
theorem ok_Pilot_begin_tick {f : Addr} {fd : FuncData} {C : Addr} (F : Fun K "begin_tick" "Pilot.begin_tick" s_Pilot_begin_tick f fd) (T : TxtA mg) (Y : PilY K mg C)
    (D_changed : Def P w K mg base 1 "changed" ["course", "change"] (spChanged)) : FnOk P w K mg base CX0 2 f fd ["self", "tick"] (spBegin28 C) := by
  refine F.ok sc_Pilot_begin_tick (fun vs H Q E h => ?_) (fun cdv A outer s H vs Q E hr h => ?_)
  · obtain ⟨_, _, _, _, rfl, _⟩ := h
    rfl
  · obtain ⟨p, tk, s, t, rfl, PA, tsl, k⟩ := h
    have hu := hu_of hr
    refine ⟨_, (pss_cons (ps_if (PW.pt (pw_or (pt_cmpR op_isN (pe_fld (pv 0) rfl) pe_non (nomark _)) (pw_or1 (pt_cmpR op_gt (pe_ix (r := rIxT K) ix_tup (pe_fld (pv 0) rfl) pe_int (fun _ _ => rfl)) (pv 1) (nomark _))))) (pss_one (ps_ret pe_non))
      pss_nil)
    (pss_cons (ps_asg (pe_fld (pv 0) rfl) (pg_tup (by rfl) (pgs_cons (pg_name (i := 2) sc_Pilot_begin_tick.nd rfl (Or.inl rfl)) (pgs_cons (pg_name (i := 3) sc_Pilot_begin_tick.nd rfl (Or.inl rfl)) (pgs_cons (pg_name (i := 2) sc_Pilot_begin_tick.nd rfl (Or.inl rfl)) (pgs_cons (pg_name (i := 4) sc_Pilot_begin_tick.nd rfl (Or.inl rfl)) pgs_nil))))))
    (pss_cons (ps_fld (pv 0) pe_non rfl)
    (pss_cons (ps_fld (pv 0) (pe_def D_changed (hr.mono (by decide)) (by rfl) (pa_cons (pe_fld (pv 0) rfl) (pa_cons (pv 4) pa_nil))) rfl)
    (pss_cons (ps_dput hu (pe_fld (pv 0) rfl) (pv 3) pe_bl rfl)
    (pss_cons (ps_fld (pv 0) (pe_callB (call_max2 rfl) (by rfl) T.max boot_max (pa_cons (pe_fld (pv 0) rfl) (pa_cons (pv 3) pa_nil))) rfl)
    (pss_one (ps_ret (pe_tup (pa_cons pe_str (pa_cons (pe_fld (pv 0) rfl) (pa_cons (pv 3) pa_nil)))))))))))), ?_⟩
    rw [show L2.start ["self", "tick", "_", "number", "change"] [V.ref p, V.int t] = [some (V.ref p), some (V.int t), none, none, none] from rfl]
    obtain ⟨⟨dx, ca, ho, hco⟩, ⟨ks, k1, kl, k2⟩, sa⟩ := id PA
    refine ⟨_, rfl, _, _, _, _, _, rfl, ho, Y.cl, Y.n4, rfl, rfl, _, rfl, ?_⟩
    cases hnx : s.nx with
    | none =>
      have e1 : begA s t = (s, none) := by unfold begA; rw [hnx]
      refine ifY rfl ?_
      exact k .non H (by rw [e1]; exact PA) (by rw [e1]; rfl) (Oth.refl _ _) (TK.refl _)
    | some hh =>
    have hz := sa.nx hh hnx
    have ho2 : H p = some (.ins C dx [("_flight", .str s.f), ("_course", .ref ca), ("_heard", oV s.he), ("_upcoming", .ref hh.1), ("_done", .int s.dn), ("_taken", .ref tk)]) := by rw [ho]; unfold plf; rw [hnx]; rfl
    refine ifN (fun z => nomatch z) ?_
    refine ⟨_, rfl, _, _, _, _, _, rfl, ho2, Y.cl, Y.n4, rfl, _, _, _, _, rfl, rfl, .inl (.inl hz.t), rfl, _, rfl, _, _, rfl, rfl, _, rfl, ite2 (fun h1 => ?_) (fun h1 => ?_)⟩
    · have e1 : begA s t = (s, none) := by unfold begA; rw [hnx]; exact if_pos (of_decide_eq_true h1)
      exact k .non H (by rw [e1]; exact PA) (by rw [e1]; rfl) (Oth.refl _ _) (TK.refl _)
    obtain ⟨dn, edn⟩ : ∃ dn, (if hh.2.n > s.dn then hh.2.n else s.dn) = dn := ⟨_, rfl⟩
    have e1 : begA s t = ({ s with nx := none, co := s.co.ch hh.2, ts := s.ts ++ [hh.2.n], dn := dn }, some (.num "taken" s.f hh.2.n)) := by
      unfold begA
      rw [hnx]
      exact (if_neg fun w => h1 (decide_eq_true w)).trans (by rw [edn])
    rw [e1] at k
    refine nxQ ?_
    dsimp only
    refine ⟨_, rfl, _, _, _, _, _, rfl, ho2, Y.cl, Y.n4, rfl, _, _, rfl, .inl (.inl hz.t), rfl, _, _, rfl, _, _, rfl, _, _, rfl, _, _, rfl, rfl, ?_⟩
    dsimp only [List.set]
    refine ⟨_, rfl, p, C, dx, _, rfl, ho, Y.cl, Y.n4, (by show 6 < 1000; decide), ?_⟩
    rw [show putF "_upcoming" V.non (plf s ca tk) = plf { s with nx := none } ca tk from rfl]
    obtain ⟨⟨_, _, sa1⟩, T1, O1⟩ := PiAt.put (s' := { s with nx := none }) ho hco ⟨ks, k1, kl, k2⟩ ⟨sa.he, (fun x e => nomatch e), sa.f, sa.ts⟩ rfl rfl
    have ho1 : (upd H p (.ins C dx (plf { s with nx := none } ca tk))) p = some (.ins C dx (plf { s with nx := none } ca tk)) := upd_same
    have k3 : (upd H p (.ins C dx (plf { s with nx := none } ca tk))) tk = some (.dK ks) := by rw [upd_ne (ne_of k1 ho (by intro z; cases z))]; exact k1
    generalize upd H p (.ins C dx (plf { s with nx := none } ca tk)) = G1 at T1 O1 ho1 k3 sa1 ⊢
    refine ⟨_, rfl, _, _, _, _, _, rfl, ho1, Y.cl, Y.n2, rfl, _, rfl, ca, hh.1, s.co, hh.2, rfl, hco.tk T1, hz.tk T1, fun q G2 hq s2 CQ => ?_⟩
    have ho3 := s2 _ _ ho1
    have k4 := s2 _ _ k3
    have sa2 := sa1.tk (Same.tk s2)
    refine ⟨_, rfl, p, C, dx, _, rfl, ho3, Y.cl, Y.n2, (by show 6 < 1000; decide), ?_⟩
    rw [show putF "_course" (V.ref q) (plf { s with nx := none } ca tk) = plf { s with nx := none, co := s.co.ch hh.2 } q tk from rfl]
    have T3 := tk_put (o' := .ins C dx (plf { s with nx := none, co := s.co.ch hh.2 } q tk)) ho3 (fun xs z => nomatch z)
    have O3 := Oth.put (T := [p, tk]) (H := G2) (a := p) (o := .ins C dx (plf { s with nx := none, co := s.co.ch hh.2 } q tk)) (by simp)
    have ho4 : (upd G2 p (.ins C dx (plf { s with nx := none, co := s.co.ch hh.2 } q tk))) p = some (.ins C dx (plf { s with nx := none, co := s.co.ch hh.2 } q tk)) := upd_same
    have k5 : (upd G2 p (.ins C dx (plf { s with nx := none, co := s.co.ch hh.2 } q tk))) tk = some (.dK ks) := by rw [upd_ne (ne_of k4 ho3 (by intro z; cases z))]; exact k4
    generalize upd G2 p (.ins C dx (plf { s with nx := none, co := s.co.ch hh.2 } q tk)) = G3 at T3 O3 ho4 k5 ⊢
    have ksl : ks.length ≤ 1000 := Nat.le_trans kl sa.ts
    refine ⟨_, rfl, _, _, _, _, _, rfl, ho4, Y.cl, Y.n6, rfl, _, rfl, tk, _, rfl, DPut.k (k := .inl hh.2.n) k5 (small1000 (by omega)), ?_⟩
    have T4 := tk_put (o' := .dK (putK ks (.inl hh.2.n) (.bl true))) k5 (fun xs z => nomatch z)
    have O4 := Oth.put (T := [p, tk]) (H := G3) (a := tk) (o := .dK (putK ks (.inl hh.2.n) (.bl true))) (by simp)
    have k6 : (upd G3 tk (.dK (putK ks (.inl hh.2.n) (.bl true)))) tk = some (.dK (putK ks (.inl hh.2.n) (.bl true))) := upd_same
    have ho5 : (upd G3 tk (.dK (putK ks (.inl hh.2.n) (.bl true)))) p = some (.ins C dx (plf { s with nx := none, co := s.co.ch hh.2 } q tk)) := by rw [upd_ne (ne_of ho4 k5 (by intro z; cases z))]; exact ho4
    generalize upd G3 tk (.dK (putK ks (.inl hh.2.n) (.bl true))) = G4 at T4 O4 k6 ho5 ⊢
    refine ⟨_, rfl, _, _, _, _, _, rfl, ho5, Y.cl, Y.n5, rfl, _, rfl, _, _, rfl, _, rfl, p, C, dx, _, rfl, ho5, Y.cl, Y.n5, (by show 6 < 1000; decide), ?_⟩
    dsimp only
    rw [edn]
    rw [show putF "_done" (V.int dn) (plf { s with nx := none, co := s.co.ch hh.2 } q tk) = plf { s with nx := none, co := s.co.ch hh.2, ts := s.ts ++ [hh.2.n], dn := dn } q tk from rfl]
    have T24 := ((Same.tk s2).trans T3).trans T4
    have sa4 : AsAt G4 { s with nx := none, co := s.co.ch hh.2, ts := s.ts ++ [hh.2.n], dn := dn } := ⟨sa1.he.tk T24, (fun x e => nomatch e), sa.f, by rw [List.length_append]; exact tsl⟩
    have CQ4 := (CQ.tk T3).tk T4
    have T5 := tk_put (o' := .ins C dx (plf { s with nx := none, co := s.co.ch hh.2, ts := s.ts ++ [hh.2.n], dn := dn } q tk)) ho5 (fun xs z => nomatch z)
    have PA5 : PiAt C (upd G4 p (.ins C dx (plf { s with nx := none, co := s.co.ch hh.2, ts := s.ts ++ [hh.2.n], dn := dn } q tk))) p tk { s with nx := none, co := s.co.ch hh.2, ts := s.ts ++ [hh.2.n], dn := dn } :=
      ⟨⟨dx, q, upd_same, CQ4.tk T5⟩, ⟨_, by rw [upd_ne (ne_of k6 ho5 (by intro z; cases z))]; exact k6, by
        have := putK_len (α := Unit) (Sum.inl hh.2.n : Key) (.bl true) ks
        show _ ≤ (s.ts ++ [hh.2.n]).length
        rw [List.length_append, List.length_singleton]
        omega, fun m => by
        rw [valV_put]
        show _ ↔ m ∈ s.ts ++ [hh.2.n]
        rw [List.mem_append, List.mem_singleton]
        by_cases e : m = hh.2.n
        · rw [if_pos (by rw [e])]
          simp [e]
        · rw [if_neg (fun w => e (Sum.inl.inj w)), k2 m]
          exact ⟨.inl, fun w => w.resolve_right e⟩⟩, sa4.tk T5⟩
    have ho6 : (upd G4 p (.ins C dx (plf { s with nx := none, co := s.co.ch hh.2, ts := s.ts ++ [hh.2.n], dn := dn } q tk))) p = some (.ins C dx (plf { s with nx := none, co := s.co.ch hh.2, ts := s.ts ++ [hh.2.n], dn := dn } q tk)) := upd_same
    have O5 := Oth.put (T := [p, tk]) (H := G4) (a := p) (o := .ins C dx (plf { s with nx := none, co := s.co.ch hh.2, ts := s.ts ++ [hh.2.n], dn := dn } q tk)) (by simp)
    generalize upd G4 p (.ins C dx (plf { s with nx := none, co := s.co.ch hh.2, ts := s.ts ++ [hh.2.n], dn := dn } q tk)) = G5 at T5 PA5 ho6 O5 ⊢
    refine ⟨_, rfl, _, _, _, _, _, rfl, ho6, Y.cl, Y.n1, rfl, _, rfl, szOk rfl, fun u hu' => ?_⟩
    have s6 := same_new (o := .tup [.str "taken", .str s.f, .int hh.2.n]) hu'
    exact k (.ref u) _ (PA5.same s6) ⟨u, rfl, upd_same, sa.f, .inl rfl⟩ (((((O1.trans (Oth.of s2)).trans O3).trans O4).trans O5).trans (Oth.of s6)) (((T1.trans T24).trans T5).trans (Same.tk s6))

abbrev s_Pilot_hear : Stmt := inClass (top 3) 2
theorem sc_Pilot_hear : FnScope ["self", "message", "tick", "what"] ["self", "message", "tick"] (defScope s_Pilot_hear) := ⟨rfl, rfl, rfl, by decide +kernel, rfl, by decide +kernel, by decide +kernel⟩
theorem ok_Pilot_hear {f : Addr} {fd : FuncData} {C : Addr} (F : Fun K "hear" "Pilot.hear" s_Pilot_hear f fd) (T : TxtA mg) (Y : PilY K mg C)
    (M_hear_say : MDef P w K mg base 1 C "_hear_say" ["self", "clearance", "tick"] (spSay C))
    (M_hear_confirm : MDef P w K mg base 1 C "_hear_confirm" ["self", "clearance", "tick"] (spConf C))
    (M_hear_ask : MDef P w K mg base 1 C "_hear_ask" ["self", "number"] (spAsk C)) : FnOk P w K mg base CX0 2 f fd ["self", "message", "tick"] (spHear C) := by
  refine F.ok sc_Pilot_hear (fun vs H Q E h => ?_) (fun cdv A outer s H vs Q E hr h => ?_)
  · obtain ⟨_, _, _, _, _, _, rfl, _⟩ := h
    rfl
  · obtain ⟨p, tk, q, s, m, t, rfl, PA, MA, k⟩ := h
    have hu := hu_of hr
    refine ⟨_, (pss_cons (ps_set (i := 3) sc_Pilot_hear.nd rfl (Or.inl rfl) (pe_ix (r := rIxT K) ix_tup (pv 1) pe_int (fun _ _ => rfl)))
    (pss_cons (ps_if (PW.pt (pw_and (pt_cmpR op_eq (pv 3) pe_str (nomark _)) (pw_and1 (pt_cmpR op_eq (pe_ix (r := rIxT K) ix_tup (pe_ix (r := rIxT K) ix_tup (pv 1) pe_int (fun _ _ => rfl)) pe_int (fun _ _ => rfl)) (pe_fld (pv 0) rfl) (nomark _))))) (pss_one (ps_ret (pe_mdef M_hear_say Y.cl (hr.mono (by decide)) (pv 0) (pa_cons (pe_ix (r := rIxT K) ix_tup (pv 1) pe_int (fun _ _ => rfl)) (pa_cons (pv 2) pa_nil)))))
      pss_nil)
    (pss_cons (ps_if (PW.pt (pw_and (pt_cmpR op_eq (pv 3) pe_str (nomark _)) (pw_and1 (pt_cmpR op_eq (pe_ix (r := rIxT K) ix_tup (pe_ix (r := rIxT K) ix_tup (pv 1) pe_int (fun _ _ => rfl)) pe_int (fun _ _ => rfl)) (pe_fld (pv 0) rfl) (nomark _))))) (pss_one (ps_expr (pe_mdef M_hear_confirm Y.cl (hr.mono (by decide)) (pv 0) (pa_cons (pe_ix (r := rIxT K) ix_tup (pv 1) pe_int (fun _ _ => rfl)) (pa_cons (pv 2) pa_nil)))))
      pss_nil)
    (pss_cons (ps_if (PW.pt (pw_and (pt_cmpR op_eq (pv 3) pe_str (nomark _)) (pw_and1 (pt_cmpR op_eq (pe_ix (r := rIxT K) ix_tup (pv 1) pe_int (fun _ _ => rfl)) (pe_fld (pv 0) rfl) (nomark _))))) (pss_one (ps_ret (pe_mdef M_hear_ask Y.cl (hr.mono (by decide)) (pv 0) (pa_cons (pe_ix (r := rIxT K) ix_tup (pv 1) pe_int (fun _ _ => rfl)) pa_nil))))
      pss_nil)
    (pss_one (ps_ret pe_non)))))), ?_⟩
    rw [show L2.start ["self", "message", "tick", "what"] [V.ref p, V.ref q, V.int t] = [some (V.ref p), some (V.ref q), some (V.int t), none] from rfl]
    obtain ⟨⟨dx, ca, ho, hco⟩, hk, sa⟩ := id PA
    cases m with
    | cl w a z =>
      obtain ⟨h, CZ, hw⟩ := MA
      refine ⟨_, rfl, _, _, _, _, rfl, rfl, .inl (.inl h), rfl, ?_⟩
      refine nm ?_
      dsimp only [List.set]
      by_cases e : z.f = s.f
      · rcases hw with rfl | rfl | rfl
        · have e1 : hearA s (.cl "say" a z) t = sayA s a z t := by unfold hearA; dsimp only; rw [if_pos e, if_pos rfl]
          rw [e1] at k
          refine ⟨_, rfl, rfl, _, rfl, ifY rfl ?_⟩
          refine ⟨_, rfl, _, _, _, _, rfl, rfl, .inl (.inl h), rfl, _, _, _, _, rfl, rfl, .inl (.inl CZ.t), rfl, _, rfl, _, _, _, _, _, rfl, ho, Y.cl, Y.n1, rfl, (by simp [scal]), _, rfl, ?_⟩
          refine ifY (by rw [e]) ?_
          refine ⟨_, rfl, _, _, _, rfl, ho, rfl, _, rfl, _, _, _, _, rfl, rfl, .inl (.inl h), rfl, _, rfl, p, tk, a, s, z, t, rfl, PA, CZ, k⟩
        · have e1 : hearA s (.cl "confirm" a z) t = (confA s a z t, none) := by unfold hearA; dsimp only; rw [if_pos e, if_neg (by decide +kernel), if_pos rfl]
          rw [e1] at k
          refine ⟨_, rfl, rfl, _, rfl, ifN (fun z => absurd (V.str.inj z) (by decide +kernel)) ?_⟩
          refine nxQ ?_
          dsimp only
          refine ⟨_, rfl, rfl, _, rfl, ifY rfl ?_⟩
          refine ⟨_, rfl, _, _, _, _, rfl, rfl, .inl (.inl h), rfl, _, _, _, _, rfl, rfl, .inl (.inl CZ.t), rfl, _, rfl, _, _, _, _, _, rfl, ho, Y.cl, Y.n1, rfl, (by simp [scal]), _, rfl, ?_⟩
          refine ifY (by rw [e]) ?_
          refine ⟨_, rfl, _, _, _, rfl, ho, rfl, _, rfl, _, _, _, _, rfl, rfl, .inl (.inl h), rfl, _, rfl, p, tk, a, s, z, t, rfl, PA, CZ, fun H' PA' O' T' => ?_⟩
          refine nxQ ?_
          dsimp only
          refine ⟨_, rfl, rfl, _, rfl, ifN (fun z => absurd (V.str.inj z) (by decide +kernel)) ?_⟩
          refine nxQ ?_
          dsimp only
          exact k .non H' PA' rfl O' T'
        · have e1 : hearA s (.cl "read" a z) t = (s, none) := by unfold hearA; dsimp only; rw [if_pos e, if_neg (by decide +kernel), if_neg (by decide +kernel)]
          refine ⟨_, rfl, rfl, _, rfl, ifN (fun z => absurd (V.str.inj z) (by decide +kernel)) ?_⟩
          refine nxQ ?_
          dsimp only
          refine ⟨_, rfl, rfl, _, rfl, ifN (fun z => absurd (V.str.inj z) (by decide +kernel)) ?_⟩
          refine nxQ ?_
          dsimp only
          refine ⟨_, rfl, rfl, _, rfl, ifN (fun z => absurd (V.str.inj z) (by decide +kernel)) ?_⟩
          refine nxQ ?_
          dsimp only
          exact k .non H (by rw [e1]; exact PA) (by rw [e1]; rfl) (Oth.refl _ _) (TK.refl _)
      · have e1 : hearA s (.cl w a z) t = (s, none) := by unfold hearA; dsimp only; rw [if_neg e]
        rcases hw with rfl | rfl | rfl
        · refine ⟨_, rfl, rfl, _, rfl, ifY rfl ?_⟩
          refine ⟨_, rfl, _, _, _, _, rfl, rfl, .inl (.inl h), rfl, _, _, _, _, rfl, rfl, .inl (.inl CZ.t), rfl, _, rfl, _, _, _, _, _, rfl, ho, Y.cl, Y.n1, rfl, (by simp [scal]), _, rfl, ?_⟩
          refine ifN (fun w => e (V.str.inj w)) ?_
          refine nxQ ?_
          dsimp only
          refine ⟨_, rfl, rfl, _, rfl, ifN (fun z => absurd (V.str.inj z) (by decide +kernel)) ?_⟩
          refine nxQ ?_
          dsimp only
          refine ⟨_, rfl, rfl, _, rfl, ifN (fun z => absurd (V.str.inj z) (by decide +kernel)) ?_⟩
          refine nxQ ?_
          dsimp only
          exact k .non H (by rw [e1]; exact PA) (by rw [e1]; rfl) (Oth.refl _ _) (TK.refl _)
        · refine ⟨_, rfl, rfl, _, rfl, ifN (fun z => absurd (V.str.inj z) (by decide +kernel)) ?_⟩
          refine nxQ ?_
          dsimp only
          refine ⟨_, rfl, rfl, _, rfl, ifY rfl ?_⟩
          refine ⟨_, rfl, _, _, _, _, rfl, rfl, .inl (.inl h), rfl, _, _, _, _, rfl, rfl, .inl (.inl CZ.t), rfl, _, rfl, _, _, _, _, _, rfl, ho, Y.cl, Y.n1, rfl, (by simp [scal]), _, rfl, ?_⟩
          refine ifN (fun w => e (V.str.inj w)) ?_
          refine nxQ ?_
          dsimp only
          refine ⟨_, rfl, rfl, _, rfl, ifN (fun z => absurd (V.str.inj z) (by decide +kernel)) ?_⟩
          refine nxQ ?_
          dsimp only
          exact k .non H (by rw [e1]; exact PA) (by rw [e1]; rfl) (Oth.refl _ _) (TK.refl _)
        · refine ⟨_, rfl, rfl, _, rfl, ifN (fun z => absurd (V.str.inj z) (by decide +kernel)) ?_⟩
          refine nxQ ?_
          dsimp only
          refine ⟨_, rfl, rfl, _, rfl, ifN (fun z => absurd (V.str.inj z) (by decide +kernel)) ?_⟩
          refine nxQ ?_
          dsimp only
          refine ⟨_, rfl, rfl, _, rfl, ifN (fun z => absurd (V.str.inj z) (by decide +kernel)) ?_⟩
          refine nxQ ?_
          dsimp only
          exact k .non H (by rw [e1]; exact PA) (by rw [e1]; rfl) (Oth.refl _ _) (TK.refl _)
    | no w f' n =>
      obtain ⟨h, fo, hw⟩ := MA
      refine ⟨_, rfl, _, _, _, _, rfl, rfl, .inl (.inl h), rfl, ?_⟩
      refine nm ?_
      dsimp only [List.set]
      rcases hw with rfl | rfl | rfl
      · refine ⟨_, rfl, rfl, _, rfl, ifN (fun z => absurd (V.str.inj z) (by decide +kernel)) ?_⟩
        refine nxQ ?_
        dsimp only
        refine ⟨_, rfl, rfl, _, rfl, ifN (fun z => absurd (V.str.inj z) (by decide +kernel)) ?_⟩
        refine nxQ ?_
        dsimp only
        refine ⟨_, rfl, rfl, _, rfl, ifY rfl ?_⟩
        refine ⟨_, rfl, _, _, _, _, rfl, rfl, .inl (.inl h), rfl, _, rfl, _, _, _, _, _, rfl, ho, Y.cl, Y.n1, rfl, (by simp [scal]), _, rfl, ?_⟩
        by_cases e : f' = s.f
        · have e1 : hearA s (.no "ask" f' n) t = askA s n := by unfold hearA; dsimp only; rw [if_pos ⟨rfl, e⟩]
          rw [e1] at k
          refine ifY (by rw [e]) ?_
          refine ⟨_, rfl, _, _, _, rfl, ho, rfl, _, rfl, _, _, _, _, rfl, rfl, .inl (.inl h), rfl, p, tk, s, n, rfl, PA, k⟩
        · have e1 : hearA s (.no "ask" f' n) t = (s, none) := by unfold hearA; dsimp only; rw [if_neg (fun w => e w.2)]
          refine ifN (fun w => e (V.str.inj w)) ?_
          refine nxQ ?_
          dsimp only
          exact k .non H (by rw [e1]; exact PA) (by rw [e1]; rfl) (Oth.refl _ _) (TK.refl _)
      · have e1 : hearA s (.no "taken" f' n) t = (s, none) := by unfold hearA; dsimp only; rw [if_neg (fun w => absurd w.1 (by decide +kernel))]
        refine ⟨_, rfl, rfl, _, rfl, ifN (fun z => absurd (V.str.inj z) (by decide +kernel)) ?_⟩
        refine nxQ ?_
        dsimp only
        refine ⟨_, rfl, rfl, _, rfl, ifN (fun z => absurd (V.str.inj z) (by decide +kernel)) ?_⟩
        refine nxQ ?_
        dsimp only
        refine ⟨_, rfl, rfl, _, rfl, ifN (fun z => absurd (V.str.inj z) (by decide +kernel)) ?_⟩
        refine nxQ ?_
        dsimp only
        exact k .non H (by rw [e1]; exact PA) (by rw [e1]; rfl) (Oth.refl _ _) (TK.refl _)
      · have e1 : hearA s (.no "not" f' n) t = (s, none) := by unfold hearA; dsimp only; rw [if_neg (fun w => absurd w.1 (by decide +kernel))]
        refine ⟨_, rfl, rfl, _, rfl, ifN (fun z => absurd (V.str.inj z) (by decide +kernel)) ?_⟩
        refine nxQ ?_
        dsimp only
        refine ⟨_, rfl, rfl, _, rfl, ifN (fun z => absurd (V.str.inj z) (by decide +kernel)) ?_⟩
        refine nxQ ?_
        dsimp only
        refine ⟨_, rfl, rfl, _, rfl, ifN (fun z => absurd (V.str.inj z) (by decide +kernel)) ?_⟩
        refine nxQ ?_
        dsimp only
        exact k .non H (by rw [e1]; exact PA) (by rw [e1]; rfl) (Oth.refl _ _) (TK.refl _)

abbrev s_Pilot___init__ : Stmt := inClass (top 3) 0
theorem sc_Pilot___init__ : FnScope ["self", "flight", "course"] ["self", "flight", "course"] (defScope s_Pilot___init__) := ⟨rfl, rfl, rfl, by decide +kernel, rfl, by decide +kernel, by decide +kernel⟩
theorem ok_Pilot___init__ {f : Addr} {fd : FuncData} {C : Addr} (F : Fun K "__init__" "Pilot.__init__" s_Pilot___init__ f fd) (T : TxtA mg) (Y : PilY K mg C) : FnOk P w K mg base CX0 1 f fd ["self", "flight", "course"] (spPil C) := by
  refine F.ok sc_Pilot___init__ (fun vs H Q E h => ?_) (fun cdv A outer s H vs Q E hr h => ?_)
  · obtain ⟨_, _, _, _, _, rfl, _⟩ := h
    rfl
  · obtain ⟨p, dx, ca, fl, c, rfl, hp, CO, fo, k⟩ := h
    have hu := hu_of hr
    refine ⟨_, (pss_cons (ps_fld (pv 0) (pv 1) rfl)
    (pss_cons (ps_fld (pv 0) (pv 2) rfl)
    (pss_cons (ps_fld (pv 0) pe_non rfl)
    (pss_cons (ps_fld (pv 0) pe_non rfl)
    (pss_cons (ps_fld (pv 0) pe_int rfl)
    (pss_one (ps_fld (pv 0) pe_dnewK rfl))))))), ?_⟩
    rw [show L2.start ["self", "flight", "course"] [V.ref p, V.str fl, V.ref ca] = [some (V.ref p), some (V.str fl), some (V.ref ca)] from rfl]
    refine ⟨_, rfl, _, rfl, p, C, dx, _, rfl, hp, Y.cl, Y.n1, (by show 0 < 1000; decide), ?_⟩
    refine ⟨_, rfl, _, rfl, p, C, dx, _, rfl, upd_same, Y.cl, Y.n2, (by show 1 < 1000; decide), ?_⟩
    refine ⟨_, rfl, p, C, dx, _, rfl, upd_same, Y.cl, Y.n3, (by show 2 < 1000; decide), ?_⟩
    refine ⟨_, rfl, p, C, dx, _, rfl, upd_same, Y.cl, Y.n4, (by show 3 < 1000; decide), ?_⟩
    refine ⟨_, rfl, p, C, dx, _, rfl, upd_same, Y.cl, Y.n5, (by show 4 < 1000; decide), ?_⟩
    refine fun tk htk => ?_
    have tp : p ≠ tk := fun w => by rw [← w, upd_same] at htk; cases htk
    refine ⟨_, rfl, p, C, dx, _, rfl, (same_new htk _ _ upd_same), Y.cl, Y.n6, (by show 5 < 1000; decide), ?_⟩
    have htH : H tk = none := by
      rw [upd_ne tp.symm, upd_ne tp.symm, upd_ne tp.symm, upd_ne tp.symm, upd_ne tp.symm] at htk
      exact htk
    have oth : ∀ (o1 o2 o3 o4 o5 o6 o7 : HO), Oth [p] H (upd (upd (upd (upd (upd (upd (upd H p o1) p o2) p o3) p o4) p o5) tk o6) p o7) := fun o1 o2 o3 o4 o5 o6 o7 b x e n => by
      have n : b ≠ p := by simpa using n
      rw [upd_ne n, upd_ne (ne_of_none e htH), upd_ne n, upd_ne n, upd_ne n, upd_ne n, upd_ne n]
      exact e
    have tk' : ∀ (o1 o2 o3 o4 o5 o6 o7 : HO), TK H (upd (upd (upd (upd (upd (upd (upd H p o1) p o2) p o3) p o4) p o5) tk o6) p o7) := fun o1 o2 o3 o4 o5 o6 o7 b x e => oth o1 o2 o3 o4 o5 o6 o7 b _ e (by simpa using (ne_of e hp (by intro z; cases z)))
    refine k tk _ htH tp.symm ⟨⟨dx, ca, upd_same, CO.tk (tk' _ _ _ _ _ _ _)⟩, ⟨[], by rw [upd_ne tp.symm, upd_same], Nat.le_refl _, fun n => ⟨fun w => (by cases w), fun w => nomatch w⟩⟩, ⟨(fun x e => nomatch e), (fun x e => nomatch e), fo, Nat.zero_le _⟩⟩ (oth _ _ _ _ _ _ _)

end
end Sk

set_option Elab.async false
set_option linter.all false
set_option maxRecDepth 100000
set_option maxHeartbeats 4000000
namespace Sk
open PySem PySem.Spec PyProof.Rows L2
theorem flat_ints (l : List Int) : (l.map V.int).all flatV = true := by
  rw [List.all_map]
  exact List.all_eq_true.mpr fun _ _ => rfl
theorem in_ints {n : Int} {l : List Int} : inV (.int n) (l.map V.int) = true ↔ n ∈ l := by
  unfold inV
  rw [List.any_map, List.any_eq_true]
  constructor
  · rintro ⟨x, hx, e⟩
    have e : x = n := by simpa [eqV] using e
    rw [← e]; exact hx
  · intro h
    exact ⟨n, h, by simp [eqV]⟩
section
variable {P : Program} {w : World} {K : PySem.W.Frag} {mg : Str → Option Value} {base : Heap}
abbrev s_law_changed : Stmt := top 10
theorem sc_law_changed : FnScope ["course", "change"] ["course", "change"] (defScope s_law_changed) := ⟨rfl, rfl, rfl, by decide +kernel, rfl, by decide +kernel, by decide +kernel⟩
theorem ok_law_changed {f : Addr} {fd : FuncData} (F : Fun K "_law_changed" "_law_changed" s_law_changed f fd) (T : TxtA mg) : FnOk P w K mg base CX0 1 f fd ["course", "change"] (spChanged) := by
  refine F.ok sc_law_changed (fun vs H Q E h => ?_) (fun cdv A outer s H vs Q E hr h => ?_)
  · obtain ⟨_, _, _, _, rfl, _⟩ := h
    rfl
  · obtain ⟨ca, a, c, z, rfl, CO, CZ, k⟩ := h
    have hu := hu_of hr
    refine ⟨_, (pss_cons (ps_if (pt_cmpR op_eq (pe_ix (r := rIxT K) ix_tup (pv 1) pe_int (fun _ _ => rfl)) pe_str (nomark _)) (pss_one (ps_ret (pe_tup (pa_cons (pe_ix (r := rIxT K) ix_tup (pv 0) pe_int (fun _ _ => rfl)) (pa_cons (pe_ix (r := rIxT K) ix_tup (pv 0) pe_int (fun _ _ => rfl)) (pa_cons (pe_ix (r := rIxT K) ix_tup (pv 1) pe_int (fun _ _ => rfl)) pa_nil))))))
      pss_nil)
    (pss_cons (ps_if (pt_cmpR op_eq (pe_ix (r := rIxT K) ix_tup (pv 1) pe_int (fun _ _ => rfl)) pe_str (nomark _)) (pss_one (ps_ret (pe_tup (pa_cons (pe_ix (r := rIxT K) ix_tup (pv 0) pe_int (fun _ _ => rfl)) (pa_cons (pe_ix (r := rIxT K) ix_tup (pv 1) pe_int (fun _ _ => rfl)) (pa_cons (pe_ix (r := rIxT K) ix_tup (pv 0) pe_int (fun _ _ => rfl)) pa_nil))))))
      pss_nil)
    (pss_one (ps_ret (pe_tup (pa_cons (pe_ix (r := rIxT K) ix_tup (pv 1) pe_int (fun _ _ => rfl)) (pa_cons (pe_ix (r := rIxT K) ix_tup (pv 0) pe_int (fun _ _ => rfl)) (pa_cons (pe_ix (r := rIxT K) ix_tup (pv 0) pe_int (fun _ _ => rfl)) pa_nil)))))))), ?_⟩
    rw [show L2.start ["course", "change"] [V.ref ca, V.ref z.g] = [some (V.ref ca), some (V.ref z.g)] from rfl]
    refine ⟨_, rfl, _, _, _, _, rfl, rfl, .inl (.inl CZ.g), rfl, (by simp [scal]), _, rfl, ?_⟩
    rcases CZ.w with e | e | e
    · rw [e]
      refine ifY rfl ?_
      exact ⟨_, rfl, _, _, _, _, rfl, rfl, .inl (.inl CO.t), rfl, _, rfl, _, _, _, _, rfl, rfl, .inl (.inl CO.t), rfl, _, rfl, _, _, _, _, rfl, rfl, .inl (.inl CZ.g), rfl, szOk rfl, fun q hq => k q _ hq (same_new hq) (CO.ch CZ (same_new hq) (by rw [ch_level e]; exact upd_same))⟩
    · rw [e]
      refine ifN (fun z => absurd (V.str.inj z) (by decide +kernel)) ?_
      refine nxQ ?_
      dsimp only
      refine ⟨_, rfl, _, _, _, _, rfl, rfl, .inl (.inl CZ.g), rfl, (by simp [scal]), _, rfl, ?_⟩
      rw [e]
      refine ifY rfl ?_
      exact ⟨_, rfl, _, _, _, _, rfl, rfl, .inl (.inl CO.t), rfl, _, rfl, _, _, _, _, rfl, rfl, .inl (.inl CZ.g), rfl, _, rfl, _, _, _, _, rfl, rfl, .inl (.inl CO.t), rfl, szOk rfl, fun q hq => k q _ hq (same_new hq) (CO.ch CZ (same_new hq) (by rw [ch_speed e]; exact upd_same))⟩
    · rw [e]
      refine ifN (fun z => absurd (V.str.inj z) (by decide +kernel)) ?_
      refine nxQ ?_
      dsimp only
      refine ⟨_, rfl, _, _, _, _, rfl, rfl, .inl (.inl CZ.g), rfl, (by simp [scal]), _, rfl, ?_⟩
      rw [e]
      refine ifN (fun z => absurd (V.str.inj z) (by decide +kernel)) ?_
      refine nxQ ?_
      dsimp only
      exact ⟨_, rfl, _, _, _, _, rfl, rfl, .inl (.inl CZ.g), rfl, _, rfl, _, _, _, _, rfl, rfl, .inl (.inl CO.t), rfl, _, rfl, _, _, _, _, rfl, rfl, .inl (.inl CO.t), rfl, szOk rfl, fun q hq => k q _ hq (same_new hq) (CO.ch CZ (same_new hq) (by rw [ch_route e]; exact upd_same))⟩

abbrev s_law_asked : Stmt := top 15
theorem sc_law_asked : FnScope ["mine", "number"] ["mine", "number"] (defScope s_law_asked) := ⟨rfl, rfl, rfl, by decide +kernel, rfl, by decide +kernel, by decide +kernel⟩
theorem ok_law_asked {f : Addr} {fd : FuncData} (F : Fun K "_law_asked" "_law_asked" s_law_asked f fd) (T : TxtA mg) : FnOk P w K mg base CX0 1 f fd ["mine", "number"] (spLAsk) := by
  refine F.ok sc_law_asked (fun vs H Q E h => ?_) (fun cdv A outer s H vs Q E hr h => ?_)
  · obtain ⟨_, _, _, _, rfl, _⟩ := h
    rfl
  · obtain ⟨m, tl, s, n, rfl, MA, k⟩ := h
    have hu := hu_of hr
    refine ⟨_, (pss_cons (ps_if (PW.pt (pw_and (pt_cmpR op_notN (pe_dget hu (pv 0) pe_str (fun _ _ => rfl)) pe_non (nomark _)) (pw_and1 (pt_cmpR op_eq (pe_ix (r := rIxT K) ix_tup (pe_dget hu (pv 0) pe_str (fun _ _ => rfl)) pe_int (fun _ _ => rfl)) (pv 1) (nomark _))))) (pss_one (ps_ret pe_non))
      pss_nil)
    (pss_cons (ps_if (pt_cmpR op_in_seq (pv 1) (pe_dget hu (pv 0) pe_str (fun _ _ => rfl)) rfl) (pss_one (ps_ret (pe_tup (pa_cons pe_str (pa_cons (pe_dget hu (pv 0) pe_str (fun _ _ => rfl)) (pa_cons (pv 1) pa_nil))))))
      pss_nil)
    (pss_cons (ps_dput hu (pv 0) pe_str (pe_callB (call_max2 rfl) (by rfl) T.max boot_max (pa_cons (pe_dget hu (pv 0) pe_str (fun _ _ => rfl)) (pa_cons (pv 1) pa_nil))) rfl)
    (pss_cons (ps_if (PW.pt (pw_and (pt_cmpR op_notN (pe_dget hu (pv 0) pe_str (fun _ _ => rfl)) pe_non (nomark _)) (pw_and1 (pt_cmpR op_le (pe_ix (r := rIxT K) ix_tup (pe_dget hu (pv 0) pe_str (fun _ _ => rfl)) pe_int (fun _ _ => rfl)) (pv 1) (nomark _))))) (pss_one (ps_dput hu (pv 0) pe_str pe_non rfl))
      pss_nil)
    (pss_one (ps_ret (pe_tup (pa_cons pe_str (pa_cons (pe_dget hu (pv 0) pe_str (fun _ _ => rfl)) (pa_cons (pv 1) pa_nil)))))))))), ?_⟩
    rw [show L2.start ["mine", "number"] [V.ref m, V.int n] = [some (V.ref m), some (V.int n)] from rfl]
    obtain ⟨⟨ca, ho, hco⟩, hl, sa⟩ := id MA
    refine cut (t := tIfS _ _ _) (fun σ' G => σ' = [some (.ref m), some (.int n)] ∧ G = H ∧ ¬ ∃ h, s.nx = some h ∧ h.2.n = n) ?_ (fun rest => ?_)
    rotate_left
    · refine ⟨_, rfl, _, _, rfl, mg_n ho, rfl, _, rfl, ?_⟩
      cases hnx : s.nx with
      | none =>
        refine ifNotY rfl ?_
        exact rest _ _ ⟨rfl, rfl, by rw [hnx]; rintro ⟨h, e, _⟩; cases e⟩
      | some hh =>
        have hz := sa.nx hh hnx
        have g2 : DGet H m (.str "next") (some (.ref hh.1)) := by have := mg_n ho; rw [hnx] at this; exact this
        refine ifNotN (fun z => nomatch z) ?_
        refine ⟨_, rfl, _, _, rfl, g2, _, _, _, _, rfl, rfl, .inl (.inl hz.t), rfl, _, rfl, rfl, _, rfl, ?_⟩
        by_cases e : hh.2.n = n
        · refine eqY e ?_
          have e1 : askA s n = (s, none) := if_pos ⟨hh, hnx, e⟩
          exact k .non H (by rw [e1]; exact MA) (by rw [e1]; rfl) (Oth.refl _ _) (TK.refl _)
        · refine eqN e ?_
          exact rest _ _ ⟨rfl, rfl, fun ⟨h, e', w⟩ => by rw [hnx] at e'; cases e'; exact e w⟩
    rintro σ' G ⟨rfl, rfl, h1⟩
    refine ⟨_, rfl, _, rfl, _, _, rfl, mg_t ho, tl, _, rfl, .inl (.inl (.inl hl)), rfl, flat_ints _, _, rfl, ite2 (fun h2 => ?_) (fun h2 => ?_)⟩
    · have h2 : n ∈ s.ts := in_ints.mp h2
      have e1 : askA s n = (s, some (.num "taken" s.f n)) := (if_neg h1).trans (if_pos h2)
      rw [e1] at k
      refine ⟨_, rfl, _, _, rfl, mg_f ho, _, rfl, szOk rfl, fun q hq => ?_⟩
      have s1 := same_new (o := .tup [.str "taken", .str s.f, .int n]) hq
      exact k (.ref q) _ (MA.same s1) ⟨q, rfl, upd_same, sa.f, .inl rfl⟩ (Oth.of s1) (Same.tk s1)
    have h2 : ¬ n ∈ s.ts := fun w => h2 (in_ints.mpr w)
    refine nxQ ?_
    dsimp only
    obtain ⟨dn, edn⟩ : ∃ dn, (if n > s.dn then n else s.dn) = dn := ⟨_, rfl⟩
    refine ⟨_, rfl, _, _, rfl, mg_d ho, _, rfl, _, _, rfl, _, rfl, m, _, rfl, mp_d ho _, ?_⟩
    rw [edn]
    obtain ⟨MA', T', O'⟩ := MiAt.put (s' := { s with dn := dn }) ho hco hl ⟨sa.he, sa.nx, sa.f, sa.ts⟩ rfl rfl
    have ho1 : (upd G m (.dK (mkv { s with dn := dn } ca tl))) m = some (.dK (mkv { s with dn := dn } ca tl)) := upd_same
    generalize upd G m (.dK (mkv { s with dn := dn } ca tl)) = G1 at MA' T' O' ho1 ⊢
    obtain ⟨_, hl1, sa1⟩ := id MA'
    dsimp only
    refine cut (t := tIfS _ _ _) (fun σ' G2 => σ' = [some (.ref m), some (.int n)] ∧ MiAt G2 m tl (askA s n).1 ∧ Oth [m, tl] G G2 ∧ TK G G2) ?_ (fun rest => ?_)
    · rintro σ' G2 ⟨rfl, MA2, O2, T2⟩
      have e2 : (askA s n).2 = some (.num "not" s.f n) := by unfold askA; rw [if_neg h1, if_neg h2]
      have ef : (askA s n).1.f = s.f := by unfold askA; rw [if_neg h1, if_neg h2]
      obtain ⟨⟨ca2, ho3, _⟩, _, _⟩ := id MA2
      refine ⟨_, rfl, _, _, rfl, mg_f ho3, _, rfl, szOk rfl, fun q hq => ?_⟩
      rw [ef]
      have s1 := same_new (o := .tup [.str "not", .str s.f, .int n]) hq
      exact k (.ref q) _ (MA2.same s1) (by rw [e2]; exact ⟨q, rfl, upd_same, sa.f, .inr rfl⟩) (O2.trans (Oth.of s1)) (T2.trans (Same.tk s1))
    have e1 : (askA s n).1 = { s with dn := dn, he := if ∃ h, s.he = some h ∧ h.2.n ≤ n then none else s.he } := by unfold askA; rw [if_neg h1, if_neg h2, edn]
    refine ⟨_, rfl, _, _, rfl, mg_h ho1, rfl, _, rfl, ?_⟩
    have skip : ¬ (∃ h, s.he = some h ∧ h.2.n ≤ n) → MiAt G1 m tl (askA s n).1 := fun w => by
      rw [e1, if_neg w]
      exact MA'
    dsimp only
    cases hhe : s.he with
    | none =>
      refine ifNotY rfl ?_
      exact rest _ _ ⟨rfl, skip (by rw [hhe]; rintro ⟨h, e, _⟩; cases e), O', T'⟩
    | some hh =>
      have hz := (sa.he hh hhe).tk T'
      have g2 : DGet G1 m (.str "heard") (some (.ref hh.1)) := by have := mg_h ho1; dsimp only at this; rw [hhe] at this; exact this
      refine ifNotN (fun z => nomatch z) ?_
      refine ⟨_, rfl, _, _, rfl, g2, _, _, _, _, rfl, rfl, .inl (.inl hz.t), rfl, _, rfl, _, _, rfl, rfl, _, rfl, ite2 (fun h4 => ?_) (fun h4 => ?_)⟩
      · refine ⟨_, rfl, m, _, rfl, mp_h ho1 none, ?_⟩
        obtain ⟨MA2, T2, O2⟩ := MiAt.put (s' := { s with dn := dn, he := none }) ho1 (hco.tk T') hl1 ⟨(fun x e => nomatch e), sa1.nx, sa1.f, sa1.ts⟩ rfl rfl
        exact rest _ _ ⟨rfl, by rw [e1, if_pos ⟨hh, hhe, of_decide_eq_true h4⟩]; exact MA2, O'.trans O2, T'.trans T2⟩
      · exact rest _ _ ⟨rfl, skip (fun ⟨h, e, w⟩ => by rw [hhe] at e; cases e; exact h4 (decide_eq_true w)), O', T'⟩

abbrev s_law_hear : Stmt := top 14
theorem sc_law_hear : FnScope ["mine", "message", "tick", "clearance", "old"] ["mine", "message", "tick"] (defScope s_law_hear) := ⟨rfl, rfl, rfl, by decide +kernel, rfl, by decide +kernel, by decide +kernel⟩
theorem ok_law_hear {f : Addr} {fd : FuncData} (F : Fun K "_law_hear" "_law_hear" s_law_hear f fd) (T : TxtA mg)
    (D_law_asked : Def P w K mg base 1 "_law_asked" ["mine", "number"] (spLAsk)) : FnOk P w K mg base CX0 2 f fd ["mine", "message", "tick"] (spLHear) := by
  refine F.ok sc_law_hear (fun vs H Q E h => ?_) (fun cdv A outer s H vs Q E hr h => ?_)
  · obtain ⟨_, _, _, _, _, _, rfl, _⟩ := h
    rfl
  · obtain ⟨m, tl, q, s, ms, t, rfl, MA, QA, k⟩ := h
    have hu := hu_of hr
    refine ⟨_, (pss_cons (ps_if (pt_cmpR op_in_seq (pe_ix (r := rIxT K) ix_tup (pv 1) pe_int (fun _ _ => rfl)) (pe_lst (pa_cons pe_str (pa_cons pe_str pa_nil))) rfl) (pss_cons (ps_set (i := 3) sc_law_hear.nd rfl (Or.inl rfl) (pe_ix (r := rIxT K) ix_tup (pv 1) pe_int (fun _ _ => rfl)))
    (pss_cons (ps_if (pt_cmpR op_ne (pe_ix (r := rIxT K) ix_tup (pv 3) pe_int (fun _ _ => rfl)) (pe_dget hu (pv 0) pe_str (fun _ _ => rfl)) (nomark _)) (pss_one (ps_ret pe_non))
      pss_nil)
    (pss_cons (ps_if (pt_cmpR op_eq (pe_ix (r := rIxT K) ix_tup (pv 1) pe_int (fun _ _ => rfl)) pe_str (nomark _)) (pss_cons (ps_if (PW.pt (pw_and (pt_cmpR (op_eqD hr.units) (pe_dget hu (pv 0) pe_str (fun _ _ => rfl)) (pv 3) (nomark _)) (pw_and1 (pt_cmpR op_gt (pe_ix (r := rIxT K) ix_tup (pv 3) pe_int (fun _ _ => rfl)) (pv 2) (nomark _))))) (pss_cons (ps_dput hu (pv 0) pe_str (pv 3) rfl)
    (pss_one (ps_dput hu (pv 0) pe_str pe_non rfl)))
      pss_nil)
    (pss_one (ps_ret pe_non)))
      pss_nil)
    (pss_cons (ps_set (i := 4) sc_law_hear.nd rfl (Or.inl rfl) (pe_dget hu (pv 0) pe_str (fun _ _ => rfl)))
    (pss_cons (ps_if (PW.pt (pw_or (pt_cmpR op_le (pe_ix (r := rIxT K) ix_tup (pv 3) pe_int (fun _ _ => rfl)) (pe_dget hu (pv 0) pe_str (fun _ _ => rfl)) (nomark _)) (pw_or (pt_cmpR op_le (pe_ix (r := rIxT K) ix_tup (pv 3) pe_int (fun _ _ => rfl)) (pv 2) (nomark _)) (pw_or1 (pt_cmpR op_notN (pe_dget hu (pv 0) pe_str (fun _ _ => rfl)) pe_non (nomark _)))))) (pss_one (ps_ret pe_non))
      pss_nil)
    (pss_cons (ps_if (PW.pt (pw_and (pt_cmpR op_notN (pv 4) pe_non (nomark _)) (pw_and1 (pt_cmpR op_gt (pe_ix (r := rIxT K) ix_tup (pv 4) pe_int (fun _ _ => rfl)) (pe_ix (r := rIxT K) ix_tup (pv 3) pe_int (fun _ _ => rfl)) (nomark _))))) (pss_one (ps_ret pe_non))
      pss_nil)
    (pss_cons (ps_dput hu (pv 0) pe_str (pv 3) rfl)
    (pss_one (ps_ret (pe_tup (pa_cons pe_str (pa_cons (pv 3) pa_nil))))))))))))
      pss_nil)
    (pss_cons (ps_if (PW.pt (pw_or (pt_cmpR op_ne (pe_ix (r := rIxT K) ix_tup (pv 1) pe_int (fun _ _ => rfl)) pe_str (nomark _)) (pw_or1 (pt_cmpR op_ne (pe_ix (r := rIxT K) ix_tup (pv 1) pe_int (fun _ _ => rfl)) (pe_dget hu (pv 0) pe_str (fun _ _ => rfl)) (nomark _))))) (pss_one (ps_ret pe_non))
      pss_nil)
    (pss_one (ps_ret (pe_def D_law_asked (hr.mono (by decide)) (by rfl) (pa_cons (pv 0) (pa_cons (pe_ix (r := rIxT K) ix_tup (pv 1) pe_int (fun _ _ => rfl)) pa_nil))))))), ?_⟩
    rw [show L2.start ["mine", "message", "tick", "clearance", "old"] [V.ref m, V.ref q, V.int t] = [some (V.ref m), some (V.ref q), some (V.int t), none, none] from rfl]
    cases ms with
    | cl w a z =>
      obtain ⟨h, CZ, hw⟩ := QA
      refine ⟨_, rfl, _, _, _, _, rfl, rfl, .inl (.inl h), rfl, szOk rfl, fun l hl' => ?_⟩
      have s1 := same_new (o := .lst [.str "say", .str "confirm"]) hl'
      have hL : (upd H l (.lst [.str "say", .str "confirm"])) l = some (.lst [.str "say", .str "confirm"]) := upd_same
      have MG := MA.same s1
      have h := s1 _ _ h
      generalize upd H l (.lst [.str "say", .str "confirm"]) = G at s1 hL MG h ⊢
      obtain ⟨⟨ca, ho, hco⟩, hl, sa⟩ := id MG
      have CZ := CZ.tk (Same.tk s1)
      by_cases e : z.f = s.f
      · rcases hw with rfl | rfl | rfl
        · have e1 : hearA s (.cl "say" a z) t = sayA s a z t := by unfold hearA; dsimp only; rw [if_pos e, if_pos rfl]
          rw [e1] at k
          refine ⟨l, _, rfl, .inl (.inl (.inl hL)), rfl, rfl, _, rfl, ite2 (fun e0 => ?_) (fun e0 => ?_)⟩
          rotate_left
          · exact absurd (by decide +kernel) e0
          refine ⟨_, rfl, _, _, _, _, rfl, rfl, .inl (.inl h), rfl, ?_⟩
          refine nm ?_
          dsimp only [List.set]
          refine ⟨_, rfl, _, _, _, _, rfl, rfl, .inl (.inl CZ.t), rfl, _, rfl, _, _, rfl, mg_f ho, (by simp [scal]), _, rfl, ?_⟩
          refine ifNotY (by rw [e]) ?_
          refine nxQ ?_
          dsimp only
          refine ⟨_, rfl, _, _, _, _, rfl, rfl, .inl (.inl h), rfl, (by simp [scal]), _, rfl, ifN (fun z => absurd (V.str.inj z) (by decide +kernel)) ?_⟩
          refine nxQ ?_
          dsimp only
          have none_ : sayA s a z t = (s, none) → Q .non G := fun e1 => k .non G (by rw [e1]; exact MG) (by rw [e1]; rfl) (Oth.of s1) (Same.tk s1)
          refine ⟨_, rfl, _, _, rfl, mg_h ho, ?_⟩
          refine nm ?_
          dsimp only [List.set]
          refine ⟨_, rfl, _, _, _, _, rfl, rfl, .inl (.inl CZ.t), rfl, _, rfl, _, _, rfl, mg_d ho, _, _, rfl, rfl, _, rfl, ite2 (fun h1 => ?_) (fun h1 => ?_)⟩
          · exact none_ (if_pos (.inl (of_decide_eq_true h1)))
          have h1 : ¬ z.n ≤ s.dn := fun w => h1 (decide_eq_true w)
          refine ⟨_, rfl, _, _, _, _, rfl, rfl, .inl (.inl CZ.t), rfl, _, rfl, _, _, rfl, rfl, _, rfl, ite2 (fun h2 => ?_) (fun h2 => ?_)⟩
          · exact none_ (if_pos (.inr (.inl (of_decide_eq_true h2))))
          have h2 : ¬ z.b ≤ t := fun w => h2 (decide_eq_true w)
          refine ⟨_, rfl, _, _, rfl, mg_n ho, rfl, _, rfl, ?_⟩
          by_cases h3 : s.nx = none
          rotate_left
          · refine ifNotN (oV_non h3) ?_
            exact none_ (if_pos (.inr (.inr h3)))
          rw [h3]
          refine ifNotY rfl ?_
          have e2 : sayA s a z t = if ∃ h, s.he = some h ∧ z.n < h.2.n then (s, none) else ({ s with he := some (a, z) }, some (.read a z)) := if_neg (by rintro (w | w | w); exact h1 w; exact h2 w; exact w h3)
          refine nxQ ?_
          dsimp only
          refine cut (t := tIfS _ _ _) (fun σ' G' => σ' = [some (.ref m), some (.ref q), some (.int t), some (.ref a), some (oV s.he)] ∧ G' = G ∧ ¬ ∃ h, s.he = some h ∧ z.n < h.2.n) ?_ (fun rest => ?_)
          · rintro σ' G' ⟨rfl, rfl, h4⟩
            rw [e2, if_neg h4] at k
            refine ⟨_, rfl, _, rfl, m, _, rfl, mp_h ho (some (a, z)), ?_⟩
            obtain ⟨MA', T', O'⟩ := MiAt.put (s' := { s with he := some (a, z) }) ho hco hl ⟨fun x e => by cases e; exact CZ, sa.nx, sa.f, sa.ts⟩ rfl rfl
            generalize upd G' m (.dK (mkv { s with he := some (a, z) } ca tl)) = G1 at MA' T' O' ⊢
            refine ⟨_, rfl, szOk rfl, fun u hu' => ?_⟩
            have s3 := same_new (o := .tup [.str "read", .ref a]) hu'
            exact k (.ref u) _ (MA'.same s3) ⟨u, rfl, upd_same, (CZ.tk T').tk (Same.tk s3)⟩ (((Oth.of s1).trans O').trans (Oth.of s3)) (((Same.tk s1).trans T').trans (Same.tk s3))
          · refine ⟨_, rfl, rfl, _, rfl, ?_⟩
            cases hhe : s.he with
            | none =>
              refine ifNotY rfl ?_
              exact rest _ _ ⟨by rw [hhe], rfl, by rw [hhe]; rintro ⟨h, e, _⟩; cases e⟩
            | some hh =>
              have hz := sa.he hh hhe
              refine ifNotN (fun z => nomatch z) ?_
              refine ⟨_, rfl, _, _, _, _, rfl, rfl, .inl (.inl hz.t), rfl, _, rfl, _, _, _, _, rfl, rfl, .inl (.inl CZ.t), rfl, _, _, rfl, rfl, _, rfl, ite2 (fun h4 => ?_) (fun h4 => ?_)⟩
              · exact none_ (e2.trans (if_pos ⟨hh, hhe, of_decide_eq_true h4⟩))
              · exact rest _ _ ⟨by rw [hhe], rfl, fun ⟨h, e, w⟩ => by rw [hhe] at e; cases e; exact h4 (decide_eq_true w)⟩
        · have e1 : hearA s (.cl "confirm" a z) t = (confA s a z t, none) := by unfold hearA; dsimp only; rw [if_pos e, if_neg (by decide +kernel), if_pos rfl]
          rw [e1] at k
          refine ⟨l, _, rfl, .inl (.inl (.inl hL)), rfl, rfl, _, rfl, ite2 (fun e0 => ?_) (fun e0 => ?_)⟩
          rotate_left
          · exact absurd (by decide +kernel) e0
          refine ⟨_, rfl, _, _, _, _, rfl, rfl, .inl (.inl h), rfl, ?_⟩
          refine nm ?_
          dsimp only [List.set]
          refine ⟨_, rfl, _, _, _, _, rfl, rfl, .inl (.inl CZ.t), rfl, _, rfl, _, _, rfl, mg_f ho, (by simp [scal]), _, rfl, ?_⟩
          refine ifNotY (by rw [e]) ?_
          refine nxQ ?_
          dsimp only
          refine ⟨_, rfl, _, _, _, _, rfl, rfl, .inl (.inl h), rfl, (by simp [scal]), _, rfl, ifY rfl ?_⟩
          have none_ : confA s a z t = s → Q .non G := fun e1 => k .non G (by rw [e1]; exact MG) rfl (Oth.of s1) (Same.tk s1)
          refine ⟨_, rfl, _, _, rfl, mg_h ho, _, rfl, _, _, sa.he.dp, CZ.dp, sa.he.sh, CZ.sh, _, rfl, ite2 (fun h1 => ?_) (fun h1 => ?_)⟩
          rotate_left
          · exact none_ (if_neg fun w => h1 (by rw [PySem.W.eqv_comm]; exact eqv_hd.mpr w.1))
          rw [PySem.W.eqv_comm] at h1
          have h1' := eqv_hd.mp h1
          refine ⟨_, rfl, _, _, _, _, rfl, rfl, .inl (.inl CZ.t), rfl, _, rfl, _, _, rfl, rfl, _, rfl, ite2 (fun h2 => ?_) (fun h2 => ?_)⟩
          rotate_left
          · exact none_ (if_neg fun w => h2 (decide_eq_true w.2))
          have e1 : confA s a z t = { s with nx := some (a, z), he := none } := if_pos ⟨h1', of_decide_eq_true h2⟩
          rw [e1] at k
          refine ⟨_, rfl, _, rfl, m, _, rfl, mp_n ho (some (a, z)), ?_⟩
          obtain ⟨MA', T', O'⟩ := MiAt.put (s' := { s with nx := some (a, z) }) ho hco hl ⟨sa.he, fun x e => by cases e; exact CZ, sa.f, sa.ts⟩ rfl rfl
          have ho1 : (upd G m (.dK (mkv { s with nx := some (a, z) } ca tl))) m = some (.dK (mkv { s with nx := some (a, z) } ca tl)) := upd_same
          generalize upd G m (.dK (mkv { s with nx := some (a, z) } ca tl)) = G1 at MA' T' O' ho1 ⊢
          obtain ⟨_, hl1, sa1⟩ := MA'
          refine ⟨_, rfl, m, _, rfl, mp_h ho1 none, ?_⟩
          obtain ⟨MA2, T2, O2⟩ := MiAt.put (s' := { s with nx := some (a, z), he := none }) ho1 (hco.tk T') hl1 ⟨(fun x e => nomatch e), sa1.nx, sa1.f, sa1.ts⟩ rfl rfl
          exact k .non _ MA2 rfl (((Oth.of s1).trans O').trans O2) (((Same.tk s1).trans T').trans T2)
        · have e1 : hearA s (.cl "read" a z) t = (s, none) := by unfold hearA; dsimp only; rw [if_pos e, if_neg (by decide +kernel), if_neg (by decide +kernel)]
          refine ⟨l, _, rfl, .inl (.inl (.inl hL)), rfl, rfl, _, rfl, ite2 (fun e0 => ?_) (fun e0 => ?_)⟩
          · exact absurd e0 (by decide +kernel)
          refine nxQ ?_
          dsimp only
          refine ⟨_, rfl, _, _, _, _, rfl, rfl, .inl (.inl h), rfl, (by simp [scal]), _, rfl, ifNotN (fun z => absurd (V.str.inj z) (by decide +kernel)) ?_⟩
          exact k .non G (by rw [e1]; exact MG) (by rw [e1]; rfl) (Oth.of s1) (Same.tk s1)
      · have e1 : hearA s (.cl w a z) t = (s, none) := by unfold hearA; dsimp only; rw [if_neg e]
        rcases hw with rfl | rfl | rfl
        · refine ⟨l, _, rfl, .inl (.inl (.inl hL)), rfl, rfl, _, rfl, ite2 (fun e0 => ?_) (fun e0 => ?_)⟩
          rotate_left
          · exact absurd (by decide +kernel) e0
          refine ⟨_, rfl, _, _, _, _, rfl, rfl, .inl (.inl h), rfl, ?_⟩
          refine nm ?_
          dsimp only [List.set]
          refine ⟨_, rfl, _, _, _, _, rfl, rfl, .inl (.inl CZ.t), rfl, _, rfl, _, _, rfl, mg_f ho, (by simp [scal]), _, rfl, ?_⟩
          refine ifNotN (fun w => e (V.str.inj w)) ?_
          exact k .non G (by rw [e1]; exact MG) (by rw [e1]; rfl) (Oth.of s1) (Same.tk s1)
        · refine ⟨l, _, rfl, .inl (.inl (.inl hL)), rfl, rfl, _, rfl, ite2 (fun e0 => ?_) (fun e0 => ?_)⟩
          rotate_left
          · exact absurd (by decide +kernel) e0
          refine ⟨_, rfl, _, _, _, _, rfl, rfl, .inl (.inl h), rfl, ?_⟩
          refine nm ?_
          dsimp only [List.set]
          refine ⟨_, rfl, _, _, _, _, rfl, rfl, .inl (.inl CZ.t), rfl, _, rfl, _, _, rfl, mg_f ho, (by simp [scal]), _, rfl, ?_⟩
          refine ifNotN (fun w => e (V.str.inj w)) ?_
          exact k .non G (by rw [e1]; exact MG) (by rw [e1]; rfl) (Oth.of s1) (Same.tk s1)
        · refine ⟨l, _, rfl, .inl (.inl (.inl hL)), rfl, rfl, _, rfl, ite2 (fun e0 => ?_) (fun e0 => ?_)⟩
          · exact absurd e0 (by decide +kernel)
          refine nxQ ?_
          dsimp only
          refine ⟨_, rfl, _, _, _, _, rfl, rfl, .inl (.inl h), rfl, (by simp [scal]), _, rfl, ifNotN (fun z => absurd (V.str.inj z) (by decide +kernel)) ?_⟩
          exact k .non G (by rw [e1]; exact MG) (by rw [e1]; rfl) (Oth.of s1) (Same.tk s1)
    | no w f' n =>
      obtain ⟨h, fo, hw⟩ := QA
      refine ⟨_, rfl, _, _, _, _, rfl, rfl, .inl (.inl h), rfl, szOk rfl, fun l hl' => ?_⟩
      have s1 := same_new (o := .lst [.str "say", .str "confirm"]) hl'
      have hL : (upd H l (.lst [.str "say", .str "confirm"])) l = some (.lst [.str "say", .str "confirm"]) := upd_same
      have MG := MA.same s1
      have h := s1 _ _ h
      generalize upd H l (.lst [.str "say", .str "confirm"]) = G at s1 hL MG h ⊢
      obtain ⟨⟨ca, ho, hco⟩, hl, sa⟩ := id MG
      rcases hw with rfl | rfl | rfl
      · refine ⟨l, _, rfl, .inl (.inl (.inl hL)), rfl, rfl, _, rfl, ite2 (fun e0 => ?_) (fun e0 => ?_)⟩
        · exact absurd e0 (by decide +kernel)
        refine nxQ ?_
        dsimp only
        refine ⟨_, rfl, _, _, _, _, rfl, rfl, .inl (.inl h), rfl, (by simp [scal]), _, rfl, ifNotY rfl ?_⟩
        refine ⟨_, rfl, _, _, _, _, rfl, rfl, .inl (.inl h), rfl, _, rfl, _, _, rfl, mg_f ho, (by simp [scal]), _, rfl, ?_⟩
        by_cases e : f' = s.f
        · have e1 : hearA s (.no "ask" f' n) t = askA s n := by unfold hearA; dsimp only; rw [if_pos ⟨rfl, e⟩]
          rw [e1] at k
          refine ifNotY (by rw [e]) ?_
          refine nxQ ?_
          dsimp only
          exact ⟨_, rfl, _, rfl, _, _, _, _, rfl, rfl, .inl (.inl h), rfl, m, tl, s, n, rfl, MG, fun v H' MA' RP O' T' => k v H' MA' RP ((Oth.of s1).trans O') ((Same.tk s1).trans T')⟩
        · have e1 : hearA s (.no "ask" f' n) t = (s, none) := by unfold hearA; dsimp only; rw [if_neg (fun w => e w.2)]
          refine ifNotN (fun w => e (V.str.inj w)) ?_
          exact k .non G (by rw [e1]; exact MG) (by rw [e1]; rfl) (Oth.of s1) (Same.tk s1)
      · have e1 : hearA s (.no "taken" f' n) t = (s, none) := by unfold hearA; dsimp only; rw [if_neg (fun w => absurd w.1 (by decide +kernel))]
        refine ⟨l, _, rfl, .inl (.inl (.inl hL)), rfl, rfl, _, rfl, ite2 (fun e0 => ?_) (fun e0 => ?_)⟩
        · exact absurd e0 (by decide +kernel)
        refine nxQ ?_
        dsimp only
        refine ⟨_, rfl, _, _, _, _, rfl, rfl, .inl (.inl h), rfl, (by simp [scal]), _, rfl, ifNotN (fun z => absurd (V.str.inj z) (by decide +kernel)) ?_⟩
        exact k .non G (by rw [e1]; exact MG) (by rw [e1]; rfl) (Oth.of s1) (Same.tk s1)
      · have e1 : hearA s (.no "not" f' n) t = (s, none) := by unfold hearA; dsimp only; rw [if_neg (fun w => absurd w.1 (by decide +kernel))]
        refine ⟨l, _, rfl, .inl (.inl (.inl hL)), rfl, rfl, _, rfl, ite2 (fun e0 => ?_) (fun e0 => ?_)⟩
        · exact absurd e0 (by decide +kernel)
        refine nxQ ?_
        dsimp only
        refine ⟨_, rfl, _, _, _, _, rfl, rfl, .inl (.inl h), rfl, (by simp [scal]), _, rfl, ifNotN (fun z => absurd (V.str.inj z) (by decide +kernel)) ?_⟩
        exact k .non G (by rw [e1]; exact MG) (by rw [e1]; rfl) (Oth.of s1) (Same.tk s1)

abbrev s_law_begin : Stmt := top 16
theorem sc_law_begin : FnScope ["mine", "tick", "clearance"] ["mine", "tick"] (defScope s_law_begin) := ⟨rfl, rfl, rfl, by decide +kernel, rfl, by decide +kernel, by decide +kernel⟩
theorem ok_law_begin {f : Addr} {fd : FuncData} (F : Fun K "_law_begin" "_law_begin" s_law_begin f fd) (T : TxtA mg)
    (D_law_changed : Def P w K mg base 1 "_law_changed" ["course", "change"] (spChanged)) : FnOk P w K mg base CX0 2 f fd ["mine", "tick"] (spLBegin) := by
  refine F.ok sc_law_begin (fun vs H Q E h => ?_) (fun cdv A outer s H vs Q E hr h => ?_)
  · obtain ⟨_, _, _, _, rfl, _⟩ := h
    rfl
  · obtain ⟨m, tl, s, t, rfl, MA, tsl, k⟩ := h
    have hu := hu_of hr
    refine ⟨_, (pss_cons (ps_set (i := 2) sc_law_begin.nd rfl (Or.inl rfl) (pe_dget hu (pv 0) pe_str (fun _ _ => rfl)))
    (pss_cons (ps_if (PW.pt (pw_or (pt_cmpR op_isN (pv 2) pe_non (nomark _)) (pw_or1 (pt_cmpR op_gt (pe_ix (r := rIxT K) ix_tup (pv 2) pe_int (fun _ _ => rfl)) (pv 1) (nomark _))))) (pss_one (ps_ret pe_non))
      pss_nil)
    (pss_cons (ps_dput hu (pv 0) pe_str (pe_def D_law_changed (hr.mono (by decide)) (by rfl) (pa_cons (pe_dget hu (pv 0) pe_str (fun _ _ => rfl)) (pa_cons (pe_ix (r := rIxT K) ix_tup (pv 2) pe_int (fun _ _ => rfl)) pa_nil))) rfl)
    (pss_cons (ps_expr (pe_bm PySem.F.plainAttrs_list PySem.F.slot_list_append PySem.F.type_list_append mt_append (pe_dget hu (pv 0) pe_str (fun _ _ => rfl)) (pa_cons (pe_ix (r := rIxT K) ix_tup (pv 2) pe_int (fun _ _ => rfl)) pa_nil)))
    (pss_cons (ps_dput hu (pv 0) pe_str (pe_callB (call_max2 rfl) (by rfl) T.max boot_max (pa_cons (pe_dget hu (pv 0) pe_str (fun _ _ => rfl)) (pa_cons (pe_ix (r := rIxT K) ix_tup (pv 2) pe_int (fun _ _ => rfl)) pa_nil))) rfl)
    (pss_cons (ps_dput hu (pv 0) pe_str pe_non rfl)
    (pss_one (ps_ret (pe_tup (pa_cons pe_str (pa_cons (pe_dget hu (pv 0) pe_str (fun _ _ => rfl)) (pa_cons (pe_ix (r := rIxT K) ix_tup (pv 2) pe_int (fun _ _ => rfl)) pa_nil)))))))))))), ?_⟩
    rw [show L2.start ["mine", "tick", "clearance"] [V.ref m, V.int t] = [some (V.ref m), some (V.int t), none] from rfl]
    obtain ⟨⟨ca, ho, hco⟩, hl, sa⟩ := id MA
    cases hnx : s.nx with
    | none =>
      have g2 : DGet H m (.str "next") (some .non) := by have := mg_n ho; rw [hnx] at this; exact this
      have e1 : begA s t = (s, none) := by unfold begA; rw [hnx]
      refine ⟨_, rfl, _, _, rfl, g2, ?_⟩
      refine nm ?_
      dsimp only [List.set]
      refine ⟨_, rfl, rfl, _, rfl, ifY rfl ?_⟩
      exact k .non H (by rw [e1]; exact MA) (by rw [e1]; rfl) (Oth.refl _ _) (TK.refl _)
    | some hh =>
    have hz := sa.nx hh hnx
    have g2 : DGet H m (.str "next") (some (.ref hh.1)) := by have := mg_n ho; rw [hnx] at this; exact this
    refine ⟨_, rfl, _, _, rfl, g2, ?_⟩
    refine nm ?_
    dsimp only [List.set]
    refine ⟨_, rfl, rfl, _, rfl, ifN (fun z => nomatch z) ?_⟩
    refine ⟨_, rfl, _, _, _, _, rfl, rfl, .inl (.inl hz.t), rfl, _, rfl, _, _, rfl, rfl, _, rfl, ite2 (fun h1 => ?_) (fun h1 => ?_)⟩
    · have e1 : begA s t = (s, none) := by unfold begA; rw [hnx]; exact if_pos (of_decide_eq_true h1)
      exact k .non H (by rw [e1]; exact MA) (by rw [e1]; rfl) (Oth.refl _ _) (TK.refl _)
    obtain ⟨dn, edn⟩ : ∃ dn, (if hh.2.n > s.dn then hh.2.n else s.dn) = dn := ⟨_, rfl⟩
    have e1 : begA s t = ({ s with nx := none, co := s.co.ch hh.2, ts := s.ts ++ [hh.2.n], dn := dn }, some (.num "taken" s.f hh.2.n)) := by
      unfold begA
      rw [hnx]
      exact (if_neg fun w => h1 (decide_eq_true w)).trans (by rw [edn])
    rw [e1] at k
    refine nxQ ?_
    dsimp only
    refine ⟨_, rfl, _, _, rfl, mg_c ho, _, rfl, _, _, _, _, rfl, rfl, .inl (.inl hz.t), rfl, ca, hh.1, s.co, hh.2, rfl, hco, hz, fun q G hq s1 CQ => ?_⟩
    have ho1 := s1 _ _ ho
    have hl1 := s1 _ _ hl
    refine ⟨_, rfl, m, _, rfl, mp_c ho1 q (s.co.ch hh.2), ?_⟩
    have T2 := tk_put (o' := .dK (mkv { s with co := s.co.ch hh.2 } q tl)) ho1 (fun xs z => nomatch z)
    have O2 := Oth.put (T := [m, tl]) (H := G) (a := m) (o := .dK (mkv { s with co := s.co.ch hh.2 } q tl)) (by simp)
    have ho2 : (upd G m (.dK (mkv { s with co := s.co.ch hh.2 } q tl))) m = some (.dK (mkv { s with co := s.co.ch hh.2 } q tl)) := upd_same
    have hl2 : (upd G m (.dK (mkv { s with co := s.co.ch hh.2 } q tl))) tl = some (.lst (s.ts.map V.int)) := by rw [upd_ne (ne_of hl1 ho1 (by intro z; cases z))]; exact hl1
    have hz2 := (hz.tk (Same.tk s1)).tk T2
    generalize upd G m (.dK (mkv { s with co := s.co.ch hh.2 } q tl)) = G2 at T2 O2 ho2 hl2 hz2 ⊢
    refine ⟨_, rfl, _, _, rfl, mg_t ho2, .inl ⟨rfl, _, .inl (.inl hl2)⟩, _, rfl, _, _, _, _, rfl, rfl, .inl (.inl hz2.t), rfl, _, _, _, rfl, rfl, hl2, small1000 (by rw [List.length_map]; exact sa.ts), ?_⟩
    have T3 := tk_put (o' := .lst (s.ts.map V.int ++ [V.int hh.2.n])) hl2 (fun xs z => nomatch z)
    have O3 := Oth.put (T := [m, tl]) (H := G2) (a := tl) (o := .lst (s.ts.map V.int ++ [V.int hh.2.n])) (by simp)
    have ho3 : (upd G2 tl (.lst (s.ts.map V.int ++ [V.int hh.2.n]))) m = some (.dK (mkv { s with co := s.co.ch hh.2 } q tl)) := by rw [upd_ne (ne_of ho2 hl2 (by intro z; cases z))]; exact ho2
    have hl3 : (upd G2 tl (.lst (s.ts.map V.int ++ [V.int hh.2.n]))) tl = some (.lst ((s.ts ++ [hh.2.n]).map V.int)) := by rw [upd_same, List.map_append]; rfl
    have hz3 := hz2.tk T3
    generalize upd G2 tl (.lst (s.ts.map V.int ++ [V.int hh.2.n])) = G3 at T3 O3 ho3 hl3 hz3 ⊢
    refine ⟨_, rfl, _, _, rfl, mg_d ho3, _, rfl, _, _, _, _, rfl, rfl, .inl (.inl hz3.t), rfl, _, _, rfl, _, rfl, m, _, rfl, mp_d ho3 _, ?_⟩
    dsimp only
    rw [edn]
    have T4 := tk_put (o' := .dK (mkv { s with co := s.co.ch hh.2, dn := dn } q tl)) ho3 (fun xs z => nomatch z)
    have O4 := Oth.put (T := [m, tl]) (H := G3) (a := m) (o := .dK (mkv { s with co := s.co.ch hh.2, dn := dn } q tl)) (by simp)
    have ho4 : (upd G3 m (.dK (mkv { s with co := s.co.ch hh.2, dn := dn } q tl))) m = some (.dK (mkv { s with co := s.co.ch hh.2, dn := dn } q tl)) := upd_same
    have hl4 : (upd G3 m (.dK (mkv { s with co := s.co.ch hh.2, dn := dn } q tl))) tl = some (.lst ((s.ts ++ [hh.2.n]).map V.int)) := by rw [upd_ne (ne_of hl3 ho3 (by intro z; cases z))]; exact hl3
    have hz4 := hz3.tk T4
    generalize upd G3 m (.dK (mkv { s with co := s.co.ch hh.2, dn := dn } q tl)) = G4 at T4 O4 ho4 hl4 hz4 ⊢
    have dp : DPut G4 m (.str "next") .non (upd G4 m (.dK (mkv { s with nx := none, co := s.co.ch hh.2, ts := s.ts ++ [hh.2.n], dn := dn } q tl))) := mp_n ho4 none
    refine ⟨_, rfl, m, _, rfl, dp, ?_⟩
    have T14 := (((Same.tk s1).trans T2).trans T3).trans T4
    have CQ4 := ((CQ.tk T2).tk T3).tk T4
    obtain ⟨MA5, T5, O5⟩ := MiAt.put (s := { s with co := s.co.ch hh.2, dn := dn, ts := s.ts ++ [hh.2.n] }) (s' := { s with nx := none, co := s.co.ch hh.2, ts := s.ts ++ [hh.2.n], dn := dn }) ho4 CQ4 hl4 ⟨sa.he.tk T14, (fun x e => nomatch e), sa.f, by rw [List.length_append]; exact tsl⟩ rfl rfl
    have ho5 : (upd G4 m (.dK (mkv { s with nx := none, co := s.co.ch hh.2, ts := s.ts ++ [hh.2.n], dn := dn } q tl))) m = some (.dK (mkv { s with nx := none, co := s.co.ch hh.2, ts := s.ts ++ [hh.2.n], dn := dn } q tl)) := upd_same
    have hz5 := hz4.tk T5
    generalize upd G4 m (.dK (mkv { s with nx := none, co := s.co.ch hh.2, ts := s.ts ++ [hh.2.n], dn := dn } q tl)) = G5 at MA5 T5 O5 ho5 hz5 ⊢
    refine ⟨_, rfl, _, _, rfl, mg_f ho5, _, rfl, _, _, _, _, rfl, rfl, .inl (.inl hz5.t), rfl, szOk rfl, fun u hu' => ?_⟩
    have s6 := same_new (o := .tup [.str "taken", .str s.f, .int hh.2.n]) hu'
    exact k (.ref u) _ (MA5.same s6) ⟨u, rfl, upd_same, sa.f, .inl rfl⟩ ((((((Oth.of s1).trans O2).trans O3).trans O4).trans O5).trans (Oth.of s6)) ((T14.trans T5).trans (Same.tk s6))

abbrev s_law_new : Stmt := top 13
theorem sc_law_new : FnScope ["flight", "course"] ["flight", "course"] (defScope s_law_new) := ⟨rfl, rfl, rfl, by decide +kernel, rfl, by decide +kernel, by decide +kernel⟩
theorem ok_law_new {f : Addr} {fd : FuncData} (F : Fun K "_law_new" "_law_new" s_law_new f fd) (T : TxtA mg) : FnOk P w K mg base CX0 1 f fd ["flight", "course"] (spLNew) := by
  refine F.ok sc_law_new (fun vs H Q E h => ?_) (fun cdv A outer s H vs Q E hr h => ?_)
  · obtain ⟨_, _, _, rfl, _⟩ := h
    rfl
  · obtain ⟨ca, fl, c, rfl, CO, fo, k⟩ := h
    have hu := hu_of hr
    refine ⟨_, (pss_one (ps_ret (pe_disp (pps_cons pe_str (pv 0) (pps_cons pe_str (pv 1) (pps_cons pe_str pe_non (pps_cons pe_str pe_non (pps_cons pe_str pe_int (pps_cons pe_str (pe_lst pa_nil) pps_nil)))))) (by rfl) (by rfl) (fun z => by cases z) (by decide)))), ?_⟩
    rw [show L2.start ["flight", "course"] [V.str fl, V.ref ca] = [some (V.str fl), some (V.ref ca)] from rfl]
    refine fun m hm => ?_
    refine ⟨_, rfl, _, rfl, szOk rfl, fun tl htl => ⟨same_new htl _ _ upd_same, mkv ⟨fl, c, none, none, 0, []⟩ ca tl, rfl, (by show 6 ≤ 15; decide), ?_⟩⟩
    rw [show mergeK [] (mkv ⟨fl, c, none, none, 0, []⟩ ca tl) = mkv ⟨fl, c, none, none, 0, []⟩ ca tl from rfl]
    have mt : m ≠ tl := fun w => by rw [← w, upd_same] at htl; cases htl
    have htH : H tl = none := by rw [upd_ne mt.symm] at htl; exact htl
    have sm : Same H (upd (upd (upd H m (.dK [])) tl (.lst [])) m (.dK (mkv ⟨fl, c, none, none, 0, []⟩ ca tl))) := fun b x e => by
      rw [upd_ne (ne_of_none e hm), upd_ne (ne_of_none e htH), upd_ne (ne_of_none e hm)]
      exact e
    exact k m tl _ hm htH ⟨⟨ca, upd_same, CO.tk (Same.tk sm)⟩, by rw [upd_ne mt.symm]; exact upd_same, ⟨(fun x e => nomatch e), (fun x e => nomatch e), fo, Nat.zero_le _⟩⟩ sm

end
end Sk

set_option Elab.async false
set_option linter.all false
set_option maxRecDepth 100000
set_option maxHeartbeats 4000000
namespace Sk
open PySem PySem.Spec PyProof.Rows L2
section
variable {P : Program} {w : World} {K : PySem.W.Frag} {mg : Str → Option Value} {base : Heap}
abbrev s_law_clearance : Stmt := top 11
theorem sc_law_clearance : FnScope ["state", "flight", "tick", "change"] ["state", "flight", "tick"] (defScope s_law_clearance) := ⟨rfl, rfl, rfl, by decide +kernel, rfl, by decide +kernel, by decide +kernel⟩
theorem ok_law_clearance {f : Addr} {fd : FuncData} (F : Fun K "_law_clearance" "_law_clearance" s_law_clearance f fd) (T : TxtA mg)
    (D_law_draw : Def P w K mg base 1 "_law_draw" ["state", "bound"] (spDraw K))
    (D_law_pick : Def P w K mg base 2 "_law_pick" ["state", "things"] (spPick K)) : FnOk P w K mg base CX0 3 f fd ["state", "flight", "tick"] (spClr K) := by
  refine F.ok sc_law_clearance (fun vs H Q E h => ?_) (fun cdv A outer s H vs Q E hr h => ?_)
  · obtain ⟨_, _, _, _, rfl, _⟩ := h
    rfl
  · obtain ⟨d, c, fl, t, rfl, S, fo, k⟩ := h
    have hu := hu_of hr
    refine ⟨_, (pss_cons (ps_set (i := 3) sc_law_clearance.nd rfl (Or.inl rfl) (pe_def D_law_pick (hr.mono (by decide)) (by rfl) (pa_cons (pv 0) (pa_cons (pe_lst (pa_cons (pe_tup (pa_cons pe_str (pa_cons pe_int pa_nil))) (pa_cons (pe_tup (pa_cons pe_str (pa_cons pe_int pa_nil))) (pa_cons (pe_tup (pa_cons pe_str (pa_cons pe_int pa_nil))) (pa_cons (pe_tup (pa_cons pe_str (pa_cons (pe_tup (pa_cons pe_str (pa_cons pe_str pa_nil))) pa_nil))) (pa_cons (pe_tup (pa_cons pe_str (pa_cons (pe_tup (pa_cons pe_str (pa_cons pe_str (pa_cons pe_str pa_nil)))) pa_nil))) pa_nil)))))) pa_nil))))
    (pss_one (ps_ret (pe_tup (pa_cons (pv 1) (pa_cons (pe_op op_add pe_int (pe_def D_law_draw (hr.mono (by decide)) (by rfl) (pa_cons (pv 0) (pa_cons pe_int pa_nil)))) (pa_cons (pe_op op_sub (pe_op op_add (pv 2) (pe_def D_law_draw (hr.mono (by decide)) (by rfl) (pa_cons (pv 0) (pa_cons pe_int pa_nil)))) pe_int) (pa_cons (pv 3) pa_nil)))))))), ?_⟩
    rw [show L2.start ["state", "flight", "tick", "change"] [V.ref d, V.str fl, V.int t] = [some (V.ref d), some (V.str fl), some (V.int t), none] from rfl]
    refine ⟨_, rfl, szOk rfl, fun t1 h1 => ?_⟩
    have s1 := same_new (o := .tup [.str "level", .int 300]) h1
    have e1 : (upd H t1 (.tup [.str "level", .int 300])) t1 = some (.tup [.str "level", .int 300]) := upd_same
    have S1 := S.same s1
    generalize upd H t1 (.tup [.str "level", .int 300]) = G1 at s1 e1 S1 ⊢
    refine ⟨szOk rfl, fun t2 h2 => ?_⟩
    have s2 := same_new (o := .tup [.str "level", .int 310]) h2
    have e2 : (upd G1 t2 (.tup [.str "level", .int 310])) t2 = some (.tup [.str "level", .int 310]) := upd_same
    have S2 := S1.same s2
    generalize upd G1 t2 (.tup [.str "level", .int 310]) = G2 at s2 e2 S2 ⊢
    refine ⟨szOk rfl, fun t3 h3 => ?_⟩
    have s3 := same_new (o := .tup [.str "speed", .int 9]) h3
    have e3 : (upd G2 t3 (.tup [.str "speed", .int 9])) t3 = some (.tup [.str "speed", .int 9]) := upd_same
    have S3 := S2.same s3
    generalize upd G2 t3 (.tup [.str "speed", .int 9]) = G3 at s3 e3 S3 ⊢
    refine ⟨szOk rfl, fun t4 h4 => ?_⟩
    have s4 := same_new (o := .tup [.str "A", .str "B"]) h4
    have e4 : (upd G3 t4 (.tup [.str "A", .str "B"])) t4 = some (.tup [.str "A", .str "B"]) := upd_same
    have S4 := S3.same s4
    generalize upd G3 t4 (.tup [.str "A", .str "B"]) = G4 at s4 e4 S4 ⊢
    refine ⟨szOk rfl, fun t5 h5 => ?_⟩
    have s5 := same_new (o := .tup [.str "route", .ref t4]) h5
    have e5 : (upd G4 t5 (.tup [.str "route", .ref t4])) t5 = some (.tup [.str "route", .ref t4]) := upd_same
    have S5 := S4.same s5
    generalize upd G4 t5 (.tup [.str "route", .ref t4]) = G5 at s5 e5 S5 ⊢
    refine ⟨szOk rfl, fun t6 h6 => ?_⟩
    have s6 := same_new (o := .tup [.str "A", .str "C", .str "B"]) h6
    have e6 : (upd G5 t6 (.tup [.str "A", .str "C", .str "B"])) t6 = some (.tup [.str "A", .str "C", .str "B"]) := upd_same
    have S6 := S5.same s6
    generalize upd G5 t6 (.tup [.str "A", .str "C", .str "B"]) = G6 at s6 e6 S6 ⊢
    refine ⟨szOk rfl, fun t7 h7 => ?_⟩
    have s7 := same_new (o := .tup [.str "route", .ref t6]) h7
    have e7 : (upd G6 t7 (.tup [.str "route", .ref t6])) t7 = some (.tup [.str "route", .ref t6]) := upd_same
    have S7 := S6.same s7
    generalize upd G6 t7 (.tup [.str "route", .ref t6]) = G7 at s7 e7 S7 ⊢
    refine ⟨szOk rfl, fun l hl => ?_⟩
    have s8 := same_new (o := .lst [.ref t1, .ref t2, .ref t3, .ref t5, .ref t7]) hl
    have e8 : (upd G7 l (.lst [.ref t1, .ref t2, .ref t3, .ref t5, .ref t7])) l = some (.lst [.ref t1, .ref t2, .ref t3, .ref t5, .ref t7]) := upd_same
    have S8 := S7.same s8
    generalize upd G7 l (.lst [.ref t1, .ref t2, .ref t3, .ref t5, .ref t7]) = G8 at s8 e8 S8 ⊢
    have sA : Same H G8 := ((((((s1.trans s2).trans s3).trans s4).trans s5).trans s6).trans s7).trans s8
    have f1 := (s8 _ _ (s7 _ _ (s6 _ _ (s5 _ _ (s4 _ _ (s3 _ _ (s2 _ _ e1)))))))
    have f2 := (s8 _ _ (s7 _ _ (s6 _ _ (s5 _ _ (s4 _ _ (s3 _ _ e2))))))
    have f3 := (s8 _ _ (s7 _ _ (s6 _ _ (s5 _ _ (s4 _ _ e3)))))
    have f4 := (s8 _ _ (s7 _ _ (s6 _ _ (s5 _ _ e4))))
    have f5 := (s8 _ _ (s7 _ _ (s6 _ _ e5)))
    have f6 := (s8 _ _ (s7 _ _ e6))
    have f7 := (s8 _ _ e7)
    clear s1 s2 s3 s4 s5 s6 s7 s8 e1 e2 e3 e4 e5 e6 e7 S1 S2 S3 S4 S5 S6 S7 h1 h2 h3 h4 h5 h6 h7
    refine ⟨d, c, _, _, rfl, S8, .inl (.inl e8), (fun z => nomatch z), (by show 5 ≤ 1000; decide), fun v H9 hv S9 kp9 => ?_⟩
    obtain ⟨g, w, vv, vd, rfl, hg, hva, hw⟩ : ∃ (g : Addr) (w : Str) (vv : V) (vd : PyData), v = .ref g ∧ H9 g = some (.tup [.str w, vv]) ∧ VAt H9 vv vd ∧ (w = "level" ∨ w = "speed" ∨ w = "route") := by
      simp only [List.mem_cons, List.not_mem_nil, or_false] at hv
      rcases hv with rfl | rfl | rfl | rfl | rfl
      · exact ⟨t1, _, _, _, rfl, kp9.t S8 f1, .inl ⟨300, rfl, rfl⟩, .inl rfl⟩
      · exact ⟨t2, _, _, _, rfl, kp9.t S8 f2, .inl ⟨310, rfl, rfl⟩, .inl rfl⟩
      · exact ⟨t3, _, _, _, rfl, kp9.t S8 f3, .inl ⟨9, rfl, rfl⟩, .inr (.inl rfl)⟩
      · exact ⟨t5, _, _, _, rfl, kp9.t S8 f5, .inr ⟨t4, ["A", "B"], rfl, kp9.t S8 f4, rfl, by decide +kernel⟩, .inr (.inr rfl)⟩
      · exact ⟨t7, _, _, _, rfl, kp9.t S8 f7, .inr ⟨t6, ["A", "C", "B"], rfl, kp9.t S8 f6, rfl, by decide +kernel⟩, .inr (.inr rfl)⟩
    refine nm ?_
    dsimp only [List.set]
    refine ⟨_, rfl, _, rfl, d, c, 4, rfl, S9, (by omega), (by omega), fun x1 G1 x1a x1b S1 kp1 => ?_⟩
    refine ⟨_, _, rfl, rfl, _, rfl, _, rfl, d, c, 7, rfl, S1, (by omega), (by omega), fun x2 G2 x2a x2b S2 kp2 => ?_⟩
    refine ⟨_, _, rfl, rfl, _, _, rfl, rfl, _, rfl, szOk rfl, fun a ha => ?_⟩
    have kk := (kp1.trans kp2)
    have tt : TK H9 G2 := kp_tk kk S9
    have s9 := same_new (o := .tup [.str fl, .int (1 + x1), .int (t + x2 - 2), .ref g]) ha
    refine k a ⟨fl, 1 + x1, t + x2 - 2, g, w, vv, vd⟩ _ ?_ ⟨upd_same, s9 _ _ (tt _ _ hg), (hva.tk tt).tk (Same.tk s9), fo, hw⟩ (S2.same s9) (((Keep.of sA).trans (kp9.trans kk)).trans (Keep.of s9))
    cases hH : H a with
    | none => rfl
    | some o =>
      exfalso
      have nd : a ≠ d := fun w => by
        rw [w] at ha
        obtain ⟨x, hx⟩ := S2.dk
        rw [ha] at hx
        cases hx
      have := ((Keep.of sA).trans (kp9.trans kk)) a o hH nd
      rw [ha] at this
      cases this

abbrev s_law_message : Stmt := top 12
theorem sc_law_message : FnScope ["state", "pool", "flight", "tick", "clearance", "kind"] ["state", "pool", "flight", "tick"] (defScope s_law_message) := ⟨rfl, rfl, rfl, by decide +kernel, rfl, by decide +kernel, by decide +kernel⟩
theorem ok_law_message {f : Addr} {fd : FuncData} (F : Fun K "_law_message" "_law_message" s_law_message f fd) (T : TxtA mg)
    (D_law_draw : Def P w K mg base 1 "_law_draw" ["state", "bound"] (spDraw K))
    (D_law_pick : Def P w K mg base 2 "_law_pick" ["state", "things"] (spPick K))
    (D_law_clearance : Def P w K mg base 3 "_law_clearance" ["state", "flight", "tick"] (spClr K)) : FnOk P w K mg base CX0 4 f fd ["state", "pool", "flight", "tick"] (spMsg K) := by
  refine F.ok sc_law_message (fun vs H Q E h => ?_) (fun cdv A outer s H vs Q E hr h => ?_)
  · obtain ⟨_, _, _, _, _, _, rfl, _⟩ := h
    rfl
  · obtain ⟨d, c, po, fl, t, as, rfl, S, fo, PO, al0, npd, npc, k⟩ := h
    have hu := hu_of hr
    refine ⟨_, (pss_cons (ps_if (PW.pt (pw_or (pt_cmpR op_eq (pe_callB (r := rLenK K) call_len_seq (by rfl) T.len boot_len (pa_cons (pv 1) pa_nil)) pe_int (nomark _)) (pw_or1 (pt_cmpR op_eq (pe_def D_law_draw (hr.mono (by decide)) (by rfl) (pa_cons (pv 0) (pa_cons pe_int pa_nil))) pe_int (nomark _))))) (pss_one (ps_expr (pe_bm PySem.F.plainAttrs_list PySem.F.slot_list_append PySem.F.type_list_append mt_append (pv 1) (pa_cons (pe_def D_law_clearance (hr.mono (by decide)) (by rfl) (pa_cons (pv 0) (pa_cons (pe_def D_law_pick (hr.mono (by decide)) (by rfl) (pa_cons (pv 0) (pa_cons (pe_lst (pa_cons (pv 2) (pa_cons (pv 2) (pa_cons (pv 2) (pa_cons pe_str pa_nil))))) pa_nil))) (pa_cons (pv 3) pa_nil)))) pa_nil))))
      pss_nil)
    (pss_cons (ps_set (i := 4) sc_law_message.nd rfl (Or.inl rfl) (pe_ix (r := rIxL K) ix_list (pv 1) (pe_op op_sub (pe_op op_sub (pe_callB (r := rLenK K) call_len_seq (by rfl) T.len boot_len (pa_cons (pv 1) pa_nil)) pe_int) (pe_def D_law_draw (hr.mono (by decide)) (by rfl) (pa_cons (pv 0) (pa_cons (pe_callB (call_min2 rfl) (by rfl) T.min boot_min (pa_cons pe_int (pa_cons (pe_callB (r := rLenK K) call_len_seq (by rfl) T.len boot_len (pa_cons (pv 1) pa_nil)) pa_nil))) pa_nil)))) (fun _ _ => rfl)))
    (pss_cons (ps_set (i := 5) sc_law_message.nd rfl (Or.inl rfl) (pe_def D_law_pick (hr.mono (by decide)) (by rfl) (pa_cons (pv 0) (pa_cons (pe_lst (pa_cons pe_str (pa_cons pe_str (pa_cons pe_str (pa_cons pe_str (pa_cons pe_str (pa_cons pe_str (pa_cons pe_str (pa_cons pe_str pa_nil))))))))) pa_nil))))
    (pss_cons (ps_if (pt_cmpR op_in_seq (pv 5) (pe_lst (pa_cons pe_str (pa_cons pe_str (pa_cons pe_str pa_nil)))) rfl) (pss_one (ps_ret (pe_tup (pa_cons (pv 5) (pa_cons (pe_ix (r := rIxT K) ix_tup (pv 4) pe_int (fun _ _ => rfl)) (pa_cons (pe_op op_add pe_int (pe_def D_law_draw (hr.mono (by decide)) (by rfl) (pa_cons (pv 0) (pa_cons pe_int pa_nil)))) pa_nil))))))
      pss_nil)
    (pss_one (ps_ret (pe_tup (pa_cons (pv 5) (pa_cons (pv 4) pa_nil))))))))), ?_⟩
    rw [show L2.start ["state", "pool", "flight", "tick", "clearance", "kind"] [V.ref d, V.ref po, V.str fl, V.int t] = [some (V.ref d), some (V.ref po), some (V.str fl), some (V.int t), none, none] from rfl]
    refine cut (t := tIfS _ _ _) (fun σ' G => σ' = [some (.ref d), some (.ref po), some (.str fl), some (.int t), none, none] ∧ St1 K G d c ∧ ∃ as', Pool G po as' ∧ as' ≠ [] ∧ as'.length ≤ as.length + 1 ∧ KP d po H G ∧ TK H G) ?_ (fun rest => ?_)
    rotate_left
    · refine ⟨_, rfl, _, _, rfl, .inl (.inl (.inl PO.1)), rfl, _, rfl, ?_⟩
      by_cases e : ((as.map V.ref).length : Int) = 0
      · refine eqY e ?_
        have kq := Keep.refl d H
        refine ⟨_, rfl, .inl ⟨rfl, _, .inl (.inl PO.1)⟩, _, rfl, _, rfl, _, rfl, _, rfl, _, rfl, szOk rfl, fun l hl => ?_⟩
        have s1 := same_new (o := .lst [.str fl, .str fl, .str fl, .str "ZZ"]) hl
        have hv1 : (upd H l (.lst [.str fl, .str fl, .str fl, .str "ZZ"])) l = some (.lst [.str fl, .str fl, .str fl, .str "ZZ"]) := upd_same
        have S1 := S.same s1
        have P1 := PO.same s1
        generalize upd H l (.lst [.str fl, .str fl, .str fl, .str "ZZ"]) = G1 at s1 hv1 S1 P1 ⊢
        refine ⟨d, c, _, _, rfl, S1, .inl (.inl hv1), (fun z => nomatch z), (by show 4 ≤ 1000; decide), fun v G2 hv S2 kp2 => ?_⟩
        obtain ⟨f', rfl, fo'⟩ : ∃ f' : Str, v = .str f' ∧ sOk f' := by
          simp only [List.mem_cons, List.not_mem_nil, or_false] at hv
          rcases hv with rfl | rfl | rfl | rfl
          · exact ⟨_, rfl, fo⟩
          · exact ⟨_, rfl, fo⟩
          · exact ⟨_, rfl, fo⟩
          · exact ⟨_, rfl, by decide +kernel⟩
        have P2 := P1.keep S1 kp2
        refine ⟨_, rfl, d, c, f', t, rfl, S2, fo', fun a z G3 ha CZ S3 kp3 => ?_⟩
        have P3 := P2.keep S2 kp3
        refine ⟨_, _, _, rfl, rfl, P3.1, small1000 (by rw [List.length_map]; omega), ?_⟩
        obtain ⟨P4, T4⟩ := P3.snoc CZ
        exact rest _ _ ⟨rfl, S3.put npd npc, as ++ [a], P4, (by simp), by rw [List.length_append]; exact Nat.le_refl _, (((KP.keep kq).trans (KP.keep (Keep.of s1))).trans (KP.keep (kp2.trans kp3))).trans KP.put, (((kp_tk kq S).trans (Same.tk s1)).trans ((kp_tk kp2 S1).trans (kp_tk kp3 S2))).trans T4⟩
      · refine eqN e ?_
        refine ⟨_, rfl, d, c, 3, rfl, S, (by omega), (by omega), fun x1 G0 x1a x1b S0 kq => ⟨rfl, _, rfl, ?_⟩⟩
        have PO := PO.keep S kq
        by_cases e1 : x1 = 0
        · refine eqY e1 ?_
          refine ⟨_, rfl, .inl ⟨rfl, _, .inl (.inl PO.1)⟩, _, rfl, _, rfl, _, rfl, _, rfl, _, rfl, szOk rfl, fun l hl => ?_⟩
          have s1 := same_new (o := .lst [.str fl, .str fl, .str fl, .str "ZZ"]) hl
          have hv1 : (upd G0 l (.lst [.str fl, .str fl, .str fl, .str "ZZ"])) l = some (.lst [.str fl, .str fl, .str fl, .str "ZZ"]) := upd_same
          have S1 := S0.same s1
          have P1 := PO.same s1
          generalize upd G0 l (.lst [.str fl, .str fl, .str fl, .str "ZZ"]) = G1 at s1 hv1 S1 P1 ⊢
          refine ⟨d, c, _, _, rfl, S1, .inl (.inl hv1), (fun z => nomatch z), (by show 4 ≤ 1000; decide), fun v G2 hv S2 kp2 => ?_⟩
          obtain ⟨f', rfl, fo'⟩ : ∃ f' : Str, v = .str f' ∧ sOk f' := by
            simp only [List.mem_cons, List.not_mem_nil, or_false] at hv
            rcases hv with rfl | rfl | rfl | rfl
            · exact ⟨_, rfl, fo⟩
            · exact ⟨_, rfl, fo⟩
            · exact ⟨_, rfl, fo⟩
            · exact ⟨_, rfl, by decide +kernel⟩
          have P2 := P1.keep S1 kp2
          refine ⟨_, rfl, d, c, f', t, rfl, S2, fo', fun a z G3 ha CZ S3 kp3 => ?_⟩
          have P3 := P2.keep S2 kp3
          refine ⟨_, _, _, rfl, rfl, P3.1, small1000 (by rw [List.length_map]; omega), ?_⟩
          obtain ⟨P4, T4⟩ := P3.snoc CZ
          exact rest _ _ ⟨rfl, S3.put npd npc, as ++ [a], P4, (by simp), by rw [List.length_append]; exact Nat.le_refl _, (((KP.keep kq).trans (KP.keep (Keep.of s1))).trans (KP.keep (kp2.trans kp3))).trans KP.put, (((kp_tk kq S).trans (Same.tk s1)).trans ((kp_tk kp2 S1).trans (kp_tk kp3 S2))).trans T4⟩
        · refine eqN e1 ?_
          exact rest _ _ ⟨rfl, S0, as, PO, (fun w => e (by rw [w]; rfl)), Nat.le_succ _, KP.keep kq, kp_tk kq S⟩
    rintro σ' G ⟨rfl, SG, as', PG, ne, al, kG, tG⟩
    have lp : 0 < as'.length := List.length_pos_iff.mpr ne
    have ll : (as'.map V.ref).length = as'.length := List.length_map ..
    refine ⟨_, rfl, _, rfl, _, _, rfl, .inl (.inl (.inl PG.1)), _, _, rfl, rfl, _, rfl, _, rfl, _, _, rfl, .inl (.inl (.inl PG.1)), _, _, rfl, d, c, _, rfl, SG, ?_, ?_, fun x1 G1 x1a x1b S1 kp1 => ?_⟩
    · rw [ll]; split <;> omega
    · rw [ll]; split <;> omega
    have P1 := PG.keep SG kp1
    obtain ⟨n, hn, hnl⟩ : ∃ n : Nat, ((as'.map V.ref).length : Int) - 1 - x1 = (n : Int) ∧ n < as'.length := by
      rw [ll] at x1b ⊢
      refine ⟨((as'.length : Int) - 1 - x1).toNat, ?_, ?_⟩ <;> split at x1b <;> omega
    refine ⟨_, _, rfl, rfl, _, _, _, .ref as'[n], rfl, rfl, .inl (.inl P1.1), by rw [hn]; exact atI_nat (mapAt hnl), ?_⟩
    obtain ⟨z, CZ⟩ := P1.2 _ (List.getElem_mem hnl)
    generalize as'[n] = a at CZ
    refine nm ?_
    dsimp only [List.set]
    refine ⟨_, rfl, szOk rfl, fun l hl => ?_⟩
    have s2 := same_new (o := .lst [.str "say", .str "say", .str "confirm", .str "confirm", .str "ask", .str "read", .str "taken", .str "not"]) hl
    have e2 : (upd G1 l (.lst [.str "say", .str "say", .str "confirm", .str "confirm", .str "ask", .str "read", .str "taken", .str "not"])) l = some (.lst [.str "say", .str "say", .str "confirm", .str "confirm", .str "ask", .str "read", .str "taken", .str "not"]) := upd_same
    have S2 := S1.same s2
    have P2 := P1.same s2
    have CZ := CZ.tk (Same.tk s2)
    generalize upd G1 l (.lst [.str "say", .str "say", .str "confirm", .str "confirm", .str "ask", .str "read", .str "taken", .str "not"]) = G2 at s2 e2 S2 P2 CZ ⊢
    refine ⟨d, c, _, _, rfl, S2, .inl (.inl e2), (fun z => nomatch z), (by show 8 ≤ 1000; decide), fun v G3 hv S3 kp3 => ?_⟩
    have P3 := P2.keep S2 kp3
    have CZ := CZ.tk (kp_tk kp3 S2)
    have k3 : KP d po H G3 := ((kG.trans (KP.keep kp1)).trans (KP.keep (Keep.of s2))).trans (KP.keep kp3)
    have t3 : TK H G3 := ((tG.trans (kp_tk kp1 SG)).trans (Same.tk s2)).trans (kp_tk kp3 S2)
    clear s2 e2 S2 P2 P1 S1 kp1 SG PG kG tG kp3
    refine nm ?_
    dsimp only [List.set]
    refine ⟨_, rfl, szOk rfl, fun l3 hl3 => ?_⟩
    have s4 := same_new (o := .lst [.str "ask", .str "taken", .str "not"]) hl3
    have e4 : (upd G3 l3 (.lst [.str "ask", .str "taken", .str "not"])) l3 = some (.lst [.str "ask", .str "taken", .str "not"]) := upd_same
    have S4 := S3.same s4
    have P4 := P3.same s4
    have CZ4 := CZ.tk (Same.tk s4)
    have k4 := k3.trans (KP.keep (Keep.of s4))
    have t4 := t3.trans (Same.tk s4)
    generalize upd G3 l3 (.lst [.str "ask", .str "taken", .str "not"]) = G4 at s4 e4 S4 P4 CZ4 k4 t4 ⊢
    have big : (∃ w : Str, v = .str w ∧ (w = "say" ∨ w = "confirm" ∨ w = "read")) ∨ ∃ w : Str, v = .str w ∧ (w = "ask" ∨ w = "taken" ∨ w = "not") := by
      simp only [List.mem_cons, List.not_mem_nil, or_false] at hv
      rcases hv with rfl | rfl | rfl | rfl | rfl | rfl | rfl | rfl
      · exact .inl ⟨_, rfl, .inl rfl⟩
      · exact .inl ⟨_, rfl, .inl rfl⟩
      · exact .inl ⟨_, rfl, .inr (.inl rfl)⟩
      · exact .inl ⟨_, rfl, .inr (.inl rfl)⟩
      · exact .inr ⟨_, rfl, .inl rfl⟩
      · exact .inl ⟨_, rfl, .inr (.inr rfl)⟩
      · exact .inr ⟨_, rfl, .inr (.inl rfl)⟩
      · exact .inr ⟨_, rfl, .inr (.inr rfl)⟩
    clear hv
    rcases big with ⟨w, rfl, hw⟩ | ⟨w, rfl, hw⟩
    · refine ⟨l3, _, rfl, .inl (.inl (.inl e4)), rfl, rfl, _, rfl, ite2 (fun e0 => ?_) (fun e0 => ?_)⟩
      · exfalso
        rcases hw with rfl | rfl | rfl <;> exact absurd e0 (by decide +kernel)
      refine nxQ ?_
      dsimp only
      refine ⟨_, rfl, _, rfl, szOk rfl, fun q hq => ?_⟩
      have s5 := same_new (o := .tup [.str w, .ref a]) hq
      exact k q (.cl w a z) as' _ ⟨upd_same, CZ4.tk (Same.tk s5), hw⟩ (P4.same s5) al (S4.same s5) (k4.trans (KP.keep (Keep.of s5))) (t4.trans (Same.tk s5))
    · refine ⟨l3, _, rfl, .inl (.inl (.inl e4)), rfl, rfl, _, rfl, ite2 (fun e0 => ?_) (fun e0 => ?_)⟩
      rotate_left
      · exfalso
        rcases hw with rfl | rfl | rfl <;> exact absurd (by decide +kernel) e0
      refine ⟨_, rfl, _, rfl, _, _, _, _, rfl, rfl, .inl (.inl CZ4.t), rfl, _, rfl, d, c, 4, rfl, S4, (by omega), (by omega), fun x2 G5 x2a x2b S5 kp5 => ?_⟩
      refine ⟨_, _, rfl, rfl, szOk rfl, fun q hq => ?_⟩
      have s6 := same_new (o := .tup [.str w, .str z.f, .int (1 + x2)]) hq
      exact k q (.no w z.f (1 + x2)) as' _ ⟨upd_same, CZ4.f, hw⟩ ((P4.keep S4 kp5).same s6) al (S5.same s6) ((k4.trans (KP.keep kp5)).trans (KP.keep (Keep.of s6))) ((t4.trans (kp_tk kp5 S4)).trans (Same.tk s6))

end
end Sk

set_option Elab.async false
set_option linter.all false
set_option maxRecDepth 100000
set_option maxHeartbeats 4000000
namespace Sk
open PySem PySem.Spec PyProof.Rows L2
theorem len2 {α : Type} {l : List α} (h : l.length = 2) : ∃ a b, l = [a, b] := by
  match l, h with
  | [a, b], _ => exact ⟨a, b, rfl⟩
theorem op_inDK {X : Cx} {K : PySem.W.Frag} (e : X.K = K) (hu : X.A.units + 65 < cLine) : OpR X (compareOp .In) (rInD K) := by
  subst e
  exact op_inD hu
def spLaw (K : PySem.W.Frag) : Sp := fun vs H Q _ => ∃ (a : Addr) (ns : List Int), vs = [.ref a] ∧ SqL K H a (ns.map V.int) ∧ ns.length ≤ 63 ∧ ∀ H', Q (.bl true) H'
section
variable {P : Program} {w : World} {K : PySem.W.Frag} {mg : Str → Option Value} {base : Heap}
abbrev s_law : Stmt := top 17
theorem sc_law : FnScope ["script", "state", "course", "flights", "pilots", "mine", "said", "confirmed", "refused", "tick", "pool", "event", "k", "j", "before", "due", "taken", "after", "message", "one"] ["script"] (defScope s_law) := ⟨rfl, rfl, rfl, by decide +kernel, rfl, by decide +kernel, by decide +kernel⟩
theorem ok_law {f : Addr} {fd : FuncData} {C : Addr} (F : Fun K "law" "law" s_law f fd) (T : TxtA mg) (Y : PilY K mg C)
    (D_law_start : Def P w K mg base 1 "_law_start" ["script"] (spStart K))
    (D_law_draw : Def P w K mg base 1 "_law_draw" ["state", "bound"] (spDraw K))
    (D_law_pick : Def P w K mg base 2 "_law_pick" ["state", "things"] (spPick K))
    (D_law_new : Def P w K mg base 1 "_law_new" ["flight", "course"] (spLNew))
    (D_law_changed : Def P w K mg base 1 "_law_changed" ["course", "change"] (spChanged))
    (D_law_begin : Def P w K mg base 2 "_law_begin" ["mine", "tick"] (spLBegin))
    (D_law_hear : Def P w K mg base 2 "_law_hear" ["mine", "message", "tick"] (spLHear))
    (D_law_message : Def P w K mg base 4 "_law_message" ["state", "pool", "flight", "tick"] (spMsg K))
    (D_Pilot : CDef P w K mg base 1 C "Pilot" ["self", "flight", "course"] (spPil C))
    (M_course : MDef P w K mg base 1 C "course" ["self"] (spCourse28 C))
    (M_hear : MDef P w K mg base 2 C "hear" ["self", "message", "tick"] (spHear C))
    (M_begin_tick : MDef P w K mg base 2 C "begin_tick" ["self", "tick"] (spBegin28 C)) : FnOk P w K mg base CX0 5 f fd ["script"] (spLaw K) := by
  refine F.ok sc_law (fun vs H Q E h => ?_) (fun cdv A outer s H vs Q E hr h => ?_)
  · obtain ⟨_, _, rfl, _⟩ := h
    rfl
  · obtain ⟨a, ns0, rfl, hS, hl0, kk⟩ := h
    have hu := hu_of hr
    refine ⟨_, (pss_cons (ps_set (i := 1) sc_law.nd rfl (Or.inl rfl) (pe_def D_law_start (hr.mono (by decide)) (by rfl) (pa_cons (pv 0) pa_nil)))
    (pss_cons (ps_set (i := 2) sc_law.nd rfl (Or.inr rfl) (pe_tup (pa_cons (pe_tup (pa_cons pe_str (pa_cons pe_str pa_nil))) (pa_cons pe_int (pa_cons pe_int pa_nil)))))
    (pss_cons (ps_set (i := 3) sc_law.nd rfl (Or.inr rfl) (pe_lst (pa_cons pe_str (pa_cons pe_str pa_nil))))
    (pss_cons (ps_setLc (i := 4) (own := [("k", 12)]) (g := gName 12) (by rfl) sc_law.nd rfl rfl (sw_true rfl rfl rfl (by decide +kernel)) (pi_range1 (by rfl) T.range (pa_cons pe_int pa_nil)) (blkOk_by (own := [("k", 12)]) (N := ["script", "state", "course", "flights", "pilots", "mine", "said", "confirmed", "refused", "tick", "pool", "event", "k", "j", "before", "due", "taken", "after", "message", "one"]) (sc := defScope s_law) (by decide +kernel)) (fun _ _ _ _ _ => (pg_name (i := 12) sc_law.nd rfl (Or.inl rfl))) (fun _ _ _ _ _ => pts_nil) (fun _ _ _ _ _ => (pe_cdef D_Pilot (hr.mono (by decide)) (by rfl) (pa_cons (pe_ix (r := rIxL K) ix_list (pv 3) (pv 12) (fun _ _ => rfl)) (pa_cons (pv 2) pa_nil)))))
    (pss_cons (ps_setLc (i := 5) (own := [("k", 12)]) (g := gName 12) (by rfl) sc_law.nd rfl rfl (sw_true rfl rfl rfl (by decide +kernel)) (pi_range1 (by rfl) T.range (pa_cons pe_int pa_nil)) (blkOk_by (own := [("k", 12)]) (N := ["script", "state", "course", "flights", "pilots", "mine", "said", "confirmed", "refused", "tick", "pool", "event", "k", "j", "before", "due", "taken", "after", "message", "one"]) (sc := defScope s_law) (by decide +kernel)) (fun _ _ _ _ _ => (pg_name (i := 12) sc_law.nd rfl (Or.inl rfl))) (fun _ _ _ _ _ => pts_nil) (fun _ _ _ _ _ => (pe_def D_law_new (hr.mono (by decide)) (by rfl) (pa_cons (pe_ix (r := rIxL K) ix_list (pv 3) (pv 12) (fun _ _ => rfl)) (pa_cons (pv 2) pa_nil)))))
    (pss_cons (ps_set (i := 6) sc_law.nd rfl (Or.inr rfl) (pe_lst (pa_cons (pe_lst pa_nil) (pa_cons (pe_lst pa_nil) pa_nil))))
    (pss_cons (ps_set (i := 7) sc_law.nd rfl (Or.inl rfl) (pe_lst (pa_cons (pe_lst pa_nil) (pa_cons (pe_lst pa_nil) pa_nil))))
    (pss_cons (ps_set (i := 8) sc_law.nd rfl (Or.inl rfl) (pe_lst (pa_cons (pe_lst pa_nil) (pa_cons (pe_lst pa_nil) pa_nil))))
    (pss_cons (ps_set (i := 9) sc_law.nd rfl (Or.inr rfl) pe_int)
    (pss_cons (ps_set (i := 10) sc_law.nd rfl (Or.inl rfl) (pe_lst pa_nil))
    (pss_cons (ps_for PassesOwn.never rfl (pi_range1 (by rfl) T.range (pa_cons pe_int pa_nil)) (pg_name (i := 11) sc_law.nd rfl (Or.inl rfl))
      (pss_cons (ps_set (i := 12) sc_law.nd rfl (Or.inl rfl) (pe_callTy call_int1 (by rfl) T.int boot_int (pa_cons (pe_cmpR op_eq (pe_def D_law_draw (hr.mono (by decide)) (by rfl) (pa_cons (pv 1) (pa_cons pe_int pa_nil))) pe_int (nomark _)) pa_nil)))
    (pss_one (ps_if (pt_cmpR op_eq (pe_def D_law_draw (hr.mono (by decide)) (by rfl) (pa_cons (pv 1) (pa_cons pe_int pa_nil))) pe_int (nomark _)) (pss_cons (ps_set (i := 9) sc_law.nd rfl (Or.inr rfl) (pe_op op_add (pv 9) (pe_def D_law_pick (hr.mono (by decide)) (by rfl) (pa_cons (pv 1) (pa_cons (pe_lst (pa_cons pe_int (pa_cons pe_int (pa_cons pe_int (pa_cons pe_int (pa_cons pe_int pa_nil)))))) pa_nil)))))
    (pss_one (ps_for PassesOwn.never rfl (pi_range1 (by rfl) T.range (pa_cons pe_int pa_nil)) (pg_name (i := 13) sc_law.nd rfl (Or.inr rfl))
      (pss_cons (ps_set (i := 14) sc_law.nd rfl (Or.inr rfl) (pe_mdef0 M_course Y.cl (hr.mono (by decide)) (pe_ix (r := rIxL K) ix_list (pv 4) (pv 13) (fun _ _ => rfl))))
    (pss_cons (ps_set (i := 15) sc_law.nd rfl (Or.inr rfl) (pe_def D_law_begin (hr.mono (by decide)) (by rfl) (pa_cons (pe_ix (r := rIxL K) ix_list (pv 5) (pv 13) (fun _ _ => rfl)) (pa_cons (pv 9) pa_nil))))
    (pss_cons (ps_if (PW.pt (pw_or (pt_cmpR (op_neD hr.units) (pe_mdef M_begin_tick Y.cl (hr.mono (by decide)) (pe_ix (r := rIxL K) ix_list (pv 4) (pv 13) (fun _ _ => rfl)) (pa_cons (pv 9) pa_nil)) (pv 15) (nomark _)) (pw_or1 (pt_cmpR (op_neD hr.units) (pe_mdef0 M_course Y.cl (hr.mono (by decide)) (pe_ix (r := rIxL K) ix_list (pv 4) (pv 13) (fun _ _ => rfl))) (pe_dget hu (pe_ix (r := rIxL K) ix_list (pv 5) (pv 13) (fun _ _ => rfl)) pe_str (fun _ _ => rfl)) (nomark _))))) (pss_one (ps_ret pe_bl))
      pss_nil)
    (pss_cons (ps_if (PW.pt (pw_and (pt_cmpR op_isN (pv 15) pe_non (nomark _)) (pw_and1 (pt_cmpR (op_neD hr.units) (pv 14) (pe_mdef0 M_course Y.cl (hr.mono (by decide)) (pe_ix (r := rIxL K) ix_list (pv 4) (pv 13) (fun _ _ => rfl))) (nomark _))))) (pss_one (ps_ret pe_bl))
      pss_nil)
    (pss_one (ps_if (pt_cmpR op_notN (pv 15) pe_non (nomark _)) (pss_cons (ps_setLc (i := 16) (own := [("one", 19)]) (g := gName 19) (by rfl) sc_law.nd rfl rfl (sw_true rfl rfl rfl (by decide +kernel)) (pi_list (pe_ix (r := rIxL K) ix_list (pv 7) (pv 13) (fun _ _ => rfl))) (blkOk_by (own := [("one", 19)]) (N := ["script", "state", "course", "flights", "pilots", "mine", "said", "confirmed", "refused", "tick", "pool", "event", "k", "j", "before", "due", "taken", "after", "message", "one"]) (sc := defScope s_law) (by decide +kernel)) (fun _ _ _ _ _ => (pg_name (i := 19) sc_law.nd rfl (Or.inl rfl))) (fun _ _ _ _ _ => pts_one (PW.pt (pw_and (pt_cmpR op_eq (pe_ix (r := rIxT K) ix_tup (pv 19) pe_int (fun _ _ => rfl)) (pe_ix (r := rIxT K) ix_tup (pv 15) pe_int (fun _ _ => rfl)) (nomark _)) (pw_and1 (pt_cmpR (op_inDK (K := K) rfl (hu65 hr)) (pv 19) (pe_ix (r := rIxL K) ix_list (pv 6) (pv 13) (fun _ _ => rfl)) rfl))))) (fun _ _ _ _ _ => (pv 19)))
    (pss_cons (ps_setLc (i := 17) (own := [("one", 19)]) (g := gName 19) (by rfl) sc_law.nd rfl rfl (sw_true rfl rfl rfl (by decide +kernel)) (pi_list (pv 16)) (blkOk_by (own := [("one", 19)]) (N := ["script", "state", "course", "flights", "pilots", "mine", "said", "confirmed", "refused", "tick", "pool", "event", "k", "j", "before", "due", "taken", "after", "message", "one"]) (sc := defScope s_law) (by decide +kernel)) (fun _ _ _ _ _ => (pg_name (i := 19) sc_law.nd rfl (Or.inl rfl))) (fun _ _ _ _ _ => pts_one (pt_cmpR op_le (pe_ix (r := rIxT K) ix_tup (pv 19) pe_int (fun _ _ => rfl)) (pv 9) (nomark _))) (fun _ _ _ _ _ => (pe_def D_law_changed (hr.mono (by decide)) (by rfl) (pa_cons (pv 14) (pa_cons (pe_ix (r := rIxT K) ix_tup (pv 19) pe_int (fun _ _ => rfl)) pa_nil)))))
    (pss_cons (ps_if (PW.pt (pw_or (pt_cmpR (op_notInD (hu65 hr)) (pe_mdef0 M_course Y.cl (hr.mono (by decide)) (pe_ix (r := rIxL K) ix_list (pv 4) (pv 13) (fun _ _ => rfl))) (pv 17) rfl) (pw_or1 (pt_cmpR op_in_seq (pe_ix (r := rIxT K) ix_tup (pv 15) pe_int (fun _ _ => rfl)) (pe_ix (r := rIxL K) ix_list (pv 8) (pv 13) (fun _ _ => rfl)) rfl)))) (pss_one (ps_ret pe_bl))
      pss_nil)
    (pss_one (ps_expr (pe_bm PySem.F.plainAttrs_list PySem.F.slot_list_append PySem.F.type_list_append mt_append (pe_ix (r := rIxL K) ix_list (pv 8) (pv 13) (fun _ _ => rfl)) (pa_cons (pe_ix (r := rIxT K) ix_tup (pv 15) pe_int (fun _ _ => rfl)) pa_nil)))))))
      pss_nil)))))))))
      (pss_cons (ps_set (i := 18) sc_law.nd rfl (Or.inl rfl) (pe_def D_law_message (hr.mono (by decide)) (by rfl) (pa_cons (pv 1) (pa_cons (pv 10) (pa_cons (pe_ix (r := rIxL K) ix_list (pv 3) (pv 12) (fun _ _ => rfl)) (pa_cons (pv 9) pa_nil))))))
    (pss_cons (ps_set (i := 15) sc_law.nd rfl (Or.inr rfl) (pe_def D_law_hear (hr.mono (by decide)) (by rfl) (pa_cons (pe_ix (r := rIxL K) ix_list (pv 5) (pv 12) (fun _ _ => rfl)) (pa_cons (pv 18) (pa_cons (pv 9) pa_nil)))))
    (pss_cons (ps_if (PW.pt (pw_or (pt_cmpR (op_neD hr.units) (pe_mdef M_hear Y.cl (hr.mono (by decide)) (pe_ix (r := rIxL K) ix_list (pv 4) (pv 12) (fun _ _ => rfl)) (pa_cons (pv 18) (pa_cons (pv 9) pa_nil))) (pv 15) (nomark _)) (pw_or1 (pt_cmpR (op_neD hr.units) (pe_mdef0 M_course Y.cl (hr.mono (by decide)) (pe_ix (r := rIxL K) ix_list (pv 4) (pv 12) (fun _ _ => rfl))) (pe_dget hu (pe_ix (r := rIxL K) ix_list (pv 5) (pv 12) (fun _ _ => rfl)) pe_str (fun _ _ => rfl)) (nomark _))))) (pss_one (ps_ret pe_bl))
      pss_nil)
    (pss_cons (ps_if (pt_cmpR op_eq (pe_ix (r := rIxT K) ix_tup (pv 18) pe_int (fun _ _ => rfl)) pe_str (nomark _)) (pss_one (ps_expr (pe_bm PySem.F.plainAttrs_list PySem.F.slot_list_append PySem.F.type_list_append mt_append (pe_ix (r := rIxL K) ix_list (pv 6) (pv 12) (fun _ _ => rfl)) (pa_cons (pe_ix (r := rIxT K) ix_tup (pv 18) pe_int (fun _ _ => rfl)) pa_nil))))
      pss_nil)
    (pss_cons (ps_if (pt_cmpR op_eq (pe_ix (r := rIxT K) ix_tup (pv 18) pe_int (fun _ _ => rfl)) pe_str (nomark _)) (pss_one (ps_expr (pe_bm PySem.F.plainAttrs_list PySem.F.slot_list_append PySem.F.type_list_append mt_append (pe_ix (r := rIxL K) ix_list (pv 7) (pv 12) (fun _ _ => rfl)) (pa_cons (pe_ix (r := rIxT K) ix_tup (pv 18) pe_int (fun _ _ => rfl)) pa_nil))))
      pss_nil)
    (pss_one (ps_if (PW.pt (pw_and (pt_cmpR op_notN (pv 15) pe_non (nomark _)) (pw_and1 (pt_cmpR op_eq (pe_ix (r := rIxT K) ix_tup (pv 15) pe_int (fun _ _ => rfl)) pe_str (nomark _))))) (pss_one (ps_expr (pe_bm PySem.F.plainAttrs_list PySem.F.slot_list_append PySem.F.type_list_append mt_append (pe_ix (r := rIxL K) ix_list (pv 8) (pv 12) (fun _ _ => rfl)) (pa_cons (pe_ix (r := rIxT K) ix_tup (pv 15) pe_int (fun _ _ => rfl)) pa_nil))))
      pss_nil)))))))))))
    (pss_one (ps_ret pe_bl))))))))))))), ?_⟩
    rw [show L2.start ["script", "state", "course", "flights", "pilots", "mine", "said", "confirmed", "refused", "tick", "pool", "event", "k", "j", "before", "due", "taken", "after", "message", "one"] [V.ref a] = [some (V.ref a), none, none, none, none, none, none, none, none, none, none, none, none, none, none, none, none, none, none, none] from rfl]
    refine ⟨_, rfl, a, ns0, rfl, hS, hl0, fun d c G0 hd0 hc0 S0 sm0 => ?_⟩
    refine nm ?_
    dsimp only [List.set]
    refine ⟨szOk rfl, fun tc htc => ?_⟩
    have s1 := same_new (o := .tup [.str "A", .str "B"]) htc
    have e1 : (upd G0 tc (.tup [.str "A", .str "B"])) tc = some (.tup [.str "A", .str "B"]) := upd_same
    have S1 := S0.same s1
    generalize upd G0 tc (.tup [.str "A", .str "B"]) = G1 at s1 e1 S1 ⊢
    refine ⟨szOk rfl, fun co hco => ?_⟩
    have s2 := same_new (o := .tup [.ref tc, .int 8, .int 250]) hco
    have S2 := S1.same s2
    obtain ⟨c0, ec0⟩ : ∃ c0 : CO, c0 = ⟨.ref tc, .int 8, .int 250, .tuple ((["A", "B"] : List Str).map PyData.str), .int 8, .int 250⟩ := ⟨_, rfl⟩
    have CA : CoAt (upd G1 co (.tup [.ref tc, .int 8, .int 250])) co c0 := by
      rw [ec0]
      exact ⟨upd_same, .inr ⟨tc, ["A", "B"], rfl, s2 _ _ e1, rfl, by decide +kernel⟩, .inl ⟨8, rfl, rfl⟩, .inl ⟨250, rfl, rfl⟩⟩
    generalize upd G1 co (.tup [.ref tc, .int 8, .int 250]) = G2 at s2 S2 CA ⊢
    clear s1 e1 S1 s2 S0 sm0 hd0 hc0 htc hco ec0
    refine nm ?_
    dsimp only [List.set]
    refine ⟨szOk rfl, fun fl hfl => ?_⟩
    have AL2 : Al G2 [] [] [d, c] := by
      obtain ⟨ns, i, l, m, S'⟩ := id S2
      have dc : d ≠ c := ne_of S'.dc S'.cs (by intro z; cases z)
      refine ⟨by simp [dc], fun x hx => ?_⟩
      simp only [List.nil_append, List.mem_cons, List.not_mem_nil, or_false] at hx
      rcases hx with rfl | rfl
      · rw [S'.dc]; exact fun z => nomatch z
      · rw [S'.cs]; exact fun z => nomatch z
    have AL3 := AL2.alloco hfl (.lst [.str "AB1", .str "A"])
    have s3 := same_new (o := .lst [.str "AB1", .str "A"]) hfl
    have efl : (upd G2 fl (.lst [.str "AB1", .str "A"])) fl = some (.lst [.str "AB1", .str "A"]) := upd_same
    have S3 := S2.same s3
    have CA := CA.tk (Same.tk s3)
    generalize upd G2 fl (.lst [.str "AB1", .str "A"]) = G3 at s3 efl S3 CA AL3 ⊢
    clear s3 S2 AL2 hfl
    refine nm ?_
    dsimp only [List.set]
    have fat : ∀ i, i < 2 → ([V.str "AB1", V.str "A"] : List V)[i]? = some (.str (fn28 i)) := fun i hi => by
      rcases (by omega : i = 0 ∨ i = 1) with rfl | rfl <;> rfl
    refine ⟨_, rfl, by decide, by decide, fun pl hpl => ?_⟩
    refine lc_range (lo := 0) (n := (2 : Int).toNat) (fun i G => ∃ ps, PsB C G3 G c0 d c fl pl i ps) ⟨[], rfl, same_new hpl, upd_same, (fun k x hx => nomatch hx), AL3.alloco hpl (.lst [])⟩ ?_ ?_
    · rintro i G hi ⟨ps, B⟩
      have hi : i < 2 := hi
      refine ⟨rfl, ?_⟩
      rw [Int.zero_add]
      refine ⟨_, rfl, _, rfl, _, _, _, _, rfl, rfl, .inl (.inl (B.s _ _ efl)), atI_nat (fat i hi), _, rfl, fun p dx hp hdx hne => ?_⟩
      have sx : Same G (upd (upd G dx (.own p)) p (.ins C dx [])) := fun b o e => by
        rw [upd_ne (ne_of_none e hp), upd_ne (ne_of_none e hdx)]
        exact e
      refine ⟨p, dx, co, fn28 i, c0, rfl, upd_same, (CA.tk (Same.tk B.s)).tk (Same.tk sx), fn_ok i, fun tk H' htk tne PA O => ⟨rfl, ?_⟩⟩
      have sH : Same G H' := fun b o e => O b o (sx _ _ e) (by simpa using (ne_of_none e hp))
      have htG : G tk = none := by
        rw [upd_ne tne] at htk
        by_cases w : tk = dx
        · rw [w]; exact hdx
        · rw [upd_ne w] at htk; exact htk
      exact ⟨_, sH _ _ B.e, small1000 (by rw [List.length_map, B.l]; omega), _, B.add hi hpl hp htG tne sH PA (dx := dx)⟩
    rintro G4 ⟨ps, B⟩
    have B : PsB C G3 G4 c0 d c fl pl 2 ps := B
    refine nm ?_
    dsimp only [List.set]
    refine ⟨_, rfl, by decide, by decide, fun ml hml => ?_⟩
    have AL4 : Al (upd G4 ml (.lst [])) (XP ps 0) (XP ps 1) [d, c, fl, pl, ml] := B.a.alloco hml (.lst [])
    refine lc_range (lo := 0) (n := (2 : Int).toNat) (fun i G => ∃ ms, MsB G4 G c0 (XP ps 0) (XP ps 1) [d, c, fl, pl, ml] ml i ms) ⟨[], rfl, same_new hml, upd_same, (fun k x hx => nomatch hx), by simpa [XP] using AL4⟩ ?_ ?_
    · rintro i G hi ⟨ms, M⟩
      have hi : i < 2 := hi
      refine ⟨rfl, ?_⟩
      rw [Int.zero_add]
      refine ⟨_, rfl, _, rfl, _, _, _, _, rfl, rfl, .inl (.inl (M.s _ _ (B.s _ _ efl))), atI_nat (fat i hi), _, rfl, co, fn28 i, c0, rfl, (CA.tk (Same.tk B.s)).tk (Same.tk M.s), fn_ok i, fun m tl H' hm htl MA sH => ?_⟩
      exact ⟨_, sH _ _ M.e, small1000 (by rw [List.length_map, M.l]; omega), _, M.add hi hml hm htl sH MA⟩
    rintro G5 ⟨ms, M⟩
    have M : MsB G4 G5 c0 (XP ps 0) (XP ps 1) [d, c, fl, pl, ml] ml 2 ms := M
    obtain ⟨x0, x1, rfl⟩ := len2 B.l
    obtain ⟨y0, y1, rfl⟩ := len2 M.l
    have P0 := (B.p 0 x0 rfl).same M.s
    have P1 := (B.p 1 x1 rfl).same M.s
    have M0 := (M.p 0 y0 rfl).1
    have M1 := (M.p 1 y1 rfl).1
    have e_fl := M.s _ _ (B.s _ _ efl)
    have e_pl := M.s _ _ B.e
    have e_ml := M.e
    have SS := (S3.same B.s).same M.s
    have AL : Al G5 [x0.1, x0.2, y0.1, y0.2] [x1.1, x1.2, y1.1, y1.2] [d, c, fl, pl, ml] := M.a
    clear B M efl CA AL3 AL4 hpl hml S3
    refine nm ?_
    dsimp only [List.set]
    refine ⟨szOk rfl, fun sd0 h_sd0 => ⟨szOk rfl, fun sd1 h_sd1 => ⟨szOk rfl, fun sl h_sl => ?_⟩⟩⟩
    have AL := (((AL.alloc0 h_sd0 (.lst [])).alloc1 h_sd1 (.lst [])).alloco h_sl (.lst [.ref sd0, .ref sd1]))
    have s_sl : Same G5 (upd (upd (upd G5 sd0 (.lst [])) sd1 (.lst [])) sl (.lst [.ref sd0, .ref sd1])) := ((same_new h_sd0).trans (same_new h_sd1)).trans (same_new h_sl)
    have e_sd0 : (upd (upd (upd G5 sd0 (.lst [])) sd1 (.lst [])) sl (.lst [.ref sd0, .ref sd1])) sd0 = some (.lst []) := same_new h_sl _ _ (same_new h_sd1 _ _ upd_same)
    have e_sd1 : (upd (upd (upd G5 sd0 (.lst [])) sd1 (.lst [])) sl (.lst [.ref sd0, .ref sd1])) sd1 = some (.lst []) := same_new h_sl _ _ upd_same
    have e_sl : (upd (upd (upd G5 sd0 (.lst [])) sd1 (.lst [])) sl (.lst [.ref sd0, .ref sd1])) sl = some (.lst [.ref sd0, .ref sd1]) := upd_same
    have e_fl := s_sl _ _ e_fl
    have e_pl := s_sl _ _ e_pl
    have e_ml := s_sl _ _ e_ml
    have P0 := P0.same s_sl
    have P1 := P1.same s_sl
    have M0 := M0.same s_sl
    have M1 := M1.same s_sl
    have SS := SS.same s_sl
    generalize upd (upd (upd G5 sd0 (.lst [])) sd1 (.lst [])) sl (.lst [.ref sd0, .ref sd1]) = G6 at *
    clear s_sl h_sd0 h_sd1 h_sl
    refine nm ?_
    dsimp only [List.set]
    refine ⟨szOk rfl, fun cf0 h_cf0 => ⟨szOk rfl, fun cf1 h_cf1 => ⟨szOk rfl, fun cl h_cl => ?_⟩⟩⟩
    have AL := (((AL.alloc0 h_cf0 (.lst [])).alloc1 h_cf1 (.lst [])).alloco h_cl (.lst [.ref cf0, .ref cf1]))
    have s_cl : Same G6 (upd (upd (upd G6 cf0 (.lst [])) cf1 (.lst [])) cl (.lst [.ref cf0, .ref cf1])) := ((same_new h_cf0).trans (same_new h_cf1)).trans (same_new h_cl)
    have e_cf0 : (upd (upd (upd G6 cf0 (.lst [])) cf1 (.lst [])) cl (.lst [.ref cf0, .ref cf1])) cf0 = some (.lst []) := same_new h_cl _ _ (same_new h_cf1 _ _ upd_same)
    have e_cf1 : (upd (upd (upd G6 cf0 (.lst [])) cf1 (.lst [])) cl (.lst [.ref cf0, .ref cf1])) cf1 = some (.lst []) := same_new h_cl _ _ upd_same
    have e_cl : (upd (upd (upd G6 cf0 (.lst [])) cf1 (.lst [])) cl (.lst [.ref cf0, .ref cf1])) cl = some (.lst [.ref cf0, .ref cf1]) := upd_same
    have e_fl := s_cl _ _ e_fl
    have e_pl := s_cl _ _ e_pl
    have e_ml := s_cl _ _ e_ml
    have P0 := P0.same s_cl
    have P1 := P1.same s_cl
    have M0 := M0.same s_cl
    have M1 := M1.same s_cl
    have SS := SS.same s_cl
    have e_sd0 := s_cl _ _ e_sd0
    have e_sd1 := s_cl _ _ e_sd1
    have e_sl := s_cl _ _ e_sl
    generalize upd (upd (upd G6 cf0 (.lst [])) cf1 (.lst [])) cl (.lst [.ref cf0, .ref cf1]) = G7 at *
    clear s_cl h_cf0 h_cf1 h_cl
    refine nm ?_
    dsimp only [List.set]
    refine ⟨szOk rfl, fun rf0 h_rf0 => ⟨szOk rfl, fun rf1 h_rf1 => ⟨szOk rfl, fun rl h_rl => ?_⟩⟩⟩
    have AL := (((AL.alloc0 h_rf0 (.lst [])).alloc1 h_rf1 (.lst [])).alloco h_rl (.lst [.ref rf0, .ref rf1]))
    have s_rl : Same G7 (upd (upd (upd G7 rf0 (.lst [])) rf1 (.lst [])) rl (.lst [.ref rf0, .ref rf1])) := ((same_new h_rf0).trans (same_new h_rf1)).trans (same_new h_rl)
    have e_rf0 : (upd (upd (upd G7 rf0 (.lst [])) rf1 (.lst [])) rl (.lst [.ref rf0, .ref rf1])) rf0 = some (.lst []) := same_new h_rl _ _ (same_new h_rf1 _ _ upd_same)
    have e_rf1 : (upd (upd (upd G7 rf0 (.lst [])) rf1 (.lst [])) rl (.lst [.ref rf0, .ref rf1])) rf1 = some (.lst []) := same_new h_rl _ _ upd_same
    have e_rl : (upd (upd (upd G7 rf0 (.lst [])) rf1 (.lst [])) rl (.lst [.ref rf0, .ref rf1])) rl = some (.lst [.ref rf0, .ref rf1]) := upd_same
    have e_fl := s_rl _ _ e_fl
    have e_pl := s_rl _ _ e_pl
    have e_ml := s_rl _ _ e_ml
    have P0 := P0.same s_rl
    have P1 := P1.same s_rl
    have M0 := M0.same s_rl
    have M1 := M1.same s_rl
    have SS := SS.same s_rl
    have e_sd0 := s_rl _ _ e_sd0
    have e_sd1 := s_rl _ _ e_sd1
    have e_sl := s_rl _ _ e_sl
    have e_cf0 := s_rl _ _ e_cf0
    have e_cf1 := s_rl _ _ e_cf1
    have e_cl := s_rl _ _ e_cl
    generalize upd (upd (upd G7 rf0 (.lst [])) rf1 (.lst [])) rl (.lst [.ref rf0, .ref rf1]) = G8 at *
    clear s_rl h_rf0 h_rf1 h_rl
    refine nm ?_
    dsimp only [List.set]
    refine nm ?_
    dsimp only [List.set]
    refine ⟨szOk rfl, fun po hpo => ?_⟩
    have AL := AL.alloco hpo (.lst [])
    have s_po := same_new (o := .lst []) hpo
    have e_po : (upd G8 po (.lst [])) po = some (.lst []) := upd_same
    have e_fl := s_po _ _ e_fl
    have e_pl := s_po _ _ e_pl
    have e_ml := s_po _ _ e_ml
    have P0 := P0.same s_po
    have P1 := P1.same s_po
    have M0 := M0.same s_po
    have M1 := M1.same s_po
    have SS := SS.same s_po
    have e_sd0 := s_po _ _ e_sd0
    have e_sd1 := s_po _ _ e_sd1
    have e_sl := s_po _ _ e_sl
    have e_cf0 := s_po _ _ e_cf0
    have e_cf1 := s_po _ _ e_cf1
    have e_cl := s_po _ _ e_cl
    have e_rf0 := s_po _ _ e_rf0
    have e_rf1 := s_po _ _ e_rf1
    have e_rl := s_po _ _ e_rl
    generalize upd G8 po (.lst []) = G9 at *
    clear s_po hpo
    refine nm ?_
    dsimp only [List.set]
    obtain ⟨AA, eAA⟩ : ∃ AA : Nat → Ad, AA = fun j => if j = 0 then ⟨x0.1, x0.2, y0.1, y0.2, sd0, cf0, rf0⟩ else ⟨x1.1, x1.2, y1.1, y1.2, sd1, cf1, rf1⟩ := ⟨_, rfl⟩
    obtain ⟨os, eos⟩ : ∃ os : List (Addr × HO), os = [(fl, HO.lst [.str "AB1", .str "A"]), (pl, HO.lst [.ref x0.1, .ref x1.1]), (ml, HO.lst [.ref y0.1, .ref y1.1]), (sl, HO.lst [.ref sd0, .ref sd1]), (cl, HO.lst [.ref cf0, .ref cf1]), (rl, HO.lst [.ref rf0, .ref rf1])] := ⟨_, rfl⟩
    have D : Ds AA d c po os := by
      rw [eAA, eos]
      exact Al.ds (A := fun j => if j = 0 then ⟨x0.1, x0.2, y0.1, y0.2, sd0, cf0, rf0⟩ else ⟨x1.1, x1.2, y1.1, y1.2, sd1, cf1, rf1⟩) AL
    have lg0 : ∀ j, Lg (st28 c0 j) [] [] [] := fun j => ⟨(fun h e => nomatch e), (fun h e => nomatch e), (fun r hr => nomatch hr)⟩
    have W0 : W28 K C AA d c po os G9 0 := by
      refine ⟨SS, ?_, ⟨[], ⟨e_po, (fun a ha => nomatch ha)⟩, Nat.le_refl _⟩, fun j hj => ?_⟩
      · rw [eos]
        intro y hy
        simp only [List.mem_cons, List.not_mem_nil, or_false] at hy
        rcases hy with rfl | rfl | rfl | rfl | rfl | rfl
        · exact e_fl
        · exact e_pl
        · exact e_ml
        · exact e_sl
        · exact e_cl
        · exact e_rl
      · rw [eAA]
        rcases (by omega : j = 0 ∨ j = 1) with rfl | rfl
        · exact ⟨_, [], [], [], ⟨P0, M0, ⟨e_sd0, (fun x hx => nomatch hx)⟩, ⟨e_cf0, (fun x hx => nomatch hx)⟩, e_rf0⟩, lg0 0, Nat.le_refl _, Nat.le_refl _, Nat.le_refl _, Nat.le_refl _⟩
        · exact ⟨_, [], [], [], ⟨P1, M1, ⟨e_sd1, (fun x hx => nomatch hx)⟩, ⟨e_cf1, (fun x hx => nomatch hx)⟩, e_rf1⟩, lg0 1, Nat.le_refl _, Nat.le_refl _, Nat.le_refl _, Nat.le_refl _⟩
    have oat : ∀ G : Hp, (∀ y ∈ os, G y.1 = some y.2) → G fl = some (HO.lst [.str "AB1", .str "A"]) ∧ G pl = some (HO.lst [.ref (AA 0).p, .ref (AA 1).p]) ∧ G ml = some (HO.lst [.ref (AA 0).m, .ref (AA 1).m]) ∧ G sl = some (HO.lst [.ref (AA 0).sd, .ref (AA 1).sd]) ∧ G cl = some (HO.lst [.ref (AA 0).cf, .ref (AA 1).cf]) ∧ G rl = some (HO.lst [.ref (AA 0).rf, .ref (AA 1).rf]) := by
      intro G o
      rw [eos] at o
      rw [eAA]
      exact ⟨o (fl, _) (by simp), o (pl, _) (by simp), o (ml, _) (by simp), o (sl, _) (by simp), o (cl, _) (by simp), o (rl, _) (by simp)⟩
    have two : ∀ (g : Ad → Addr) j, j < 2 → ([V.ref (g (AA 0)), V.ref (g (AA 1))] : List V)[j]? = some (.ref (g (AA j))) := fun g j hj => by
      rcases (by omega : j = 0 ∨ j = 1) with rfl | rfl <;> rfl
    clear eAA eos SS P0 P1 M0 M1 e_fl e_pl e_ml e_sl e_cl e_rl e_po e_sd0 e_sd1 e_cf0 e_cf1 e_rf0 e_rf1 AL lg0
    refine ⟨_, rfl, by decide, by decide, for_range (n := (40 : Int).toNat) (fun i σ G => ∃ (tick : Int) (v11 v12 v13 v14 v15 v16 v17 v18 v19 : Option V), σ = [some (.ref a), some (.ref d), some (.ref co), some (.ref fl), some (.ref pl), some (.ref ml), some (.ref sl), some (.ref cl), some (.ref rl), some (.int tick), some (.ref po), v11, v12, v13, v14, v15, v16, v17, v18, v19] ∧ W28 K C AA d c po os G (2 * i))
      ⟨0, none, none, none, none, none, none, none, none, none, rfl, W0⟩ ?_ ?_⟩
    rotate_left
    · rintro σ G ⟨tick, v11, v12, v13, v14, v15, v16, v17, v18, v19, rfl, W⟩
      exact kk G
    clear W0
    rintro i σ G hi ⟨tick, v11, v12, v13, v14, v15, v16, v17, v18, v19, rfl, W⟩
    have hi : i < 40 := hi
    refine nm ?_
    dsimp only [List.set]
    refine ⟨_, rfl, d, c, 4, rfl, W.S, (by omega), (by omega), fun x1 G1 x1a x1b S1 kp1 => ⟨rfl, .inr ⟨_, rfl, ?_⟩⟩⟩
    have W1 := W.draw D S1 kp1
    obtain ⟨k, hk, hk2⟩ : ∃ k : Nat, (if decide (V.int x1 = V.int 0) = true then (1 : Int) else 0) = (k : Int) ∧ k < 2 := by
      by_cases e : decide (V.int x1 = V.int 0) = true
      · exact ⟨1, by rw [if_pos e]; rfl, by decide⟩
      · exact ⟨0, by rw [if_neg e]; rfl, by decide⟩
    refine nm ?_
    dsimp only [List.set]
    rw [hk]
    clear hk S1 kp1 W
    refine ⟨_, rfl, d, c, 4, rfl, W1.S, (by omega), (by omega), fun x2 G2 x2a x2b S2 kp2 => ⟨rfl, _, rfl, ?_⟩⟩
    have W2 := W1.draw D S2 kp2
    clear W1 S2 kp2
    by_cases e2 : x2 = 0
    · refine eqY e2 ?_
      refine ⟨_, rfl, _, rfl, szOk rfl, fun l hl => ?_⟩
      have s1 := same_new (o := .lst [.int 1, .int 1, .int 1, .int 2, .int 5]) hl
      have eL : (upd G2 l (.lst [.int 1, .int 1, .int 1, .int 2, .int 5])) l = some (.lst [.int 1, .int 1, .int 1, .int 2, .int 5]) := upd_same
      have W3 := W2.same D s1
      generalize upd G2 l (.lst [.int 1, .int 1, .int 1, .int 2, .int 5]) = G3 at s1 eL W3 ⊢
      refine ⟨d, c, _, _, rfl, W3.S, .inl (.inl eL), (fun z => nomatch z), (by show 5 ≤ 1000; decide), fun v G4 hv S4 kp4 => ?_⟩
      have W4 := W3.draw D S4 kp4
      obtain ⟨z, rfl⟩ : ∃ z : Int, v = .int z := by
        simp only [List.mem_cons, List.not_mem_nil, or_false] at hv
        rcases hv with rfl | rfl | rfl | rfl | rfl <;> exact ⟨_, rfl⟩
      clear hv S4 kp4 W2 W3 s1 eL hl
      refine ⟨_, _, rfl, rfl, ?_⟩
      refine nm ?_
      dsimp only [List.set]
      generalize tick + z = tt
      refine ⟨_, rfl, by decide, by decide, for_range (n := (2 : Int).toNat) (fun j σ G => ∃ (v13 v14 v15 v16 v17 v18 v19 : Option V), σ = [some (.ref a), some (.ref d), some (.ref co), some (.ref fl), some (.ref pl), some (.ref ml), some (.ref sl), some (.ref cl), some (.ref rl), some (.int tt), some (.ref po), some (.int (0 + (i : Int))), some (.int (k : Nat)), v13, v14, v15, v16, v17, v18, v19] ∧ W28 K C AA d c po os G (2 * i + j)) ⟨v13, v14, v15, v16, v17, v18, v19, rfl, W4⟩ ?_ ?_⟩
      rotate_left
      · rintro σ G ⟨v13, v14, v15, v16, v17, v18, v19, rfl, W⟩
        exact ⟨tt, _, _, _, _, _, _, _, _, _, rfl, W.mono (by show 2 * i + 2 ≤ _; omega)⟩
      clear W4
      rintro j σ G hj ⟨v13, v14, v15, v16, v17, v18, v19, rfl, W⟩
      have hj : j < 2 := hj
      rw [Int.zero_add (j : Int)]
      refine nm ?_
      dsimp only [List.set]
      obtain ⟨s, sds, cfs, rfs, P, L, b1, b2, b3, b4⟩ := W.J j hj
      have nd := D.nd j hj
      obtain ⟨o1, o2, o3, o4, o5, o6⟩ := oat G W.o
      obtain ⟨dx, ca0, ho, hco⟩ := P.P.o
      refine ⟨_, rfl, _, rfl, _, _, _, _, rfl, rfl, .inl (.inl o2), atI_nat (two (fun x => x.p) j hj), _, _, _, rfl, ho, rfl, (AA j).p, (AA j).tk, s, rfl, P.P, fun ca CA0 _ => ?_⟩
      refine nm ?_
      dsimp only [List.set]
      refine ⟨_, rfl, _, rfl, _, _, _, _, rfl, rfl, .inl (.inl o3), atI_nat (two (fun x => x.m) j hj), _, rfl, (AA j).m, (AA j).tl, s, tt, rfl, P.M, (by omega), fun v G5 M5 R5 O5 t5 => ?_⟩
      refine nm ?_
      dsimp only [List.set]
      have os5 := D.os hj (O5.sub (by simp [Ad.l])) W.o
      obtain ⟨p1, p2, p3, p4, p5, p6⟩ := oat G5 os5
      have Pm := P.mid nd O5 t5
      obtain ⟨dx5, ca5, ho5, hco5⟩ := Pm.o
      refine ⟨_, rfl, _, rfl, _, _, _, _, rfl, rfl, .inl (.inl p2), atI_nat (two (fun x => x.p) j hj), _, _, _, rfl, ho5, rfl, _, rfl, (AA j).p, (AA j).tk, s, tt, rfl, Pm, (by omega), fun v2 G6 P6' R6 O6' t6 => ?_⟩
      obtain ⟨P6, O6⟩ := P.next nd M5 O5 t5 P6' O6' t6
      have R56 := R5.tk t6
      refine ⟨_, rfl, _, _, R6.dp, R56.dp, R6.sh, R56.sh, _, rfl, eqvN R6.can ?_⟩
      have os6 := D.os hj O6 W.o
      obtain ⟨q1, q2, q3, q4, q5, q6⟩ := oat G6 os6
      obtain ⟨dx6, ca6, ho6, hco6⟩ := P6.P.o
      obtain ⟨ca7, hm6, hco7⟩ := P6.M.o
      refine ⟨_, rfl, _, rfl, _, _, _, _, rfl, rfl, .inl (.inl q2), atI_nat (two (fun x => x.p) j hj), _, _, _, rfl, ho6, rfl, (AA j).p, (AA j).tk, _, rfl, P6.P, fun ca8 CA8 _ => ?_⟩
      refine ⟨_, rfl, _, rfl, _, _, _, _, rfl, rfl, .inl (.inl q3), atI_nat (two (fun x => x.m) j hj), _, _, rfl, mg_c hm6, _, _, CA8.dp, hco7.dp, CA8.sh, hco7.sh, _, rfl, eqvN CA8.can ?_⟩
      have T := t5.trans t6
      have CAb := CA0.tk T
      clear CA8 hm6 hco7 hco6 Pm M5 P6' O5 O6' R5 R6 p1 p2 p3 p4 p5 p6 os5 ho5 hco5
      refine nxQ ?_
      dsimp only
      rcases L.beg tt with ⟨e1, _⟩ | ⟨h, hnx, hb, er, ec, hc, ⟨x, hx, ex⟩, hr, L'⟩
      · rw [e1] at P6 R56
        obtain rfl : v = .non := R56
        obtain ⟨dx9, ca9, ho9, _⟩ := P6.P.o
        refine ⟨_, rfl, rfl, _, rfl, ifY rfl ?_⟩
        refine ⟨_, rfl, _, rfl, _, rfl, _, _, _, _, rfl, rfl, .inl (.inl q2), atI_nat (two (fun x => x.p) j hj), _, _, _, rfl, ho9, rfl, (AA j).p, (AA j).tk, _, rfl, P6.P, fun ca10 CA10 _ => ?_⟩
        refine ⟨_, _, CAb.dp, CA10.dp, CAb.sh, CA10.sh, _, rfl, eqvN CAb.can ?_⟩
        refine nxQ ?_
        dsimp only
        refine ⟨_, rfl, rfl, _, rfl, ifNotY rfl ?_⟩
        exact ⟨_, _, _, _, _, _, _, rfl, W.step D hj O6 T (n' := 2 * i + (j + 1)) (by omega) ⟨s, sds, cfs, rfs, P6, L, by omega, by omega, by omega, by omega⟩⟩
      rw [er] at R56
      obtain ⟨u, rfl, hu1, _, _⟩ := R56
      refine ⟨_, rfl, rfl, _, rfl, ifN (fun z => nomatch z) ?_⟩
      refine nxQ ?_
      dsimp only
      refine ⟨_, rfl, rfl, _, rfl, ifNotN (fun z => nomatch z) ?_⟩
      refine ⟨_, rfl, _, rfl, _, _, _, _, rfl, rfl, .inl (.inl q5), atI_nat (two (fun x => x.cf) j hj), (AA j).cf, rfl, ⟨_, .inl (.inl P6.cf.1)⟩, fun E1 hE1 => ?_⟩
      have cl9 : cfs.length ≤ 200 := by omega
      refine lc_list (K := K) (a := (AA j).cf) (xs := cfs.map fun x => V.ref x.1) (fun n G' => Same G6 G' ∧ ∃ ys : List (Addr × CL), G' E1 = some (.lst (ys.map fun x => V.ref x.1)) ∧ ys.length ≤ n ∧ (∀ y ∈ ys, y ∈ cfs) ∧ (h ∈ cfs.take n → h ∈ ys)) ⟨same_new hE1, [], upd_same, Nat.le_refl _, (fun y hy => nomatch hy), (fun w => nomatch w)⟩ (fun n G' _ w => .inl (.inl (w.1 _ _ P6.cf.1))) ?_ ?_
      · rintro n y G' hn ⟨sm, ys, hy, yl, ym, yh⟩
        obtain ⟨w, rfl, hw, hnl, ht0⟩ := getMap hn
        have CW := (P6.cf.2 w hw).tk (Same.tk sm)
        have hu2 := sm _ _ hu1
        have SD : LL G' (AA j).sd sds := ⟨sm _ _ P6.sd.1, fun x hx => (P6.sd.2 x hx).tk (Same.tk sm)⟩
        refine ⟨rfl, ?_⟩
        refine ⟨_, rfl, _, _, _, _, rfl, rfl, .inl (.inl CW.t), rfl, _, rfl, _, _, _, _, rfl, rfl, .inl (.inl hu2), rfl, rfl, _, rfl, ?_⟩
        by_cases e : w.2.n = h.2.n
        · refine eqY e ?_
          refine ⟨_, rfl, _, rfl, _, rfl, _, _, _, _, rfl, rfl, .inl (.inl (sm _ _ q4)), atI_nat (two (fun x => x.sd) j hj), _, _, CW.dp, SD.dp, CW.sh, SD.sh, _, rfl, ite2 (fun e9 => ?_) (fun e9 => ?_)⟩
          · refine ⟨_, rfl, _, hy, small1000 (by rw [List.length_map]; omega), fun b o e => ?_, ys ++ [w], by rw [upd_same, List.map_append]; rfl, by rw [List.length_append, List.length_singleton]; omega, fun y hy => ?_, fun z => ?_⟩
            · rw [upd_ne (ne_of_none e hE1)]
              exact sm _ _ e
            · rcases List.mem_append.mp hy with hy | hy
              · exact ym y hy
              · rw [List.mem_singleton.mp hy]; exact hw
            · rw [ht0] at z
              rcases List.mem_append.mp z with z | z
              · exact List.mem_append_left _ (yh z)
              · exact List.mem_append_right _ z
          · refine ⟨sm, ys, hy, by omega, ym, fun z => ?_⟩
            rw [ht0] at z
            rcases List.mem_append.mp z with z | z
            · exact yh z
            · exfalso
              rw [List.mem_singleton.mp z] at ex
              refine e9 (List.any_eq_true.mpr ⟨x.2.dt, List.mem_map.mpr ⟨x, hx, rfl⟩, ex⟩)
        · refine eqN e ?_
          refine ⟨sm, ys, hy, by omega, ym, fun z => ?_⟩
          rw [ht0] at z
          rcases List.mem_append.mp z with z | z
          · exact yh z
          · exact absurd (by rw [List.mem_singleton.mp z]) e
      rintro G7 ⟨s7, ys, hy, yl, ym, yh⟩
      rw [List.length_map, List.take_length] at yh
      rw [List.length_map] at yl
      have hyh := yh hc
      refine nm ?_
      dsimp only [List.set]
      refine ⟨_, rfl, E1, rfl, ⟨_, .inl (.inl hy)⟩, fun E2 hE2 => ?_⟩
      refine lc_list (K := K) (a := E1) (xs := ys.map fun x => V.ref x.1) (fun n G' => Same G7 G' ∧ ∃ us : List (Addr × CO), LC G' E2 us ∧ us.length ≤ n ∧ (h ∈ ys.take n → ∃ r ∈ us, r.2 = s.co.ch h.2)) ⟨same_new hE2, [], ⟨upd_same, (fun y hy => nomatch hy)⟩, Nat.le_refl _, (fun w => nomatch w)⟩ (fun n G' _ w => .inl (.inl (w.1 _ _ hy))) ?_ ?_
      · rintro n y G' hn ⟨sm, us, hU, ul, uh⟩
        obtain ⟨w, rfl, hw, hnl, ht0⟩ := getMap hn
        have CW := ((P6.cf.2 w (ym w hw)).tk (Same.tk s7)).tk (Same.tk sm)
        refine ⟨rfl, ?_⟩
        refine ⟨_, rfl, _, _, _, _, rfl, rfl, .inl (.inl CW.t), rfl, _, rfl, _, _, rfl, rfl, _, rfl, ite2 (fun e9 => ?_) (fun e9 => ?_)⟩
        · refine ⟨_, rfl, _, rfl, _, _, _, _, rfl, rfl, .inl (.inl CW.t), rfl, ca, w.1, s.co, w.2, rfl, (CAb.tk (Same.tk s7)).tk (Same.tk sm), CW, fun q G8 hq s8 CQ => ?_⟩
          have U8 := hU.same s8
          refine ⟨_, U8.1, small1000 (by rw [List.length_map]; omega), fun b o e => ?_, us ++ [(q, s.co.ch w.2)], U8.snoc CQ, by rw [List.length_append, List.length_singleton]; omega, fun z => ?_⟩
          · rw [upd_ne (ne_of_none e hE2)]
            exact s8 _ _ (sm _ _ e)
          · rw [ht0] at z
            rcases List.mem_append.mp z with z | z
            · obtain ⟨r, hr1, hr2⟩ := uh z
              exact ⟨r, List.mem_append_left _ hr1, hr2⟩
            · exact ⟨_, List.mem_append_right _ (List.mem_singleton.mpr rfl), by rw [List.mem_singleton.mp z]⟩
        · refine ⟨sm, us, hU, by omega, fun z => ?_⟩
          rw [ht0] at z
          rcases List.mem_append.mp z with z | z
          · exact uh z
          · exact absurd (decide_eq_true (by rw [← List.mem_singleton.mp z]; exact hb)) e9
      rintro G8 ⟨s8, us, hU, ul, uh⟩
      rw [List.length_map, List.take_length] at uh
      obtain ⟨rr, hrr, err⟩ := uh hyh
      refine nm ?_
      dsimp only [List.set]
      have s68 := s7.trans s8
      have P8 := P6.stay (fun b o e _ => s68 _ _ e) (Same.tk s68)
      have O8 := O6.trans (Oth.of (T := (AA j).l) s68)
      have T8 := T.trans (Same.tk s68)
      have os8 := D.os hj O8 W.o
      obtain ⟨u1, u2, u3, u4, u5, u6⟩ := oat G8 os8
      have hu8 := s68 _ _ hu1
      obtain ⟨dx9, ca9, ho9, _⟩ := P8.P.o
      refine ⟨_, rfl, _, rfl, _, _, _, _, rfl, rfl, .inl (.inl u2), atI_nat (two (fun x => x.p) j hj), _, _, _, rfl, ho9, rfl, (AA j).p, (AA j).tk, _, rfl, P8.P, fun ca10 CA10 _ => ?_⟩
      have any1 : ((us.map fun x => x.2.dt).any fun z => PyData.eqv z (begA s tt).1.co.dt) = true := List.any_eq_true.mpr ⟨rr.2.dt, List.mem_map.mpr ⟨rr, hrr, rfl⟩, by rw [err, ec]; exact SeqAt.eqv_refl _ (by rw [← ec]; exact CA10.can)⟩
      refine ⟨_, rfl, _, _, CA10.dp, hU.dp, CA10.sh, hU.sh, _, rfl, ?_⟩
      rw [any1]
      refine iteF ?_
      refine ⟨_, rfl, _, _, _, _, rfl, rfl, .inl (.inl hu8), rfl, _, rfl, _, rfl, _, _, _, _, rfl, rfl, .inl (.inl u6), atI_nat (two (fun x => x.rf) j hj), _, _, rfl, .inl (.inl (.inl P8.rf)), rfl, flat_ints _, _, rfl, ite2 (fun e9 => absurd (in_ints.mp e9) hr) (fun _ => ?_)⟩
      refine nxQ ?_
      dsimp only
      refine ⟨_, rfl, _, rfl, _, _, _, _, rfl, rfl, .inl (.inl u6), atI_nat (two (fun x => x.rf) j hj), .inl ⟨rfl, _, .inl (.inl P8.rf)⟩, _, rfl, _, _, _, _, rfl, rfl, .inl (.inl hu8), rfl, _, _, _, rfl, rfl, P8.rf, small1000 (by rw [List.length_map]; omega), ?_⟩
      obtain ⟨tR, oR⟩ := P8.putAt nd (o := .lst (rfs.map V.int ++ [.int h.2.n])) P8.rf (by simp [Ad.l])
      have tsl : (begA s tt).1.ts.length ≤ 3 * (2 * i + (j + 1)) := by
        have : (begA s tt).1.ts.length ≤ s.ts.length + 1 := by
          unfold begA
          rw [hnx]
          dsimp only
          split
          · exact Nat.le_succ _
          · rw [List.length_append]; exact Nat.le_refl _
        omega
      exact ⟨_, _, _, _, _, _, _, rfl, W.step D hj (O8.trans oR) (T8.trans tR) (n' := 2 * i + (j + 1)) (by omega) ⟨_, sds, cfs, rfs ++ [h.2.n], P8.putR nd h.2.n, L', by omega, by omega, by rw [List.length_append, List.length_singleton]; omega, tsl⟩⟩
    refine eqN e2 ?_
    clear e2
    obtain ⟨o1, o2, o3, o4, o5, o6⟩ := oat G2 W2.o
    obtain ⟨as, hpo, asl⟩ := W2.po
    refine ⟨_, rfl, _, rfl, _, rfl, _, rfl, _, _, _, _, rfl, rfl, .inl (.inl o1), atI_nat (fat k hk2), _, rfl, d, c, po, fn28 k, tick, as, rfl, W2.S, fn_ok k, hpo, by omega, D.po.1, D.po.2.1, fun q ms as' G3 MQ hpo3 asl3 S3 k3 t3 => ?_⟩
    have W3 := W2.msg D S3 k3 t3 hpo3 (by omega)
    clear W2 o1 o2 o3 o4 o5 o6 hpo asl hpo3 asl3 S3 k3 t3
    refine nm ?_
    dsimp only [List.set]
    obtain ⟨s, sds, cfs, rfs, P, L, b1, b2, b3, b4⟩ := W3.J k hk2
    have nd := D.nd k hk2
    obtain ⟨o1, o2, o3, o4, o5, o6⟩ := oat G3 W3.o
    refine ⟨_, rfl, _, rfl, _, _, _, _, rfl, rfl, .inl (.inl o3), atI_nat (two (fun x => x.m) k hk2), _, rfl, _, rfl, (AA k).m, (AA k).tl, q, s, ms, tick, rfl, P.M, MQ, fun v G4 M4 R4 O4 t4 => ?_⟩
    refine nm ?_
    dsimp only [List.set]
    have os4 := D.os hk2 (O4.sub (by simp [Ad.l])) W3.o
    obtain ⟨p1, p2, p3, p4, p5, p6⟩ := oat G4 os4
    have Pm := P.mid nd O4 t4
    obtain ⟨dx, ca, ho, hco⟩ := Pm.o
    refine ⟨_, rfl, _, rfl, _, _, _, _, rfl, rfl, .inl (.inl p2), atI_nat (two (fun x => x.p) k hk2), _, _, _, rfl, ho, rfl, _, rfl, _, rfl, (AA k).p, (AA k).tk, q, s, ms, tick, rfl, Pm, MQ.tk t4, fun v2 G5 P5 R5 O5 t5 => ?_⟩
    obtain ⟨P6, O6⟩ := P.next nd M4 O4 t4 P5 O5 t5
    have R45 := R4.tk t5
    refine ⟨_, rfl, _, _, R5.dp, R45.dp, R5.sh, R45.sh, _, rfl, eqvN R5.can ?_⟩
    have os5 := D.os hk2 O6 W3.o
    obtain ⟨q1, q2, q3, q4, q5, q6⟩ := oat G5 os5
    obtain ⟨dx5, ca5, ho5, hco5⟩ := P6.P.o
    obtain ⟨ca6, hm6, hco6⟩ := P6.M.o
    refine ⟨_, rfl, _, rfl, _, _, _, _, rfl, rfl, .inl (.inl q2), atI_nat (two (fun x => x.p) k hk2), _, _, _, rfl, ho5, rfl, (AA k).p, (AA k).tk, _, rfl, P6.P, fun ca7 CA7 _ => ?_⟩
    refine ⟨_, rfl, _, rfl, _, _, _, _, rfl, rfl, .inl (.inl q3), atI_nat (two (fun x => x.m) k hk2), _, _, rfl, mg_c hm6, _, _, CA7.dp, hco6.dp, CA7.sh, hco6.sh, _, rfl, eqvN CA7.can ?_⟩
    have L' := L.hear ms tick
    have tsl : (hearA s ms tick).1.ts.length ≤ 3 * (2 * i + 1) := by rw [hear_ts]; exact b4
    have T35 := t4.trans t5
    have MQ5 := MQ.tk T35
    clear M4 R4 R5 P5 Pm ho hco O4 O5 t4 t5 p1 p2 p3 p4 p5 p6 os4 MQ P o1 o2 o3 o4 o5 o6 CA7 hm6 hco6 ho5 hco5 L
    generalize hearA s ms tick = hr at P6 R45 L' tsl
    obtain ⟨s', r⟩ := hr
    dsimp only at P6 R45 L' tsl
    refine nxQ ?_
    dsimp only
    cases ms with
    | no w0 f0 n0 =>
      obtain ⟨h, _, hw⟩ := MQ5
      have L' : Lg s' sds cfs (rfA r rfs) := L'
      rcases hw with rfl | rfl | rfl
      · refine ⟨_, rfl, _, _, _, _, rfl, rfl, .inl (.inl h), rfl, (by simp [scal]), _, rfl, ifN (fun z => absurd (V.str.inj z) (by decide +kernel)) ?_⟩
        refine nxQ ?_
        dsimp only
        refine ⟨_, rfl, _, _, _, _, rfl, rfl, .inl (.inl h), rfl, (by simp [scal]), _, rfl, ifN (fun z => absurd (V.str.inj z) (by decide +kernel)) ?_⟩
        refine nxQ ?_
        dsimp only
        match r, R45, L' with
        | none, R, L' =>
          obtain rfl : v = .non := R
          refine ⟨_, rfl, rfl, _, rfl, ifNotY rfl ?_⟩
          exact ⟨tick, _, _, _, _, _, _, _, _, _, rfl, (W3.step D hk2 O6 T35 (n' := 2 * i + 2) (by omega) ⟨s', sds, cfs, rfs, P6, L', (by (try simp only [List.length_append, List.length_singleton]); omega), (by (try simp only [List.length_append, List.length_singleton]); omega), (by (try simp only [List.length_append, List.length_singleton]); omega), by omega⟩).mono (by omega)⟩
        | some (.read ra rz), R, L' =>
          obtain ⟨u, rfl, hu1, _⟩ := R
          refine ⟨_, rfl, rfl, _, rfl, ifNotN (fun z => nomatch z) ?_⟩
          refine ⟨_, rfl, _, _, _, _, rfl, rfl, .inl (.inl hu1), rfl, (by simp [scal]), _, rfl, ifN (fun z => absurd (V.str.inj z) (by decide +kernel)) ?_⟩
          exact ⟨tick, _, _, _, _, _, _, _, _, _, rfl, (W3.step D hk2 O6 T35 (n' := 2 * i + 2) (by omega) ⟨s', sds, cfs, rfs, P6, L', (by (try simp only [List.length_append, List.length_singleton]); omega), (by (try simp only [List.length_append, List.length_singleton]); omega), (by (try simp only [List.length_append, List.length_singleton]); omega), by omega⟩).mono (by omega)⟩
        | some (.num rw_ rf_ rn), R, L' =>
          obtain ⟨u, rfl, hu1, _, hw1⟩ := R
          refine ⟨_, rfl, rfl, _, rfl, ifNotN (fun z => nomatch z) ?_⟩
          refine ⟨_, rfl, _, _, _, _, rfl, rfl, .inl (.inl hu1), rfl, (by simp [scal]), _, rfl, ?_⟩
          rcases hw1 with rfl | rfl
          · refine ifN (fun z => absurd (V.str.inj z) (by decide +kernel)) ?_
            have L' : Lg s' (sds) (cfs) rfs := L'
            exact ⟨tick, _, _, _, _, _, _, _, _, _, rfl, (W3.step D hk2 O6 T35 (n' := 2 * i + 2) (by omega) ⟨s', sds, cfs, rfs, P6, L', (by (try simp only [List.length_append, List.length_singleton]); omega), (by (try simp only [List.length_append, List.length_singleton]); omega), (by (try simp only [List.length_append, List.length_singleton]); omega), by omega⟩).mono (by omega)⟩
          · refine ifY rfl ?_
            have L' : Lg s' (sds) (cfs) (rfs ++ [rn]) := L'
            refine ⟨_, rfl, _, rfl, _, _, _, _, rfl, rfl, .inl (.inl q6), atI_nat (two (fun x => x.rf) k hk2), .inl ⟨rfl, _, .inl (.inl P6.rf)⟩, _, rfl, _, _, _, _, rfl, rfl, .inl (.inl hu1), rfl, _, _, _, rfl, rfl, P6.rf, small1000 (by rw [List.length_map]; omega), ?_⟩
            obtain ⟨tR, oR⟩ := P6.putAt nd (o := .lst (rfs.map V.int ++ [.int rn])) P6.rf (by simp [Ad.l])
            exact ⟨tick, _, _, _, _, _, _, _, _, _, rfl, (W3.step D hk2 ((O6).trans oR) ((T35).trans tR) (n' := 2 * i + 2) (by omega) ⟨s', sds, cfs, (rfs ++ [rn]), (P6.putR nd rn), L', (by (try simp only [List.length_append, List.length_singleton]); omega), (by (try simp only [List.length_append, List.length_singleton]); omega), (by (try simp only [List.length_append, List.length_singleton]); omega), by omega⟩).mono (by omega)⟩
      · refine ⟨_, rfl, _, _, _, _, rfl, rfl, .inl (.inl h), rfl, (by simp [scal]), _, rfl, ifN (fun z => absurd (V.str.inj z) (by decide +kernel)) ?_⟩
        refine nxQ ?_
        dsimp only
        refine ⟨_, rfl, _, _, _, _, rfl, rfl, .inl (.inl h), rfl, (by simp [scal]), _, rfl, ifN (fun z => absurd (V.str.inj z) (by decide +kernel)) ?_⟩
        refine nxQ ?_
        dsimp only
        match r, R45, L' with
        | none, R, L' =>
          obtain rfl : v = .non := R
          refine ⟨_, rfl, rfl, _, rfl, ifNotY rfl ?_⟩
          exact ⟨tick, _, _, _, _, _, _, _, _, _, rfl, (W3.step D hk2 O6 T35 (n' := 2 * i + 2) (by omega) ⟨s', sds, cfs, rfs, P6, L', (by (try simp only [List.length_append, List.length_singleton]); omega), (by (try simp only [List.length_append, List.length_singleton]); omega), (by (try simp only [List.length_append, List.length_singleton]); omega), by omega⟩).mono (by omega)⟩
        | some (.read ra rz), R, L' =>
          obtain ⟨u, rfl, hu1, _⟩ := R
          refine ⟨_, rfl, rfl, _, rfl, ifNotN (fun z => nomatch z) ?_⟩
          refine ⟨_, rfl, _, _, _, _, rfl, rfl, .inl (.inl hu1), rfl, (by simp [scal]), _, rfl, ifN (fun z => absurd (V.str.inj z) (by decide +kernel)) ?_⟩
          exact ⟨tick, _, _, _, _, _, _, _, _, _, rfl, (W3.step D hk2 O6 T35 (n' := 2 * i + 2) (by omega) ⟨s', sds, cfs, rfs, P6, L', (by (try simp only [List.length_append, List.length_singleton]); omega), (by (try simp only [List.length_append, List.length_singleton]); omega), (by (try simp only [List.length_append, List.length_singleton]); omega), by omega⟩).mono (by omega)⟩
        | some (.num rw_ rf_ rn), R, L' =>
          obtain ⟨u, rfl, hu1, _, hw1⟩ := R
          refine ⟨_, rfl, rfl, _, rfl, ifNotN (fun z => nomatch z) ?_⟩
          refine ⟨_, rfl, _, _, _, _, rfl, rfl, .inl (.inl hu1), rfl, (by simp [scal]), _, rfl, ?_⟩
          rcases hw1 with rfl | rfl
          · refine ifN (fun z => absurd (V.str.inj z) (by decide +kernel)) ?_
            have L' : Lg s' (sds) (cfs) rfs := L'
            exact ⟨tick, _, _, _, _, _, _, _, _, _, rfl, (W3.step D hk2 O6 T35 (n' := 2 * i + 2) (by omega) ⟨s', sds, cfs, rfs, P6, L', (by (try simp only [List.length_append, List.length_singleton]); omega), (by (try simp only [List.length_append, List.length_singleton]); omega), (by (try simp only [List.length_append, List.length_singleton]); omega), by omega⟩).mono (by omega)⟩
          · refine ifY rfl ?_
            have L' : Lg s' (sds) (cfs) (rfs ++ [rn]) := L'
            refine ⟨_, rfl, _, rfl, _, _, _, _, rfl, rfl, .inl (.inl q6), atI_nat (two (fun x => x.rf) k hk2), .inl ⟨rfl, _, .inl (.inl P6.rf)⟩, _, rfl, _, _, _, _, rfl, rfl, .inl (.inl hu1), rfl, _, _, _, rfl, rfl, P6.rf, small1000 (by rw [List.length_map]; omega), ?_⟩
            obtain ⟨tR, oR⟩ := P6.putAt nd (o := .lst (rfs.map V.int ++ [.int rn])) P6.rf (by simp [Ad.l])
            exact ⟨tick, _, _, _, _, _, _, _, _, _, rfl, (W3.step D hk2 ((O6).trans oR) ((T35).trans tR) (n' := 2 * i + 2) (by omega) ⟨s', sds, cfs, (rfs ++ [rn]), (P6.putR nd rn), L', (by (try simp only [List.length_append, List.length_singleton]); omega), (by (try simp only [List.length_append, List.length_singleton]); omega), (by (try simp only [List.length_append, List.length_singleton]); omega), by omega⟩).mono (by omega)⟩
      · refine ⟨_, rfl, _, _, _, _, rfl, rfl, .inl (.inl h), rfl, (by simp [scal]), _, rfl, ifN (fun z => absurd (V.str.inj z) (by decide +kernel)) ?_⟩
        refine nxQ ?_
        dsimp only
        refine ⟨_, rfl, _, _, _, _, rfl, rfl, .inl (.inl h), rfl, (by simp [scal]), _, rfl, ifN (fun z => absurd (V.str.inj z) (by decide +kernel)) ?_⟩
        refine nxQ ?_
        dsimp only
        match r, R45, L' with
        | none, R, L' =>
          obtain rfl : v = .non := R
          refine ⟨_, rfl, rfl, _, rfl, ifNotY rfl ?_⟩
          exact ⟨tick, _, _, _, _, _, _, _, _, _, rfl, (W3.step D hk2 O6 T35 (n' := 2 * i + 2) (by omega) ⟨s', sds, cfs, rfs, P6, L', (by (try simp only [List.length_append, List.length_singleton]); omega), (by (try simp only [List.length_append, List.length_singleton]); omega), (by (try simp only [List.length_append, List.length_singleton]); omega), by omega⟩).mono (by omega)⟩
        | some (.read ra rz), R, L' =>
          obtain ⟨u, rfl, hu1, _⟩ := R
          refine ⟨_, rfl, rfl, _, rfl, ifNotN (fun z => nomatch z) ?_⟩
          refine ⟨_, rfl, _, _, _, _, rfl, rfl, .inl (.inl hu1), rfl, (by simp [scal]), _, rfl, ifN (fun z => absurd (V.str.inj z) (by decide +kernel)) ?_⟩
          exact ⟨tick, _, _, _, _, _, _, _, _, _, rfl, (W3.step D hk2 O6 T35 (n' := 2 * i + 2) (by omega) ⟨s', sds, cfs, rfs, P6, L', (by (try simp only [List.length_append, List.length_singleton]); omega), (by (try simp only [List.length_append, List.length_singleton]); omega), (by (try simp only [List.length_append, List.length_singleton]); omega), by omega⟩).mono (by omega)⟩
        | some (.num rw_ rf_ rn), R, L' =>
          obtain ⟨u, rfl, hu1, _, hw1⟩ := R
          refine ⟨_, rfl, rfl, _, rfl, ifNotN (fun z => nomatch z) ?_⟩
          refine ⟨_, rfl, _, _, _, _, rfl, rfl, .inl (.inl hu1), rfl, (by simp [scal]), _, rfl, ?_⟩
          rcases hw1 with rfl | rfl
          · refine ifN (fun z => absurd (V.str.inj z) (by decide +kernel)) ?_
            have L' : Lg s' (sds) (cfs) rfs := L'
            exact ⟨tick, _, _, _, _, _, _, _, _, _, rfl, (W3.step D hk2 O6 T35 (n' := 2 * i + 2) (by omega) ⟨s', sds, cfs, rfs, P6, L', (by (try simp only [List.length_append, List.length_singleton]); omega), (by (try simp only [List.length_append, List.length_singleton]); omega), (by (try simp only [List.length_append, List.length_singleton]); omega), by omega⟩).mono (by omega)⟩
          · refine ifY rfl ?_
            have L' : Lg s' (sds) (cfs) (rfs ++ [rn]) := L'
            refine ⟨_, rfl, _, rfl, _, _, _, _, rfl, rfl, .inl (.inl q6), atI_nat (two (fun x => x.rf) k hk2), .inl ⟨rfl, _, .inl (.inl P6.rf)⟩, _, rfl, _, _, _, _, rfl, rfl, .inl (.inl hu1), rfl, _, _, _, rfl, rfl, P6.rf, small1000 (by rw [List.length_map]; omega), ?_⟩
            obtain ⟨tR, oR⟩ := P6.putAt nd (o := .lst (rfs.map V.int ++ [.int rn])) P6.rf (by simp [Ad.l])
            exact ⟨tick, _, _, _, _, _, _, _, _, _, rfl, (W3.step D hk2 ((O6).trans oR) ((T35).trans tR) (n' := 2 * i + 2) (by omega) ⟨s', sds, cfs, (rfs ++ [rn]), (P6.putR nd rn), L', (by (try simp only [List.length_append, List.length_singleton]); omega), (by (try simp only [List.length_append, List.length_singleton]); omega), (by (try simp only [List.length_append, List.length_singleton]); omega), by omega⟩).mono (by omega)⟩
    | cl w0 aa zz =>
      obtain ⟨h, CZ, hw⟩ := MQ5
      rcases hw with rfl | rfl | rfl
      · have L' : Lg s' (sds ++ [(aa, zz)]) cfs (rfA r rfs) := by
          have e1 : sdA (.cl "say" aa zz) sds = sds ++ [(aa, zz)] := by unfold sdA; dsimp only; rw [if_pos rfl]
          have e2 : cfA (.cl "say" aa zz) cfs = cfs := by unfold cfA; dsimp only; rw [if_neg (by decide +kernel)]
          rw [e1, e2] at L'
          exact L'
        refine ⟨_, rfl, _, _, _, _, rfl, rfl, .inl (.inl h), rfl, (by simp [scal]), _, rfl, ifY rfl ?_⟩
        refine ⟨_, rfl, _, rfl, _, _, _, _, rfl, rfl, .inl (.inl q4), atI_nat (two (fun x => x.sd) k hk2), .inl ⟨rfl, _, .inl (.inl P6.sd.1)⟩, _, rfl, _, _, _, _, rfl, rfl, .inl (.inl h), rfl, _, _, _, rfl, rfl, P6.sd.1, small1000 (by rw [List.length_map]; omega), ?_⟩
        obtain ⟨tS, oS⟩ := P6.putAt nd (o := .lst ((sds.map fun x => V.ref x.1) ++ [.ref aa])) P6.sd.1 (by simp [Ad.l])
        have P7 := P6.putS nd CZ
        have os7 := D.os hk2 oS os5
        have O7 := O6.trans oS
        have T7 := T35.trans tS
        have R7 := R45.tk tS
        have h := tS _ _ h
        generalize upd G5 (AA k).sd (.lst ((sds.map fun x => V.ref x.1) ++ [.ref aa])) = G7 at P7 os7 O7 T7 R7 h ⊢
        obtain ⟨_, _, _, _, _, u6⟩ := oat G7 os7
        dsimp only
        refine ⟨_, rfl, _, _, _, _, rfl, rfl, .inl (.inl h), rfl, (by simp [scal]), _, rfl, ifN (fun z => absurd (V.str.inj z) (by decide +kernel)) ?_⟩
        refine nxQ ?_
        dsimp only
        match r, R7, L' with
        | none, R, L' =>
          obtain rfl : v = .non := R
          refine ⟨_, rfl, rfl, _, rfl, ifNotY rfl ?_⟩
          exact ⟨tick, _, _, _, _, _, _, _, _, _, rfl, (W3.step D hk2 O7 T7 (n' := 2 * i + 2) (by omega) ⟨s', (sds ++ [(aa, zz)]), cfs, rfs, P7, L', (by (try simp only [List.length_append, List.length_singleton]); omega), (by (try simp only [List.length_append, List.length_singleton]); omega), (by (try simp only [List.length_append, List.length_singleton]); omega), by omega⟩).mono (by omega)⟩
        | some (.read ra rz), R, L' =>
          obtain ⟨u, rfl, hu1, _⟩ := R
          refine ⟨_, rfl, rfl, _, rfl, ifNotN (fun z => nomatch z) ?_⟩
          refine ⟨_, rfl, _, _, _, _, rfl, rfl, .inl (.inl hu1), rfl, (by simp [scal]), _, rfl, ifN (fun z => absurd (V.str.inj z) (by decide +kernel)) ?_⟩
          exact ⟨tick, _, _, _, _, _, _, _, _, _, rfl, (W3.step D hk2 O7 T7 (n' := 2 * i + 2) (by omega) ⟨s', (sds ++ [(aa, zz)]), cfs, rfs, P7, L', (by (try simp only [List.length_append, List.length_singleton]); omega), (by (try simp only [List.length_append, List.length_singleton]); omega), (by (try simp only [List.length_append, List.length_singleton]); omega), by omega⟩).mono (by omega)⟩
        | some (.num rw_ rf_ rn), R, L' =>
          obtain ⟨u, rfl, hu1, _, hw1⟩ := R
          refine ⟨_, rfl, rfl, _, rfl, ifNotN (fun z => nomatch z) ?_⟩
          refine ⟨_, rfl, _, _, _, _, rfl, rfl, .inl (.inl hu1), rfl, (by simp [scal]), _, rfl, ?_⟩
          rcases hw1 with rfl | rfl
          · refine ifN (fun z => absurd (V.str.inj z) (by decide +kernel)) ?_
            have L' : Lg s' ((sds ++ [(aa, zz)])) (cfs) rfs := L'
            exact ⟨tick, _, _, _, _, _, _, _, _, _, rfl, (W3.step D hk2 O7 T7 (n' := 2 * i + 2) (by omega) ⟨s', (sds ++ [(aa, zz)]), cfs, rfs, P7, L', (by (try simp only [List.length_append, List.length_singleton]); omega), (by (try simp only [List.length_append, List.length_singleton]); omega), (by (try simp only [List.length_append, List.length_singleton]); omega), by omega⟩).mono (by omega)⟩
          · refine ifY rfl ?_
            have L' : Lg s' ((sds ++ [(aa, zz)])) (cfs) (rfs ++ [rn]) := L'
            refine ⟨_, rfl, _, rfl, _, _, _, _, rfl, rfl, .inl (.inl u6), atI_nat (two (fun x => x.rf) k hk2), .inl ⟨rfl, _, .inl (.inl P7.rf)⟩, _, rfl, _, _, _, _, rfl, rfl, .inl (.inl hu1), rfl, _, _, _, rfl, rfl, P7.rf, small1000 (by rw [List.length_map]; omega), ?_⟩
            obtain ⟨tR, oR⟩ := P7.putAt nd (o := .lst (rfs.map V.int ++ [.int rn])) P7.rf (by simp [Ad.l])
            exact ⟨tick, _, _, _, _, _, _, _, _, _, rfl, (W3.step D hk2 ((O7).trans oR) ((T7).trans tR) (n' := 2 * i + 2) (by omega) ⟨s', (sds ++ [(aa, zz)]), cfs, (rfs ++ [rn]), (P7.putR nd rn), L', (by (try simp only [List.length_append, List.length_singleton]); omega), (by (try simp only [List.length_append, List.length_singleton]); omega), (by (try simp only [List.length_append, List.length_singleton]); omega), by omega⟩).mono (by omega)⟩
      · have L' : Lg s' sds (cfs ++ [(aa, zz)]) (rfA r rfs) := by
          have e1 : sdA (.cl "confirm" aa zz) sds = sds := by unfold sdA; dsimp only; rw [if_neg (by decide +kernel)]
          have e2 : cfA (.cl "confirm" aa zz) cfs = cfs ++ [(aa, zz)] := by unfold cfA; dsimp only; rw [if_pos rfl]
          rw [e1, e2] at L'
          exact L'
        refine ⟨_, rfl, _, _, _, _, rfl, rfl, .inl (.inl h), rfl, (by simp [scal]), _, rfl, ifN (fun z => absurd (V.str.inj z) (by decide +kernel)) ?_⟩
        refine nxQ ?_
        dsimp only
        refine ⟨_, rfl, _, _, _, _, rfl, rfl, .inl (.inl h), rfl, (by simp [scal]), _, rfl, ifY rfl ?_⟩
        refine ⟨_, rfl, _, rfl, _, _, _, _, rfl, rfl, .inl (.inl q5), atI_nat (two (fun x => x.cf) k hk2), .inl ⟨rfl, _, .inl (.inl P6.cf.1)⟩, _, rfl, _, _, _, _, rfl, rfl, .inl (.inl h), rfl, _, _, _, rfl, rfl, P6.cf.1, small1000 (by rw [List.length_map]; omega), ?_⟩
        obtain ⟨tS, oS⟩ := P6.putAt nd (o := .lst ((cfs.map fun x => V.ref x.1) ++ [.ref aa])) P6.cf.1 (by simp [Ad.l])
        have P7 := P6.putC nd CZ
        have os7 := D.os hk2 oS os5
        have O7 := O6.trans oS
        have T7 := T35.trans tS
        have R7 := R45.tk tS
        have h := tS _ _ h
        generalize upd G5 (AA k).cf (.lst ((cfs.map fun x => V.ref x.1) ++ [.ref aa])) = G7 at P7 os7 O7 T7 R7 h ⊢
        obtain ⟨_, _, _, _, _, u6⟩ := oat G7 os7
        dsimp only
        match r, R7, L' with
        | none, R, L' =>
          obtain rfl : v = .non := R
          refine ⟨_, rfl, rfl, _, rfl, ifNotY rfl ?_⟩
          exact ⟨tick, _, _, _, _, _, _, _, _, _, rfl, (W3.step D hk2 O7 T7 (n' := 2 * i + 2) (by omega) ⟨s', sds, (cfs ++ [(aa, zz)]), rfs, P7, L', (by (try simp only [List.length_append, List.length_singleton]); omega), (by (try simp only [List.length_append, List.length_singleton]); omega), (by (try simp only [List.length_append, List.length_singleton]); omega), by omega⟩).mono (by omega)⟩
        | some (.read ra rz), R, L' =>
          obtain ⟨u, rfl, hu1, _⟩ := R
          refine ⟨_, rfl, rfl, _, rfl, ifNotN (fun z => nomatch z) ?_⟩
          refine ⟨_, rfl, _, _, _, _, rfl, rfl, .inl (.inl hu1), rfl, (by simp [scal]), _, rfl, ifN (fun z => absurd (V.str.inj z) (by decide +kernel)) ?_⟩
          exact ⟨tick, _, _, _, _, _, _, _, _, _, rfl, (W3.step D hk2 O7 T7 (n' := 2 * i + 2) (by omega) ⟨s', sds, (cfs ++ [(aa, zz)]), rfs, P7, L', (by (try simp only [List.length_append, List.length_singleton]); omega), (by (try simp only [List.length_append, List.length_singleton]); omega), (by (try simp only [List.length_append, List.length_singleton]); omega), by omega⟩).mono (by omega)⟩
        | some (.num rw_ rf_ rn), R, L' =>
          obtain ⟨u, rfl, hu1, _, hw1⟩ := R
          refine ⟨_, rfl, rfl, _, rfl, ifNotN (fun z => nomatch z) ?_⟩
          refine ⟨_, rfl, _, _, _, _, rfl, rfl, .inl (.inl hu1), rfl, (by simp [scal]), _, rfl, ?_⟩
          rcases hw1 with rfl | rfl
          · refine ifN (fun z => absurd (V.str.inj z) (by decide +kernel)) ?_
            have L' : Lg s' (sds) ((cfs ++ [(aa, zz)])) rfs := L'
            exact ⟨tick, _, _, _, _, _, _, _, _, _, rfl, (W3.step D hk2 O7 T7 (n' := 2 * i + 2) (by omega) ⟨s', sds, (cfs ++ [(aa, zz)]), rfs, P7, L', (by (try simp only [List.length_append, List.length_singleton]); omega), (by (try simp only [List.length_append, List.length_singleton]); omega), (by (try simp only [List.length_append, List.length_singleton]); omega), by omega⟩).mono (by omega)⟩
          · refine ifY rfl ?_
            have L' : Lg s' (sds) ((cfs ++ [(aa, zz)])) (rfs ++ [rn]) := L'
            refine ⟨_, rfl, _, rfl, _, _, _, _, rfl, rfl, .inl (.inl u6), atI_nat (two (fun x => x.rf) k hk2), .inl ⟨rfl, _, .inl (.inl P7.rf)⟩, _, rfl, _, _, _, _, rfl, rfl, .inl (.inl hu1), rfl, _, _, _, rfl, rfl, P7.rf, small1000 (by rw [List.length_map]; omega), ?_⟩
            obtain ⟨tR, oR⟩ := P7.putAt nd (o := .lst (rfs.map V.int ++ [.int rn])) P7.rf (by simp [Ad.l])
            exact ⟨tick, _, _, _, _, _, _, _, _, _, rfl, (W3.step D hk2 ((O7).trans oR) ((T7).trans tR) (n' := 2 * i + 2) (by omega) ⟨s', sds, (cfs ++ [(aa, zz)]), (rfs ++ [rn]), (P7.putR nd rn), L', (by (try simp only [List.length_append, List.length_singleton]); omega), (by (try simp only [List.length_append, List.length_singleton]); omega), (by (try simp only [List.length_append, List.length_singleton]); omega), by omega⟩).mono (by omega)⟩
      · have L' : Lg s' sds cfs (rfA r rfs) := by
          have e1 : sdA (.cl "read" aa zz) sds = sds := by unfold sdA; dsimp only; rw [if_neg (by decide +kernel)]
          have e2 : cfA (.cl "read" aa zz) cfs = cfs := by unfold cfA; dsimp only; rw [if_neg (by decide +kernel)]
          rw [e1, e2] at L'
          exact L'
        refine ⟨_, rfl, _, _, _, _, rfl, rfl, .inl (.inl h), rfl, (by simp [scal]), _, rfl, ifN (fun z => absurd (V.str.inj z) (by decide +kernel)) ?_⟩
        refine nxQ ?_
        dsimp only
        refine ⟨_, rfl, _, _, _, _, rfl, rfl, .inl (.inl h), rfl, (by simp [scal]), _, rfl, ifN (fun z => absurd (V.str.inj z) (by decide +kernel)) ?_⟩
        refine nxQ ?_
        dsimp only
        match r, R45, L' with
        | none, R, L' =>
          obtain rfl : v = .non := R
          refine ⟨_, rfl, rfl, _, rfl, ifNotY rfl ?_⟩
          exact ⟨tick, _, _, _, _, _, _, _, _, _, rfl, (W3.step D hk2 O6 T35 (n' := 2 * i + 2) (by omega) ⟨s', sds, cfs, rfs, P6, L', (by (try simp only [List.length_append, List.length_singleton]); omega), (by (try simp only [List.length_append, List.length_singleton]); omega), (by (try simp only [List.length_append, List.length_singleton]); omega), by omega⟩).mono (by omega)⟩
        | some (.read ra rz), R, L' =>
          obtain ⟨u, rfl, hu1, _⟩ := R
          refine ⟨_, rfl, rfl, _, rfl, ifNotN (fun z => nomatch z) ?_⟩
          refine ⟨_, rfl, _, _, _, _, rfl, rfl, .inl (.inl hu1), rfl, (by simp [scal]), _, rfl, ifN (fun z => absurd (V.str.inj z) (by decide +kernel)) ?_⟩
          exact ⟨tick, _, _, _, _, _, _, _, _, _, rfl, (W3.step D hk2 O6 T35 (n' := 2 * i + 2) (by omega) ⟨s', sds, cfs, rfs, P6, L', (by (try simp only [List.length_append, List.length_singleton]); omega), (by (try simp only [List.length_append, List.length_singleton]); omega), (by (try simp only [List.length_append, List.length_singleton]); omega), by omega⟩).mono (by omega)⟩
        | some (.num rw_ rf_ rn), R, L' =>
          obtain ⟨u, rfl, hu1, _, hw1⟩ := R
          refine ⟨_, rfl, rfl, _, rfl, ifNotN (fun z => nomatch z) ?_⟩
          refine ⟨_, rfl, _, _, _, _, rfl, rfl, .inl (.inl hu1), rfl, (by simp [scal]), _, rfl, ?_⟩
          rcases hw1 with rfl | rfl
          · refine ifN (fun z => absurd (V.str.inj z) (by decide +kernel)) ?_
            have L' : Lg s' (sds) (cfs) rfs := L'
            exact ⟨tick, _, _, _, _, _, _, _, _, _, rfl, (W3.step D hk2 O6 T35 (n' := 2 * i + 2) (by omega) ⟨s', sds, cfs, rfs, P6, L', (by (try simp only [List.length_append, List.length_singleton]); omega), (by (try simp only [List.length_append, List.length_singleton]); omega), (by (try simp only [List.length_append, List.length_singleton]); omega), by omega⟩).mono (by omega)⟩
          · refine ifY rfl ?_
            have L' : Lg s' (sds) (cfs) (rfs ++ [rn]) := L'
            refine ⟨_, rfl, _, rfl, _, _, _, _, rfl, rfl, .inl (.inl q6), atI_nat (two (fun x => x.rf) k hk2), .inl ⟨rfl, _, .inl (.inl P6.rf)⟩, _, rfl, _, _, _, _, rfl, rfl, .inl (.inl hu1), rfl, _, _, _, rfl, rfl, P6.rf, small1000 (by rw [List.length_map]; omega), ?_⟩
            obtain ⟨tR, oR⟩ := P6.putAt nd (o := .lst (rfs.map V.int ++ [.int rn])) P6.rf (by simp [Ad.l])
            exact ⟨tick, _, _, _, _, _, _, _, _, _, rfl, (W3.step D hk2 ((O6).trans oR) ((T35).trans tR) (n' := 2 * i + 2) (by omega) ⟨s', sds, cfs, (rfs ++ [rn]), (P6.putR nd rn), L', (by (try simp only [List.length_append, List.length_singleton]); omega), (by (try simp only [List.length_append, List.length_singleton]); omega), (by (try simp only [List.length_append, List.length_singleton]); omega), by omega⟩).mono (by omega)⟩

end
end Sk

set_option Elab.async false
set_option linter.all false
set_option maxRecDepth 100000
set_option maxHeartbeats 4000000
namespace Sk
open PySem PySem.Spec PyProof.Rows L2
/-! the end -/
theorem all_mk {l : PySem.W.OpenLaw} {w : World} {K : PySem.W.Frag} {h : Heap} {mg : Str → Option Value} {fa C f1 f2 f3 f4 f5 f6 f7 f8 f9 f10 f11 f12 f13 f14 f15 f16 f17 f18 f19 : Addr} (X : K.In h) (G : h.Ns mainGlobals mg) (hfa : mg "law" = some (.ref fa))
    {od1 an1 od2 an2 od3 an3 od4 an4 od5 an5 od6 an6 od7 an7 od8 an8 od9 an9 od10 an10 od11 an11 od12 an12 od13 an13 od14 an14 od15 an15 od16 an16 od17 an17 od18 an18 od19 an19 : Option Addr} {sl1 sl2 sl3 sl4 sl5 sl6 sl7 sl8 sl9 sl10 sl11 sl12 sl13 sl14 sl15 sl16 sl17 sl18 sl19 : Array (Option Value)} {oc1 kV1 dc1 pm1 cd1 ct1 oc2 kV2 dc2 pm2 cd2 ct2 oc3 kV3 dc3 pm3 cd3 ct3 oc4 kV4 dc4 pm4 cd4 ct4 oc5 kV5 dc5 pm5 cd5 ct5 oc6 kV6 dc6 pm6 cd6 ct6 oc7 kV7 dc7 pm7 cd7 ct7 oc8 kV8 dc8 pm8 cd8 ct8 oc9 kV9 dc9 pm9 cd9 ct9 oc10 kV10 dc10 pm10 cd10 ct10 oc11 kV11 dc11 pm11 cd11 ct11 oc12 kV12 dc12 pm12 cd12 ct12 oc13 kV13 dc13 pm13 cd13 ct13 oc14 kV14 dc14 pm14 cd14 ct14 oc15 kV15 dc15 pm15 cd15 ct15 oc16 kV16 dc16 pm16 cd16 ct16 oc17 kV17 dc17 pm17 cd17 ct17 oc18 kV18 dc18 pm18 cd18 ct18 oc19 kV19 dc19 pm19 cd19 ct19 : Value}
    (aC : PySem.W.nsIn K mainGlobals "Pilot" = some (some (.ref C))) (pg : PySem.W.plainGet K C Str.empty = true) (hd : PySem.W.hasDictIn K C = true) (po : PySem.W.plainOver K C = true) (sa : PySem.W.findIn K (.ref C) "__setattr__" = some (some (.builtin "object.__setattr__"))) (mk : PySem.W.makesIn K C = true) (kc : PySem.W.keepIn K (.ref C) = true)
    (nA1 : PySem.W.findIn K (.ref C) "_flight" = some none) (nA2 : PySem.W.findIn K (.ref C) "_course" = some none) (nA3 : PySem.W.findIn K (.ref C) "_heard" = some none) (nA4 : PySem.W.findIn K (.ref C) "_upcoming" = some none) (nA5 : PySem.W.findIn K (.ref C) "_done" = some none) (nA6 : PySem.W.findIn K (.ref C) "_taken" = some none)
    (a1 : PySem.W.nsIn K mainGlobals "_law_start" = some (some (.ref f1))) (l1 : K.lookup f1 = some ⟨oc1, od1, .func (PySem.W.fnOf "_law_start" "_law_start" (defArgs s_law_start) (defBody s_law_start) (defScope s_law_start) .none kV1 dc1 pm1 an1 cd1 ct1), sl1⟩) (c1 : PySem.W.codeIn K cd1 "_law_start" = true) (k1 : PySem.W.keepIn K (.ref f1) = true)
    (a2 : PySem.W.nsIn K mainGlobals "_law_draw" = some (some (.ref f2))) (l2 : K.lookup f2 = some ⟨oc2, od2, .func (PySem.W.fnOf "_law_draw" "_law_draw" (defArgs s_law_draw) (defBody s_law_draw) (defScope s_law_draw) .none kV2 dc2 pm2 an2 cd2 ct2), sl2⟩) (c2 : PySem.W.codeIn K cd2 "_law_draw" = true) (k2 : PySem.W.keepIn K (.ref f2) = true)
    (a3 : PySem.W.nsIn K mainGlobals "_law_pick" = some (some (.ref f3))) (l3 : K.lookup f3 = some ⟨oc3, od3, .func (PySem.W.fnOf "_law_pick" "_law_pick" (defArgs s_law_pick) (defBody s_law_pick) (defScope s_law_pick) .none kV3 dc3 pm3 an3 cd3 ct3), sl3⟩) (c3 : PySem.W.codeIn K cd3 "_law_pick" = true) (k3 : PySem.W.keepIn K (.ref f3) = true)
    (a4 : PySem.W.nsIn K mainGlobals "changed" = some (some (.ref f4))) (l4 : K.lookup f4 = some ⟨oc4, od4, .func (PySem.W.fnOf "changed" "changed" (defArgs s_changed) (defBody s_changed) (defScope s_changed) .none kV4 dc4 pm4 an4 cd4 ct4), sl4⟩) (c4 : PySem.W.codeIn K cd4 "changed" = true) (k4 : PySem.W.keepIn K (.ref f4) = true)
    (a5 : PySem.W.findIn K (.ref C) "course" = some (some (.ref f5))) (i5 : PySem.W.isFn K (.ref f5) = true) (l5 : K.lookup f5 = some ⟨oc5, od5, .func (PySem.W.fnOf "course" "Pilot.course" (defArgs s_Pilot_course) (defBody s_Pilot_course) (defScope s_Pilot_course) .none kV5 dc5 pm5 an5 cd5 ct5), sl5⟩) (c5 : PySem.W.codeIn K cd5 "Pilot.course" = true) (k5 : PySem.W.keepIn K (.ref f5) = true)
    (a6 : PySem.W.findIn K (.ref C) "_hear_say" = some (some (.ref f6))) (i6 : PySem.W.isFn K (.ref f6) = true) (l6 : K.lookup f6 = some ⟨oc6, od6, .func (PySem.W.fnOf "_hear_say" "Pilot._hear_say" (defArgs s_Pilot__hear_say) (defBody s_Pilot__hear_say) (defScope s_Pilot__hear_say) .none kV6 dc6 pm6 an6 cd6 ct6), sl6⟩) (c6 : PySem.W.codeIn K cd6 "Pilot._hear_say" = true) (k6 : PySem.W.keepIn K (.ref f6) = true)
    (a7 : PySem.W.findIn K (.ref C) "_hear_confirm" = some (some (.ref f7))) (i7 : PySem.W.isFn K (.ref f7) = true) (l7 : K.lookup f7 = some ⟨oc7, od7, .func (PySem.W.fnOf "_hear_confirm" "Pilot._hear_confirm" (defArgs s_Pilot__hear_confirm) (defBody s_Pilot__hear_confirm) (defScope s_Pilot__hear_confirm) .none kV7 dc7 pm7 an7 cd7 ct7), sl7⟩) (c7 : PySem.W.codeIn K cd7 "Pilot._hear_confirm" = true) (k7 : PySem.W.keepIn K (.ref f7) = true)
    (a8 : PySem.W.findIn K (.ref C) "_hear_ask" = some (some (.ref f8))) (i8 : PySem.W.isFn K (.ref f8) = true) (l8 : K.lookup f8 = some ⟨oc8, od8, .func (PySem.W.fnOf "_hear_ask" "Pilot._hear_ask" (defArgs s_Pilot__hear_ask) (defBody s_Pilot__hear_ask) (defScope s_Pilot__hear_ask) .none kV8 dc8 pm8 an8 cd8 ct8), sl8⟩) (c8 : PySem.W.codeIn K cd8 "Pilot._hear_ask" = true) (k8 : PySem.W.keepIn K (.ref f8) = true)
    (a9 : PySem.W.findIn K (.ref C) "begin_tick" = some (some (.ref f9))) (i9 : PySem.W.isFn K (.ref f9) = true) (l9 : K.lookup f9 = some ⟨oc9, od9, .func (PySem.W.fnOf "begin_tick" "Pilot.begin_tick" (defArgs s_Pilot_begin_tick) (defBody s_Pilot_begin_tick) (defScope s_Pilot_begin_tick) .none kV9 dc9 pm9 an9 cd9 ct9), sl9⟩) (c9 : PySem.W.codeIn K cd9 "Pilot.begin_tick" = true) (k9 : PySem.W.keepIn K (.ref f9) = true)
    (a10 : PySem.W.findIn K (.ref C) "hear" = some (some (.ref f10))) (i10 : PySem.W.isFn K (.ref f10) = true) (l10 : K.lookup f10 = some ⟨oc10, od10, .func (PySem.W.fnOf "hear" "Pilot.hear" (defArgs s_Pilot_hear) (defBody s_Pilot_hear) (defScope s_Pilot_hear) .none kV10 dc10 pm10 an10 cd10 ct10), sl10⟩) (c10 : PySem.W.codeIn K cd10 "Pilot.hear" = true) (k10 : PySem.W.keepIn K (.ref f10) = true)
    (a11 : PySem.W.findIn K (.ref C) "__init__" = some (some (.ref f11))) (i11 : PySem.W.isFn K (.ref f11) = true) (l11 : K.lookup f11 = some ⟨oc11, od11, .func (PySem.W.fnOf "__init__" "Pilot.__init__" (defArgs s_Pilot___init__) (defBody s_Pilot___init__) (defScope s_Pilot___init__) .none kV11 dc11 pm11 an11 cd11 ct11), sl11⟩) (c11 : PySem.W.codeIn K cd11 "Pilot.__init__" = true) (k11 : PySem.W.keepIn K (.ref f11) = true)
    (a12 : PySem.W.nsIn K mainGlobals "_law_changed" = some (some (.ref f12))) (l12 : K.lookup f12 = some ⟨oc12, od12, .func (PySem.W.fnOf "_law_changed" "_law_changed" (defArgs s_law_changed) (defBody s_law_changed) (defScope s_law_changed) .none kV12 dc12 pm12 an12 cd12 ct12), sl12⟩) (c12 : PySem.W.codeIn K cd12 "_law_changed" = true) (k12 : PySem.W.keepIn K (.ref f12) = true)
    (a13 : PySem.W.nsIn K mainGlobals "_law_asked" = some (some (.ref f13))) (l13 : K.lookup f13 = some ⟨oc13, od13, .func (PySem.W.fnOf "_law_asked" "_law_asked" (defArgs s_law_asked) (defBody s_law_asked) (defScope s_law_asked) .none kV13 dc13 pm13 an13 cd13 ct13), sl13⟩) (c13 : PySem.W.codeIn K cd13 "_law_asked" = true) (k13 : PySem.W.keepIn K (.ref f13) = true)
    (a14 : PySem.W.nsIn K mainGlobals "_law_hear" = some (some (.ref f14))) (l14 : K.lookup f14 = some ⟨oc14, od14, .func (PySem.W.fnOf "_law_hear" "_law_hear" (defArgs s_law_hear) (defBody s_law_hear) (defScope s_law_hear) .none kV14 dc14 pm14 an14 cd14 ct14), sl14⟩) (c14 : PySem.W.codeIn K cd14 "_law_hear" = true) (k14 : PySem.W.keepIn K (.ref f14) = true)
    (a15 : PySem.W.nsIn K mainGlobals "_law_begin" = some (some (.ref f15))) (l15 : K.lookup f15 = some ⟨oc15, od15, .func (PySem.W.fnOf "_law_begin" "_law_begin" (defArgs s_law_begin) (defBody s_law_begin) (defScope s_law_begin) .none kV15 dc15 pm15 an15 cd15 ct15), sl15⟩) (c15 : PySem.W.codeIn K cd15 "_law_begin" = true) (k15 : PySem.W.keepIn K (.ref f15) = true)
    (a16 : PySem.W.nsIn K mainGlobals "_law_new" = some (some (.ref f16))) (l16 : K.lookup f16 = some ⟨oc16, od16, .func (PySem.W.fnOf "_law_new" "_law_new" (defArgs s_law_new) (defBody s_law_new) (defScope s_law_new) .none kV16 dc16 pm16 an16 cd16 ct16), sl16⟩) (c16 : PySem.W.codeIn K cd16 "_law_new" = true) (k16 : PySem.W.keepIn K (.ref f16) = true)
    (a17 : PySem.W.nsIn K mainGlobals "_law_clearance" = some (some (.ref f17))) (l17 : K.lookup f17 = some ⟨oc17, od17, .func (PySem.W.fnOf "_law_clearance" "_law_clearance" (defArgs s_law_clearance) (defBody s_law_clearance) (defScope s_law_clearance) .none kV17 dc17 pm17 an17 cd17 ct17), sl17⟩) (c17 : PySem.W.codeIn K cd17 "_law_clearance" = true) (k17 : PySem.W.keepIn K (.ref f17) = true)
    (a18 : PySem.W.nsIn K mainGlobals "_law_message" = some (some (.ref f18))) (l18 : K.lookup f18 = some ⟨oc18, od18, .func (PySem.W.fnOf "_law_message" "_law_message" (defArgs s_law_message) (defBody s_law_message) (defScope s_law_message) .none kV18 dc18 pm18 an18 cd18 ct18), sl18⟩) (c18 : PySem.W.codeIn K cd18 "_law_message" = true) (k18 : PySem.W.keepIn K (.ref f18) = true)
    (a19 : PySem.W.nsIn K mainGlobals "law" = some (some (.ref f19))) (l19 : K.lookup f19 = some ⟨oc19, od19, .func (PySem.W.fnOf "law" "law" (defArgs s_law) (defBody s_law) (defScope s_law) .none kV19 dc19 pm19 an19 cd19 ct19), sl19⟩) (c19 : PySem.W.codeIn K cd19 "law" = true) (k19 : PySem.W.keepIn K (.ref f19) = true)
    (z1 : PySem.W.nsIn K mainGlobals "abs" = some none) (z2 : PySem.W.nsIn K mainGlobals "int" = some none) (z3 : PySem.W.nsIn K mainGlobals "len" = some none) (z4 : PySem.W.nsIn K mainGlobals "bool" = some none) (z5 : PySem.W.nsIn K mainGlobals "isinstance" = some none) (z6 : PySem.W.nsIn K mainGlobals "max" = some none) (z7 : PySem.W.nsIn K mainGlobals "min" = some none) (z8 : PySem.W.nsIn K mainGlobals "range" = some none) (z9 : PySem.W.nsIn K mainGlobals "tuple" = some none) (z10 : PySem.W.nsIn K mainGlobals "list" = some none) (z11 : PySem.W.nsIn K mainGlobals "sum" = some none) (z12 : PySem.W.nsIn K mainGlobals "any" = some none) (z13 : PySem.W.nsIn K mainGlobals "all" = some none) (z14 : PySem.W.nsIn K mainGlobals "sorted" = some none) (z15 : PySem.W.nsIn K mainGlobals "dict" = some none) (z16 : PySem.W.nsIn K mainGlobals "enumerate" = some none) :
    ∃ fd : FuncData, (∀ (s : Shared) (v : Value), BindsTo s fd ⟨[v], []⟩ [("script", v)]) ∧ ∀ base : Heap, K.In base → base.Ns mainGlobals mg → FnOk l.prog w K mg base CX0 5 fa fd ["script"] (spLaw K) := by
  have e := hfa.symm.trans (PySem.W.mg_of X G a19)
  cases e
  have F1 := fun_mk (st := s_law_start) l1 c1 k1
  have F2 := fun_mk (st := s_law_draw) l2 c2 k2
  have F3 := fun_mk (st := s_law_pick) l3 c3 k3
  have F4 := fun_mk (st := s_changed) l4 c4 k4
  have F5 := fun_mk (st := s_Pilot_course) l5 c5 k5
  have F6 := fun_mk (st := s_Pilot__hear_say) l6 c6 k6
  have F7 := fun_mk (st := s_Pilot__hear_confirm) l7 c7 k7
  have F8 := fun_mk (st := s_Pilot__hear_ask) l8 c8 k8
  have F9 := fun_mk (st := s_Pilot_begin_tick) l9 c9 k9
  have F10 := fun_mk (st := s_Pilot_hear) l10 c10 k10
  have F11 := fun_mk (st := s_Pilot___init__) l11 c11 k11
  have F12 := fun_mk (st := s_law_changed) l12 c12 k12
  have F13 := fun_mk (st := s_law_asked) l13 c13 k13
  have F14 := fun_mk (st := s_law_hear) l14 c14 k14
  have F15 := fun_mk (st := s_law_begin) l15 c15 k15
  have F16 := fun_mk (st := s_law_new) l16 c16 k16
  have F17 := fun_mk (st := s_law_clearance) l17 c17 k17
  have F18 := fun_mk (st := s_law_message) l18 c18 k18
  have F19 := fun_mk (st := s_law) l19 c19 k19
  have b1 := F1.binds (ps := ["script"]) fun _ _ _ _ _ _ us hl => match us, hl with | [_], _ => rfl
  have b2 := F2.binds (ps := ["state", "bound"]) fun _ _ _ _ _ _ us hl => match us, hl with | [_, _], _ => rfl
  have b3 := F3.binds (ps := ["state", "things"]) fun _ _ _ _ _ _ us hl => match us, hl with | [_, _], _ => rfl
  have b4 := F4.binds (ps := ["course", "change"]) fun _ _ _ _ _ _ us hl => match us, hl with | [_, _], _ => rfl
  have b5 := F5.binds (ps := ["self"]) fun _ _ _ _ _ _ us hl => match us, hl with | [_], _ => rfl
  have b6 := F6.binds (ps := ["self", "clearance", "tick"]) fun _ _ _ _ _ _ us hl => match us, hl with | [_, _, _], _ => rfl
  have b7 := F7.binds (ps := ["self", "clearance", "tick"]) fun _ _ _ _ _ _ us hl => match us, hl with | [_, _, _], _ => rfl
  have b8 := F8.binds (ps := ["self", "number"]) fun _ _ _ _ _ _ us hl => match us, hl with | [_, _], _ => rfl
  have b9 := F9.binds (ps := ["self", "tick"]) fun _ _ _ _ _ _ us hl => match us, hl with | [_, _], _ => rfl
  have b10 := F10.binds (ps := ["self", "message", "tick"]) fun _ _ _ _ _ _ us hl => match us, hl with | [_, _, _], _ => rfl
  have b11 := F11.binds (ps := ["self", "flight", "course"]) fun _ _ _ _ _ _ us hl => match us, hl with | [_, _, _], _ => rfl
  have b12 := F12.binds (ps := ["course", "change"]) fun _ _ _ _ _ _ us hl => match us, hl with | [_, _], _ => rfl
  have b13 := F13.binds (ps := ["mine", "number"]) fun _ _ _ _ _ _ us hl => match us, hl with | [_, _], _ => rfl
  have b14 := F14.binds (ps := ["mine", "message", "tick"]) fun _ _ _ _ _ _ us hl => match us, hl with | [_, _, _], _ => rfl
  have b15 := F15.binds (ps := ["mine", "tick"]) fun _ _ _ _ _ _ us hl => match us, hl with | [_, _], _ => rfl
  have b16 := F16.binds (ps := ["flight", "course"]) fun _ _ _ _ _ _ us hl => match us, hl with | [_, _], _ => rfl
  have b17 := F17.binds (ps := ["state", "flight", "tick"]) fun _ _ _ _ _ _ us hl => match us, hl with | [_, _, _], _ => rfl
  have b18 := F18.binds (ps := ["state", "pool", "flight", "tick"]) fun _ _ _ _ _ _ us hl => match us, hl with | [_, _, _, _], _ => rfl
  have T : TxtA mg := { abs := PySem.W.mg_none_of X G z1, int := PySem.W.mg_none_of X G z2, len := PySem.W.mg_none_of X G z3, bool := PySem.W.mg_none_of X G z4, isinstance := PySem.W.mg_none_of X G z5, max := PySem.W.mg_none_of X G z6, min := PySem.W.mg_none_of X G z7, range := PySem.W.mg_none_of X G z8, tuple := PySem.W.mg_none_of X G z9, list := PySem.W.mg_none_of X G z10, sum := PySem.W.mg_none_of X G z11, any := PySem.W.mg_none_of X G z12, all := PySem.W.mg_none_of X G z13, sorted := PySem.W.mg_none_of X G z14, dict := PySem.W.mg_none_of X G z15, enumerate := PySem.W.mg_none_of X G z16 }
  have Y : PilY K mg C := ⟨⟨pg, hd, po, sa⟩, nA1, nA2, nA3, nA4, nA5, nA6⟩
  refine ⟨PySem.W.fnOf "law" "law" (defArgs s_law) (defBody s_law) (defScope s_law) .none kV19 dc19 pm19 an19 cd19 ct19, fun s v => .of_eq rfl, fun base _ _ => ?_⟩
  have D1 : Def l.prog w K mg base 1 "_law_start" ["script"] (spStart K) := .mk' F1 b1 (PySem.W.mg_of X G a1) (ok_law_start F1 T.toTxt0)
  have D2 : Def l.prog w K mg base 1 "_law_draw" ["state", "bound"] (spDraw K) := .mk' F2 b2 (PySem.W.mg_of X G a2) (ok_law_draw F2 T.toTxt0)
  have D3 : Def l.prog w K mg base 2 "_law_pick" ["state", "things"] (spPick K) := .mk' F3 b3 (PySem.W.mg_of X G a3) (ok_law_pick F3 T.toTxt0 D2)
  have D4 : Def l.prog w K mg base 1 "changed" ["course", "change"] (spChanged) := .mk' F4 b4 (PySem.W.mg_of X G a4) (ok_changed F4 T)
  have D5 : MDef l.prog w K mg base 1 C "course" ["self"] (spCourse28 C) := ⟨_, _, ok_Pilot_course F5 T Y, ⟨a5, i5, k5⟩, b5⟩
  have D6 : MDef l.prog w K mg base 1 C "_hear_say" ["self", "clearance", "tick"] (spSay C) := ⟨_, _, ok_Pilot__hear_say F6 T Y, ⟨a6, i6, k6⟩, b6⟩
  have D7 : MDef l.prog w K mg base 1 C "_hear_confirm" ["self", "clearance", "tick"] (spConf C) := ⟨_, _, ok_Pilot__hear_confirm F7 T Y, ⟨a7, i7, k7⟩, b7⟩
  have D8 : MDef l.prog w K mg base 1 C "_hear_ask" ["self", "number"] (spAsk C) := ⟨_, _, ok_Pilot__hear_ask F8 T Y, ⟨a8, i8, k8⟩, b8⟩
  have D9 : MDef l.prog w K mg base 2 C "begin_tick" ["self", "tick"] (spBegin28 C) := ⟨_, _, ok_Pilot_begin_tick F9 T Y D4, ⟨a9, i9, k9⟩, b9⟩
  have D10 : MDef l.prog w K mg base 2 C "hear" ["self", "message", "tick"] (spHear C) := ⟨_, _, ok_Pilot_hear F10 T Y D6 D7 D8, ⟨a10, i10, k10⟩, b10⟩
  have DC : CDef l.prog w K mg base 1 C "Pilot" ["self", "flight", "course"] (spPil C) := ⟨_, _, ok_Pilot___init__ F11 T Y, ⟨mk, a11, i11, kc⟩, PySem.W.mg_of X G aC, b11⟩
  have D12 : Def l.prog w K mg base 1 "_law_changed" ["course", "change"] (spChanged) := .mk' F12 b12 (PySem.W.mg_of X G a12) (ok_law_changed F12 T)
  have D13 : Def l.prog w K mg base 1 "_law_asked" ["mine", "number"] (spLAsk) := .mk' F13 b13 (PySem.W.mg_of X G a13) (ok_law_asked F13 T)
  have D14 : Def l.prog w K mg base 2 "_law_hear" ["mine", "message", "tick"] (spLHear) := .mk' F14 b14 (PySem.W.mg_of X G a14) (ok_law_hear F14 T D13)
  have D15 : Def l.prog w K mg base 2 "_law_begin" ["mine", "tick"] (spLBegin) := .mk' F15 b15 (PySem.W.mg_of X G a15) (ok_law_begin F15 T D12)
  have D16 : Def l.prog w K mg base 1 "_law_new" ["flight", "course"] (spLNew) := .mk' F16 b16 (PySem.W.mg_of X G a16) (ok_law_new F16 T)
  have D17 : Def l.prog w K mg base 3 "_law_clearance" ["state", "flight", "tick"] (spClr K) := .mk' F17 b17 (PySem.W.mg_of X G a17) (ok_law_clearance F17 T D2 D3)
  have D18 : Def l.prog w K mg base 4 "_law_message" ["state", "pool", "flight", "tick"] (spMsg K) := .mk' F18 b18 (PySem.W.mg_of X G a18) (ok_law_message F18 T D2 D3 D17)
  exact ok_law F19 T Y D1 D2 D3 D16 D12 D15 D14 D18 DC D5 D10 D9
theorem walk {l : PySem.W.OpenLaw} {q : Program} {loose : List Str} {XP : (Str → Option Value) → Heap → Prop} {YP : World → Heap → Prop} {d : DefRec} {K : Params → PySem.W.Frag} (hn : l.most = some 63) (hdf : d.params.defaults = [])
    (hY : ∀ (w : World) (h : Heap), YP w h → (K w.params).In h)
    (F : ∀ (w : World) (mg : Str → Option Value) (fa : Addr) (h : Heap), (K w.params).In h → h.Ns mainGlobals mg → mg d.name = some (.ref fa) →
      ∃ fd : FuncData, (∀ (s : Shared) (u : Value), BindsTo s fd ⟨[u], []⟩ [("script", u)]) ∧ ∀ base : Heap, (K w.params).In base → base.Ns mainGlobals mg → FnOk l.prog w (K w.params) mg base CX0 5 fa fd ["script"] (spLaw (K w.params))) :
    PySem.W.WalkO q loose XP YP l.row.toRowW d [] (fun f vs => PySem.call f vs) :=
  L2.walk_of (n := 63) (k := 5) (x := "script") (CX := fun _ => CX0) (sp := fun w => spLaw (K w.params)) hn (by decide) hdf ⟨rfl, by decide, by decide⟩ hY F (fun _ _ a ns hl _ hS => ⟨a, ns, rfl, hS, hl, fun _ => rfl⟩) fun _ _ _ _ _ z => z
end Sk
open PySem PySem.W PyProof.Rows
set_option maxRecDepth 100000 in
set_option maxHeartbeats 0 in
theorem PySem.Challenge.cw_skyapart_k28_whole_pilot_holds : PySem.Challenge.rw_skyapart_k28_whole_pilot.Holds := by
  w_on; o_law; k_head; (case hw => w_witness2)
  k_fill
  refine Sk.walk (l := PySem.Challenge.rw_skyapart_k28_whole_pilot) rfl rfl (fun w h Y => PySem.W.kIn_of Y) ?F
  case F =>
    intro w mg fa h KX G hmg
    refine' Sk.all_mk KX G hmg ?aC ?pg ?hd ?po ?sa ?mk ?kc ?nA1 ?nA2 ?nA3 ?nA4 ?nA5 ?nA6 ?a1 ?l1 ?c1 ?k1 ?a2 ?l2 ?c2 ?k2 ?a3 ?l3 ?c3 ?k3 ?a4 ?l4 ?c4 ?k4 ?a5 ?i5 ?l5 ?c5 ?k5 ?a6 ?i6 ?l6 ?c6 ?k6 ?a7 ?i7 ?l7 ?c7 ?k7 ?a8 ?i8 ?l8 ?c8 ?k8 ?a9 ?i9 ?l9 ?c9 ?k9 ?a10 ?i10 ?l10 ?c10 ?k10 ?a11 ?i11 ?l11 ?c11 ?k11 ?a12 ?l12 ?c12 ?k12 ?a13 ?l13 ?c13 ?k13 ?a14 ?l14 ?c14 ?k14 ?a15 ?l15 ?c15 ?k15 ?a16 ?l16 ?c16 ?k16 ?a17 ?l17 ?c17 ?k17 ?a18 ?l18 ?c18 ?k18 ?a19 ?l19 ?c19 ?k19 ?z1 ?z2 ?z3 ?z4 ?z5 ?z6 ?z7 ?z8 ?z9 ?z10 ?z11 ?z12 ?z13 ?z14 ?z15 ?z16
    (case aC => k_is); (case pg => k_is); (case hd => k_is); (case po => k_is)
    (case sa => k_is); (case mk => k_is); (case kc => k_is); (case nA1 => k_is)
    (case nA2 => k_is); (case nA3 => k_is); (case nA4 => k_is); (case nA5 => k_is)
    (case nA6 => k_is); (case a1 => k_is); (case l1 => k_is); (case c1 => k_is)
    (case k1 => k_is); (case a2 => k_is); (case l2 => k_is); (case c2 => k_is)
    (case k2 => k_is); (case a3 => k_is); (case l3 => k_is); (case c3 => k_is)
    (case k3 => k_is); (case a4 => k_is); (case l4 => k_is); (case c4 => k_is)
    (case k4 => k_is); (case a5 => k_is); (case i5 => k_is); (case l5 => k_is)
    (case c5 => k_is); (case k5 => k_is); (case a6 => k_is); (case i6 => k_is)
    (case l6 => k_is); (case c6 => k_is); (case k6 => k_is); (case a7 => k_is)
    (case i7 => k_is); (case l7 => k_is); (case c7 => k_is); (case k7 => k_is)
    (case a8 => k_is); (case i8 => k_is); (case l8 => k_is); (case c8 => k_is)
    (case k8 => k_is); (case a9 => k_is); (case i9 => k_is); (case l9 => k_is)
    (case c9 => k_is); (case k9 => k_is); (case a10 => k_is); (case i10 => k_is)
    (case l10 => k_is); (case c10 => k_is); (case k10 => k_is); (case a11 => k_is)
    (case i11 => k_is); (case l11 => k_is); (case c11 => k_is); (case k11 => k_is)
    (case a12 => k_is); (case l12 => k_is); (case c12 => k_is); (case k12 => k_is)
    (case a13 => k_is); (case l13 => k_is); (case c13 => k_is); (case k13 => k_is)
    (case a14 => k_is); (case l14 => k_is); (case c14 => k_is); (case k14 => k_is)
    (case a15 => k_is); (case l15 => k_is); (case c15 => k_is); (case k15 => k_is)
    (case a16 => k_is); (case l16 => k_is); (case c16 => k_is); (case k16 => k_is)
    (case a17 => k_is); (case l17 => k_is); (case c17 => k_is); (case k17 => k_is)
    (case a18 => k_is); (case l18 => k_is); (case c18 => k_is); (case k18 => k_is)
    (case a19 => k_is); (case l19 => k_is); (case c19 => k_is); (case k19 => k_is)
    (case z1 => k_is); (case z2 => k_is); (case z3 => k_is); (case z4 => k_is)
    (case z5 => k_is); (case z6 => k_is); (case z7 => k_is); (case z8 => k_is)
    (case z9 => k_is); (case z10 => k_is); (case z11 => k_is); (case z12 => k_is)
    (case z13 => k_is); (case z14 => k_is); (case z15 => k_is); (case z16 => k_is)
