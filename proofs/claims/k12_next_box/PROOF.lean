import PyProof.Rows.All
import Wide.All
import OpenK.AllK
import Wide.FinOn
import HandS.Base
import HandS.Call
import HandS.List
import HandS.Comp
import HandS.Ends
import HandS.Dict
import HandS.Iter
import HandS.Words
import HandS.WordsList
import HandS.Wide
import HandS.Gcd
import HandS.IsInst
import Flt.RightSqrt
import HandS.Star
import PySem.Challenge.RW_skyapart_k12_next_box
set_option Elab.async false
set_option linter.all false
set_option maxRecDepth 100000
set_option maxHeartbeats 4000000
namespace Sk
open PySem PySem.Spec PyProof.Rows L2

/-! a def of the text, ready to be called by its name -/
structure Def (P : Program) (w : World) (K : PySem.W.Frag) (mg : Str → Option Value) (base : Heap) (k : Nat) (x : Str) (ps : List Str) (sp : Sp) : Prop where
  ex : ∃ (f : Addr) (fd : FuncData), FnOk P w K mg base CX0 k f fd ps sp ∧ mg x = some (.ref f) ∧ PySem.W.keepIn K (.ref f) = true ∧ Binds K fd ps []
theorem Def.mk' {P : Program} {w : World} {K : PySem.W.Frag} {mg : Str → Option Value} {base : Heap} {k : Nat} {x qual : Str} {st : Stmt} {f : Addr} {fd : FuncData} {ps : List Str} {sp : Sp}
    (F : Fun K x qual st f fd) (b : Binds K fd ps []) (m : mg x = some (.ref f)) (G : FnOk P w K mg base CX0 k f fd ps sp) : Def P w K mg base k x ps sp := ⟨f, fd, G, m, F.kp, b⟩
theorem pe_def {X : Cx} {k : Nat} {x : Str} {ps : List Str} {sp : Sp} {p pos : Pos} {e : Expr} {es : List Expr} {t : TA} (D : Def X.prog X.w X.K X.mg X.base k x ps sp) (hr : Room k X.A) (hg : Gl X x)
    (ha : PA X (e :: es) t) (hdb : (x == ("__debug__" : Str)) = false := by decide) (he : starEach (e :: es) X.env = (false, eval e X.env) :: starEach es X.env := by rfl) (hpl : (backTo pos (starEach es X.env)).any (·.1) = false := by rfl) :
    PE X (.Call (.Name x p) (e :: es) [] pos) (tCall sp [] E0 t) := by
  obtain ⟨f, fd, F, m, kp, b⟩ := D.ex
  exact pe_call F hr hg m kp b .nil pass0 ha hdb he hpl
/-- a call's reading: the values of the arguments as they are -/
theorem sp_nil {sp : Sp} {vs : List V} {H : Hp} {Q : VK} {E : XK} (h : sp vs H Q E) : sp (vs ++ []) H Q E := by
  rw [List.append_nil]
  exact h

/-! heaps -/
/-- all but what stands at d is as it was -/
def Keep (d : Addr) (H H' : Hp) : Prop := ∀ c o, H c = some o → c ≠ d → H' c = some o
theorem Keep.refl (d : Addr) (H : Hp) : Keep d H H := fun _ _ h _ => h
theorem Keep.trans {d : Addr} {H H1 H2 : Hp} (a : Keep d H H1) (b : Keep d H1 H2) : Keep d H H2 := fun c o h n => b c o (a c o h n) n
theorem Keep.of {d : Addr} {H H1 : Hp} (a : Same H H1) : Keep d H H1 := fun c o h _ => a c o h
theorem Keep.upd (d : Addr) (H : Hp) (o : HO) : Keep d H (upd H d o) := fun c u h n => by
  rw [upd_ne n]
  exact h
theorem same_new {H : Hp} {p : Addr} {o : HO} (h : H p = none) : Same H (upd H p o) := fun b x e => by
  rw [upd_ne (ne_of_none e h)]
  exact e
theorem lst_ne {H : Hp} {a d : Addr} {xs : List V} {o : HO} (h : H d = some (.dK o')) (ha : H a = some (.lst xs)) : a ≠ d := ne_of ha h (by intro z; cases z)
/-- a list to be read stays, if it isn't the dict at d -/
theorem Keep.seq {K : PySem.W.Frag} {d : Addr} {kvs : List (Key × V)} {H H' : Hp} {a : Addr} {xs : List V} (k : Keep d H H') (hd : H d = some (.dK kvs)) (h : SqL K H a xs) : SqL K H' a xs := by
  rcases h with (h | ⟨o, h⟩) | h
  · exact .inl (.inl (k _ _ h (ne_of h hd (by intro z; cases z))))
  · exact .inl (.inr ⟨o, k _ _ h (ne_of h hd (by intro z; cases z))⟩)
  · exact .inr h
theorem Keep.tup {K : PySem.W.Frag} {d : Addr} {kvs : List (Key × V)} {H H' : Hp} {a : Addr} {xs : List V} (k : Keep d H H') (hd : H d = some (.dK kvs)) (h : SqT K H a xs) : SqT K H' a xs := by
  rcases h with (h | ⟨o, h⟩) | h
  · exact .inl (.inl (k _ _ h (ne_of h hd (by intro z; cases z))))
  · exact .inl (.inr ⟨o, k _ _ h (ne_of h hd (by intro z; cases z))⟩)
  · exact .inr h
theorem Keep.lst {d : Addr} {kvs : List (Key × V)} {H H' : Hp} {a : Addr} {xs : List V} (k : Keep d H H') (hd : H d = some (.dK kvs)) (h : H a = some (.lst xs)) : H' a = some (.lst xs) := k _ _ h (ne_of h hd (by intro z; cases z))
theorem Keep.tp {d : Addr} {kvs : List (Key × V)} {H H' : Hp} {a : Addr} {xs : List V} (k : Keep d H H') (hd : H d = some (.dK kvs)) (h : H a = some (.tup xs)) : H' a = some (.tup xs) := k _ _ h (ne_of h hd (by intro z; cases z))
theorem same_tup {K : PySem.W.Frag} {H H' : Hp} {a : Addr} {xs : List V} (e : Same H H') (h : SqT K H a xs) : SqT K H' a xs := by
  rcases h with (h | ⟨o, h⟩) | h
  · exact .inl (.inl (e _ _ h))
  · exact .inl (.inr ⟨o, e _ _ h⟩)
  · exact .inr h

/-! the state of the draws -/
theorem k01 : ¬ ("cells" : Str) = "at" := by decide +kernel
theorem k02 : ¬ ("cells" : Str) = "left" := by decide +kernel
theorem k03 : ¬ ("cells" : Str) = "mix" := by decide +kernel
theorem k10 : ¬ ("at" : Str) = "cells" := by decide +kernel
theorem k12 : ¬ ("at" : Str) = "left" := by decide +kernel
theorem k13 : ¬ ("at" : Str) = "mix" := by decide +kernel
theorem k20 : ¬ ("left" : Str) = "cells" := by decide +kernel
theorem k21 : ¬ ("left" : Str) = "at" := by decide +kernel
theorem k23 : ¬ ("left" : Str) = "mix" := by decide +kernel
theorem k30 : ¬ ("mix" : Str) = "cells" := by decide +kernel
theorem k31 : ¬ ("mix" : Str) = "at" := by decide +kernel
theorem k32 : ¬ ("mix" : Str) = "left" := by decide +kernel
theorem kr {a b : Str} (h : ¬ a = b) : ¬ (Sum.inr a : Key) = Sum.inr b := fun z => h (Sum.inr.inj z)
def stK (c : Addr) (i l m : Int) : List (Key × V) := [(.inr "cells", .ref c), (.inr "at", .int i), (.inr "left", .int l), (.inr "mix", .int m)]
theorem g_cells (c : Addr) (i l m : Int) : valV (stK c i l m) (.inr "cells") = some (.ref c) := valV_pos rfl
theorem g_at (c : Addr) (i l m : Int) : valV (stK c i l m) (.inr "at") = some (.int i) := by
  unfold stK
  rw [valV_neg (kr k01), valV_pos rfl]
theorem g_left (c : Addr) (i l m : Int) : valV (stK c i l m) (.inr "left") = some (.int l) := by
  unfold stK
  rw [valV_neg (kr k02), valV_neg (kr k12), valV_pos rfl]
theorem g_mix (c : Addr) (i l m : Int) : valV (stK c i l m) (.inr "mix") = some (.int m) := by
  unfold stK
  rw [valV_neg (kr k03), valV_neg (kr k13), valV_neg (kr k23), valV_pos rfl]
theorem put_any {kvs : List (Key × V)} {k : Key} {v y : V} (h : valV kvs k = some v) : putK kvs k y = kvs.map (fun kv => if kv.1 = k then (kv.1, y) else kv) := by
  unfold putK
  rw [valV_any, h]
  exact if_pos rfl
theorem p_at (c : Addr) (i l m j : Int) : putK (stK c i l m) (.inr "at") (.int j) = stK c j l m := by
  rw [put_any (g_at c i l m)]
  unfold stK
  simp only [List.map_cons, List.map_nil, if_neg (kr k01), if_neg (kr k21), if_neg (kr k31), if_true]
theorem p_left (c : Addr) (i l m j : Int) : putK (stK c i l m) (.inr "left") (.int j) = stK c i j m := by
  rw [put_any (g_left c i l m)]
  unfold stK
  simp only [List.map_cons, List.map_nil, if_neg (kr k02), if_neg (kr k12), if_neg (kr k32), if_true]
theorem p_mix (c : Addr) (i l m j : Int) : putK (stK c i l m) (.inr "mix") (.int j) = stK c i l j := by
  rw [put_any (g_mix c i l m)]
  unfold stK
  simp only [List.map_cons, List.map_nil, if_neg (kr k03), if_neg (kr k13), if_neg (kr k23), if_true]
theorem merge_st (c : Addr) (i l m : Int) : mergeK [] (stK c i l m) = stK c i l m := by
  have e0 : putK ([] : List (Key × V)) (.inr "cells" : Key) (.ref c) = [((.inr "cells" : Key), V.ref c)] := rfl
  have e1 : putK [((.inr "cells" : Key), V.ref c)] (.inr "at" : Key) (.int i) = [((.inr "cells" : Key), V.ref c), (.inr "at", .int i)] := by
    rw [putK_new _ (by rw [valV_neg (kr k01)]; rfl)]
    all_goals rfl
  have e2 : putK [((.inr "cells" : Key), V.ref c), (.inr "at", .int i)] (.inr "left") (.int l) = [((.inr "cells" : Key), V.ref c), (.inr "at", .int i), (.inr "left", .int l)] := by
    rw [putK_new _ (by rw [valV_neg (kr k02), valV_neg (kr k12)]; rfl)]
    all_goals rfl
  have e3 : putK [((.inr "cells" : Key), V.ref c), (.inr "at", .int i), (.inr "left", .int l)] (.inr "mix") (.int m) = stK c i l m := by
    rw [putK_new _ (by rw [valV_neg (kr k03), valV_neg (kr k13), valV_neg (kr k23)]; rfl)]
    all_goals rfl
  show putK (putK (putK (putK ([] : List (Key × V)) (.inr "cells" : Key) (.ref c)) (.inr "at" : Key) (.int i)) (.inr "left" : Key) (.int l)) (.inr "mix" : Key) (.int m) = stK c i l m
  rw [e0, e1, e2, e3]
/-- the dict of the draws stands at d -/
structure StAt (K : PySem.W.Frag) (H : Hp) (d : Addr) (c : Addr) (ns : List Int) (i l m : Int) : Prop where
  dc : H d = some (.dK (stK c i l m))
  cs : H c = some (.lst (ns.map V.int))
  nn : ∀ x ∈ ns, 0 ≤ x
  i0 : 0 ≤ i
  l0 : 0 ≤ l
  m0 : 0 ≤ m
  m1 : m < 2147483648
def St1 (K : PySem.W.Frag) (H : Hp) (d c : Addr) : Prop := ∃ ns i l m, StAt K H d c ns i l m
theorem St1.dk {K : PySem.W.Frag} {H : Hp} {d c : Addr} (S : St1 K H d c) : ∃ kvs, H d = some (.dK kvs) := let ⟨_, _, _, _, S⟩ := S; ⟨_, S.dc⟩
theorem St1.cl {K : PySem.W.Frag} {H : Hp} {d c : Addr} (S : St1 K H d c) : ∃ xs, H c = some (.lst xs) := let ⟨_, _, _, _, S⟩ := S; ⟨_, S.cs⟩
/-- the state stands on where both its objects stand -/
theorem St1.of {K : PySem.W.Frag} {H H' : Hp} {d c : Addr} (S : St1 K H d c) (e1 : H' d = H d) (e2 : H' c = H c) : St1 K H' d c := by
  obtain ⟨ns, i, l, m, S⟩ := S
  exact ⟨ns, i, l, m, e1.trans S.dc, e2.trans S.cs, S.nn, S.i0, S.l0, S.m0, S.m1⟩
theorem St1.same {K : PySem.W.Frag} {H H' : Hp} {d c : Addr} (S : St1 K H d c) (e : Same H H') : St1 K H' d c := by
  obtain ⟨ns, i, l, m, S⟩ := S
  exact ⟨ns, i, l, m, e _ _ S.dc, e _ _ S.cs, S.nn, S.i0, S.l0, S.m0, S.m1⟩
theorem St1.new {K : PySem.W.Frag} {H : Hp} {d c a : Addr} {o : HO} (S : St1 K H d c) (h : H a = none) : St1 K (upd H a o) d c := S.same (same_new h)
theorem St1.nd {K : PySem.W.Frag} {H : Hp} {d c a : Addr} (S : St1 K H d c) (h : H a = none) : a ≠ d := let ⟨_, e⟩ := S.dk; (ne_of_none e h).symm
theorem St1.nc {K : PySem.W.Frag} {H : Hp} {d c a : Addr} (S : St1 K H d c) (h : H a = none) : a ≠ c := let ⟨_, e⟩ := S.cl; (ne_of_none e h).symm
theorem St1.put {K : PySem.W.Frag} {H : Hp} {d c a : Addr} {o : HO} (S : St1 K H d c) (h1 : a ≠ d) (h2 : a ≠ c) : St1 K (upd H a o) d c := S.of (upd_ne h1.symm) (upd_ne h2.symm)
theorem StAt.put {K : PySem.W.Frag} {H : Hp} {d c : Addr} {ns : List Int} {i l m i' l' m' : Int} (S : StAt K H d c ns i l m) (h0 : 0 ≤ i') (h1 : 0 ≤ l') (h2 : 0 ≤ m') (h3 : m' < 2147483648) :
    StAt K (upd H d (.dK (stK c i' l' m'))) d c ns i' l' m' := ⟨upd_same, (Keep.upd d H _).lst S.dc S.cs, S.nn, h0, h1, h2, h3⟩
section
variable {H : Hp} {d c : Addr} {i l m j : Int}
theorem dg_cells (h : H d = some (.dK (stK c i l m))) : DGet H d (.str "cells") (some (.ref c)) := g_cells c i l m ▸ DGet.k (k := .inr "cells") h
theorem dg_at (h : H d = some (.dK (stK c i l m))) : DGet H d (.str "at") (some (.int i)) := g_at c i l m ▸ DGet.k (k := .inr "at") h
theorem dg_left (h : H d = some (.dK (stK c i l m))) : DGet H d (.str "left") (some (.int l)) := g_left c i l m ▸ DGet.k (k := .inr "left") h
theorem dg_mix (h : H d = some (.dK (stK c i l m))) : DGet H d (.str "mix") (some (.int m)) := g_mix c i l m ▸ DGet.k (k := .inr "mix") h
theorem st_few : (stK c i l m).length < sizeLine := Nat.lt_of_le_of_lt (show 4 ≤ 1000 by decide) (by decide)
theorem dp_at (h : H d = some (.dK (stK c i l m))) : DPut H d (.str "at") (.int j) (upd H d (.dK (stK c j l m))) := p_at c i l m j ▸ DPut.k (k := .inr "at") h st_few
theorem dp_left (h : H d = some (.dK (stK c i l m))) : DPut H d (.str "left") (.int j) (upd H d (.dK (stK c i j m))) := p_left c i l m j ▸ DPut.k (k := .inr "left") h st_few
theorem dp_mix (h : H d = some (.dK (stK c i l m))) : DPut H d (.str "mix") (.int j) (upd H d (.dK (stK c i l j))) := p_mix c i l m j ▸ DPut.k (k := .inr "mix") h st_few
end
/-! what follows is shown once, for both ways of an if ahead of it -/
theorem cut {t u : TS} {D : Ends} {σ : L2.St} {H : Hp} (I : L2.St → Hp → Prop) (h2 : ∀ σ' H', I σ' H' → u D σ' H') (h1 : (∀ σ' H', I σ' H' → u D σ' H') → t { D with nx := u D } σ H) : tSeq t u D σ H := h1 h2

/-! the promises of the draws -/
/-- the bound's bound -/
def big : Int := 10000000000000000000000000000000000000000000000000000000000000000000000
def spStart (K : PySem.W.Frag) : Sp := fun vs H Q _ => ∃ (a : Addr) (ns : List Int), vs = [.ref a] ∧ SqL K H a (ns.map V.int) ∧ ns.length ≤ 63 ∧ ∀ d c H', H d = none → H c = none → St1 K H' d c → Same H H' → Q (.ref d) H'
def spDraw (K : PySem.W.Frag) : Sp := fun vs H Q _ => ∃ (d c : Addr) (b : Int), vs = [.ref d, .int b] ∧ St1 K H d c ∧ 0 < b ∧ b ≤ 10000000000000000000000000000000000000000000000000000000000000000000000 ∧
  ∀ n H', 0 ≤ n → n < b → St1 K H' d c → Keep d H H' → Q (.int n) H'
def spPick (K : PySem.W.Frag) : Sp := fun vs H Q _ => ∃ (d c l : Addr) (xs : List V), vs = [.ref d, .ref l] ∧ St1 K H d c ∧ SqL K H l xs ∧ xs ≠ [] ∧ xs.length ≤ 1000 ∧
  ∀ v H', v ∈ xs → St1 K H' d c → Keep d H H' → Q v H'
/-- a value's kind -/
def isInt : V → Bool | .int _ => true | _ => false
def isBl : V → Bool | .bl _ => true | _ => false
def spIsNum : Sp := fun vs H Q _ => ∃ n : Int, vs = [.int n] ∧ Q (.bl true) H
theorem log_of {b : Int} (h0 : 0 < b) (h1 : b ≤ 10000000000000000000000000000000000000000000000000000000000000000000000) : CDivW l b := wide_div (b := 300) h0 (by
  have : (b.natAbs : Int) = b := by omega
  have e : (2 : Nat) ^ 300 = 2037035976334486086268445688409378161051468393665936250636140449354381299763336706183397376 := by decide +kernel
  rw [e]
  omega) (by decide) (by decide)
/-! tests whose answer is known -/
theorem ifN {c A B : Prop} [Decidable c] (h : ¬ c) (q : B) : if decide c = true then A else B := by
  rw [decide_eq_false h]
  exact iteF q
theorem ifY {c A B : Prop} [Decidable c] (h : c) (q : A) : if decide c = true then A else B := by
  rw [decide_eq_true h]
  exact iteT q
theorem wm {i j : Int} (hi : i.natAbs < 2 ^ 250) (hj : j.natAbs < 2 ^ 250) : CMulW i j := wide_mul hi hj (by decide) (by decide) (by decide)
theorem ltge (a b : Int) : a < b ∨ b ≤ a := by omega
theorem nm {i : Nat} {x : V} {σ : L2.St} {H : Hp} {k : L2.St → Hp → Prop} (h : k (σ.set i (some x)) H) : gName i x σ H k := h
/-! math.isqrt -/
def rIsqrt : List V → Hp → VK → Prop := fun vs H Q => ∃ n : Int, vs = [.int n] ∧ 0 ≤ n ∧ n.natAbs < 2 ^ 250 ∧ ∀ r : Int, 0 ≤ r → r * r ≤ n → n < (r + 1) * (r + 1) → Q (.int r) H
theorem cr_isqrt {X : Cx} : CallR X (.builtin "math.isqrt") rIsqrt := by
  intro pins s σ H vs us Q I r h
  obtain ⟨a, rfl, h0, h1, q⟩ := h
  obtain ⟨u, rfl, t, rfl⟩ := vals1 r
  have hl : a.toNat.log2 < 250 := by
    have e : a.toNat = a.natAbs := by omega
    rw [e]
    exact PySem.Flt.log2_lt_of (by decide) h1
  obtain ⟨z1, z2⟩ := PySem.Float64.isqrt_spec a.toNat
  refine call_function_meets PySem.W.MGF.kind_isqrt PySem.W.MGF.plain_isqrt PySem.W.MGF.entry_isqrt (PySem.W.MGF.args_isqrt _) (PySem.W.mg_run_isqrt a t (by omega) (by omega) (by omega)).meets ?_
  refine ⟨.int ((Float64.isqrt a.toNat : Nat) : Int), H, I.tok _, ⟨_, rfl⟩, q _ (Int.natCast_nonneg _) ?_ ?_⟩
  · have := Int.ofNat_le.mpr z1
    rw [Int.natCast_mul] at this
    omega
  · have := Int.ofNat_lt.mpr z2
    rw [Int.natCast_mul, Int.natCast_add] at this
    have e : ((a.toNat : Nat) : Int) = a := by omega
    rw [e] at this
    exact this
theorem szOk {xs : List V} (h : Nat.ble xs.length 1000 = true) : xs.length ≤ sizeLine := Nat.le_trans (Nat.le_of_ble_eq_true h) (by decide)
theorem eqN {a b : Int} {A B : Prop} (h : a ≠ b) (q : B) : if decide (V.int a = V.int b) = true then A else B := ifN (fun z => h (V.int.inj z)) q
theorem eqY {a b : Int} {A B : Prop} (h : a = b) (q : A) : if decide (V.int a = V.int b) = true then A else B := ifY (congrArg V.int h) q
theorem neN {a b : Int} {A B : Prop} (h : a = b) (q : B) : if (!decide (V.int a = V.int b)) = true then A else B := iteNS (congrArg V.int h) q
/-! tracked things behind a call that changes the state alone -/
section
variable {K : PySem.W.Frag} {d c : Addr} {H H' : Hp}
theorem Keep.l (k : Keep d H H') (S : St1 K H d c) {a : Addr} {xs : List V} (h : H a = some (.lst xs)) : H' a = some (.lst xs) := let ⟨_, e⟩ := S.dk; k.lst e h
theorem Keep.t (k : Keep d H H') (S : St1 K H d c) {a : Addr} {xs : List V} (h : H a = some (.tup xs)) : H' a = some (.tup xs) := let ⟨_, e⟩ := S.dk; k.tp e h
theorem Keep.sl (k : Keep d H H') (S : St1 K H d c) {a : Addr} {xs : List V} (h : SqL K H a xs) : SqL K H' a xs := let ⟨_, e⟩ := S.dk; k.seq e h
theorem Keep.st (k : Keep d H H') (S : St1 K H d c) {a : Addr} {xs : List V} (h : SqT K H a xs) : SqT K H' a xs := let ⟨_, e⟩ := S.dk; k.tup e h
end
theorem sq0 (x : Int) : 0 ≤ x * x := by
  rcases ltge x 0 with z | z
  · have := Int.mul_nonneg (show 0 ≤ -x by omega) (show 0 ≤ -x by omega)
    rw [Int.neg_mul_neg] at this
    exact this
  · exact Int.mul_nonneg z z
theorem atI0 {α : Type} {xs : List α} {j : Nat} {v : α} (h : xs[j]? = some v) : atI xs (0 + (j : Int)) = some v := by
  rw [Int.zero_add]
  exact atI_nat h
theorem atI_back {α : Type} {xs : List α} {v : α} (h : xs.getLast? = some v) : atI xs (-1) = some v := by
  obtain ⟨ys, rfl⟩ := List.getLast?_eq_some_iff.mp h
  exact atI_last ys v
theorem eqvN {d : PyData} {A B : Prop} (h : d.canLay0 = true) (q : B) : if (!PyData.eqv d d) = true then A else B := by
  rw [SeqAt.eqv_refl d h]
  exact q
theorem getInt {ns : List Int} {i : Nat} {y : V} (h : (ns.map V.int)[i]? = some y) : ∃ x, y = .int x ∧ x ∈ ns ∧ i < ns.length ∧ ns.take (i + 1) = ns.take i ++ [x] := by
  rw [List.getElem?_map] at h
  cases e : ns[i]? with
  | none => rw [e] at h; cases h
  | some x =>
    rw [e] at h
    exact ⟨x, (Option.some.inj h).symm, List.mem_of_getElem? e, (List.getElem?_eq_some_iff.mp e).1, by rw [List.take_add_one, e]; rfl⟩
/-- the built-in names that the text has not bound -/
structure Txt0 (mg : Str → Option Value) : Prop where
  abs : mg "abs" = none
  int : mg "int" = none
  len : mg "len" = none
  bool : mg "bool" = none
  isinstance : mg "isinstance" = none
structure TxtA (mg : Str → Option Value) : Prop extends Txt0 mg where
  max : mg "max" = none
  min : mg "min" = none
  range : mg "range" = none
  tuple : mg "tuple" = none
  list : mg "list" = none
  sum : mg "sum" = none
  any : mg "any" = none
  all : mg "all" = none
  sorted : mg "sorted" = none
  dict : mg "dict" = none
  enumerate : mg "enumerate" = none
theorem getMap {α : Type} {f : α → V} {ns : List α} {i : Nat} {y : V} (h : (ns.map f)[i]? = some y) : ∃ x, y = f x ∧ x ∈ ns ∧ i < ns.length ∧ ns.take (i + 1) = ns.take i ++ [x] := by
  rw [List.getElem?_map] at h
  cases e : ns[i]? with
  | none => rw [e] at h; cases h
  | some x =>
    rw [e] at h
    exact ⟨x, (Option.some.inj h).symm, List.mem_of_getElem? e, (List.getElem?_eq_some_iff.mp e).1, by rw [List.take_add_one, e]; rfl⟩
theorem sq_le {x b : Int} (h0 : -b ≤ x) (h1 : x ≤ b) : x * x ≤ b * b := by
  rcases ltge x 0 with z | z
  · have := Int.mul_le_mul (show -x ≤ b by omega) (show -x ≤ b by omega) (show 0 ≤ -x by omega) (show 0 ≤ b by omega)
    rw [Int.neg_mul_neg] at this
    exact this
  · exact Int.mul_le_mul h1 h1 z (by omega)
/-- 2 ^ (24 - i) -/
def pw (i : Nat) : Int := (2 ^ (24 - i) : Nat)
theorem pw_step {i : Nat} (h : i < 24) : pw i = 2 * pw (i + 1) := by
  unfold pw
  rw [show 24 - i = (24 - (i + 1)) + 1 by omega, Nat.pow_succ]
  omega
theorem mapAt {α : Type} {f : α → V} {ns : List α} {i : Nat} (h : i < ns.length) : (ns.map f)[i]? = some (f ns[i]) := by simp [h]
theorem at_mod {α : Type} {f : α → V} {ns : List α} {z m : Int} (hm : m = (ns.length : Int)) (h : 0 < ns.length) : ∃ x, x ∈ ns ∧ atI (ns.map f) (z % m) = some (f x) := by
  obtain ⟨j, hj⟩ : ∃ j : Nat, z % m = (j : Int) := ⟨(z % m).toNat, by have := Int.emod_nonneg z (show m ≠ 0 by omega); omega⟩
  have hj2 : j < ns.length := by have := Int.emod_lt_of_pos z (show 0 < m by omega); omega
  exact ⟨ns[j], List.getElem_mem hj2, by rw [hj]; exact atI_nat (mapAt hj2)⟩
/-- all that stood, but at d -/
theorem Keep.none {d a : Addr} {H H' : Hp} (k : Keep d H H') (n : a ≠ d) (h : H' a = none) : H a = none := by
  cases e : H a with
  | none => rfl
  | some o => rw [k _ _ e n] at h; cases h
theorem atI_lastn {α : Type} {xs : List α} {v : α} {m : Int} (hm : m = (xs.length : Int) - 1) (h : xs.getLast? = some v) : atI xs m = some v := by
  obtain ⟨ys, rfl⟩ := List.getLast?_eq_some_iff.mp h
  rw [hm, List.length_append, List.length_singleton]
  have e : ((ys.length + 1 : Nat) : Int) - 1 = ((ys.length : Nat) : Int) := by omega
  rw [e]
  exact atI_nat (by simp)
theorem sq_swap (a b : Int) : (a - b) * (a - b) = (b - a) * (b - a) := by
  have e : a - b = -(b - a) := by omega
  rw [e, Int.neg_mul_neg]
def rLenK (K : PySem.W.Frag) : List V → Hp → VK → Prop := fun xs H Q => ∃ p ys, xs = [V.ref p] ∧ (SqL K H p ys ∨ SqT K H p ys) ∧ Q (.int ys.length) H
end Sk

set_option Elab.async false
set_option linter.all false
set_option maxRecDepth 100000
set_option maxHeartbeats 4000000
namespace Sk
open PySem PySem.Spec PyProof.Rows L2
/-! a method of the text, ready to be called -/
structure MDef (P : Program) (w : World) (K : PySem.W.Frag) (mg : Str → Option Value) (base : Heap) (k : Nat) (C : Addr) (m : Str) (ps : List Str) (sp : Sp) : Prop where
  ex : ∃ (f : Addr) (fd : FuncData), FnOk P w K mg base CX0 k f fd ps sp ∧ Meth K C m f ∧ Binds K fd ps []
theorem pe_mdef {X : Cx} {k : Nat} {C : Addr} {m : Str} {ps : List Str} {sp : Sp} {pos apos : Pos} {o e : Expr} {es : List Expr} {ta : TE} {t : TA} {pl : Sem Bool} (D : MDef X.prog X.w X.K X.mg X.base k C m ps sp) (cl : Cls X.K C) (hr : Room k X.A) (ho : PE X o ta)
    (ha : PA X (e :: es) t) (he : starEach (e :: es) X.env = (false, eval e X.env) :: starEach es X.env := by rfl) (hpl : (backTo pos (starEach es X.env)).any (·.1) = false := by rfl)
    (ht : eval (.Call (.Attribute o m apos) (e :: es) [] pos) X.env = (do
      let ov ← eval o X.env
      standAt apos.atName
      let (f, first) ← holding [ov] (getMethod ov m pl)
      callWith pos f first (backTo pos (starEach (e :: es) X.env)) (backToKw pos (keywordEach [] X.env))) := by rfl) :
    PE X (.Call (.Attribute o m apos) (e :: es) [] pos) (tMeth C m sp [] E0 ta t) := by
  obtain ⟨f, fd, F, M, b⟩ := D.ex
  exact pe_meth ho cl M F hr b .nil pass0 ha he hpl ht
theorem pe_mdef0 {X : Cx} {k : Nat} {C : Addr} {m : Str} {ps : List Str} {sp : Sp} {pos apos : Pos} {o : Expr} {ta : TE} {pl : Sem Bool} (D : MDef X.prog X.w X.K X.mg X.base k C m ps sp) (cl : Cls X.K C) (hr : Room k X.A) (ho : PE X o ta)
    (ht : eval (.Call (.Attribute o m apos) [] [] pos) X.env = (do
      let ov ← eval o X.env
      standAt apos.atName
      let (f, first) ← holding [ov] (getMethod ov m pl)
      callWith pos f first (backTo pos (starEach [] X.env)) (backToKw pos (keywordEach [] X.env))) := by rfl) :
    PE X (.Call (.Attribute o m apos) [] [] pos) (tMeth C m sp [] E0 ta tNil) := by
  obtain ⟨f, fd, F, M, b⟩ := D.ex
  exact pe_meth0 ho cl M F hr b .nil pass0 ht
/-! roots -/
def rt (n : Int) : Int :=
  let q : Int := (Float64.isqrt n.toNat : Nat)
  if q * q < n then q + 1 else q
structure IsRt (n r : Int) : Prop where
  nn : 0 ≤ r
  up : n ≤ r * r
  lo : r = 0 ∨ (r - 1) * (r - 1) < n
theorem mono_sq {a b : Int} (h0 : 0 ≤ a) (h : a ≤ b) : a * a ≤ b * b := Int.mul_le_mul h h h0 (by omega)
theorem IsRt.le {n r r' : Int} (h : IsRt n r) (h' : IsRt n r') : r ≤ r' := by
  rcases h.lo with z | z
  · have := h'.nn; omega
  · rcases ltge r' r with w | w
    · have a := mono_sq h'.nn (show r' ≤ r - 1 by omega)
      have b := h'.up
      omega
    · exact w
theorem IsRt.eq {n r r' : Int} (h : IsRt n r) (h' : IsRt n r') : r = r' := by
  have a := h.le h'
  have b := h'.le h
  omega
theorem rt_is {n : Int} (hn : 0 ≤ n) : IsRt n (rt n) := by
  obtain ⟨z1, z2⟩ := PySem.Float64.isqrt_spec n.toNat
  have e : ((n.toNat : Nat) : Int) = n := by omega
  have a := Int.ofNat_le.mpr z1
  have b := Int.ofNat_lt.mpr z2
  rw [Int.natCast_mul, e] at a
  rw [Int.natCast_mul, Int.natCast_add, e] at b
  have q0 : (0 : Int) ≤ (Float64.isqrt n.toNat : Nat) := Int.natCast_nonneg _
  unfold rt
  dsimp only
  generalize ((Float64.isqrt n.toNat : Nat) : Int) = q at a b q0 ⊢
  have b' : n < (q + 1) * (q + 1) := b
  by_cases h : q * q < n
  · rw [if_pos h]
    exact ⟨by omega, by omega, .inr (by rw [show q + 1 - 1 = q by omega]; exact h)⟩
  · rw [if_neg h]
    refine ⟨q0, by omega, ?_⟩
    rcases ltge 0 q with w | w
    · right
      have : (q - 1) * (q - 1) = q * q - 2 * q + 1 := by
        rw [Int.sub_mul, Int.mul_sub, Int.mul_sub]; omega
      omega
    · left; omega
theorem rt_nn {n : Int} (hn : 0 ≤ n) : 0 ≤ rt n := (rt_is hn).nn
theorem rt_small {n b : Int} (hn : 0 ≤ n) (hb : 0 ≤ b) (h : n ≤ b * b) : rt n ≤ b := by
  rcases (rt_is hn).lo with z | z
  · omega
  · rcases ltge b (rt n) with w | w
    · have := mono_sq hb (show b ≤ rt n - 1 by omega)
      omega
    · exact w
/-! texts whose signs are signs -/
abbrev sOk (x : Str) : Prop := PySem.PyData.strOk x = true
theorem sOk_app {x y : Str} (h1 : sOk x) (h2 : sOk y) : sOk (x ++ y) := by
  unfold sOk PySem.PyData.strOk at *
  show (x.cps ++ y.cps).all (· < 0x110000) = true
  rw [Array.all_append, h1, h2]
  rfl
/-! the chart -/
structure Lg where
  a : Addr
  s : Str
  e : Str
  c : Str
  lo : Int
  hi : Int
def Lg.v (l : Lg) : List V := [.str l.s, .str l.e, .str l.c, .int l.lo, .int l.hi]
structure CD where
  fx : Addr
  lg : Addr
  fs : List (Key × V)
  pt : Str → Option (Addr × Int × Int)
  ls : List Lg
structure ChartAt (H : Hp) (ch : Addr) (D : CD) : Prop where
  ch : ∃ kvs, H ch = some (.dK kvs) ∧ valV kvs (.inr "fixes") = some (.ref D.fx) ∧ valV kvs (.inr "legs") = some (.ref D.lg)
  fx : H D.fx = some (.dK D.fs)
  lg : H D.lg = some (.lst (D.ls.map fun l => V.ref l.a))
  lt : ∀ l ∈ D.ls, H l.a = some (.tup l.v)
  pf : ∀ n a x y, D.pt n = some (a, x, y) → valV D.fs (.inr n) = some (.ref a) ∧ H a = some (.tup [.int x, .int y]) ∧ -100000 ≤ x ∧ x ≤ 100000 ∧ -100000 ≤ y ∧ y ≤ 100000
  wf : ∀ l ∈ D.ls, (∃ a x y, D.pt l.s = some (a, x, y)) ∧ ∃ a x y, D.pt l.e = some (a, x, y)
  sk : ∀ l ∈ D.ls, sOk l.s ∧ sOk l.e ∧ sOk l.c
  n : D.ls.length ≤ 100
theorem ChartAt.same {H H' : Hp} {ch : Addr} {D : CD} (C : ChartAt H ch D) (e : Same H H') : ChartAt H' ch D := by
  obtain ⟨⟨kvs, h1, h2, h3⟩, h4, h5, h6, h7, h8, h8', h9⟩ := C
  exact ⟨⟨kvs, e _ _ h1, h2, h3⟩, e _ _ h4, e _ _ h5, fun l hl => e _ _ (h6 l hl), fun n a x y hp => let ⟨p1, p2, p3⟩ := h7 n a x y hp; ⟨p1, e _ _ p2, p3⟩, h8, h8', h9⟩
theorem ChartAt.keep {K : PySem.W.Frag} {H H' : Hp} {d c ch : Addr} {D : CD} (C : ChartAt H ch D) (S : St1 K H d c) (k : Keep d H H') (n1 : ch ≠ d) (n2 : D.fx ≠ d) : ChartAt H' ch D := by
  obtain ⟨⟨kvs, h1, h2, h3⟩, h4, h5, h6, h7, h8, h8', h9⟩ := C
  exact ⟨⟨kvs, k _ _ h1 n1, h2, h3⟩, k _ _ h4 n2, k.l S h5, fun l hl => k.t S (h6 l hl), fun n a x y hp => let ⟨p1, p2, p3⟩ := h7 n a x y hp; ⟨p1, k.t S p2, p3⟩, h8, h8', h9⟩
theorem ChartAt.gf {H : Hp} {ch : Addr} {D : CD} (C : ChartAt H ch D) : DGet H ch (.str "fixes") (some (.ref D.fx)) := let ⟨_, h1, h2, _⟩ := C.ch; h2 ▸ DGet.k (k := .inr "fixes") h1
theorem ChartAt.gl {H : Hp} {ch : Addr} {D : CD} (C : ChartAt H ch D) : DGet H ch (.str "legs") (some (.ref D.lg)) := let ⟨_, h1, _, h3⟩ := C.ch; h3 ▸ DGet.k (k := .inr "legs") h1
theorem ChartAt.gp {H : Hp} {ch : Addr} {D : CD} (C : ChartAt H ch D) {n : Str} {a : Addr} {x y : Int} (h : D.pt n = some (a, x, y)) : DGet H D.fx (.str n) (some (.ref a)) := (C.pf n a x y h).1 ▸ DGet.k (k := .inr n) C.fx
/-- the length of the leg between two names -/
def CD.len (D : CD) (s e : Str) : Int := match D.pt s, D.pt e with
  | some (_, ax, ay), some (_, bx, by') => rt ((bx - ax) * (bx - ax) + (by' - ay) * (by' - ay))
  | _, _ => 0
theorem CD.len_eq {D : CD} {s e : Str} {a b : Addr} {ax ay bx by' : Int} (h1 : D.pt s = some (a, ax, ay)) (h2 : D.pt e = some (b, bx, by')) : D.len s e = rt ((bx - ax) * (bx - ax) + (by' - ay) * (by' - ay)) := by
  unfold CD.len
  rw [h1, h2]
def CD.leg (D : CD) (s e : Str) : Option Lg := D.ls.find? fun l => decide (l.s = s) && decide (l.e = e)
def optL : Option Lg → V
  | some l => .ref l.a
  | none => .non
theorem CD.leg_mem {D : CD} {s e : Str} {l : Lg} (h : D.leg s e = some l) : l ∈ D.ls ∧ l.s = s ∧ l.e = e := by
  have h1 := List.find?_some h
  simp only [Bool.and_eq_true, decide_eq_true_eq] at h1
  exact ⟨List.mem_of_find?_eq_some h, h1.1, h1.2⟩
/-! promises -/
def spUpR : Sp := fun vs H Q _ => ∃ n : Int, vs = [.int n] ∧ 0 ≤ n ∧ n.natAbs < 2 ^ 240 ∧ Q (.int (rt n)) H
def spDownR : Sp := fun vs H Q _ => ∃ n : Int, vs = [.int n] ∧ n.natAbs < 2 ^ 250 ∧ ∀ r : Int, 0 ≤ r → (n ≤ 0 → r = 0) → (0 ≤ n → r * r ≤ n ∧ n < (r + 1) * (r + 1)) → Q (.int r) H
def spRootR : Sp := fun vs H Q _ => ∃ n : Int, vs = [.int n] ∧ 0 ≤ n ∧ n ≤ 100000000000000 ∧ Q (.int (rt n)) H
def spLegLen : Sp := fun vs H Q _ => ∃ (ch : Addr) (D : CD) (s e : Str) (a b : Addr) (ax ay bx by' : Int), vs = [.ref ch, .str s, .str e] ∧ ChartAt H ch D ∧ D.pt s = some (a, ax, ay) ∧ D.pt e = some (b, bx, by') ∧ Q (.int (D.len s e)) H
def spLegBt : Sp := fun vs H Q _ => ∃ (ch : Addr) (D : CD) (s e : Str), vs = [.ref ch, .str s, .str e] ∧ ChartAt H ch D ∧ Q (optL (D.leg s e)) H
def spIs : Sp := fun vs H Q _ => ∃ a b : Bool, vs = [.bl a, .bl b] ∧ Q (.bl (decide (a = b))) H
/-- a list of texts -/
def spNames (K : PySem.W.Frag) : Sp := fun vs H Q _ => ∃ (d c : Addr) (m : Int), vs = [.ref d, .int m] ∧ St1 K H d c ∧ 0 ≤ m ∧ m ≤ 12 ∧
  ∀ (ns : List Str) p H', (ns.length : Int) = m → (∀ n ∈ ns, sOk n) → ns.Nodup → H p = none → H' p = some (.lst (ns.map V.str)) → St1 K H' d c → Keep d H H' → Q (.ref p) H'
/-- legs among the names -/
structure LegsAt (H : Hp) (l : Addr) (ns : List Str) (ls : List Lg) : Prop where
  li : H l = some (.lst (ls.map fun l => V.ref l.a))
  tu : ∀ q ∈ ls, H q.a = some (.tup q.v)
  nm : ∀ q ∈ ls, q.s ∈ ns ∧ q.e ∈ ns
  ck : ∀ q ∈ ls, sOk q.c
  ne : ns.Nodup → ∀ q ∈ ls, q.s ≠ q.e
theorem LegsAt.same {H H' : Hp} {l : Addr} {ns : List Str} {ls : List Lg} (L : LegsAt H l ns ls) (e : Same H H') : LegsAt H' l ns ls := ⟨e _ _ L.li, fun q h => e _ _ (L.tu q h), L.nm, L.ck, L.ne⟩
theorem LegsAt.keep {K : PySem.W.Frag} {H H' : Hp} {d c l : Addr} {ns : List Str} {ls : List Lg} (L : LegsAt H l ns ls) (S : St1 K H d c) (k : Keep d H H') : LegsAt H' l ns ls := ⟨k.l S L.li, fun q h => k.t S (L.tu q h), L.nm, L.ck, L.ne⟩
theorem LegsAt.snoc {H : Hp} {l : Addr} {ns : List Str} {ls : List Lg} {q : Lg} (L : LegsAt H l ns ls) (hp : H q.a = some (.tup q.v)) (h1 : q.s ∈ ns) (h2 : q.e ∈ ns) (h3 : sOk q.c) (h4 : ns.Nodup → q.s ≠ q.e) : LegsAt (upd H l (.lst ((ls.map fun l => V.ref l.a) ++ [.ref q.a]))) l ns (ls ++ [q]) := by
  refine ⟨by rw [upd_same, List.map_append]; rfl, fun z hz => ?_, fun z hz => ?_, fun z hz => ?_, fun nd z hz => ?_⟩
  · have ht : H z.a = some (.tup z.v) := by
      rcases List.mem_append.mp hz with h | h
      · exact L.tu z h
      · rw [List.mem_singleton.mp h]; exact hp
    rw [upd_ne (ne_of ht L.li (by intro e; cases e))]
    exact ht
  · rcases List.mem_append.mp hz with h | h
    · exact L.nm z h
    · rw [List.mem_singleton.mp h]; exact ⟨h1, h2⟩
  · rcases List.mem_append.mp hz with h | h
    · exact L.ck z h
    · rw [List.mem_singleton.mp h]; exact h3
  · rcases List.mem_append.mp hz with h | h
    · exact L.ne nd z h
    · rw [List.mem_singleton.mp h]; exact h4 nd
def spLegs (K : PySem.W.Frag) : Sp := fun vs H Q _ => ∃ (d c l : Addr) (ns : List Str), vs = [.ref d, .ref l] ∧ St1 K H d c ∧ H l = some (.lst (ns.map V.str)) ∧ 2 ≤ ns.length ∧ ns.length ≤ 12 ∧
  ∀ (ls : List Lg) p H', LegsAt H' p ns ls → ls.length ≤ 100 → H p = none → St1 K H' d c → Keep d H H' → Q (.ref p) H'
def spChart (K : PySem.W.Frag) : Sp := fun vs H Q _ => ∃ (d c : Addr) (m z : Int), vs = [.ref d, .int m, .int z] ∧ St1 K H d c ∧ 2 ≤ m ∧ m ≤ 7 ∧ 1 ≤ z ∧ z ≤ 9000 ∧
  ∀ (D : CD) ch H', (∀ l ∈ D.ls, 1 ≤ D.len l.s l.e) → ChartAt H' ch D → H ch = none → H D.fx = none → St1 K H' d c → Keep d H H' → Q (.ref ch) H'
def spLawLeg : Sp := spLegBt
/-! the parts of a chart while it is made -/
/-- all but two -/
def Keep2 (d e : Addr) (H H' : Hp) : Prop := ∀ c o, H c = some o → c ≠ d → c ≠ e → H' c = some o
theorem Keep2.refl (d e : Addr) (H : Hp) : Keep2 d e H H := fun _ _ h _ _ => h
theorem Keep2.k {d e : Addr} {H H1 H2 : Hp} (a : Keep2 d e H H1) (b : Keep d H1 H2) : Keep2 d e H H2 := fun c o h n m => b c o (a c o h n m) n
theorem Keep2.new {d e p : Addr} {o : HO} {H H1 : Hp} (a : Keep2 d e H H1) (h : H1 p = none) : Keep2 d e H (upd H1 p o) := fun c u q n m => same_new h _ _ (a c u q n m)
theorem Keep2.put {d e : Addr} {o : HO} {H H1 : Hp} (a : Keep2 d e H H1) : Keep2 d e H (upd H1 e o) := fun c u q n m => by
  rw [upd_ne m]
  exact a c u q n m
structure FixAt (H : Hp) (f : Addr) (kvs : List (Key × V)) (pt : Str → Option (Addr × Int × Int)) (ns : List Str) : Prop where
  dc : H f = some (.dK kvs)
  pf : ∀ n a x y, pt n = some (a, x, y) → valV kvs (.inr n) = some (.ref a) ∧ H a = some (.tup [.int x, .int y]) ∧ -100000 ≤ x ∧ x ≤ 100000 ∧ -100000 ≤ y ∧ y ≤ 100000
  nm : ∀ n ∈ ns, ∃ a x y, pt n = some (a, x, y)
theorem FixAt.same {H H' : Hp} {f : Addr} {kvs : List (Key × V)} {pt : Str → Option (Addr × Int × Int)} {ns : List Str} (F : FixAt H f kvs pt ns) (e : Same H H') : FixAt H' f kvs pt ns :=
  ⟨e _ _ F.dc, fun n a x y h => let ⟨h1, h2, h3⟩ := F.pf n a x y h; ⟨h1, e _ _ h2, h3⟩, F.nm⟩
theorem FixAt.keep {K : PySem.W.Frag} {H H' : Hp} {d c f : Addr} {kvs : List (Key × V)} {pt : Str → Option (Addr × Int × Int)} {ns : List Str} (F : FixAt H f kvs pt ns) (S : St1 K H d c) (k : Keep d H H') (n : f ≠ d) : FixAt H' f kvs pt ns :=
  ⟨k _ _ F.dc n, fun n a x y h => let ⟨h1, h2, h3⟩ := F.pf n a x y h; ⟨h1, k.t S h2, h3⟩, F.nm⟩
theorem FixAt.keep2 {K : PySem.W.Frag} {H H' : Hp} {d c e f : Addr} {o : List (Key × V)} {kvs : List (Key × V)} {pt : Str → Option (Addr × Int × Int)} {ns : List Str} (F : FixAt H f kvs pt ns) (S : St1 K H d c) (he : ∀ xs, H e ≠ some (.tup xs)) (k : Keep2 d e H H') (n : f ≠ d) (m : f ≠ e) : FixAt H' f kvs pt ns :=
  ⟨k _ _ F.dc n m, fun n a x y h => let ⟨h1, h2, h3⟩ := F.pf n a x y h; ⟨h1, k _ _ h2 (let ⟨_, z⟩ := S.dk; ne_of h2 z (by intro w; cases w)) (fun w => he _ (w ▸ h2)), h3⟩, F.nm⟩
theorem FixAt.put {H : Hp} {f p : Addr} {kvs : List (Key × V)} {pt : Str → Option (Addr × Int × Int)} {ns : List Str} {n : Str} {x y : Int} (F : FixAt H f kvs pt ns) (hp : H p = some (.tup [.int x, .int y])) (b : -100000 ≤ x ∧ x ≤ 100000 ∧ -100000 ≤ y ∧ y ≤ 100000) :
    FixAt (upd H f (.dK (putK kvs (.inr n) (.ref p)))) f (putK kvs (.inr n) (.ref p)) (fun m => if m = n then some (p, x, y) else pt m) (ns ++ [n]) := by
  refine ⟨upd_same, fun m a u v h => ?_, fun m hm => ?_⟩
  · rw [valV_put]
    by_cases e : m = n
    · subst e
      simp only [if_true] at h
      cases h
      rw [if_pos rfl, upd_ne (ne_of hp F.dc (by intro z; cases z))]
      exact ⟨rfl, hp, b⟩
    · simp only [if_neg e] at h
      obtain ⟨h1, h2, h3⟩ := F.pf m a u v h
      rw [if_neg (fun z => e (Sum.inr.inj z)), upd_ne (ne_of h2 F.dc (by intro z; cases z))]
      exact ⟨h1, h2, h3⟩
  · by_cases e : m = n
    · exact ⟨p, x, y, by simp [e]⟩
    · rcases List.mem_append.mp hm with h | h
      · obtain ⟨a, u, v, h⟩ := F.nm m h
        exact ⟨a, u, v, by simp only [if_neg e]; exact h⟩
      · exact absurd (List.mem_singleton.mp h) e
theorem putK_len {kvs : List (Key × V)} {k : Key} {v : V} : (putK kvs k v).length ≤ kvs.length + 1 := by
  unfold putK
  split
  · rw [List.length_map]; omega
  · rw [List.length_append]; exact Nat.le_refl _
section
variable {f l z r h u w : V}
def chK (f l z r h u w : V) : List (Key × V) := putK (putK (mergeK [] [(.inr "fixes", f), (.inr "legs", l), (.inr "zones", z), (.inr "runways", r), (.inr "holds", h)]) (.inr "hours") u) (.inr "capacities") w
theorem ch_fix : valV (chK f l z r h u w) (.inr "fixes") = some f := by
  unfold chK
  simp only [mergeK, List.foldl, valV_put]
  rw [if_neg (kr (by decide +kernel)), if_neg (kr (by decide +kernel)), if_neg (kr (by decide +kernel)), if_neg (kr (by decide +kernel)), if_neg (kr (by decide +kernel)), if_neg (kr (by decide +kernel)), if_pos trivial]
theorem ch_leg : valV (chK f l z r h u w) (.inr "legs") = some l := by
  unfold chK
  simp only [mergeK, List.foldl, valV_put]
  rw [if_neg (kr (by decide +kernel)), if_neg (kr (by decide +kernel)), if_neg (kr (by decide +kernel)), if_neg (kr (by decide +kernel)), if_neg (kr (by decide +kernel)), if_pos trivial]
theorem ch_len : (mergeK [] [((.inr "fixes" : Key), f), (.inr "legs", l), (.inr "zones", z), (.inr "runways", r), (.inr "holds", h)]).length ≤ 5 := by
  have := length_mergeK [((.inr "fixes" : Key), f), (.inr "legs", l), (.inr "zones", z), (.inr "runways", r), (.inr "holds", h)] []
  simpa using this
end
/-! routes -/
def rn (ns : List Str) (j : Nat) : Str := ns.getD j (Str.ofString "")
theorem rn_at {ns : List Str} {j : Nat} (h : j < ns.length) : (ns.map V.str)[j]? = some (V.str (rn ns j)) := by
  unfold rn
  simp [h]
def Chain (D : CD) (ns : List Str) : Prop := ∀ j, j + 1 < ns.length → ∃ l, D.leg (rn ns j) (rn ns (j + 1)) = some l
theorem rn_l {xs ys : List Str} {j : Nat} (h : j < xs.length) : rn (xs ++ ys) j = rn xs j := by
  unfold rn
  rw [List.getD_eq_getElem?_getD, List.getD_eq_getElem?_getD, List.getElem?_append_left h]
theorem rn_r (xs : List Str) (b : Str) : rn (xs ++ [b]) xs.length = b := by
  unfold rn
  rw [List.getD_eq_getElem?_getD, List.getElem?_append_right (Nat.le_refl _), Nat.sub_self]
  rfl
theorem Chain.snoc {D : CD} {ns : List Str} {a b : Str} (h : Chain D ns) (ha : ns.getLast? = some a) (hl : ∃ l, D.leg a b = some l) : Chain D (ns ++ [b]) := by
  intro j hj
  rw [List.length_append, List.length_singleton] at hj
  obtain ⟨ys, rfl⟩ := List.getLast?_eq_some_iff.mp ha
  by_cases e : j + 1 < (ys ++ [a]).length
  · rw [rn_l (show j < (ys ++ [a]).length by omega), rn_l e]
    exact h j e
  · have ej : j = ys.length := by rw [List.length_append, List.length_singleton] at e hj; omega
    subst ej
    have e2 : rn (ys ++ [a] ++ [b]) (ys.length + 1) = b := by
      have := rn_r (ys ++ [a]) b
      rw [List.length_append, List.length_singleton] at this
      exact this
    rw [rn_l (by rw [List.length_append, List.length_singleton]; omega), rn_r, e2]
    exact hl
structure Route (D : CD) (ns : List Str) : Prop where
  n2 : 2 ≤ ns.length
  n20 : ns.length ≤ 20
  ch : Chain D ns
theorem CD.leg_some {D : CD} {l : Lg} (h : l ∈ D.ls) : ∃ l', D.leg l.s l.e = some l' := by
  cases e : D.leg l.s l.e with
  | some l' => exact ⟨l', rfl⟩
  | none =>
    have := List.find?_eq_none.mp e l h
    simp at this
/-- the lengths of the legs -/
def LenAt (H : Hp) (ld : Addr) (D : CD) : Prop := ∃ kvs, H ld = some (.dT kvs) ∧ ∀ s e l, D.leg s e = some l → valV kvs [(.inr s : Key), .inr e] = some (.int (D.len s e))
theorem LenAt.same {H H' : Hp} {ld : Addr} {D : CD} (L : LenAt H ld D) (e : Same H H') : LenAt H' ld D := let ⟨kvs, h1, h2⟩ := L; ⟨kvs, e _ _ h1, h2⟩
theorem LenAt.keep {K : PySem.W.Frag} {H H' : Hp} {d c ld : Addr} {D : CD} (L : LenAt H ld D) (S : St1 K H d c) (k : Keep d H H') : LenAt H' ld D :=
  let ⟨kvs, h1, h2⟩ := L; ⟨kvs, k _ _ h1 (let ⟨_, w⟩ := S.dk; ne_of h1 w (by intro z; cases z)), h2⟩
theorem LenAt.g {H : Hp} {ld p : Addr} {D : CD} {s e : Str} (L : LenAt H ld D) (h : ∃ l, D.leg s e = some l) (hp : H p = some (.tup [.str s, .str e])) : DGet H ld (.ref p) (some (.int (D.len s e))) := by
  obtain ⟨kvs, h1, h2⟩ := L
  obtain ⟨l, h⟩ := h
  rw [← h2 s e l h]
  exact DGet.t (k := [(.inr s : Key), .inr e]) h1 hp
def spLegS : Sp := fun vs H Q _ => ∃ (ch : Addr) (D : CD) (s e : Str), vs = [.ref ch, .str s, .str e] ∧ ChartAt H ch D ∧ ∀ H', Same H H' → Q (optL (D.leg s e)) H'
def spLens : Sp := fun vs H Q _ => ∃ (ch : Addr) (D : CD), vs = [.ref ch] ∧ ChartAt H ch D ∧ ∀ ld H', H ld = none → LenAt H' ld D → Same H H' → Q (.ref ld) H'
def spWalk (K : PySem.W.Frag) : Sp := fun vs H Q _ => ∃ (d c ch : Addr) (D : CD) (m : Int), vs = [.ref d, .ref ch, .int m] ∧ St1 K H d c ∧ ChartAt H ch D ∧ ch ≠ d ∧ D.fx ≠ d ∧ D.ls ≠ [] ∧ 1 ≤ m ∧ m ≤ 15 ∧
  ∀ (ns : List Str) r H', Route D ns → H r = none → H' r = some (.tup (ns.map V.str)) → St1 K H' d c → Keep d H H' → Q (.ref r) H'
theorem head_find {α : Type} (p : α → Bool) (xs : List α) : (xs.filter p).head? = xs.find? p := by
  rw [List.head?_filter]
/-! the places of a chart lie apart -/
theorem sq_pos {d : Int} (h : d ≠ 0) : 1 ≤ d * d := by
  rcases ltge 0 d with w | w
  · have := Int.mul_le_mul (show 1 ≤ d by omega) (show 1 ≤ d by omega) (by decide) (by omega)
    omega
  · have := Int.mul_le_mul (show 1 ≤ -d by omega) (show 1 ≤ -d by omega) (by decide) (by omega)
    rw [Int.neg_mul_neg] at this
    omega
theorem rt_one {n : Int} (h : 1 ≤ n) : 1 ≤ rt n := by
  have z := rt_is (show 0 ≤ n by omega)
  rcases ltge 0 (rt n) with w | w
  · omega
  · have e : rt n = 0 := by have := z.nn; omega
    have := z.up
    rw [e] at this
    omega
theorem CD.len_one {D : CD} {s e : Str} {a b : Addr} {ax ay bx by' : Int} (h1 : D.pt s = some (a, ax, ay)) (h2 : D.pt e = some (b, bx, by')) (h : ay ≠ by') : 1 ≤ D.len s e := by
  rw [CD.len_eq h1 h2]
  refine rt_one ?_
  have z1 := sq0 (bx - ax)
  have z2 := sq_pos (show by' - ay ≠ 0 by omega)
  omega
def LETS : List Nat := ("QXAMBZKCTDRE" : Str).cps.toList
def Let1 (ns : List Str) (x : Int) : Prop := ∀ j (h : j < ns.length), ∃ c, (ns[j]).cps.toList.head? = some c ∧ atI LETS (((j : Int) + x) % 12) = some c
theorem lets_inj : ∀ u : Fin 12, ∀ v : Fin 12, LETS[u.val]? = LETS[v.val]? → u = v := by decide +kernel
theorem lets_at {u : Nat} (h : u < 12) : atI LETS (u : Int) = LETS[u]? := by
  have e : u < LETS.length := by
    have : LETS.length = 12 := by decide +kernel
    omega
  rw [List.getElem?_eq_getElem e]
  exact atI_nat (List.getElem?_eq_getElem e)
theorem let_nodup {ns : List Str} {x : Int} (h : Let1 ns x) (hl : ns.length ≤ 12) : ns.Nodup := by
  refine List.pairwise_iff_getElem.mpr fun i j hi hj hij e => ?_
  obtain ⟨c1, a1, b1⟩ := h i hi
  obtain ⟨c2, a2, b2⟩ := h j hj
  rw [e, a2] at a1
  cases a1
  obtain ⟨u, hu⟩ : ∃ u : Nat, ((i : Int) + x) % 12 = (u : Int) := ⟨(((i : Int) + x) % 12).toNat, by omega⟩
  obtain ⟨v, hv⟩ : ∃ v : Nat, ((j : Int) + x) % 12 = (v : Int) := ⟨(((j : Int) + x) % 12).toNat, by omega⟩
  have hu2 : u < 12 := by omega
  have hv2 : v < 12 := by omega
  rw [hu, lets_at hu2] at b1
  rw [hv, lets_at hv2] at b2
  have := lets_inj ⟨u, hu2⟩ ⟨v, hv2⟩ (b1.trans b2.symm)
  have : u = v := congrArg Fin.val this
  omega
theorem at_mod2 {α : Type} {f : α → V} {ns : List α} {z m : Int} (hm : m = (ns.length : Int)) (h : 0 < ns.length) : ∃ (j : Nat) (hj : j < ns.length), z % m = (j : Int) ∧ atI (ns.map f) (z % m) = some (f ns[j]) := by
  obtain ⟨j, hj⟩ : ∃ j : Nat, z % m = (j : Int) := ⟨(z % m).toNat, by have := Int.emod_nonneg z (show m ≠ 0 by omega); omega⟩
  have hj2 : j < ns.length := by have := Int.emod_lt_of_pos z (show 0 < m by omega); omega
  exact ⟨j, hj2, hj, by rw [hj]; exact atI_nat (mapAt hj2)⟩
theorem mod_ne {i j : Nat} {x m : Int} (hi : (i : Int) < m) (h0 : 0 ≤ x) (h1 : x < m - 1) (e : (0 + (i : Int) + 1 + x) % m = (j : Int)) : i ≠ j := by
  rintro rfl
  have z := Int.mul_ediv_add_emod (0 + (i : Int) + 1 + x) m
  rw [e] at z
  generalize (0 + (i : Int) + 1 + x) / m = q at z
  rcases ltge 0 q with w | w
  · have := Int.mul_le_mul_of_nonneg_left (show 1 ≤ q by omega) (show 0 ≤ m by omega)
    omega
  · have := Int.mul_nonneg (show 0 ≤ m by omega) (show 0 ≤ -q by omega)
    rw [Int.mul_neg] at this
    omega
theorem nodup_ne {ns : List Str} (nd : ns.Nodup) {i j : Nat} (hi : i < ns.length) (hj : j < ns.length) (n : i ≠ j) : ns[i] ≠ ns[j] := by
  have p := List.pairwise_iff_getElem.mp nd
  rcases Nat.lt_or_gt_of_ne n with h | h
  · exact p i j hi hj h
  · exact (p j i hj hi h).symm
def Sep (pt : Str → Option (Addr × Int × Int)) (ns : List Str) (m : Int) (i : Nat) : Prop := ∀ j (h : j < ns.length), j < i → ∃ a x y, pt ns[j] = some (a, x, y) ∧ y % m = (j : Int)
theorem Sep.put {pt : Str → Option (Addr × Int × Int)} {ns : List Str} {m : Int} {i : Nat} {p : Addr} {x y : Int} (nd : ns.Nodup) (S : Sep pt ns m i) (hi : i < ns.length) (hy : y % m = (i : Int)) : Sep (fun q => if q = ns[i] then some (p, x, y) else pt q) ns m (i + 1) := by
  intro j hj hji
  by_cases e : j = i
  · subst e
    exact ⟨p, x, y, by simp, hy⟩
  · obtain ⟨a, u, v, h1, h2⟩ := S j hj (by omega)
    exact ⟨a, u, v, by simp only [if_neg (nodup_ne nd hj hi e)]; exact h1, h2⟩
theorem y_mod {m a i : Int} (h0 : 0 ≤ i) (h1 : i < m) : (m * a + (0 + i)) % m = i := by
  rw [Int.add_comm, Int.add_mul_emod_self_left, Int.zero_add]
  exact Int.emod_eq_of_lt h0 h1
theorem Sep.len {D : CD} {ns : List Str} {m : Int} {s e : Str} (S : Sep D.pt ns m ns.length) (nd : ns.Nodup) (hs : s ∈ ns) (he : e ∈ ns) (n : s ≠ e) : 1 ≤ D.len s e := by
  obtain ⟨i, hi, rfl⟩ := List.getElem_of_mem hs
  obtain ⟨j, hj, rfl⟩ := List.getElem_of_mem he
  obtain ⟨a, x, y, h1, h2⟩ := S i hi hi
  obtain ⟨b, u, v, h3, h4⟩ := S j hj hj
  refine CD.len_one h1 h3 fun z => n ?_
  rw [z, h4] at h2
  have : i = j := by omega
  subst this
  rfl
end Sk

set_option Elab.async false
set_option linter.all false
set_option maxRecDepth 100000
set_option maxHeartbeats 4000000
namespace Sk
open PySem PySem.Spec PyProof.Rows L2
/-! the mathematics of paths -/
theorem CD.len_nn (D : CD) (s e : Str) : 0 ≤ D.len s e := by
  unfold CD.len
  split
  · exact rt_nn (Int.add_nonneg (sq0 _) (sq0 _))
  · exact Int.le_refl 0
def bg (D : CD) (ns : List Str) : Nat → Int
  | 0 => 0
  | j + 1 => bg D ns j + D.len (rn ns j) (rn ns (j + 1))
theorem bg_step (D : CD) (ns : List Str) (j : Nat) : bg D ns j ≤ bg D ns (j + 1) := by
  have := D.len_nn (rn ns j) (rn ns (j + 1))
  show bg D ns j ≤ bg D ns j + _
  omega
theorem bg_mono (D : CD) (ns : List Str) {i j : Nat} (h : i ≤ j) : bg D ns i ≤ bg D ns j := by
  induction j with
  | zero => rw [show i = 0 by omega]; exact Int.le_refl _
  | succ j ih =>
    by_cases e : i = j + 1
    · rw [e]; exact Int.le_refl _
    · exact Int.le_trans (ih (by omega)) (bg_step D ns j)
theorem bg_nn (D : CD) (ns : List Str) (j : Nat) : 0 ≤ bg D ns j := bg_mono D ns (Nat.zero_le j)
def CD.xy (D : CD) (s : Str) : Int × Int := match D.pt s with
  | some (_, x, y) => (x, y)
  | none => (0, 0)
theorem CD.xy_eq {D : CD} {s : Str} {a : Addr} {x y : Int} (h : D.pt s = some (a, x, y)) : D.xy s = (x, y) := by
  unfold CD.xy
  rw [h]
def Bd (D : CD) : Prop := ∀ s, -100000 ≤ (D.xy s).1 ∧ (D.xy s).1 ≤ 100000 ∧ -100000 ≤ (D.xy s).2 ∧ (D.xy s).2 ≤ 100000
theorem ChartAt.bd {H : Hp} {ch : Addr} {D : CD} (C : ChartAt H ch D) : Bd D := by
  intro s
  unfold CD.xy
  split
  · rename_i a x y h
    exact (C.pf s a x y h).2.2
  · exact ⟨by decide, by decide, by decide, by decide⟩
theorem CD.len_le {D : CD} (b : Bd D) (s e : Str) : D.len s e ≤ 300000 := by
  unfold CD.len
  split
  · rename_i a ax ay a' bx by' h1 h2
    have b1 := b s
    have b2 := b e
    rw [CD.xy_eq h1] at b1
    rw [CD.xy_eq h2] at b2
    dsimp only at b1 b2
    refine rt_small (Int.add_nonneg (sq0 _) (sq0 _)) (by decide) ?_
    have e1 := sq_le (show -200000 ≤ bx - ax by omega) (show bx - ax ≤ 200000 by omega)
    have e2 := sq_le (show -200000 ≤ by' - ay by omega) (show by' - ay ≤ 200000 by omega)
    omega
  · decide
theorem bg_le {D : CD} (b : Bd D) (ns : List Str) (j : Nat) : bg D ns j ≤ 300000 * (j : Int) := by
  induction j with
  | zero => exact Int.le_refl 0
  | succ j ih =>
    have := D.len_le b (rn ns j) (rn ns (j + 1))
    show bg D ns j + _ ≤ _
    omega
/-- the leg to which p belongs, of the first m + 1 -/
def lat (D : CD) (ns : List Str) (m : Nat) (p : Int) : Nat := ((List.range m).find? fun i => decide (p < bg D ns (i + 1))).getD m
theorem find_range {q : Nat → Bool} {m k : Nat} (hk : k < m) (h1 : q k = true) (h0 : ∀ i, i < k → q i = false) : (List.range m).find? q = some k := by
  have e : List.range m = List.range k ++ (List.range (m - k)).map (k + ·) := by
    rw [← List.range_add, Nat.add_sub_cancel' (Nat.le_of_lt hk)]
  rw [e, List.find?_append]
  have a : (List.range k).find? q = none := List.find?_eq_none.mpr fun i hi => by rw [h0 i (List.mem_range.mp hi)]; simp
  rw [a]
  obtain ⟨z, hz⟩ : ∃ z, m - k = z + 1 := ⟨m - k - 1, by omega⟩
  rw [hz, List.range_succ_eq_map]
  simp [h1]
theorem find_none {q : Nat → Bool} {m : Nat} (h0 : ∀ i, i < m → q i = false) : (List.range m).find? q = none :=
  List.find?_eq_none.mpr fun i hi => by rw [h0 i (List.mem_range.mp hi)]; simp
theorem lat_cases (D : CD) (ns : List Str) (m : Nat) (p : Int) : (lat D ns m p ≤ m) ∧ (∀ i, i < lat D ns m p → bg D ns (i + 1) ≤ p) ∧ (lat D ns m p < m → p < bg D ns (lat D ns m p + 1)) := by
  unfold lat
  cases h : (List.range m).find? fun i => decide (p < bg D ns (i + 1)) with
  | none =>
    have h0 := List.find?_eq_none.mp h
    refine ⟨Nat.le_refl m, fun i hi => ?_, fun z => absurd z (Nat.lt_irrefl m)⟩
    have hi : i < m := hi
    have := h0 i (List.mem_range.mpr hi)
    simp at this
    exact this
  | some k =>
    have h1 := List.find?_some h
    have h2 := List.mem_of_find?_eq_some h
    have hk := List.mem_range.mp h2
    refine ⟨Nat.le_of_lt hk, fun i hi => ?_, fun _ => of_decide_eq_true h1⟩
    have hi : i < k := hi
    by_cases e : p < bg D ns (i + 1)
    · exfalso
      have : (List.range m).find? (fun i => decide (p < bg D ns (i + 1))) = some ((List.range (i + 1)).find? (fun i => decide (p < bg D ns (i + 1)))).get! := by
        have e2 : List.range m = List.range (i + 1) ++ (List.range (m - (i + 1))).map ((i + 1) + ·) := by rw [← List.range_add, Nat.add_sub_cancel' (show i + 1 ≤ m by omega)]
        rw [e2, List.find?_append]
        cases w : (List.range (i + 1)).find? fun i => decide (p < bg D ns (i + 1)) with
        | some z => rfl
        | none =>
          have := List.find?_eq_none.mp w i (List.mem_range.mpr (Nat.lt_succ_self i))
          simp [e] at this
      rw [h] at this
      cases w : (List.range (i + 1)).find? fun i => decide (p < bg D ns (i + 1)) with
      | none =>
        have := List.find?_eq_none.mp w i (List.mem_range.mpr (Nat.lt_succ_self i))
        simp [e] at this
      | some z =>
        rw [w] at this
        have hz := List.mem_range.mp (List.mem_of_find?_eq_some w)
        have : k = z := Option.some.inj this
        omega
    · omega
theorem lat_eq {D : CD} {ns : List Str} {m k : Nat} {p : Int} (hk : k ≤ m) (h0 : ∀ i, i < k → bg D ns (i + 1) ≤ p) (h1 : k < m → p < bg D ns (k + 1)) : lat D ns m p = k := by
  obtain ⟨a, b, c⟩ := lat_cases D ns m p
  rcases Nat.lt_trichotomy (lat D ns m p) k with h | h | h
  · have := c (by omega)
    have := h0 _ h
    omega
  · exact h
  · have := b k h
    have := h1 (by omega)
    omega
theorem lat_succ (D : CD) (ns : List Str) (m : Nat) (p : Int) : lat D ns (m + 1) p = if bg D ns (m + 1) ≤ p then m + 1 else lat D ns m p := by
  obtain ⟨a, b, c⟩ := lat_cases D ns m p
  split
  · rename_i h
    exact lat_eq (Nat.le_refl _) (fun i hi => Int.le_trans (bg_mono D ns (show i + 1 ≤ m + 1 by omega)) h) (fun z => absurd z (Nat.lt_irrefl _))
  · rename_i h
    refine lat_eq (by omega) b fun _ => ?_
    by_cases e : lat D ns m p < m
    · exact c e
    · rw [show lat D ns m p = m by omega]
      omega
/-- place on leg k -/
def plc (D : CD) (ns : List Str) (k : Nat) (p : Int) : List Int :=
  let a := D.xy (rn ns k)
  let b := D.xy (rn ns (k + 1))
  let n := D.len (rn ns k) (rn ns (k + 1))
  [a.1 * n + (b.1 - a.1) * (p - bg D ns k), a.2 * n + (b.2 - a.2) * (p - bg D ns k)]
def seg (D : CD) (ns : List Str) (k : Nat) (s e : Int) : List Int := plc D ns k s ++ (plc D ns k e ++ [D.len (rn ns k) (rn ns (k + 1))])
def segOf (D : CD) (ns : List Str) (f l : Int) (k : Nat) : Option (List Int) :=
  let s := if bg D ns k > f then bg D ns k else f
  let e := if bg D ns (k + 1) < l then bg D ns (k + 1) else l
  if s < e then some (seg D ns k s e) else none
def segsOf (D : CD) (ns : List Str) (f l : Int) (ks : List Nat) : List (List Int) := ks.filterMap (segOf D ns f l)
theorem segOf_none {D : CD} {ns : List Str} {f l : Int} {k : Nat} (h : bg D ns (k + 1) ≤ f ∨ l ≤ bg D ns k) : segOf D ns f l k = none := by
  unfold segOf
  dsimp only
  rw [if_neg]
  split <;> split <;> omega
theorem segs_eq {D : CD} {ns : List Str} {f l : Int} {m : Nat} (hfl : f ≤ l) (h : lat D ns m f ≤ lat D ns m l) : segsOf D ns f l (List.range (m + 1)) = segsOf D ns f l ((List.range (lat D ns m l + 1 - lat D ns m f)).map (lat D ns m f + ·)) := by
  obtain ⟨a1, b1, c1⟩ := lat_cases D ns m f
  obtain ⟨a2, b2, c2⟩ := lat_cases D ns m l
  generalize lat D ns m f = u at *
  generalize lat D ns m l = v at *
  have e1 : List.range (m + 1) = List.range u ++ ((List.range (v + 1 - u)).map (u + ·) ++ (List.range (m - v)).map ((v + 1) + ·)) := by
    have x1 : List.range (m + 1) = List.range (v + 1) ++ (List.range (m - v)).map ((v + 1) + ·) := by rw [← List.range_add]; congr 1; omega
    have x2 : List.range (v + 1) = List.range u ++ (List.range (v + 1 - u)).map (u + ·) := by rw [← List.range_add]; congr 1; omega
    rw [x1, x2, List.append_assoc]
  unfold segsOf
  rw [e1, List.filterMap_append, List.filterMap_append]
  have n1 : (List.range u).filterMap (segOf D ns f l) = [] := List.filterMap_eq_nil_iff.mpr fun k hk => segOf_none (.inl (b1 k (List.mem_range.mp hk)))
  have n2 : ((List.range (m - v)).map ((v + 1) + ·)).filterMap (segOf D ns f l) = [] := List.filterMap_eq_nil_iff.mpr fun k hk => by
    obtain ⟨z, hz, rfl⟩ := List.mem_map.mp hk
    have := c2 (by have := List.mem_range.mp hz; omega)
    exact segOf_none (.inr (Int.le_trans (Int.le_of_lt this) (bg_mono D ns (by omega))))
  rw [n1, n2, List.nil_append, List.append_nil]
theorem lat_mono (D : CD) (ns : List Str) (m : Nat) {p q : Int} (h : p ≤ q) : lat D ns m p ≤ lat D ns m q := by
  obtain ⟨a1, b1, c1⟩ := lat_cases D ns m p
  obtain ⟨a2, b2, c2⟩ := lat_cases D ns m q
  rcases Nat.lt_or_ge (lat D ns m q) (lat D ns m p) with w | w
  · have x := b1 _ w
    have y := c2 (by omega)
    omega
  · exact w
/-- the piece, as the document says it -/
def pcs (D : CD) (ns : List Str) (low high : Int) : List (List Int) :=
  let L := ns.length - 1
  let t := bg D ns L
  if high < 0 ∨ t ≤ low then [] else
  let f := if 0 > low then 0 else low
  let l := if t < high then t else high
  if f = l then [seg D ns (lat D ns (L - 1) f) f f] else segsOf D ns f l (List.range L)
/-! lists of tuples of ints -/
def LoT (H : Hp) (l : Addr) (xss : List (List Int)) : Prop := ∃ qs : List (Addr × List Int), H l = some (.lst (qs.map fun q => V.ref q.1)) ∧ (∀ q ∈ qs, H q.1 = some (.tup (q.2.map V.int))) ∧ qs.map (·.2) = xss
theorem LoT.same {H H' : Hp} {l : Addr} {xss : List (List Int)} (L : LoT H l xss) (e : Same H H') : LoT H' l xss := let ⟨qs, h1, h2, h3⟩ := L; ⟨qs, e _ _ h1, fun q h => e _ _ (h2 q h), h3⟩
theorem LoT.keep {K : PySem.W.Frag} {H H' : Hp} {d c l : Addr} {xss : List (List Int)} (L : LoT H l xss) (S : St1 K H d c) (k : Keep d H H') : LoT H' l xss := let ⟨qs, h1, h2, h3⟩ := L; ⟨qs, k.l S h1, fun q h => k.t S (h2 q h), h3⟩
theorem LoT.li {H : Hp} {l : Addr} {xss : List (List Int)} (L : LoT H l xss) : ∃ xs : List V, H l = some (.lst xs) ∧ xs.length = xss.length := let ⟨qs, h1, _, h3⟩ := L; ⟨_, h1, by rw [List.length_map, ← h3, List.length_map]⟩
theorem LoT.snoc {H : Hp} {l p : Addr} {xss : List (List Int)} {xs : List Int} {ys : List V} (L : LoT H l xss) (hl : H l = some (.lst ys)) (hp : H p = some (.tup (xs.map V.int))) : LoT (upd H l (.lst (ys ++ [.ref p]))) l (xss ++ [xs]) := by
  obtain ⟨qs, h1, h2, h3⟩ := L
  rw [h1] at hl
  cases hl
  refine ⟨qs ++ [(p, xs)], by rw [upd_same, List.map_append]; rfl, fun q hq => ?_, by rw [List.map_append, h3]; rfl⟩
  have ht : H q.1 = some (.tup (q.2.map V.int)) := by
    rcases List.mem_append.mp hq with h | h
    · exact h2 q h
    · rw [List.mem_singleton.mp h]; exact hp
  rw [upd_ne (ne_of ht h1 (by intro e; cases e))]
  exact ht
theorem LoT.nil {H : Hp} {l : Addr} (h : H l = some (.lst [])) : LoT H l [] := ⟨[], h, (fun _ h => nomatch h), rfl⟩
def pdT (xs : List Int) : PyData := .tuple (xs.map PyData.int)
theorem dpAll_int {K : PySem.W.Frag} {H : Hp} : ∀ xs : List Int, DpAll K H (xs.map V.int) (xs.map PyData.int)
  | [] => .nil
  | x :: xs => .cons (.int x) (dpAll_int xs)
theorem LoT.dp {K : PySem.W.Frag} {H : Hp} {l : Addr} {xss : List (List Int)} (L : LoT H l xss) : Dp K H (.ref l) (.list (xss.map pdT)) := by
  obtain ⟨qs, h1, h2, rfl⟩ := L
  refine .lst (.inl (.inl h1)) ?_
  clear h1
  induction qs with
  | nil => exact .nil
  | cons q qs ih =>
    refine .cons (.tup (.inl (.inl (h2 q List.mem_cons_self))) (dpAll_int _)) (ih fun z hz => h2 z (List.mem_cons_of_mem _ hz))
/-! a path's object -/
def pfl (r l1 l2 l3 l4 : Addr) : List (Str × V) := [("_route", .ref r), ("_legs", .ref l1), ("_starts", .ref l2), ("_vectors", .ref l3), ("_begins", .ref l4)]
section
variable {r l1 l2 l3 l4 : Addr}
theorem pf1 : (pfl r l1 l2 l3 l4).lookup ("_route" : Str) = some (.ref r) := by rfl
theorem pf2 : (pfl r l1 l2 l3 l4).lookup ("_legs" : Str) = some (.ref l1) := by rfl
theorem pf3 : (pfl r l1 l2 l3 l4).lookup ("_starts" : Str) = some (.ref l2) := by rfl
theorem pf4 : (pfl r l1 l2 l3 l4).lookup ("_vectors" : Str) = some (.ref l3) := by rfl
theorem pf5 : (pfl r l1 l2 l3 l4).lookup ("_begins" : Str) = some (.ref l4) := by rfl
end
structure PathP (C : Addr) (H : Hp) (p : Addr) (D : CD) (ns : List Str) (r : Addr) (i : Nat) (dx l1 l2 l3 l4 : Addr) (sa va : List Addr) : Prop where
  ob : H p = some (.ins C dx (pfl r l1 l2 l3 l4))
  rt : H r = some (.tup (ns.map V.str))
  lg : H l1 = some (.lst ((List.range i).map fun j => optL (D.leg (rn ns j) (rn ns (j + 1)))))
  st : H l2 = some (.lst (sa.map V.ref))
  ve : H l3 = some (.lst (va.map V.ref))
  bgn : H l4 = some (.lst ((List.range (i + 1)).map fun j => V.int (bg D ns j)))
  sl : sa.length = i
  vl : va.length = i
  sx : ∀ j (h : j < sa.length), H sa[j] = some (.tup [.int (D.xy (rn ns j)).1, .int (D.xy (rn ns j)).2])
  vx : ∀ j (h : j < va.length), H va[j] = some (.tup [.int ((D.xy (rn ns (j + 1))).1 - (D.xy (rn ns j)).1), .int ((D.xy (rn ns (j + 1))).2 - (D.xy (rn ns j)).2), .int (D.len (rn ns j) (rn ns (j + 1)))])
  d12 : l1 ≠ l2
  d13 : l1 ≠ l3
  d14 : l1 ≠ l4
  d23 : l2 ≠ l3
  d24 : l2 ≠ l4
  d34 : l3 ≠ l4
theorem PathP.same {C p r dx l1 l2 l3 l4 : Addr} {H H' : Hp} {D : CD} {ns : List Str} {i : Nat} {sa va : List Addr} (P : PathP C H p D ns r i dx l1 l2 l3 l4 sa va) (e : Same H H') : PathP C H' p D ns r i dx l1 l2 l3 l4 sa va :=
  { P with ob := e _ _ P.ob, rt := e _ _ P.rt, lg := e _ _ P.lg, st := e _ _ P.st, ve := e _ _ P.ve, bgn := e _ _ P.bgn, sx := fun j h => e _ _ (P.sx j h), vx := fun j h => e _ _ (P.vx j h) }
theorem PathP.keep {K : PySem.W.Frag} {C p r dx l1 l2 l3 l4 d c : Addr} {H H' : Hp} {D : CD} {ns : List Str} {i : Nat} {sa va : List Addr} (P : PathP C H p D ns r i dx l1 l2 l3 l4 sa va) (S : St1 K H d c) (k : Keep d H H') : PathP C H' p D ns r i dx l1 l2 l3 l4 sa va :=
  { P with ob := k _ _ P.ob (let ⟨_, w⟩ := S.dk; ne_of P.ob w (by intro z; cases z)), rt := k.t S P.rt, lg := k.l S P.lg, st := k.l S P.st, ve := k.l S P.ve, bgn := k.l S P.bgn, sx := fun j h => k.t S (P.sx j h), vx := fun j h => k.t S (P.vx j h) }
def PathAt (C : Addr) (H : Hp) (p : Addr) (D : CD) (ns : List Str) (r : Addr) : Prop := ∃ dx l1 l2 l3 l4 sa va, PathP C H p D ns r (ns.length - 1) dx l1 l2 l3 l4 sa va
theorem PathAt.same {C p r : Addr} {H H' : Hp} {D : CD} {ns : List Str} (P : PathAt C H p D ns r) (e : Same H H') : PathAt C H' p D ns r := let ⟨_, _, _, _, _, _, _, P⟩ := P; ⟨_, _, _, _, _, _, _, P.same e⟩
theorem PathAt.keep {K : PySem.W.Frag} {C p r d c : Addr} {H H' : Hp} {D : CD} {ns : List Str} (P : PathAt C H p D ns r) (S : St1 K H d c) (k : Keep d H H') : PathAt C H' p D ns r := let ⟨_, _, _, _, _, _, _, P⟩ := P; ⟨_, _, _, _, _, _, _, P.keep S k⟩
/-- what the class has -/
structure PathY (K : PySem.W.Frag) (mg : Str → Option Value) (C : Addr) : Prop where
  cl : Cls K C
  n1 : NoAttr K C "_route"
  n2 : NoAttr K C "_legs"
  n3 : NoAttr K C "_starts"
  n4 : NoAttr K C "_vectors"
  n5 : NoAttr K C "_begins"
/-! promises of the methods -/
def spTotal (C : Addr) : Sp := fun vs H Q _ => ∃ (p r dx l1 l2 l3 l4 : Addr) (D : CD) (ns : List Str) (i : Nat), vs = [.ref p] ∧ H p = some (.ins C dx (pfl r l1 l2 l3 l4)) ∧ H l4 = some (.lst ((List.range (i + 1)).map fun j => V.int (bg D ns j))) ∧ Q (.int (bg D ns i)) H
def spLegAt (C : Addr) : Sp := fun vs H Q _ => ∃ (p r : Addr) (D : CD) (ns : List Str) (x : Int), vs = [.ref p, .int x] ∧ PathAt C H p D ns r ∧ 2 ≤ ns.length ∧ ns.length ≤ 20 ∧ Q (.int (lat D ns (ns.length - 1 - 1) x : Nat)) H
def spBegin (C : Addr) : Sp := fun vs H Q _ => ∃ (p r : Addr) (D : CD) (ns : List Str) (j : Nat) (z : Int), vs = [.ref p, .int z] ∧ z = (j : Int) ∧ PathAt C H p D ns r ∧ j ≤ ns.length - 1 ∧ Q (.int (bg D ns j)) H
def spLegI (C : Addr) : Sp := fun vs H Q _ => ∃ (p r : Addr) (D : CD) (ns : List Str) (j : Nat) (z : Int), vs = [.ref p, .int z] ∧ z = (j : Int) ∧ PathAt C H p D ns r ∧ j < ns.length - 1 ∧ Q (optL (D.leg (rn ns j) (rn ns (j + 1)))) H
def spVec (C : Addr) : Sp := fun vs H Q _ => ∃ (p r : Addr) (D : CD) (ns : List Str) (j : Nat) (z : Int), vs = [.ref p, .int z] ∧ z = (j : Int) ∧ PathAt C H p D ns r ∧ j < ns.length - 1 ∧
  ∀ v, H v = some (.tup [.int ((D.xy (rn ns (j + 1))).1 - (D.xy (rn ns j)).1), .int ((D.xy (rn ns (j + 1))).2 - (D.xy (rn ns j)).2), .int (D.len (rn ns j) (rn ns (j + 1)))]) → Q (.ref v) H
def spRoute (C : Addr) : Sp := fun vs H Q _ => ∃ (p r : Addr) (D : CD) (ns : List Str), vs = [.ref p] ∧ PathAt C H p D ns r ∧ Q (.ref r) H
def spPoint (C : Addr) : Sp := fun vs H Q _ => ∃ (p r : Addr) (D : CD) (ns : List Str) (j : Nat) (z x : Int), vs = [.ref p, .int z, .int x] ∧ z = (j : Int) ∧ PathAt C H p D ns r ∧ Bd D ∧ j < ns.length - 1 ∧ ∀ q H', H q = none → Same H H' → H' q = some (.tup ((plc D ns j x).map V.int)) → Q (.ref q) H'
def spSeg (C : Addr) : Sp := fun vs H Q _ => ∃ (p r : Addr) (D : CD) (ns : List Str) (j : Nat) (z s e : Int), vs = [.ref p, .int z, .int s, .int e] ∧ z = (j : Int) ∧ PathAt C H p D ns r ∧ Bd D ∧ j < ns.length - 1 ∧ ∀ q H', H q = none → Same H H' → H' q = some (.tup ((seg D ns j s e).map V.int)) → Q (.ref q) H'
def spSegs (C : Addr) : Sp := fun vs H Q _ => ∃ (p r : Addr) (D : CD) (ns : List Str) (f l : Int), vs = [.ref p, .int f, .int l] ∧ PathAt C H p D ns r ∧ Bd D ∧ 2 ≤ ns.length ∧ ns.length ≤ 20 ∧ f ≤ l ∧
  ∀ q H', H q = none → Same H H' → LoT H' q (segsOf D ns f l (List.range (ns.length - 1))) → Q (.ref q) H'
def spPlace (C : Addr) : Sp := fun vs H Q _ => ∃ (p r : Addr) (D : CD) (ns : List Str) (x : Int), vs = [.ref p, .int x] ∧ PathAt C H p D ns r ∧ Bd D ∧ 2 ≤ ns.length ∧ ns.length ≤ 20 ∧
  ∀ q H', H q = none → Same H H' → H' q = some (.tup ((plc D ns (lat D ns (ns.length - 1 - 1) x) x ++ [D.len (rn ns (lat D ns (ns.length - 1 - 1) x)) (rn ns (lat D ns (ns.length - 1 - 1) x + 1))]).map V.int)) → Q (.ref q) H'
def spPiece (C : Addr) : Sp := fun vs H Q _ => ∃ (p r : Addr) (D : CD) (ns : List Str) (f l : Int), vs = [.ref p, .int f, .int l] ∧ PathAt C H p D ns r ∧ Bd D ∧ 2 ≤ ns.length ∧ ns.length ≤ 20 ∧ f ≤ l ∧
  ∀ q H', H q = none → Same H H' → LoT H' q (pcs D ns f l) → Q (.ref q) H'
def spJoin (C : Addr) : Sp := fun vs H Q _ => ∃ (p ch r dx l1 l2 l3 l4 : Addr) (D : CD) (ns : List Str) (i : Nat) (sa va : List Addr), vs = [.ref p, .ref ch, .str (rn ns i), .str (rn ns (i + 1))] ∧ ChartAt H ch D ∧ PathP C H p D ns r i dx l1 l2 l3 l4 sa va ∧
  (∃ l, D.leg (rn ns i) (rn ns (i + 1)) = some l) ∧ i ≤ 20 ∧ ∀ (s v : Addr) H', PathP C H' p D ns r (i + 1) dx l1 l2 l3 l4 (sa ++ [s]) (va ++ [v]) → (∀ b o, H b = some o → b ≠ l1 → b ≠ l2 → b ≠ l3 → b ≠ l4 → H' b = some o) → Q .non H'
def spPInit (C : Addr) : Sp := fun vs H Q _ => ∃ (p ch r dx : Addr) (D : CD) (ns : List Str), vs = [.ref p, .ref ch, .ref r] ∧ H p = some (.ins C dx []) ∧ ChartAt H ch D ∧ H r = some (.tup (ns.map V.str)) ∧ Route D ns ∧
  ∀ H', PathAt C H' p D ns r → (∀ b o, H b = some o → b ≠ p → H' b = some o) → Q .non H'
theorem ChartAt.fr {H H' : Hp} {ch p C dx : Addr} {fs : List (Str × V)} {D : CD} (Q : ChartAt H ch D) (hp : H p = some (.ins C dx fs)) (e : ∀ b o, H b = some o → b ≠ p → H' b = some o) : ChartAt H' ch D := by
  have e' : ∀ b o, H b = some o → (∀ C dx fs, o ≠ .ins C dx fs) → H' b = some o := fun b o h n => e b o h (ne_of h hp (n _ _ _))
  obtain ⟨⟨kvs, h1, h2, h3⟩, h4, h5, h6, h7, h8, h8', h9⟩ := Q
  exact ⟨⟨kvs, e' _ _ h1 (by intro _ _ _ z; cases z), h2, h3⟩, e' _ _ h4 (by intro _ _ _ z; cases z), e' _ _ h5 (by intro _ _ _ z; cases z), fun l hl => e' _ _ (h6 l hl) (by intro _ _ _ z; cases z),
    fun n a x y hp => let ⟨p1, p2, p3⟩ := h7 n a x y hp; ⟨p1, e' _ _ p2 (by intro _ _ _ z; cases z), p3⟩, h8, h8', h9⟩
/-! a class of the text, ready to be made -/
structure CDef (P : Program) (w : World) (K : PySem.W.Frag) (mg : Str → Option Value) (base : Heap) (k : Nat) (C : Addr) (x : Str) (ps : List Str) (sp : Sp) : Prop where
  ex : ∃ (f : Addr) (fd : FuncData), FnOk P w K mg base CX0 k f fd ps sp ∧ Mk K C f ∧ mg x = some (.ref C) ∧ Binds K fd ps []
theorem pe_cdef {X : Cx} {k : Nat} {C : Addr} {x : Str} {ps : List Str} {sp : Sp} {p pos : Pos} {e : Expr} {es : List Expr} {t : TA} (D : CDef X.prog X.w X.K X.mg X.base k C x ps sp) (hr : Room (k + 1) X.A) (hg : Gl X x)
    (ha : PA X (e :: es) t) (hdb : (x == ("__debug__" : Str)) = false := by decide) (he : starEach (e :: es) X.env = (false, eval e X.env) :: starEach es X.env := by rfl) (hpl : (backTo pos (starEach es X.env)).any (·.1) = false := by rfl) :
    PE X (.Call (.Name x p) (e :: es) [] pos) (tMake C sp [] E0 t) := by
  obtain ⟨f, fd, F, M, m, b⟩ := D.ex
  exact pe_make M F hr hg m b .nil pass0 ha hdb he hpl
/-! what the law's own defs promise -/
def bgs (D : CD) (ns : List Str) : List Int := (List.range ns.length).map (bg D ns)
theorem bgs_at {D : CD} {ns : List Str} {j : Nat} (h : j < ns.length) : ((bgs D ns).map V.int)[j]? = some (.int (bg D ns j)) := by
  unfold bgs
  rw [List.getElem?_map, List.getElem?_map, List.getElem?_range h]
  rfl
theorem bgs_len {D : CD} {ns : List Str} : ((bgs D ns).map V.int).length = ns.length := by
  unfold bgs
  rw [List.length_map, List.length_map, List.length_range]
theorem bgs_last {D : CD} {ns : List Str} (h : 0 < ns.length) : ((bgs D ns).map V.int).getLast? = some (.int (bg D ns (ns.length - 1))) := by
  rw [List.getLast?_eq_getElem?, bgs_len]
  exact bgs_at (by omega)
def spBegins : Sp := fun vs H Q _ => ∃ (ld r : Addr) (D : CD) (ns : List Str), vs = [.ref ld, .ref r] ∧ LenAt H ld D ∧ H r = some (.tup (ns.map V.str)) ∧ Route D ns ∧ ∀ b H', H b = none → Same H H' → H' b = some (.lst ((bgs D ns).map V.int)) → Q (.ref b) H'
def spLawLegAt : Sp := fun vs H Q _ => ∃ (b : Addr) (x : Int) (D : CD) (ns : List Str), vs = [.ref b, .int x] ∧ H b = some (.lst ((bgs D ns).map V.int)) ∧ 2 ≤ ns.length ∧ ns.length ≤ 20 ∧ Q (.int (lat D ns (ns.length - 1 - 1) x : Nat)) H
def spPlaceOn : Sp := fun vs H Q _ => ∃ (ch r b : Addr) (z x : Int) (D : CD) (ns : List Str) (k : Nat), vs = [.ref ch, .ref r, .ref b, .int z, .int x] ∧ z = (k : Int) ∧ ChartAt H ch D ∧ H r = some (.tup (ns.map V.str)) ∧ H b = some (.lst ((bgs D ns).map V.int)) ∧ Route D ns ∧ k + 1 < ns.length ∧
  ∀ q H', H q = none → Same H H' → H' q = some (.tup ((plc D ns k x ++ [D.len (rn ns k) (rn ns (k + 1))]).map V.int)) → Q (.ref q) H'
def spLawPiece : Sp := fun vs H Q _ => ∃ (ch r b : Addr) (f l : Int) (D : CD) (ns : List Str), vs = [.ref ch, .ref r, .ref b, .int f, .int l] ∧ ChartAt H ch D ∧ H r = some (.tup (ns.map V.str)) ∧ H b = some (.lst ((bgs D ns).map V.int)) ∧ Route D ns ∧ f ≤ l ∧
  ∀ q H', H q = none → Same H H' → LoT H' q (pcs D ns f l) → Q (.ref q) H'
def spRight (C : Addr) : Sp := fun vs H Q _ => ∃ (p ch ld r : Addr) (D : CD) (ns : List Str), vs = [.ref p, .ref ch, .ref ld, .ref r] ∧ PathAt C H p D ns r ∧ ChartAt H ch D ∧ LenAt H ld D ∧ Route D ns ∧ ∀ H', Same H H' → Q (.bl true) H'
def spProgress (K : PySem.W.Frag) : Sp := fun vs H Q _ => ∃ (d c b : Addr) (D : CD) (ns : List Str), vs = [.ref d, .ref b] ∧ St1 K H d c ∧ H b = some (.lst ((bgs D ns).map V.int)) ∧ Bd D ∧ 2 ≤ ns.length ∧ ns.length ≤ 20 ∧ ∀ z H', St1 K H' d c → Keep d H H' → Q (.int z) H'
def spAreNum : Sp := fun vs H Q _ => ∃ (l : Addr) (xss : List (List Int)), vs = [.ref l] ∧ LoT H l xss ∧ xss.length ≤ 100 ∧ (∀ xs ∈ xss, xs.length ≤ 100) ∧ ∀ H', Same H H' → Q (.bl true) H'
theorem segsOf_len (D : CD) (ns : List Str) (f l : Int) (ks : List Nat) : (segsOf D ns f l ks).length ≤ ks.length := List.length_filterMap_le _ _
theorem pcs_len (D : CD) (ns : List Str) (f l : Int) : (pcs D ns f l).length ≤ ns.length + 1 := by
  unfold pcs
  dsimp only
  generalize (if 0 > f then 0 else f) = u
  generalize (if bg D ns (ns.length - 1) < l then bg D ns (ns.length - 1) else l) = v
  split
  · exact Nat.zero_le _
  · split
    · show 1 ≤ _
      omega
    · have := segsOf_len D ns u v (List.range (ns.length - 1))
      rw [List.length_range] at this
      omega
theorem seg_len (D : CD) (ns : List Str) (k : Nat) (s e : Int) : (seg D ns k s e).length = 5 := rfl
theorem segOf_len {D : CD} {ns : List Str} {f l : Int} {k : Nat} {xs : List Int} (h : segOf D ns f l k = some xs) : xs.length = 5 := by
  unfold segOf at h
  dsimp only at h
  generalize (if bg D ns k > f then bg D ns k else f) = u at h
  generalize (if bg D ns (k + 1) < l then bg D ns (k + 1) else l) = v at h
  by_cases e : u < v
  · rw [if_pos e] at h
    rw [← Option.some.inj h, seg_len]
  · rw [if_neg e] at h
    cases h
theorem pcs_five (D : CD) (ns : List Str) (f l : Int) : ∀ xs ∈ pcs D ns f l, xs.length ≤ 100 := by
  unfold pcs
  dsimp only
  generalize (if 0 > f then 0 else f) = u
  generalize (if bg D ns (ns.length - 1) < l then bg D ns (ns.length - 1) else l) = v
  intro xs h
  split at h
  · cases h
  · split at h
    · rw [List.mem_singleton.mp h, seg_len]
      decide
    · obtain ⟨k, _, e⟩ := List.mem_filterMap.mp h
      rw [segOf_len e]
      decide
theorem Route.pt {H : Hp} {ch : Addr} {D : CD} {ns : List Str} (R : Route D ns) (C : ChartAt H ch D) {j : Nat} (h : j + 1 < ns.length) : (∃ a x y, D.pt (rn ns j) = some (a, x, y)) ∧ ∃ a x y, D.pt (rn ns (j + 1)) = some (a, x, y) := by
  obtain ⟨l, hl⟩ := R.ch j h
  obtain ⟨h1, h2, h3⟩ := CD.leg_mem hl
  have := C.wf l h1
  rw [h2, h3] at this
  exact this
/-! data that can be compared -/
theorem cla {xs : List PyData} (h : ∀ x ∈ xs, x.canLay0 = true) : PyData.canLayAll0 xs = true := by
  induction xs with
  | nil => rfl
  | cons x xs ih =>
    show (PyData.canLay0 x && PyData.canLayAll0 xs) = true
    rw [h x List.mem_cons_self, ih fun y hy => h y (List.mem_cons_of_mem _ hy)]
    rfl
theorem dpa {xs : List PyData} {n : Nat} (h : ∀ x ∈ xs, x.depth ≤ n) : PyData.depthAll xs ≤ n := by
  induction xs with
  | nil => exact Nat.zero_le _
  | cons x xs ih =>
    show max (PyData.depth x) (PyData.depthAll xs) ≤ n
    exact Nat.max_le.mpr ⟨h x List.mem_cons_self, ih fun y hy => h y (List.mem_cons_of_mem _ hy)⟩
theorem sh_of {d : PyData} (h1 : d.canLay0 = true) (h2 : d.depth ≤ 64) : SeqAt.shaped d = true := by
  unfold SeqAt.shaped
  rw [h1, decide_eq_true h2]
  rfl
theorem can_str {ns : List Str} (h : ∀ n ∈ ns, sOk n) : (PyData.tuple (ns.map PyData.str)).canLay0 = true := by
  show PyData.canLayAll0 _ = true
  refine cla fun x hx => ?_
  obtain ⟨n, hn, rfl⟩ := List.mem_map.mp hx
  exact h n hn
theorem sh_str {ns : List Str} (h : ∀ n ∈ ns, sOk n) : SeqAt.shaped (.tuple (ns.map PyData.str)) = true := by
  refine sh_of (can_str h) ?_
  show PyData.depthAll _ + 1 ≤ 64
  have : PyData.depthAll (ns.map PyData.str) ≤ 1 := dpa fun x hx => by
    obtain ⟨n, _, rfl⟩ := List.mem_map.mp hx
    exact Nat.zero_le _
  omega
theorem can_pd (xs : List Int) : (pdT xs).canLay0 = true := by
  show PyData.canLayAll0 _ = true
  refine cla fun x hx => ?_
  obtain ⟨n, hn, rfl⟩ := List.mem_map.mp hx
  rfl
theorem dep_pd (xs : List Int) : (pdT xs).depth ≤ 2 := by
  show PyData.depthAll _ + 1 ≤ 2
  have : PyData.depthAll (xs.map PyData.int) ≤ 1 := dpa fun x hx => by
    obtain ⟨n, _, rfl⟩ := List.mem_map.mp hx
    exact Nat.zero_le _
  omega
theorem sh_pd (xs : List Int) : SeqAt.shaped (pdT xs) = true := sh_of (can_pd xs) (Nat.le_trans (dep_pd xs) (by decide))
theorem can_pds (xss : List (List Int)) : (PyData.list (xss.map pdT)).canLay0 = true := by
  show PyData.canLayAll0 _ = true
  refine cla fun x hx => ?_
  obtain ⟨n, hn, rfl⟩ := List.mem_map.mp hx
  exact can_pd n
theorem sh_pds (xss : List (List Int)) : SeqAt.shaped (.list (xss.map pdT)) = true := by
  refine sh_of (can_pds xss) ?_
  show PyData.depthAll _ + 1 ≤ 64
  have : PyData.depthAll (xss.map pdT) ≤ 2 := dpa fun x hx => by
    obtain ⟨n, _, rfl⟩ := List.mem_map.mp hx
    exact dep_pd n
  omega
theorem dpAll_str {K : PySem.W.Frag} {H : Hp} : ∀ xs : List Str, DpAll K H (xs.map V.str) (xs.map PyData.str)
  | [] => .nil
  | x :: xs => .cons (.str x) (dpAll_str xs)
def pdL (l : Lg) : PyData := .tuple [.str l.s, .str l.e, .str l.c, .int l.lo, .int l.hi]
theorem can_lg {l : Lg} (h : sOk l.s ∧ sOk l.e ∧ sOk l.c) : (pdL l).canLay0 = true := by
  show (PyData.canLay0 (.str l.s) && (PyData.canLay0 (.str l.e) && (PyData.canLay0 (.str l.c) && (true && (true && true))))) = true
  have h1 : PyData.canLay0 (.str l.s) = true := h.1
  have h2 : PyData.canLay0 (.str l.e) = true := h.2.1
  have h3 : PyData.canLay0 (.str l.c) = true := h.2.2
  rw [h1, h2, h3]
  rfl
theorem dp_lg {K : PySem.W.Frag} {H : Hp} {l : Lg} (h : H l.a = some (.tup l.v)) : Dp K H (.ref l.a) (pdL l) := .tup (.inl (.inl h)) (.cons (.str _) (.cons (.str _) (.cons (.str _) (.cons (.int _) (.cons (.int _) .nil)))))
theorem sh_lg {l : Lg} (h : sOk l.s ∧ sOk l.e ∧ sOk l.c) : SeqAt.shaped (pdL l) = true := sh_of (can_lg h) (by
  show PyData.depthAll _ + 1 ≤ 64
  have : PyData.depthAll [.str l.s, .str l.e, .str l.c, .int l.lo, .int l.hi] ≤ 1 := dpa fun x hx => by
    simp only [List.mem_cons, List.not_mem_nil, or_false] at hx
    rcases hx with rfl | rfl | rfl | rfl | rfl <;> exact Nat.zero_le _
  omega)
theorem Route.sok {H : Hp} {ch : Addr} {D : CD} {ns : List Str} (R : Route D ns) (C : ChartAt H ch D) : ∀ n ∈ ns, sOk n := by
  intro n hn
  obtain ⟨j, hj, rfl⟩ := List.getElem_of_mem hn
  have e : ∀ i (h : i < ns.length), rn ns i = ns[i] := fun i h => by
    unfold rn
    rw [List.getD_eq_getElem?_getD, List.getElem?_eq_getElem h]
    rfl
  have n2 := R.n2
  by_cases h : j + 1 < ns.length
  · obtain ⟨l, hl⟩ := R.ch j h
    obtain ⟨h1, h2, _⟩ := CD.leg_mem hl
    have := (C.sk l h1).1
    rw [h2, e j hj] at this
    exact this
  · obtain ⟨i, rfl⟩ : ∃ i, j = i + 1 := ⟨j - 1, by omega⟩
    obtain ⟨l, hl⟩ := R.ch i hj
    obtain ⟨h1, _, h3⟩ := CD.leg_mem hl
    have := (C.sk l h1).2.1
    rw [h3, e (i + 1) hj] at this
    exact this
end Sk

set_option Elab.async false
set_option linter.all false
set_option maxRecDepth 100000
set_option maxHeartbeats 4000000
namespace Sk
open PySem PySem.Spec PyProof.Rows L2
abbrev WQ := Addr × Int × Int × Int × Int
def wv (q : WQ) : List V := [.int q.2.1, .int q.2.2.1, .int q.2.2.2.1, .int q.2.2.2.2]
def lb (t : Int) (qs : List WQ) : List WQ := qs.filter fun q => decide (q.2.1 ≤ t)
theorem lb_snoc (t : Int) (qs : List WQ) (q : WQ) : lb t (qs ++ [q]) = lb t qs ++ (if q.2.1 ≤ t then [q] else []) := by
  unfold lb
  rw [List.filter_append]
  congr 1
  by_cases h : q.2.1 ≤ t <;> simp [h]
structure WAt (H : Hp) (l : Addr) (qs : List WQ) : Prop where
  li : H l = some (.lst (qs.map fun q => V.ref q.1))
  tu : ∀ q ∈ qs, H q.1 = some (.tup (wv q))
  bd : ∀ q ∈ qs, -10001 ≤ q.2.2.1 ∧ q.2.2.1 ≤ 10001 ∧ -10001 ≤ q.2.2.2.1 ∧ q.2.2.2.1 ≤ 10001 ∧ 0 ≤ q.2.2.2.2 ∧ q.2.2.2.2 ≤ 10001
  hd : ∃ q r, qs = q :: r ∧ q.2.1 = 0
theorem WAt.keep {K : PySem.W.Frag} {d c l : Addr} {H H' : Hp} {qs : List WQ} (W : WAt H l qs) (S : St1 K H d c) (k : Keep d H H') : WAt H' l qs := ⟨k.l S W.li, fun q h => k.t S (W.tu q h), W.bd, W.hd⟩
theorem WAt.same {l : Addr} {H H' : Hp} {qs : List WQ} (W : WAt H l qs) (e : Same H H') : WAt H' l qs := ⟨e _ _ W.li, fun q h => e _ _ (W.tu q h), W.bd, W.hd⟩
theorem WAt.at {l : Addr} {H : Hp} {qs : List WQ} (W : WAt H l qs) {i : Nat} (h : i < qs.length) : (qs.map fun q => V.ref q.1)[i]? = some (.ref qs[i].1) := by simp [h]
theorem WAt.snoc {l : Addr} {H : Hp} {qs : List WQ} {q : WQ} (W : WAt H l qs) (hp : H q.1 = some (.tup (wv q))) (hb : -10001 ≤ q.2.2.1 ∧ q.2.2.1 ≤ 10001 ∧ -10001 ≤ q.2.2.2.1 ∧ q.2.2.2.1 ≤ 10001 ∧ 0 ≤ q.2.2.2.2 ∧ q.2.2.2.2 ≤ 10001) :
    WAt (upd H l (.lst ((qs.map fun q => V.ref q.1) ++ [.ref q.1]))) l (qs ++ [q]) := by
  refine ⟨by rw [upd_same, List.map_append]; rfl, fun z hz => ?_, fun z hz => ?_, ?_⟩
  · have ht : H z.1 = some (.tup (wv z)) := by
      rcases List.mem_append.mp hz with h | h
      · exact W.tu z h
      · rw [List.mem_singleton.mp h]; exact hp
    rw [upd_ne (ne_of ht W.li (by intro e; cases e))]
    exact ht
  · rcases List.mem_append.mp hz with h | h
    · exact W.bd z h
    · rw [List.mem_singleton.mp h]; exact hb
  · obtain ⟨q0, r, h, h0⟩ := W.hd
    exact ⟨q0, r ++ [q], by rw [h]; rfl, h0⟩

def ab (x : Int) : Int := if x < 0 then -x else x
theorem mul_ab {f e x : Int} (h0 : -e ≤ f) (h1 : f ≤ e) : -(e * ab x) ≤ f * x ∧ f * x ≤ e * ab x := by
  unfold ab
  split
  · rename_i h
    have a := Int.mul_le_mul_of_nonneg_right h1 (show 0 ≤ -x by omega)
    have b := Int.mul_le_mul_of_nonneg_right h0 (show 0 ≤ -x by omega)
    simp only [Int.mul_neg, Int.neg_mul, Int.neg_neg] at a b ⊢
    omega
  · rename_i h
    have a := Int.mul_le_mul_of_nonneg_right h1 (show 0 ≤ x by omega)
    have b := Int.mul_le_mul_of_nonneg_right h0 (show 0 ≤ x by omega)
    rw [Int.neg_mul] at b
    omega
def lo (dx dy n s sl wx wy e : Int) : Int := s - sl + (wx * dx + wy * dy - e * (ab dx + ab dy)) / n
def hi (dx dy n s sl wx wy e : Int) : Int := s + sl + (wx * dx + wy * dy + e * (ab dx + ab dy)) / n
def fp (dx dy n x y : Int) : Int := (x * dx + y * dy) / n
theorem div_mono {a b n : Int} (hn : 0 < n) (h : a ≤ b) : a / n ≤ b / n := Int.ediv_le_ediv hn h
def spWind (K : PySem.W.Frag) : Sp := fun vs H Q _ => ∃ (l : Addr) (t : Int) (qs : List WQ), vs = [.ref l, .int t] ∧ WAt H l qs ∧ 0 ≤ t ∧ ∀ q, (lb t qs).getLast? = some q → Q (.ref q.1) H
def spStep : Sp := fun vs H Q _ => ∃ (v w : Addr) (s sl dx dy n t wx wy e : Int), vs = [.ref v, .int s, .int sl, .ref w] ∧ H v = some (.tup [.int dx, .int dy, .int n]) ∧ H w = some (.tup [.int t, .int wx, .int wy, .int e]) ∧
  (-10000000 ≤ dx ∧ dx ≤ 10000000 ∧ -10000000 ≤ dy ∧ dy ≤ 10000000 ∧ -10000000 ≤ wx ∧ wx ≤ 10000000 ∧ -10000000 ≤ wy ∧ wy ≤ 10000000 ∧ -10000000 ≤ e ∧ e ≤ 10000000 ∧ 0 < n ∧ n ≤ 100000000) ∧
  ∀ p, H p = none → Q (.ref p) (upd H p (.tup [.int (lo dx dy n s sl wx wy e), .int (hi dx dy n s sl wx wy e)]))
end Sk

set_option Elab.async false
set_option linter.all false
set_option maxRecDepth 100000
set_option maxHeartbeats 4000000
namespace Sk
open PySem PySem.Spec PyProof.Rows L2
/-! next boxes: the mathematics -/
def clamp (lo hi x : Int) : Int := if hi < (if lo > x then lo else x) then hi else (if lo > x then lo else x)
def tgt (D : CD) (ns : List Str) (k : Nat) (x : Int) : Int :=
  let v := match D.leg (rn ns k) (rn ns (k + 1)) with | some l => clamp l.lo l.hi x | none => x
  if k + 2 < ns.length then match D.leg (rn ns (k + 1)) (rn ns (k + 2)) with | some l => clamp l.lo l.hi v | none => v else v
def PosR (D : CD) (ns : List Str) : Prop := ∀ j, j + 1 < ns.length → 1 ≤ D.len (rn ns j) (rn ns (j + 1))
theorem PosR.of {D : CD} {ns : List Str} (R : Route D ns) (h : ∀ l ∈ D.ls, 1 ≤ D.len l.s l.e) : PosR D ns := fun j hj => by
  obtain ⟨l, hl⟩ := R.ch j hj
  obtain ⟨h1, h2, h3⟩ := CD.leg_mem hl
  have := h l h1
  rw [h2, h3] at this
  exact this
theorem PosR.lt {D : CD} {ns : List Str} (p : PosR D ns) {j : Nat} (h : j + 1 < ns.length) : bg D ns j + 1 ≤ bg D ns (j + 1) := by
  have := p j h
  show _ ≤ bg D ns j + _
  omega
def lowest (a b x g : Int) : Int := if x < g then (if g < x + a then g else x + a) else (if g > x - b then g else x - b)
def highest (a b x g : Int) : Int := if x > g then (if g > x - a then g else x - a) else (if g < x + b then g else x + b)
def tow (x g r : Int) : Int := if x < g then (if g < x + r then g else x + r) else (if g > x - r then g else x - r)
theorem low_mem {a b x g : Int} : lowest a b x g = tow x g a ∨ lowest a b x g = tow x g b := by
  unfold lowest tow
  by_cases h : x < g
  · left; rw [if_pos h, if_pos h]
  · right; rw [if_neg h, if_neg h]
theorem low_le {a b x y g r : Int} (ha : 1 ≤ a) (hab : a ≤ b) (h : x ≤ y) (hr : r = a ∨ r = b) : lowest a b x g ≤ tow y g r := by
  unfold lowest tow
  rcases hr with rfl | rfl <;> (split <;> split <;> split <;> split <;> omega)
theorem high_mem {a b x g : Int} (ha : 1 ≤ a) (hab : a ≤ b) : highest a b x g = tow x g a ∨ highest a b x g = tow x g b := by
  unfold highest tow
  by_cases h : x > g
  · left; rw [if_pos h, if_neg (show ¬ x < g by omega)]
  · right
    by_cases e : x < g
    · rw [if_neg h, if_pos e]
    · rw [if_neg h, if_neg e, if_pos (show g < x + b by omega), if_pos (show g > x - b by omega)]
theorem high_le {a b x y g r : Int} (ha : 1 ≤ a) (hab : a ≤ b) (h : y ≤ x) (hr : r = a ∨ r = b) : tow y g r ≤ highest a b x g := by
  unfold highest tow
  rcases hr with rfl | rfl <;> (split <;> split <;> split <;> split <;> omega)
theorem low_mono {a b x y g : Int} (ha : 1 ≤ a) (hab : a ≤ b) (h : x ≤ y) : lowest a b x g ≤ lowest a b y g := by
  rcases low_mem (a := a) (b := b) (x := y) (g := g) with e | e <;> rw [e]
  · exact low_le ha hab h (.inl rfl)
  · exact low_le ha hab h (.inr rfl)
theorem high_mono {a b x y g : Int} (ha : 1 ≤ a) (hab : a ≤ b) (h : x ≤ y) : highest a b x g ≤ highest a b y g := by
  rcases high_mem (x := x) (g := g) ha hab with e | e <;> rw [e]
  · exact high_le ha hab h (.inl rfl)
  · exact high_le ha hab h (.inr rfl)
theorem low_high {a b x y g : Int} (ha : 1 ≤ a) (hab : a ≤ b) (h : x ≤ y) : lowest a b x g ≤ highest a b y g :=
  Int.le_trans (low_le ha hab (Int.le_refl x) (.inl rfl)) (high_le ha hab h (.inl rfl))
structure NextOf (lt : Int → Nat) (lf hf af : Nat → Int) (a b low high down up v0 v1 v2 v3 : Int) : Prop where
  e0 : ∃ p, low ≤ p ∧ p ≤ high ∧ v0 = p + lf (lt p)
  m0 : ∀ p, low ≤ p → p ≤ high → v0 ≤ p + lf (lt p)
  e1 : ∃ p, low ≤ p ∧ p ≤ high ∧ v1 = p + hf (lt p)
  m1 : ∀ p, low ≤ p → p ≤ high → p + hf (lt p) ≤ v1
  e2 : ∃ p, low ≤ p ∧ p ≤ high ∧ v2 = lowest a b down (af (lt p))
  m2 : ∀ p, low ≤ p → p ≤ high → v2 ≤ lowest a b down (af (lt p))
  e3 : ∃ p, low ≤ p ∧ p ≤ high ∧ v3 = highest a b up (af (lt p))
  m3 : ∀ p, low ≤ p → p ≤ high → highest a b up (af (lt p)) ≤ v3
section
variable {lt : Int → Nat} {lf hf af : Nat → Int} {a b low high down up v0 v1 v2 v3 : Int}
theorem NextOf.uniq {w0 w1 w2 w3 : Int} (X : NextOf lt lf hf af a b low high down up v0 v1 v2 v3) (Y : NextOf lt lf hf af a b low high down up w0 w1 w2 w3) : v0 = w0 ∧ v1 = w1 ∧ v2 = w2 ∧ v3 = w3 := by
  obtain ⟨p0, a0, b0, c0⟩ := X.e0
  obtain ⟨q0, d0, f0, g0⟩ := Y.e0
  obtain ⟨p1, a1, b1, c1⟩ := X.e1
  obtain ⟨q1, d1, f1, g1⟩ := Y.e1
  obtain ⟨p2, a2, b2, c2⟩ := X.e2
  obtain ⟨q2, d2, f2, g2⟩ := Y.e2
  obtain ⟨p3, a3, b3, c3⟩ := X.e3
  obtain ⟨q3, d3, f3, g3⟩ := Y.e3
  have := X.m0 q0 d0 f0
  have := Y.m0 p0 a0 b0
  have := X.m1 q1 d1 f1
  have := Y.m1 p1 a1 b1
  have := X.m2 q2 d2 f2
  have := Y.m2 p2 a2 b2
  have := X.m3 q3 d3 f3
  have := Y.m3 p3 a3 b3
  omega
theorem NextOf.inner {low' high' down' up' w0 w1 w2 w3 : Int} (X : NextOf lt lf hf af a b low high down up v0 v1 v2 v3) (Y : NextOf lt lf hf af a b low' high' down' up' w0 w1 w2 w3) (ha : 1 ≤ a) (hab : a ≤ b) (hlh : ∀ p, lf (lt p) ≤ hf (lt p))
    (h0 : low ≤ low') (h1 : high' ≤ high) (h2 : down ≤ down') (h3 : up' ≤ up) (h4 : down' ≤ up') : v0 ≤ w0 ∧ w0 ≤ w1 ∧ w1 ≤ v1 ∧ v2 ≤ w2 ∧ w2 ≤ w3 ∧ w3 ≤ v3 := by
  obtain ⟨q0, d0, f0, g0⟩ := Y.e0
  obtain ⟨q1, d1, f1, g1⟩ := Y.e1
  obtain ⟨q2, d2, f2, g2⟩ := Y.e2
  obtain ⟨q3, d3, f3, g3⟩ := Y.e3
  have i0 := X.m0 q0 (by omega) (by omega)
  have i1 := Y.m1 q0 d0 f0
  have i2 := hlh q0
  have i3 := X.m1 q1 (by omega) (by omega)
  have i4 := X.m2 q2 (by omega) (by omega)
  have i5 := low_mono (g := af (lt q2)) ha hab h2
  have i6 := Y.m3 q2 d2 f2
  have i7 := low_high (g := af (lt q2)) ha hab h4
  have i8 := X.m3 q3 (by omega) (by omega)
  have i9 := high_mono (g := af (lt q3)) ha hab h3
  omega
/-- from lists over every progress and every level -/
theorem NextOf.every {c : Nat} {L : List Int} (hc : (c : Int) = high + 1 - low) (ha : 1 ≤ a) (hab : a ≤ b) (hdu : down ≤ up)
    (h0 : v0 ∈ (List.range c).map fun j : Nat => low + (j : Int) + lf (lt (low + (j : Int)))) (l0 : ∀ y ∈ (List.range c).map fun j : Nat => low + (j : Int) + lf (lt (low + (j : Int))), v0 ≤ y)
    (h1 : v1 ∈ (List.range c).map fun j : Nat => low + (j : Int) + hf (lt (low + (j : Int)))) (l1 : ∀ y ∈ (List.range c).map fun j : Nat => low + (j : Int) + hf (lt (low + (j : Int))), y ≤ v1)
    (hL : ∀ x ∈ L, ∃ p lv r, low ≤ p ∧ p ≤ high ∧ down ≤ lv ∧ lv ≤ up ∧ (r = a ∨ r = b) ∧ x = tow lv (af (lt p)) r) (hL2 : ∀ p lv r, low ≤ p → p ≤ high → down ≤ lv → lv ≤ up → (r = a ∨ r = b) → tow lv (af (lt p)) r ∈ L)
    (h2 : v2 ∈ L) (l2 : ∀ y ∈ L, v2 ≤ y) (h3 : v3 ∈ L) (l3 : ∀ y ∈ L, y ≤ v3) : NextOf lt lf hf af a b low high down up v0 v1 v2 v3 := by
  have mem : ∀ (g : Int → Int) p, low ≤ p → p ≤ high → g p ∈ (List.range c).map fun j : Nat => g (low + (j : Int)) := fun g p p0 p1 =>
    List.mem_map.mpr ⟨(p - low).toNat, List.mem_range.mpr (by omega), by rw [show low + ((p - low).toNat : Int) = p by omega]⟩
  have low2 : ∀ p, low ≤ p → p ≤ high → v2 ≤ lowest a b down (af (lt p)) := fun p p0 p1 => by
    rcases low_mem (a := a) (b := b) (x := down) (g := af (lt p)) with e | e <;> rw [e]
    · exact l2 _ (hL2 p down a p0 p1 (Int.le_refl _) hdu (.inl rfl))
    · exact l2 _ (hL2 p down b p0 p1 (Int.le_refl _) hdu (.inr rfl))
  have high2 : ∀ p, low ≤ p → p ≤ high → highest a b up (af (lt p)) ≤ v3 := fun p p0 p1 => by
    rcases high_mem (x := up) (g := af (lt p)) ha hab with e | e <;> rw [e]
    · exact l3 _ (hL2 p up a p0 p1 hdu (Int.le_refl _) (.inl rfl))
    · exact l3 _ (hL2 p up b p0 p1 hdu (Int.le_refl _) (.inr rfl))
  refine ⟨?_, fun p p0 p1 => l0 _ (mem (fun p => p + lf (lt p)) p p0 p1), ?_, fun p p0 p1 => l1 _ (mem (fun p => p + hf (lt p)) p p0 p1), ?_, low2, ?_, high2⟩
  · obtain ⟨j, hj, rfl⟩ := List.mem_map.mp h0
    have := List.mem_range.mp hj
    exact ⟨low + (j : Int), by omega, by omega, rfl⟩
  · obtain ⟨j, hj, rfl⟩ := List.mem_map.mp h1
    have := List.mem_range.mp hj
    exact ⟨low + (j : Int), by omega, by omega, rfl⟩
  · obtain ⟨p, lv, r, p0, p1, q0, q1, hr, rfl⟩ := hL v2 h2
    have := low2 p p0 p1
    have := low_le (g := af (lt p)) ha hab q0 hr
    exact ⟨p, p0, p1, by omega⟩
  · obtain ⟨p, lv, r, p0, p1, q0, q1, hr, rfl⟩ := hL v3 h3
    have := high2 p p0 p1
    have := high_le (g := af (lt p)) ha hab q1 hr
    exact ⟨p, p0, p1, by omega⟩
end
/-- from lists over the legs -/
theorem NextOf.legs {D : CD} {ns : List Str} {lf hf af : Nat → Int} {a b low high down up v0 v1 v2 v3 : Int} (pos : PosR D ns) (n2 : 2 ≤ ns.length) (hlh : low ≤ high) {first last : Nat} (hf1 : lat D ns (ns.length - 1 - 1) low = first) (hl1 : lat D ns (ns.length - 1 - 1) high = last) {c : Nat} (hc : c = last + 1 - first)
    (h0 : v0 ∈ (List.range c).map fun j => (if first + j = first then low else bg D ns (first + j)) + lf (first + j)) (l0 : ∀ y ∈ (List.range c).map fun j => (if first + j = first then low else bg D ns (first + j)) + lf (first + j), v0 ≤ y)
    (h1 : v1 ∈ (List.range c).map fun j => (if first + j = last then high else bg D ns (first + j + 1) - 1) + hf (first + j)) (l1 : ∀ y ∈ (List.range c).map fun j => (if first + j = last then high else bg D ns (first + j + 1) - 1) + hf (first + j), y ≤ v1)
    (h2 : v2 ∈ (List.range c).map fun j => lowest a b down (af (first + j))) (l2 : ∀ y ∈ (List.range c).map fun j => lowest a b down (af (first + j)), v2 ≤ y)
    (h3 : v3 ∈ (List.range c).map fun j => highest a b up (af (first + j))) (l3 : ∀ y ∈ (List.range c).map fun j => highest a b up (af (first + j)), y ≤ v3) :
    NextOf (fun x => lat D ns (ns.length - 1 - 1) x) lf hf af a b low high down up v0 v1 v2 v3 := by
  have mono : ∀ p q, p ≤ q → lat D ns (ns.length - 1 - 1) p ≤ lat D ns (ns.length - 1 - 1) q := fun p q h => lat_mono D ns _ h
  obtain ⟨fa, fb, fc⟩ := lat_cases D ns (ns.length - 1 - 1) low
  obtain ⟨ga, gb, gc⟩ := lat_cases D ns (ns.length - 1 - 1) high
  have hfl := mono low high hlh
  rw [hf1] at fa fb fc hfl
  rw [hl1] at ga gb gc hfl
  have lk : ∀ k x, k ≤ ns.length - 1 - 1 → bg D ns k ≤ x → (k < ns.length - 1 - 1 → x < bg D ns (k + 1)) → lat D ns (ns.length - 1 - 1) x = k := fun k x hk hx hx2 =>
    lat_eq hk (fun i hi => Int.le_trans (bg_mono D ns (show i + 1 ≤ k by omega)) hx) hx2
  -- the first progress on leg k
  have C : ∀ k, first ≤ k → k ≤ last → ∃ x, x = (if k = first then low else bg D ns k) ∧ low ≤ x ∧ x ≤ high ∧ lat D ns (ns.length - 1 - 1) x = k := fun k k0 k1 => by
    by_cases e : k = first
    · exact ⟨low, by rw [if_pos e], Int.le_refl _, hlh, by rw [hf1, e]⟩
    · have e1 : lat D ns (ns.length - 1 - 1) (bg D ns k) = k := lk k _ (by omega) (Int.le_refl _) fun h => by have := pos.lt (show k + 1 < ns.length by omega); omega
      refine ⟨_, by rw [if_neg e], ?_, ?_, e1⟩
      · rcases ltge (bg D ns k) low with w | w
        · have := mono _ _ (Int.le_of_lt w)
          rw [e1, hf1] at this
          omega
        · exact w
      · have := gb (k - 1) (by omega)
        rw [show k - 1 + 1 = k by omega] at this
        exact this
  -- the last progress on leg k
  have E : ∀ k, first ≤ k → k ≤ last → ∃ x, x = (if k = last then high else bg D ns (k + 1) - 1) ∧ low ≤ x ∧ x ≤ high ∧ lat D ns (ns.length - 1 - 1) x = k := fun k k0 k1 => by
    by_cases e : k = last
    · exact ⟨high, by rw [if_pos e], hlh, Int.le_refl _, by rw [hl1, e]⟩
    · have p1 := pos.lt (show k + 1 < ns.length by omega)
      have e1 : lat D ns (ns.length - 1 - 1) (bg D ns (k + 1) - 1) = k := lk k _ (by omega) (by omega) fun h => by omega
      refine ⟨_, by rw [if_neg e], ?_, ?_, e1⟩
      · have := fc (by omega)
        have := bg_mono D ns (show first + 1 ≤ k + 1 by omega)
        omega
      · have := gb k (by omega)
        omega
  have leg : ∀ p, low ≤ p → p ≤ high → first ≤ lat D ns (ns.length - 1 - 1) p ∧ lat D ns (ns.length - 1 - 1) p ≤ last := fun p p0 p1 => ⟨hf1 ▸ mono _ _ p0, hl1 ▸ mono _ _ p1⟩
  have mem : ∀ (g : Nat → Int) k, first ≤ k → k ≤ last → g k ∈ (List.range c).map fun j => g (first + j) := fun g k k0 k1 =>
    List.mem_map.mpr ⟨k - first, List.mem_range.mpr (by omega), by rw [show first + (k - first) = k by omega]⟩
  have unm : ∀ (g : Nat → Int) v, v ∈ ((List.range c).map fun j => g (first + j)) → ∃ k, first ≤ k ∧ k ≤ last ∧ v = g k := fun g v h => by
    obtain ⟨j, hj, e⟩ := List.mem_map.mp h
    have := List.mem_range.mp hj
    exact ⟨first + j, by omega, by omega, e.symm⟩
  refine ⟨?_, fun p p0 p1 => ?_, ?_, fun p p0 p1 => ?_, ?_, fun p p0 p1 => ?_, ?_, fun p p0 p1 => ?_⟩
  · obtain ⟨k, k0, k1, e⟩ := unm (fun k => (if k = first then low else bg D ns k) + lf k) v0 h0
    obtain ⟨x, hx, x0, x1, x2⟩ := C k k0 k1
    exact ⟨x, x0, x1, by rw [x2, e, ← hx]⟩
  · obtain ⟨k0, k1⟩ := leg p p0 p1
    obtain ⟨ta, tb, tc⟩ := lat_cases D ns (ns.length - 1 - 1) p
    have := l0 _ (mem (fun k => (if k = first then low else bg D ns k) + lf k) _ k0 k1)
    refine Int.le_trans this ?_
    by_cases e : lat D ns (ns.length - 1 - 1) p = first
    · rw [if_pos e]; omega
    · rw [if_neg e]
      have := tb (lat D ns (ns.length - 1 - 1) p - 1) (by omega)
      rw [show lat D ns (ns.length - 1 - 1) p - 1 + 1 = lat D ns (ns.length - 1 - 1) p by omega] at this
      omega
  · obtain ⟨k, k0, k1, e⟩ := unm (fun k => (if k = last then high else bg D ns (k + 1) - 1) + hf k) v1 h1
    obtain ⟨x, hx, x0, x1, x2⟩ := E k k0 k1
    exact ⟨x, x0, x1, by rw [x2, e, ← hx]⟩
  · obtain ⟨k0, k1⟩ := leg p p0 p1
    obtain ⟨ta, tb, tc⟩ := lat_cases D ns (ns.length - 1 - 1) p
    have := l1 _ (mem (fun k => (if k = last then high else bg D ns (k + 1) - 1) + hf k) _ k0 k1)
    refine Int.le_trans ?_ this
    by_cases e : lat D ns (ns.length - 1 - 1) p = last
    · rw [if_pos e]; omega
    · rw [if_neg e]
      have := tc (by omega)
      omega
  · obtain ⟨k, k0, k1, e⟩ := unm (fun k => lowest a b down (af k)) v2 h2
    obtain ⟨x, hx, x0, x1, x2⟩ := C k k0 k1
    exact ⟨x, x0, x1, by rw [x2, e]⟩
  · obtain ⟨k0, k1⟩ := leg p p0 p1
    exact l2 _ (mem (fun k => lowest a b down (af k)) _ k0 k1)
  · obtain ⟨k, k0, k1, e⟩ := unm (fun k => highest a b up (af k)) v3 h3
    obtain ⟨x, hx, x0, x1, x2⟩ := C k k0 k1
    exact ⟨x, x0, x1, by rw [x2, e]⟩
  · obtain ⟨k0, k1⟩ := leg p p0 p1
    exact l3 _ (mem (fun k => highest a b up (af k)) _ k0 k1)
/-! what stands ready -/
structure ND where
  p : Addr
  r : Addr
  ch : Addr
  cs : Addr
  ki : Addr
  ru : Addr
  wi : Addr
  D : CD
  ns : List Str
  pc : Int
  lv : Int
  w : Int
  s : Int
  f : Int
  a : Int
  b : Int
  sl : Int
  tick : Int
  qs : List WQ
  qw : WQ
structure NIn (C : Addr) (H : Hp) (N : ND) : Prop where
  P : PathAt C H N.p N.D N.ns N.r
  C0 : ChartAt H N.ch N.D
  R : Route N.D N.ns
  ps : PosR N.D N.ns
  cs : H N.cs = some (.tup [.ref N.r, .int N.pc, .int N.lv])
  ki : H N.ki = some (.tup [.int N.w, .int N.s, .int N.f, .int N.a, .int N.b])
  ru : ∃ kvs, H N.ru = some (.dK kvs) ∧ valV kvs (.inr "slip") = some (.int N.sl)
  wi : WAt H N.wi N.qs
  tk : 0 ≤ N.tick
  qw : (lb N.tick N.qs).getLast? = some N.qw
  hab : 1 ≤ N.a ∧ N.a ≤ N.b
  sl0 : 0 ≤ N.sl
  qn : N.qs.length ≤ 100
theorem NIn.same {C : Addr} {H H' : Hp} {N : ND} (I : NIn C H N) (e : Same H H') : NIn C H' N :=
  { I with P := I.P.same e, C0 := I.C0.same e, cs := e _ _ I.cs, ki := e _ _ I.ki, ru := let ⟨kvs, h1, h2⟩ := I.ru; ⟨kvs, e _ _ h1, h2⟩, wi := I.wi.same e }
theorem NIn.keep {K : PySem.W.Frag} {C d c : Addr} {H H' : Hp} {N : ND} (I : NIn C H N) (S : St1 K H d c) (k : Keep d H H') (n1 : N.ch ≠ d) (n2 : N.D.fx ≠ d) (n3 : N.ru ≠ d) : NIn C H' N :=
  { I with P := I.P.keep S k, C0 := I.C0.keep S k n1 n2, cs := k.t S I.cs, ki := k.t S I.ki, ru := let ⟨kvs, h1, h2⟩ := I.ru; ⟨kvs, k _ _ h1 n3, h2⟩, wi := I.wi.keep S k }
theorem NIn.sl {C : Addr} {H : Hp} {N : ND} (I : NIn C H N) : DGet H N.ru (.str "slip") (some (.int N.sl)) := let ⟨_, h1, h2⟩ := I.ru; h2 ▸ DGet.k (k := .inr "slip") h1
theorem NIn.rt {C : Addr} {H : Hp} {N : ND} (I : NIn C H N) : H N.r = some (.tup (N.ns.map V.str)) := let ⟨_, _, _, _, _, _, _, P⟩ := I.P; P.rt
def ND.dx (N : ND) (k : Nat) : Int := (N.D.xy (rn N.ns (k + 1))).1 - (N.D.xy (rn N.ns k)).1
def ND.dy (N : ND) (k : Nat) : Int := (N.D.xy (rn N.ns (k + 1))).2 - (N.D.xy (rn N.ns k)).2
def ND.ln (N : ND) (k : Nat) : Int := N.D.len (rn N.ns k) (rn N.ns (k + 1))
def ND.lf (N : ND) (k : Nat) : Int := lo (N.dx k) (N.dy k) (N.ln k) N.pc N.sl N.qw.2.2.1 N.qw.2.2.2.1 N.qw.2.2.2.2
def ND.hf (N : ND) (k : Nat) : Int := hi (N.dx k) (N.dy k) (N.ln k) N.pc N.sl N.qw.2.2.1 N.qw.2.2.2.1 N.qw.2.2.2.2
def ND.af (N : ND) (k : Nat) : Int := tgt N.D N.ns k N.lv
def ND.lt (N : ND) (x : Int) : Nat := lat N.D N.ns (N.ns.length - 1 - 1) x
def ND.nx (N : ND) (low high down up v0 v1 v2 v3 : Int) : Prop := NextOf N.lt N.lf N.hf N.af N.a N.b low high down up v0 v1 v2 v3
theorem ab_nn (x : Int) : 0 ≤ ab x := by unfold ab; split <;> omega
theorem NIn.qm {C : Addr} {H : Hp} {N : ND} (I : NIn C H N) : N.qw ∈ N.qs := (List.mem_filter.mp (List.mem_of_getLast? I.qw)).1
theorem NIn.lh {C : Addr} {H : Hp} {N : ND} (I : NIn C H N) (k : Nat) (hk : k + 1 < N.ns.length) : N.lf k ≤ N.hf k := by
  unfold ND.lf ND.hf lo hi
  have h1 := I.sl0
  have h2 := I.ps k hk
  have h3 := (I.wi.bd _ I.qm).2.2.2.2.1
  have h4 := Int.mul_nonneg h3 (Int.add_nonneg (ab_nn (N.dx k)) (ab_nn (N.dy k)))
  have h5 := div_mono (n := N.ln k) (a := N.qw.2.2.1 * N.dx k + N.qw.2.2.2.1 * N.dy k - N.qw.2.2.2.2 * (ab (N.dx k) + ab (N.dy k))) (b := N.qw.2.2.1 * N.dx k + N.qw.2.2.2.1 * N.dy k + N.qw.2.2.2.2 * (ab (N.dx k) + ab (N.dy k))) (by show 0 < N.D.len _ _; omega) (by omega)
  omega
/-! promises -/
def spWithin : Sp := fun vs H Q _ => ∃ (l : Lg) (x : Int), vs = [.ref l.a, .int x] ∧ H l.a = some (.tup l.v) ∧ Q (.int (clamp l.lo l.hi x)) H
def spTarget (C : Addr) : Sp := fun vs H Q _ => ∃ (N : ND) (k : Nat) (z : Int), vs = [.ref N.p, .ref N.cs, .int z] ∧ z = (k : Int) ∧ NIn C H N ∧ k + 1 < N.ns.length ∧ Q (.int (N.af k)) H
def spBounds (C : Addr) : Sp := fun vs H Q _ => ∃ (N : ND) (k : Nat) (z : Int), vs = [.ref N.p, .ref N.cs, .ref N.ru, .ref N.wi, .int N.tick, .int z] ∧ z = (k : Int) ∧ NIn C H N ∧ k + 1 < N.ns.length ∧
  ∀ q H', H q = none → Same H H' → H' q = some (.tup [.int (N.lf k), .int (N.hf k)]) → Q (.ref q) H'
def spLowest : Sp := fun vs H Q _ => ∃ (ki : Addr) (x g w s f a b : Int), vs = [.ref ki, .int x, .int g] ∧ H ki = some (.tup [.int w, .int s, .int f, .int a, .int b]) ∧ Q (.int (lowest a b x g)) H
def spHighest : Sp := fun vs H Q _ => ∃ (ki : Addr) (x g w s f a b : Int), vs = [.ref ki, .int x, .int g] ∧ H ki = some (.tup [.int w, .int s, .int f, .int a, .int b]) ∧ Q (.int (highest a b x g)) H
def spNext (C : Addr) : Sp := fun vs H Q _ => ∃ (N : ND) (bx : Addr) (low high down up : Int), vs = [.ref N.p, .ref N.cs, .ref N.ki, .ref N.ru, .ref N.wi, .int N.tick, .ref bx] ∧ NIn C H N ∧ H bx = some (.tup [.int low, .int high, .int down, .int up]) ∧ low ≤ high ∧ down ≤ up ∧
  ∀ q v0 v1 v2 v3 H', H q = none → Same H H' → H' q = some (.tup [.int v0, .int v1, .int v2, .int v3]) → N.nx low high down up v0 v1 v2 v3 → Q (.ref q) H'
def spLawNext (C : Addr) : Sp := fun vs H Q _ => ∃ (N : ND) (b bx : Addr) (low high down up : Int), vs = [.ref N.ch, .ref N.r, .ref b, .ref N.cs, .ref N.ki, .ref N.ru, .ref N.wi, .int N.tick, .ref bx] ∧ NIn C H N ∧ H b = some (.lst ((bgs N.D N.ns).map V.int)) ∧ H bx = some (.tup [.int low, .int high, .int down, .int up]) ∧ low ≤ high ∧ high - low ≤ 40 ∧ down ≤ up ∧ up - down ≤ 11 ∧ -10000000 ≤ low ∧ low ≤ 10000000 ∧ -10000000 ≤ down ∧ down ≤ 10000000 ∧
  ∀ q v0 v1 v2 v3 H', H q = none → Same H H' → H' q = some (.tup [.int v0, .int v1, .int v2, .int v3]) → N.nx low high down up v0 v1 v2 v3 → Q (.ref q) H'
def spLawTarget (C : Addr) : Sp := fun vs H Q _ => ∃ (N : ND) (k : Nat) (z : Int), vs = [.ref N.ch, .ref N.r, .int z, .int N.lv] ∧ z = (k : Int) ∧ NIn C H N ∧ k + 1 < N.ns.length ∧ ∀ H', Same H H' → Q (.int (N.af k)) H'
def spLawBounds (C : Addr) : Sp := fun vs H Q _ => ∃ (N : ND) (b : Addr) (k : Nat) (z : Int), vs = [.ref N.ch, .ref N.r, .ref b, .int z, .int N.pc, .int N.sl, .ref N.qw.1] ∧ z = (k : Int) ∧ NIn C H N ∧ H b = some (.lst ((bgs N.D N.ns).map V.int)) ∧ k + 1 < N.ns.length ∧
  ∀ q H', H q = none → Same H H' → H' q = some (.tup [.int (N.lf k), .int (N.hf k)]) → Q (.ref q) H'
def spLawWindAt (C : Addr) : Sp := fun vs H Q _ => ∃ (N : ND), vs = [.ref N.wi, .int N.tick] ∧ NIn C H N ∧ ∀ H', Same H H' → Q (.ref N.qw.1) H'
def spTowards : Sp := fun vs H Q _ => ∃ (x g r : Int), vs = [.int x, .int g, .int r] ∧ Q (.int (tow x g r)) H
def spKind (K : PySem.W.Frag) : Sp := fun vs H Q _ => ∃ (d c : Addr), vs = [.ref d] ∧ St1 K H d c ∧ ∀ q w s f a b H', H q = none → 1 ≤ s → s ≤ f → f ≤ 1000 → 1 ≤ a → a ≤ b → H' q = some (.tup [.int w, .int s, .int f, .int a, .int b]) → St1 K H' d c → Keep d H H' → Q (.ref q) H'
def spRules (K : PySem.W.Frag) : Sp := fun vs H Q _ => ∃ (d c : Addr), vs = [.ref d] ∧ St1 K H d c ∧ ∀ ru kvs sl H', H ru = none → H' ru = some (.dK kvs) → valV kvs (.inr "slip") = some (.int sl) → 0 ≤ sl → St1 K H' d c → Keep d H H' → Q (.ref ru) H'
def spWinds (K : PySem.W.Frag) : Sp := fun vs H Q _ => ∃ (d c : Addr), vs = [.ref d] ∧ St1 K H d c ∧ ∀ wi qs H', H wi = none → WAt H' wi qs → qs.length ≤ 100 → St1 K H' d c → Keep d H H' → Q (.ref wi) H'
def spLawBox (K : PySem.W.Frag) : Sp := fun vs H Q _ => ∃ (d c b : Addr) (D : CD) (ns : List Str) (wide : Int), vs = [.ref d, .ref b, .int wide] ∧ St1 K H d c ∧ H b = some (.lst ((bgs D ns).map V.int)) ∧ Bd D ∧ 2 ≤ ns.length ∧ ns.length ≤ 20 ∧ 1 ≤ wide ∧ wide ≤ 41 ∧
  ∀ q low high down up H', H q = none → low ≤ high → high - low ≤ 40 → down ≤ up → up - down ≤ 11 → -10000000 ≤ low → low ≤ 10000000 → -10000000 ≤ down → down ≤ 10000000 → H' q = some (.tup [.int low, .int high, .int down, .int up]) → St1 K H' d c → Keep d H H' → Q (.ref q) H'
end Sk

set_option Elab.async false
set_option linter.all false
set_option maxRecDepth 100000
set_option maxHeartbeats 4000000
namespace Sk
open PySem PySem.Spec PyProof.Rows L2
def top (i : Nat) : Stmt := PySem.Challenge.pw_skyapart_k12_next_box.main.body.getD i (.Pass ⟨0, 0, 0, 0⟩)
abbrev s_law_start : Stmt := top 21
abbrev s_law_draw : Stmt := top 22
abbrev s_law_pick : Stmt := top 23
abbrev s_law_is_number : Stmt := top 24
section
variable {P : Program} {w : World} {K : PySem.W.Frag} {mg : Str → Option Value} {base : Heap}
theorem sc_law_start : FnScope ["script", "cell"] ["script"] (defScope s_law_start) := ⟨rfl, rfl, rfl, by decide +kernel, rfl, by decide +kernel, by decide +kernel⟩
theorem ok_law_start {f : Addr} {fd : FuncData} (F : Fun K "_law_start" "_law_start" s_law_start f fd) (T : Txt0 mg) : FnOk P w K mg base CX0 1 f fd ["script"] (spStart K) := by
  refine F.ok sc_law_start (fun vs H Q E h => ?_) (fun cdv A outer s H vs Q E hr h => ?_)
  · obtain ⟨a, ns, rfl, _⟩ := h
    rfl
  · obtain ⟨a, ns, rfl, hS, hl, k⟩ := h
    refine ⟨_, (pss_one (ps_ret (pe_disp (pps_cons pe_str (pe_lc (own := [("cell", 1)]) (g := gName 1) (by rfl) sc_law_start.nd (pi_list (pv 0)) (blkOk_by (own := [("cell", 1)]) (N := ["script", "cell"]) (sc := defScope s_law_start) (by decide +kernel)) (fun _ _ _ _ _ => (pg_name (i := 1) sc_law_start.nd rfl (Or.inl rfl))) (fun _ _ _ _ _ => pts_nil) (fun _ _ _ _ _ => (pe_callB call_abs (by rfl) T.abs boot_abs (pa_cons (pe_callTy call_int1 (by rfl) T.int boot_int (pa_cons (pv 1) pa_nil)) pa_nil)))) (pps_cons pe_str pe_int (pps_cons pe_str pe_int (pps_cons pe_str (pe_op op_add pe_int (pe_callB call_len_seq (by rfl) T.len boot_len (pa_cons (pv 0) pa_nil))) pps_nil)))) (by rfl) (by rfl) (fun z => by cases z) (by decide)))), ?_⟩
    -- the dict
    intro d hd
    have s0 : Same H (upd H d (.dK [])) := same_new hd
    refine ⟨_, rfl, a, rfl, ⟨_, s0.seq hS⟩, fun D hD => ?_⟩
    have nDd : d ≠ D := fun z => by rw [← z, upd_same] at hD; cases hD
    refine lc_list (K := K) (a := a) (xs := ns.map V.int) (fun i H' => ∃ cs : List Int, H' D = some (.lst (cs.map V.int)) ∧ cs.length = i ∧ (∀ x ∈ cs, 0 ≤ x) ∧ Same H H' ∧ H' d = some (.dK []))
      ⟨[], upd_same, rfl, (fun _ h => nomatch h), fun b o e => (same_new hD) b o (s0 b o e), by rw [upd_ne nDd, upd_same]⟩ (fun i H' _ ⟨_, _, _, _, s2, _⟩ => s2.seq hS) ?_ ?_
    · rintro i x H' hx ⟨cs, hc, hi, hn, s2, h2⟩
      obtain ⟨z, rfl⟩ : ∃ z, x = V.int z := by
        rw [List.getElem?_map] at hx
        cases e : ns[i]? with
        | none => rw [e] at hx; cases hx
        | some z => rw [e] at hx; exact ⟨z, (Option.some.inj hx).symm⟩
      have hil : i < (ns.map V.int).length := (List.getElem?_eq_some_iff.mp hx).1
      rw [List.length_map] at hil
      refine ⟨rfl, ?_⟩
      refine ⟨_, rfl, .inl ⟨_, rfl, _, rfl, _, hc, ?_, cs ++ [if z < 0 then -z else z], ?_, ?_, ?_, ?_, ?_⟩⟩
      · rw [List.length_map]; exact small1000 (by omega)
      · rw [upd_same, List.map_append]; rfl
      · rw [List.length_append, hi]; rfl
      · intro y hy
        rcases List.mem_append.mp hy with hy | hy
        · exact hn y hy
        · rw [List.mem_singleton.mp hy]; split <;> omega
      · intro b o e
        rw [upd_ne (ne_of_none e (s0.free hD))]
        exact s2 b o e
      · rw [upd_ne nDd]; exact h2
    · rintro H' ⟨cs, hc, hi, hn, s2, h2⟩
      refine ⟨_, rfl, a, _, rfl, .inl (s2.seq hS), _, _, rfl, rfl, h2, stK D 0 0 (7 + ((ns.map V.int).length : Int)), rfl, (by show 4 ≤ 15; decide), ?_⟩
      rw [merge_st]
      have hDd : D ≠ d := fun z => nDd z.symm
      refine k d D _ hd (s0.free hD) ⟨cs, 0, 0, _, upd_same, (by rw [upd_ne hDd]; exact hc), hn, by omega, by omega, ?_, ?_⟩ fun b o e => ?_
      · omega
      · rw [List.length_map]; omega
      · rw [upd_ne (ne_of_none e hd)]
        exact s2 b o e
theorem sc_law_draw : FnScope ["state", "bound", "cell", "number"] ["state", "bound"] (defScope s_law_draw) := ⟨rfl, rfl, rfl, by decide +kernel, rfl, by decide +kernel, by decide +kernel⟩
theorem ok_law_draw {f : Addr} {fd : FuncData} (F : Fun K "_law_draw" "_law_draw" s_law_draw f fd) (T : Txt0 mg) : FnOk P w K mg base CX0 1 f fd ["state", "bound"] (spDraw K) := by
  refine F.ok sc_law_draw (fun vs H Q E h => ?_) (fun cdv A outer s H vs Q E hr h => ?_)
  · obtain ⟨d, c, b, rfl, _⟩ := h
    rfl
  · obtain ⟨d, c, b, rfl, S1, b0, b1, k⟩ := h
    have hu := hu_of hr
    have hm : ∀ x : Int, 0 ≤ x % b ∧ x % b < b := fun x => ⟨Int.emod_nonneg x (by omega), Int.emod_lt_of_pos x b0⟩
    have hmx : ∀ x : Int, 0 ≤ x % 2147483647 ∧ x % 2147483647 < 2147483648 := fun x => by omega
    refine ⟨_, (pss_cons (ps_if (PW.pt (pw_and (pt_cmpR op_eq (pe_dget hu (pv 0) pe_str (fun _ _ => rfl)) pe_int (nomark _)) (pw_and1 (pt_cmpR op_lt (pe_dget hu (pv 0) pe_str (fun _ _ => rfl)) (pe_callB call_len_seq (by rfl) T.len boot_len (pa_cons (pe_dget hu (pv 0) pe_str (fun _ _ => rfl)) pa_nil)) (nomark _))))) (pss_cons (ps_set (i := 2) sc_law_draw.nd rfl (Or.inl rfl) (pe_ix ix_list (pe_dget hu (pv 0) pe_str (fun _ _ => rfl)) (pe_dget hu (pv 0) pe_str (fun _ _ => rfl)) (fun _ _ => rfl)))
    (pss_cons (ps_dput hu (pv 0) pe_str (pe_op op_add (pe_dget hu (pv 0) pe_str (fun _ _ => rfl)) pe_int) rfl)
    (pss_cons (ps_dput hu (pv 0) pe_str (pe_op op_mod (pe_callTy call_int1 (by rfl) T.int boot_int (pa_cons (pe_op op_add (pe_op op_add (pe_op op_mul (pe_dget hu (pv 0) pe_str (fun _ _ => rfl)) pe_int) (pv 2)) pe_int) pa_nil)) pe_int) rfl)
    (pss_cons (ps_if (pt_cmpR op_lt (pv 2) (pe_op op_pow pe_int pe_int) (nomark _)) (pss_one (ps_ret (pe_op op_mod (pe_callTy call_int1 (by rfl) T.int boot_int (pa_cons (pv 2) pa_nil)) (pv 1))))
      pss_nil)
    (pss_one (ps_dput hu (pv 0) pe_str (pv 2) rfl))))))
      pss_nil)
    (pss_cons (ps_if (pt_cmpR op_gt (pe_dget hu (pv 0) pe_str (fun _ _ => rfl)) pe_int (nomark _)) (pss_cons (ps_set (i := 3) sc_law_draw.nd rfl (Or.inl rfl) (pe_op op_mod (pe_callTy call_int1 (by rfl) T.int boot_int (pa_cons (pe_dget hu (pv 0) pe_str (fun _ _ => rfl)) pa_nil)) (pv 1)))
    (pss_cons (ps_dput hu (pv 0) pe_str (pe_op op_fdivW (pe_dget hu (pv 0) pe_str (fun _ _ => rfl)) (pv 1)) rfl)
    (pss_one (ps_ret (pv 3)))))
      pss_nil)
    (pss_cons (ps_dput hu (pv 0) pe_str (pe_op op_mod (pe_callTy call_int1 (by rfl) T.int boot_int (pa_cons (pe_op op_add (pe_op op_mul (pe_dget hu (pv 0) pe_str (fun _ _ => rfl)) pe_int) pe_int) pa_nil)) pe_int) rfl)
    (pss_one (ps_ret (pe_op op_mod (pe_callTy call_int1 (by rfl) T.int boot_int (pa_cons (pe_op op_mod (pe_callTy call_int1 (by rfl) T.int boot_int (pa_cons (pe_op op_add (pe_op op_mul (pe_dget hu (pv 0) pe_str (fun _ _ => rfl)) pe_int) pe_int) pa_nil)) pe_int) pa_nil)) (pv 1))))))), ?_⟩
    refine cut (fun σ' H' => ∃ v2 v3, σ' = [some (.ref d), some (.int b), v2, v3] ∧ St1 K H' d c ∧ Keep d H H') ?_ (fun rest => ?_)
    · -- the rest: from a number that is left, or from the mix
      rintro σ' H' ⟨v2, v3, rfl, ⟨ns, i, l, m, S⟩, kp⟩
      refine ⟨_, rfl, _, _, rfl, dg_left S.dc, _, _, rfl, rfl, _, rfl, ite2 (fun e => ?_) (fun e => ?_)⟩
      · refine ⟨_, rfl, _, _, rfl, dg_left S.dc, .inl ⟨_, rfl, _, rfl, _, _, rfl, rfl, b0, ?_⟩⟩
        refine ⟨_, rfl, _, _, rfl, dg_left S.dc, _, rfl, _, _, rfl, rfl, log_of b0 b1, _, rfl, _, _, rfl, dp_left S.dc, ?_⟩
        refine ⟨_, rfl, ?_⟩
        exact k _ _ (hm l).1 (hm l).2 ⟨_, _, _, _, S.put S.i0 (Int.ediv_nonneg S.l0 (by omega)) S.m0 S.m1⟩ (kp.trans (Keep.upd _ _ _))
      · refine ⟨_, rfl, _, _, rfl, dg_mix S.dc, _, _, rfl, rfl, .inr ⟨by decide, by decide⟩, _, _, rfl, rfl, .inl ⟨_, rfl, _, _, rfl, rfl, (by show (0:Int) < 2147483647; decide), _, rfl, _, _, rfl, dp_mix S.dc, ?_⟩⟩
        have S2 := S.put (i' := i) (l' := l) S.i0 S.l0 (hmx (m * 48271 + 11)).1 (hmx (m * 48271 + 11)).2
        refine ⟨_, rfl, _, _, rfl, dg_mix S2.dc, _, _, rfl, rfl, .inr ⟨by decide, by decide⟩, _, _, rfl, rfl, .inl ⟨_, rfl, _, _, rfl, rfl, (by show (0:Int) < 2147483629; decide), .inl ⟨_, rfl, _, rfl, _, _, rfl, rfl, b0, ?_⟩⟩⟩
        exact k _ _ (hm _).1 (hm _).2 ⟨_, _, _, _, S2⟩ (kp.trans (Keep.upd _ _ _))
    · -- the first if
      obtain ⟨ns, i, l, m, S⟩ := id S1
      refine ⟨_, rfl, _, _, rfl, dg_left S.dc, rfl, _, rfl, ite2 (fun e => ?_) (fun e => ?_)⟩
      · refine ⟨_, rfl, _, _, rfl, dg_at S.dc, _, rfl, _, _, rfl, dg_cells S.dc, _, _, rfl, .inl (.inl (.inl S.cs)), _, _, rfl, rfl, _, rfl, ite2 (fun e => ?_) (fun e => ?_)⟩
        · have hi : i < (ns.length : Int) := by
            have := of_decide_eq_true e
            rw [List.length_map] at this
            exact this
          obtain ⟨j, rfl⟩ : ∃ j : Nat, i = (j : Int) := ⟨i.toNat, by have := S.i0; omega⟩
          have hj : j < ns.length := by omega
          refine ⟨_, rfl, _, _, rfl, dg_cells S.dc, _, rfl, _, _, rfl, dg_at S.dc, _, _, _, _, rfl, rfl, .inl (.inl S.cs), atI_nat (j := j) (v := .int ns[j]) (by simp [hj]), ?_⟩
          have S2 := S.put (i' := (j : Int) + 1) (l' := l) (m' := m) (by omega) S.l0 S.m0 S.m1
          refine ⟨_, rfl, _, _, rfl, dg_at S.dc, _, _, rfl, rfl, _, rfl, _, _, rfl, dp_at S.dc, ?_⟩
          refine ⟨_, rfl, _, _, rfl, dg_mix S2.dc, _, _, rfl, rfl, .inr ⟨by decide, by decide⟩, _, rfl, _, _, rfl, rfl, _, _, rfl, rfl, .inl ⟨_, rfl, _, _, rfl, rfl, (by show (0:Int) < 2147483647; decide), _, rfl, _, _, rfl, dp_mix S2.dc, ?_⟩⟩
          have S3 := S2.put (i' := (j : Int) + 1) (l' := l) S2.i0 S.l0 (hmx (m * 48271 + ns[j] + 11)).1 (hmx (m * 48271 + ns[j] + 11)).2
          refine ⟨_, rfl, _, _, rfl, rfl, ⟨by decide, by decide, by decide⟩, _, _, rfl, rfl, _, rfl, ite2 (fun e => ?_) (fun e => ?_)⟩
          · refine ⟨_, rfl, .inl ⟨_, rfl, _, rfl, _, _, rfl, rfl, b0, ?_⟩⟩
            exact k _ _ (hm _).1 (hm _).2 ⟨_, _, _, _, S3⟩ ((Keep.upd _ _ _).trans (Keep.upd _ _ _))
          · refine ⟨_, rfl, _, rfl, _, _, rfl, dp_left S3.dc, ?_⟩
            have S4 := S3.put (i' := (j : Int) + 1) (l' := ns[j]) S2.i0 (S.nn _ (List.getElem_mem hj)) S3.m0 S3.m1
            exact rest _ _ ⟨_, _, rfl, ⟨_, _, _, _, S4⟩, ((Keep.upd _ _ _).trans (Keep.upd _ _ _)).trans (Keep.upd _ _ _)⟩
        · exact rest _ _ ⟨_, _, rfl, S1, Keep.refl _ _⟩
      · refine iteF ?_
        exact rest _ _ ⟨_, _, rfl, S1, Keep.refl _ _⟩
theorem sc_law_pick : FnScope ["state", "things"] ["state", "things"] (defScope s_law_pick) := ⟨rfl, rfl, rfl, by decide +kernel, rfl, by decide +kernel, by decide +kernel⟩
theorem ok_law_pick {f : Addr} {fd : FuncData} (F : Fun K "_law_pick" "_law_pick" s_law_pick f fd) (T : Txt0 mg) (D_law_draw : Def P w K mg base 1 "_law_draw" ["state", "bound"] (spDraw K)) : FnOk P w K mg base CX0 2 f fd ["state", "things"] (spPick K) := by
  refine F.ok sc_law_pick (fun vs H Q E h => ?_) (fun cdv A outer s H vs Q E hr h => ?_)
  · obtain ⟨d, c, l, xs, rfl, _⟩ := h
    rfl
  · obtain ⟨d, c, l, xs, rfl, S, hl, hn, hz, k⟩ := h
    refine ⟨_, (pss_one (ps_ret (pe_ix ix_list (pv 1) (pe_def D_law_draw (hr.mono (by decide)) (by rfl) (pa_cons (pv 0) (pa_cons (pe_callB call_len_seq (by rfl) T.len boot_len (pa_cons (pv 1) pa_nil)) pa_nil))) (fun _ _ => rfl)))), ?_⟩
    have hp : 0 < xs.length := List.length_pos_iff.mpr hn
    refine ⟨_, rfl, _, rfl, _, rfl, _, _, rfl, .inl hl, d, c, _, rfl, S, by omega, by omega, fun n H' n0 n1 S' kp => ?_⟩
    obtain ⟨kvs, hd⟩ := S.dk
    obtain ⟨j, rfl⟩ : ∃ j : Nat, n = (j : Int) := ⟨n.toNat, by omega⟩
    have hj : j < xs.length := by omega
    refine ⟨_, _, _, _, rfl, rfl, kp.seq hd hl, atI_nat (j := j) (v := xs[j]) (by simp [hj]), ?_⟩
    exact k _ _ (List.getElem_mem hj) S' kp
theorem sc_law_is_number : FnScope ["thing"] ["thing"] (defScope s_law_is_number) := ⟨rfl, rfl, rfl, by decide +kernel, rfl, by decide +kernel, by decide +kernel⟩
theorem ok_law_is_number {f : Addr} {fd : FuncData} (F : Fun K "_law_is_number" "_law_is_number" s_law_is_number f fd) (T : Txt0 mg) : FnOk P w K mg base CX0 1 f fd ["thing"] spIsNum := by
  refine F.ok sc_law_is_number (fun vs H Q E h => ?_) (fun cdv A outer s H vs Q E hr h => ?_)
  · obtain ⟨n, rfl, _⟩ := h
    rfl
  · obtain ⟨n, rfl, k⟩ := h
    refine ⟨_, (pss_one (ps_ret (pe_and (pe_callB call_isi (by rfl) T.isinstance boot_isinstance (pa_cons (pv 0) (pa_cons (pe_bltn (v := .ty "int") (by rfl) T.int boot_int rfl) pa_nil))) (pe_one (pe_not (pe_callB call_isi (by rfl) T.isinstance boot_isinstance (pa_cons (pv 0) (pa_cons (pe_bltn (v := .ty "bool") (by rfl) T.bool boot_bool rfl) pa_nil)))))))), ?_⟩
    refine ⟨_, rfl, _, _, _, _, true, rfl, ClsV.ty _, .base (.int n), kit_ty (by decide +kernel), true, rfl, ?_⟩
    refine iteT ?_
    refine ⟨_, rfl, _, _, _, _, false, rfl, ClsV.ty _, .base (.int n), kit_ty (by decide +kernel), false, rfl, ?_⟩
    exact k
end
end Sk

set_option Elab.async false
set_option linter.all false
set_option maxRecDepth 100000
set_option maxHeartbeats 4000000
namespace Sk
open PySem PySem.Spec PyProof.Rows L2
abbrev s_root_down : Stmt := top 13
abbrev s_root_up : Stmt := top 14
abbrev s_leg_length : Stmt := top 16
abbrev s_leg_between : Stmt := top 17
abbrev s_law_is : Stmt := top 25
abbrev s_law_root_up : Stmt := top 26
abbrev s_law_names : Stmt := top 27
abbrev s_law_legs : Stmt := top 28
abbrev s_law_chart : Stmt := top 29
abbrev s_law_leg : Stmt := top 30
abbrev s_law_lengths : Stmt := top 31
abbrev s_law_walk : Stmt := top 33
local macro_rules | `(tactic| walk_at "ms") => `(tactic| first | exact .inl ⟨by decide, by decide⟩ | exact .inl ⟨by omega, by omega⟩ | exact .inr ⟨by omega, by omega⟩ | exact wm (by omega) (by omega) | exact log_of (by omega) (by omega) | (show (0:Int) < _; omega) | exact ⟨by decide, by decide, by decide⟩)
section
variable {P : Program} {w : World} {K : PySem.W.Frag} {mg : Str → Option Value} {base : Heap}
theorem sc_root_down : FnScope ["n"] ["n"] (defScope s_root_down) := ⟨rfl, rfl, rfl, by decide +kernel, rfl, by decide +kernel, by decide +kernel⟩
theorem ok_root_down {f : Addr} {fd : FuncData} (F : Fun K "root_down" "root_down" s_root_down f fd) (T : TxtA mg) (Tq : mg "isqrt" = some (.builtin "math.isqrt")) : FnOk P w K mg base CX0 1 f fd ["n"] (spDownR) := by
  refine F.ok sc_root_down (fun vs H Q E h => ?_) (fun cdv A outer s H vs Q E hr h => ?_)
  · obtain ⟨n, rfl, _⟩ := h
    rfl
  · obtain ⟨n, rfl, hn, k⟩ := h
    refine ⟨_, (pss_cons (ps_if (pt_cmpR op_le (pv 0) pe_int (nomark _)) (pss_one (ps_ret pe_int))
      pss_nil)
    (pss_one (ps_ret (pe_callBfun cr_isqrt (by rfl) Tq (pa_cons (pv 0) pa_nil))))), ?_⟩
    refine ⟨_, rfl, _, _, rfl, rfl, _, rfl, ite2 (fun e => ?_) (fun e => ?_)⟩
    · have e := of_decide_eq_true e
      exact k 0 (by omega) (fun _ => rfl) (fun h => by omega)
    · have e : ¬ n ≤ 0 := fun z => e (decide_eq_true z)
      exact ⟨_, rfl, n, rfl, by omega, hn, fun r h0 h1 h2 => k r h0 (fun z => absurd z e) (fun _ => ⟨h1, h2⟩)⟩
theorem sc_root_up : FnScope ["n", "low"] ["n"] (defScope s_root_up) := ⟨rfl, rfl, rfl, by decide +kernel, rfl, by decide +kernel, by decide +kernel⟩
theorem ok_root_up {f : Addr} {fd : FuncData} (F : Fun K "root_up" "root_up" s_root_up f fd) (T : TxtA mg)
    (D_root_down : Def P w K mg base 1 "root_down" ["n"] (spDownR)) : FnOk P w K mg base CX0 2 f fd ["n"] (spUpR) := by
  refine F.ok sc_root_up (fun vs H Q E h => ?_) (fun cdv A outer s H vs Q E hr h => ?_)
  · obtain ⟨n, rfl, _⟩ := h
    rfl
  · obtain ⟨n, rfl, hn0, hn, k⟩ := h
    refine ⟨_, (pss_cons (ps_set (i := 1) sc_root_up.nd rfl (Or.inl rfl) (pe_def D_root_down (hr.mono (by decide)) (by rfl) (pa_cons (pv 0) pa_nil)))
    (pss_cons (ps_if (pt_cmpR op_lt (pe_op op_mulW (pv 1) (pv 1)) (pv 0) (nomark _)) (pss_one (ps_ret (pe_op op_add (pv 1) pe_int)))
      pss_nil)
    (pss_one (ps_ret (pv 1))))), ?_⟩
    refine ⟨_, rfl, n, rfl, by omega, fun r h0 h1 h2 => ?_⟩
    obtain ⟨h3, h4⟩ := h2 hn0
    have hr' : r.natAbs < 2 ^ 249 := by
      rcases ltge r 1 with h3 | h3
      · have : r = 0 := by omega
        subst this; decide
      · have := Int.mul_le_mul_of_nonneg_left h3 h0
        omega
    refine ⟨_, rfl, _, rfl, _, _, rfl, rfl, wm (by omega) (by omega), _, rfl, _, _, rfl, rfl, _, rfl, ite2 (fun e => ?_) (fun e => ?_)⟩
    · have e := of_decide_eq_true e
      have hq : IsRt n (r + 1) := ⟨by omega, by omega, .inr (by rw [show r + 1 - 1 = r by omega]; exact e)⟩
      refine ⟨_, rfl, _, _, rfl, rfl, ?_⟩
      show Q (.int (r + 1)) H
      rw [hq.eq (rt_is hn0)]
      exact k
    · have e : ¬ r * r < n := fun z => e (decide_eq_true z)
      have hq : IsRt n r := by
        refine ⟨h0, by omega, ?_⟩
        rcases ltge 0 r with w | w
        · right
          have : (r - 1) * (r - 1) = r * r - 2 * r + 1 := by
            rw [Int.sub_mul, Int.mul_sub, Int.mul_sub]; omega
          omega
        · left; omega
      refine ⟨_, rfl, ?_⟩
      show Q (.int r) H
      rw [hq.eq (rt_is hn0)]
      exact k
theorem sc_leg_length : FnScope ["chart", "start", "end", "ax", "ay", "bx", "by"] ["chart", "start", "end"] (defScope s_leg_length) := ⟨rfl, rfl, rfl, by decide +kernel, rfl, by decide +kernel, by decide +kernel⟩
theorem ok_leg_length {f : Addr} {fd : FuncData} (F : Fun K "leg_length" "leg_length" s_leg_length f fd) (T : TxtA mg)
    (D_root_up : Def P w K mg base 2 "root_up" ["n"] (spUpR)) : FnOk P w K mg base CX0 3 f fd ["chart", "start", "end"] (spLegLen) := by
  refine F.ok sc_leg_length (fun vs H Q E h => ?_) (fun cdv A outer s H vs Q E hr h => ?_)
  · obtain ⟨_, _, _, _, _, _, _, _, _, _, rfl, _⟩ := h
    rfl
  · obtain ⟨ch, D, s', e', a, b, ax, ay, bx, by', rfl, C, h1, h2, k⟩ := h
    have hu := hu_of hr
    refine ⟨_, (pss_cons (ps_asg (pe_dget hu (pe_dget hu (pv 0) pe_str (fun _ _ => rfl)) (pv 1) (fun _ _ => rfl)) (pg_tup (by rfl) (pgs_cons (pg_name (i := 3) sc_leg_length.nd rfl (Or.inl rfl)) (pgs_cons (pg_name (i := 4) sc_leg_length.nd rfl (Or.inl rfl)) pgs_nil))))
    (pss_cons (ps_asg (pe_dget hu (pe_dget hu (pv 0) pe_str (fun _ _ => rfl)) (pv 2) (fun _ _ => rfl)) (pg_tup (by rfl) (pgs_cons (pg_name (i := 5) sc_leg_length.nd rfl (Or.inl rfl)) (pgs_cons (pg_name (i := 6) sc_leg_length.nd rfl (Or.inl rfl)) pgs_nil))))
    (pss_one (ps_ret (pe_def D_root_up (hr.mono (by decide)) (by rfl) (pa_cons (pe_op op_add (pe_op op_mul (pe_op op_sub (pv 5) (pv 3)) (pe_op op_sub (pv 5) (pv 3))) (pe_op op_mul (pe_op op_sub (pv 6) (pv 4)) (pe_op op_sub (pv 6) (pv 4)))) pa_nil)))))), ?_⟩
    have hz0 : 0 ≤ (bx - ax) * (bx - ax) + (by' - ay) * (by' - ay) := Int.add_nonneg (sq0 _) (sq0 _)
    obtain ⟨p1, p2, p3, p4, p5, p6⟩ := C.pf _ _ _ _ h1
    obtain ⟨q1, q2, q3, q4, q5, q6⟩ := C.pf _ _ _ _ h2
    have hz1 : ((bx - ax) * (bx - ax) + (by' - ay) * (by' - ay)).natAbs < 2 ^ 240 := by
      have e1 := sq_le (show -200000 ≤ bx - ax by omega) (show bx - ax ≤ 200000 by omega)
      have e2 := sq_le (show -200000 ≤ by' - ay by omega) (show by' - ay ≤ 200000 by omega)
      omega
    refine ⟨_, rfl, _, _, rfl, C.gf, _, rfl, _, _, rfl, C.gp h1, _, _, rfl, .inl (.inl p2), rfl, _, _, rfl, _, _, rfl, rfl, ?_⟩
    refine ⟨_, rfl, _, _, rfl, C.gf, _, rfl, _, _, rfl, C.gp h2, _, _, rfl, .inl (.inl q2), rfl, _, _, rfl, _, _, rfl, rfl, ?_⟩
    refine ⟨_, rfl, _, rfl, _, _, rfl, rfl, _, rfl, _, rfl, _, _, rfl, rfl, _, _, rfl, rfl, (by walk_at "ms"), _, rfl, _, rfl, _, _, rfl, rfl, _, rfl, _, rfl, _, _, rfl, rfl, _, _, rfl, rfl, (by walk_at "ms"), _, _, rfl, rfl, _, rfl, hz0, hz1, ?_⟩
    rw [← D.len_eq h1 h2]
    exact k
theorem sc_leg_between : FnScope ["chart", "start", "end", "leg"] ["chart", "start", "end"] (defScope s_leg_between) := ⟨rfl, rfl, rfl, by decide +kernel, rfl, by decide +kernel, by decide +kernel⟩
theorem ok_leg_between {f : Addr} {fd : FuncData} (F : Fun K "leg_between" "leg_between" s_leg_between f fd) (T : TxtA mg) : FnOk P w K mg base CX0 1 f fd ["chart", "start", "end"] (spLegBt) := by
  refine F.ok sc_leg_between (fun vs H Q E h => ?_) (fun cdv A outer s H vs Q E hr h => ?_)
  · obtain ⟨_, _, _, _, rfl, _⟩ := h
    rfl
  · obtain ⟨ch, D, s', e', rfl, C, k⟩ := h
    have hu := hu_of hr
    refine ⟨_, (pss_cons (ps_for PassesOwn.never rfl (pi_list (pe_dget hu (pv 0) pe_str (fun _ _ => rfl))) (pg_name (i := 3) sc_leg_between.nd rfl (Or.inl rfl))
      (pss_one (ps_if (PW.pt (pw_and (pt_cmpR op_eq (pe_ix (r := rIxT K) ix_tup (pv 3) pe_int (fun _ _ => rfl)) (pv 1) (nomark _)) (pw_and1 (pt_cmpR op_eq (pe_ix (r := rIxT K) ix_tup (pv 3) pe_int (fun _ _ => rfl)) (pv 2) (nomark _))))) (pss_one (ps_ret (pv 3)))
      pss_nil)))
    (pss_one (ps_ret pe_non))), ?_⟩
    refine ⟨_, rfl, _, _, rfl, C.gl, _, rfl, ⟨_, .inl (.inl C.lg)⟩, for_list (K := K) (a := D.lg) (xs := D.ls.map fun l => V.ref l.a) (fun i σ H2 => ∃ v, σ = [some (.ref ch), some (.str s'), some (.str e'), v] ∧ H2 = H ∧ (D.ls.take i).find? (fun l => decide (l.s = s') && decide (l.e = e')) = none)
      ⟨none, rfl, rfl, rfl⟩ (fun i σ H2 _ ⟨_, _, e, _⟩ => .inl (.inl (e ▸ C.lg))) ?_ ?_⟩
    · rintro i y σ H2 hi ⟨v, rfl, rfl, hf⟩
      obtain ⟨l, rfl, hl, hil, ht⟩ := getMap hi
      have hq := C.lt l hl
      refine ⟨_, rfl, _, _, _, .str l.s, rfl, rfl, .inl (.inl hq), rfl, _, rfl, rfl, _, rfl, ite2 (fun e1 => ?_) (fun e1 => ?_)⟩
      · have e1 := V.str.inj (of_decide_eq_true e1)
        refine ⟨_, rfl, _, _, _, .str l.e, rfl, rfl, .inl (.inl hq), rfl, _, rfl, rfl, _, rfl, ite2 (fun e2 => ?_) (fun e2 => ?_)⟩
        · have e2 := V.str.inj (of_decide_eq_true e2)
          refine ⟨_, rfl, ?_⟩
          have e3 : D.leg s' e' = some l := by
            unfold CD.leg
            rw [← List.take_append_drop (i + 1) D.ls, List.find?_append, ht, List.find?_append, hf]
            simp [e1, e2]
          rw [e3] at k
          exact k
        · refine ⟨_, rfl, rfl, ?_⟩
          rw [ht, List.find?_append, hf]
          have : ¬ l.e = e' := fun z => e2 (decide_eq_true (congrArg V.str z))
          simp [this]
      · refine iteF ?_
        refine ⟨_, rfl, rfl, ?_⟩
        rw [ht, List.find?_append, hf]
        have : ¬ l.s = s' := fun z => e1 (decide_eq_true (congrArg V.str z))
        simp [this]
    · rintro σ H2 ⟨v, rfl, rfl, hf⟩
      rw [List.length_map, List.take_length] at hf
      have e3 : D.leg s' e' = none := hf
      rw [e3] at k
      exact k
theorem sc_law_is : FnScope ["actual", "due"] ["actual", "due"] (defScope s_law_is) := ⟨rfl, rfl, rfl, by decide +kernel, rfl, by decide +kernel, by decide +kernel⟩
theorem ok_law_is {f : Addr} {fd : FuncData} (F : Fun K "_law_is" "_law_is" s_law_is f fd) (T : TxtA mg) : FnOk P w K mg base CX0 1 f fd ["actual", "due"] (spIs) := by
  refine F.ok sc_law_is (fun vs H Q E h => ?_) (fun cdv A outer s H vs Q E hr h => ?_)
  · obtain ⟨_, _, rfl, _⟩ := h
    rfl
  · obtain ⟨a, b, rfl, k⟩ := h
    refine ⟨_, (pss_one (ps_ret (pe_and (pe_callB call_isi (by rfl) T.isinstance boot_isinstance (pa_cons (pv 0) (pa_cons (pe_bltn (v := .ty "bool") (by rfl) T.bool boot_bool rfl) pa_nil))) (pe_one (pe_cmpR op_eq (pv 0) (pv 1) (nomark _)))))), ?_⟩
    refine ⟨_, rfl, _, _, _, _, true, rfl, ClsV.ty _, .base (.bl a), kit_ty (by decide +kernel), true, rfl, ?_⟩
    refine iteT ?_
    refine ⟨_, rfl, _, rfl, rfl, ?_⟩
    have e : decide (V.bl a = V.bl b) = decide (a = b) := by
      by_cases h : a = b
      · rw [h]; simp
      · rw [decide_eq_false h, decide_eq_false fun z => h (V.bl.inj z)]
    show Q (.bl (decide (V.bl a = V.bl b))) H
    rw [e]
    exact k
theorem sc_law_root_up : FnScope ["n", "low", "high", "k", "middle"] ["n"] (defScope s_law_root_up) := ⟨rfl, rfl, rfl, by decide +kernel, rfl, by decide +kernel, by decide +kernel⟩
theorem ok_law_root_up {f : Addr} {fd : FuncData} (F : Fun K "_law_root_up" "_law_root_up" s_law_root_up f fd) (T : TxtA mg) : FnOk P w K mg base CX0 1 f fd ["n"] (spRootR) := by
  refine F.ok sc_law_root_up (fun vs H Q E h => ?_) (fun cdv A outer s H vs Q E hr h => ?_)
  · obtain ⟨n, rfl, _⟩ := h
    rfl
  · obtain ⟨n, rfl, hn0, hn1, k⟩ := h
    refine ⟨_, (pss_cons (ps_set (i := 1) sc_law_root_up.nd rfl (Or.inl rfl) pe_int)
    (pss_cons (ps_set (i := 2) sc_law_root_up.nd rfl (Or.inl rfl) (pe_op op_pow pe_int pe_int))
    (pss_cons (ps_for PassesOwn.never rfl (pi_range1 (by rfl) T.range (pa_cons pe_int pa_nil)) (pg_name (i := 3) sc_law_root_up.nd rfl (Or.inl rfl))
      (pss_cons (ps_set (i := 4) sc_law_root_up.nd rfl (Or.inl rfl) (pe_op op_fdivW (pe_op op_add (pv 1) (pv 2)) pe_int))
    (pss_one (ps_if (pt_cmpR op_ge (pe_op op_mul (pv 4) (pv 4)) (pv 0) (nomark _)) (pss_one (ps_set (i := 2) sc_law_root_up.nd rfl (Or.inl rfl) (pv 4)))
      (pss_one (ps_set (i := 1) sc_law_root_up.nd rfl (Or.inl rfl) (pe_op op_add (pv 4) pe_int)))))))
    (pss_one (ps_ret (pv 2)))))), ?_⟩
    refine ⟨_, _, rfl, rfl, ⟨by decide, by decide, by decide⟩, ?_⟩
    refine ⟨_, rfl, by decide, by decide, for_range (n := 24) (fun i σ H2 => ∃ lw hg v3 v4, σ = [some (.int n), some (.int lw), some (.int hg), v3, v4] ∧ 0 ≤ lw ∧ lw ≤ hg ∧ hg ≤ 10000000 ∧ hg - lw < pw i ∧ n ≤ hg * hg ∧ (lw = 0 ∨ (lw - 1) * (lw - 1) < n) ∧ H2 = H) ⟨0, 10000000, none, none, rfl, by omega, by omega, by omega, by decide, by omega, .inl rfl, rfl⟩ ?_ ?_⟩
    · rintro i σ H2 hi ⟨lw, hg, v3, v4, rfl, l0, l1, h0, hw, hu', hl', rfl⟩
      have hp := pw_step hi
      refine ⟨_, rfl, _, rfl, _, _, rfl, rfl, _, _, rfl, rfl, log_of (by decide) (by decide), ?_⟩
      refine ⟨_, rfl, _, rfl, _, _, rfl, rfl, .inl ⟨by omega, by omega⟩, _, rfl, _, _, rfl, rfl, _, rfl, ite2 (fun e => ?_) (fun e => ?_)⟩
      · have e := of_decide_eq_true e
        refine ⟨_, rfl, lw, (lw + hg) / 2, _, _, rfl, by omega, by omega, by omega, by omega, e, hl', rfl⟩
      · have e : ¬ n ≤ (lw + hg) / 2 * ((lw + hg) / 2) := fun z => e (decide_eq_true z)
        have hlt : (lw + hg) / 2 < hg := by
          rcases ltge ((lw + hg) / 2) hg with w | w
          · exact w
          · have := mono_sq (show 0 ≤ hg by omega) w
            omega
        refine ⟨_, rfl, _, _, rfl, rfl, (lw + hg) / 2 + 1, hg, _, _, rfl, by omega, by omega, by omega, by omega, hu', .inr ?_, rfl⟩
        rw [show (lw + hg) / 2 + 1 - 1 = (lw + hg) / 2 by omega]
        omega
    · rintro σ H2 ⟨lw, hg, v3, v4, rfl, l0, l1, h0, hw, hu', hl', rfl⟩
      have hp : pw 24 = 1 := by decide
      have hq : IsRt n hg := ⟨by omega, hu', by rw [show hg = lw by omega]; exact hl'⟩
      refine ⟨_, rfl, ?_⟩
      show Q (.int hg) H2
      rw [hq.eq (rt_is hn0)]
      exact k
theorem sc_law_names : FnScope ["state", "many", "shift", "names", "k", "letter"] ["state", "many"] (defScope s_law_names) := ⟨rfl, rfl, rfl, by decide +kernel, rfl, by decide +kernel, by decide +kernel⟩
theorem ok_law_names {f : Addr} {fd : FuncData} (F : Fun K "_law_names" "_law_names" s_law_names f fd) (T : TxtA mg)
    (D_law_draw : Def P w K mg base 1 "_law_draw" ["state", "bound"] (spDraw K))
    (D_law_pick : Def P w K mg base 2 "_law_pick" ["state", "things"] (spPick K)) : FnOk P w K mg base CX0 3 f fd ["state", "many"] (spNames K) := by
  refine F.ok sc_law_names (fun vs H Q E h => ?_) (fun cdv A outer s H vs Q E hr h => ?_)
  · obtain ⟨_, _, _, rfl, _⟩ := h
    rfl
  · obtain ⟨d, c, m, rfl, S, m0, m1, k⟩ := h
    refine ⟨_, (pss_cons (ps_set (i := 2) sc_law_names.nd rfl (Or.inl rfl) (pe_def D_law_draw (hr.mono (by decide)) (by rfl) (pa_cons (pv 0) (pa_cons pe_int pa_nil))))
    (pss_cons (ps_set (i := 3) sc_law_names.nd rfl (Or.inl rfl) (pe_lst pa_nil))
    (pss_cons (ps_for PassesOwn.never rfl (pi_range1 (by rfl) T.range (pa_cons (pv 1) pa_nil)) (pg_name (i := 4) sc_law_names.nd rfl (Or.inl rfl))
      (pss_cons (ps_set (i := 5) sc_law_names.nd rfl (Or.inl rfl) (pe_ix ix_str pe_str (pe_op op_mod (pe_callTy call_int1 (by rfl) T.int boot_int (pa_cons (pe_op op_add (pv 4) (pv 2)) pa_nil)) pe_int) (fun _ _ => rfl)))
    (pss_one (ps_expr (pe_bm PySem.F.plainAttrs_list PySem.F.slot_list_append PySem.F.type_list_append mt_append (pv 3) (pa_cons (pe_op op_add_str (pv 5) (pe_def D_law_pick (hr.mono (by decide)) (by rfl) (pa_cons (pv 0) (pa_cons (pe_lst (pa_cons pe_str (pa_cons pe_str (pa_cons pe_str (pa_cons pe_str (pa_cons pe_str (pa_cons pe_str pa_nil))))))) pa_nil)))) pa_nil))))))
    (pss_one (ps_ret (pv 3)))))), ?_⟩
    refine ⟨_, rfl, d, c, _, rfl, S, (by omega), (by omega), fun x1 H1 x1a x1b S1 kp1 => ?_⟩
    refine ⟨szOk rfl, fun p2 hp2 => ?_⟩
    have npd : p2 ≠ d := S1.nd hp2
    have npc : p2 ≠ c := S1.nc hp2
    refine ⟨_, rfl, _, rfl, by omega, by omega, for_range (n := m.toNat) (fun i σ H2 => ∃ (ns : List Str) (v4 v5 : Option V), σ = [some (.ref d), some (.int m), some (.int x1), some (.ref p2), v4, v5] ∧ St1 K H2 d c ∧ H2 p2 = some (.lst (ns.map V.str)) ∧ ns.length = i ∧ (∀ n ∈ ns, sOk n) ∧ Let1 ns x1 ∧ ∀ b o, H b = some o → b ≠ d → H2 b = some o)
      ⟨[], none, none, rfl, (S1.new hp2), upd_same, rfl, (fun _ h => nomatch h), (fun j h => absurd h (Nat.not_lt_zero j)), fun b o e nb => same_new hp2 _ _ (kp1 b o e nb)⟩ ?_ ?_⟩
    · rintro i σ H2 hi ⟨ns, v4, v5, rfl, S0, hL, hlen, hok, hlet, hk⟩
      have nHp : H p2 = none := by
        cases e : H p2 with
        | none => rfl
        | some o => rw [kp1 _ _ e npd] at hp2; cases hp2
      obtain ⟨c1, hc1, hc2⟩ : ∃ c1, atI ("QXAMBZKCTDRE" : Str).cps.toList ((0 + (i : Int) + x1) % 12) = some c1 ∧ c1 < 1114112 := by
        obtain ⟨j, hj⟩ : ∃ j : Nat, (0 + (i : Int) + x1) % 12 = (j : Int) := ⟨((0 + (i : Int) + x1) % 12).toNat, by omega⟩
        rw [hj]
        have hj2 : j < 12 := by omega
        have hall : ∀ c ∈ ("QXAMBZKCTDRE" : Str).cps.toList, c < 1114112 := by decide +kernel
        exact ⟨_, atI_nat (List.getElem?_eq_getElem (by show j < 12; exact hj2)), hall _ (List.getElem_mem _)⟩
      refine ⟨_, rfl, _, rfl, _, _, rfl, rfl, .inl ⟨_, rfl, _, _, rfl, rfl, (by show (0:Int) < 12; decide), _, _, _, rfl, rfl, (by show 12 ≤ sizeLine; decide), hc1, ?_⟩⟩
      refine ⟨_, rfl, (.inl ⟨rfl, _, .inl (.inl hL)⟩), _, rfl, _, rfl, szOk rfl, fun p3 hp3 => ?_⟩
      refine ⟨d, c, _, _, rfl, (S0.new hp3), .inl (.inl upd_same), (fun z => nomatch z), (by show 6 ≤ 1000; decide), fun v4 H4 hv4 S4 kp4 => ?_⟩
      have hL := kp4.l (S0.new hp3) (same_new hp3 _ _ hL)
      obtain ⟨z4, rfl, hz4, hzk4⟩ : ∃ z : Str, v4 = .str z ∧ z.length ≤ 4 ∧ sOk z := by
        simp only [List.mem_cons, List.not_mem_nil, or_false] at hv4
        rcases hv4 with rfl | rfl | rfl | rfl | rfl | rfl <;> exact ⟨_, rfl, by decide +kernel, by decide +kernel⟩
      refine ⟨_, _, rfl, rfl, Nat.le_trans (Nat.add_le_add (show (1 : Nat) ≤ 1 from Nat.le_refl 1) hz4) (by decide), ?_⟩
      refine ⟨_, _, _, rfl, rfl, hL, (by rw [List.length_map]; exact small1000 (by omega)), ?_⟩
      refine ⟨ns ++ [⟨#[c1]⟩ ++ z4], _, _, rfl, St1.put S4 npd npc, by rw [upd_same, List.map_append]; rfl, by rw [List.length_append, hlen]; rfl, fun n hn => ?_, fun j hj => ?_, fun b o e nb => ?_⟩
      · rcases List.mem_append.mp hn with h | h
        · exact hok n h
        · rw [List.mem_singleton.mp h]
          exact sOk_app (by show PySem.PyData.strOk ⟨#[c1]⟩ = true; simp [PySem.PyData.strOk, hc2]) hzk4
      · rw [List.length_append, List.length_singleton] at hj
        by_cases ej : j < ns.length
        · obtain ⟨c, y1, y2⟩ := hlet j ej
          exact ⟨c, by rw [List.getElem_append_left ej]; exact y1, y2⟩
        · have ej2 : j = i := by omega
          subst ej2
          refine ⟨c1, ?_, by rw [← Int.zero_add (j : Int)]; exact hc1⟩
          rw [List.getElem_append_right (by omega)]
          simp only [hlen, Nat.sub_self, List.getElem_cons_zero]
          show ((#[c1] ++ z4.cps : Array Nat).toList).head? = some c1
          rw [Array.toList_append]
          rfl
      rw [upd_ne (fun z => by rw [z, nHp] at e; cases e)]
      exact kp4 _ _ (same_new hp3 _ _ (hk b o e nb)) nb
    · rintro σ H2 ⟨ns, v4, v5, rfl, S0, hL, hlen, hok, hlet, hk⟩
      have nHp : H p2 = none := by
        cases e : H p2 with
        | none => rfl
        | some o => rw [kp1 _ _ e npd] at hp2; cases hp2
      refine ⟨_, rfl, k ns p2 H2 (by omega) hok (let_nodup hlet (by omega)) nHp hL S0 fun b o e nb => hk b o e nb⟩
theorem sc_law_legs : FnScope ["state", "names", "legs", "many", "k", "j", "other", "levels", "leg"] ["state", "names"] (defScope s_law_legs) := ⟨rfl, rfl, rfl, by decide +kernel, rfl, by decide +kernel, by decide +kernel⟩
theorem ok_law_legs {f : Addr} {fd : FuncData} (F : Fun K "_law_legs" "_law_legs" s_law_legs f fd) (T : TxtA mg)
    (D_law_draw : Def P w K mg base 1 "_law_draw" ["state", "bound"] (spDraw K))
    (D_law_pick : Def P w K mg base 2 "_law_pick" ["state", "things"] (spPick K)) : FnOk P w K mg base CX0 3 f fd ["state", "names"] (spLegs K) := by
  refine F.ok sc_law_legs (fun vs H Q E h => ?_) (fun cdv A outer s H vs Q E hr h => ?_)
  · obtain ⟨_, _, _, _, rfl, _⟩ := h
    rfl
  · obtain ⟨d, c, l, ns, rfl, S, hN, n2, n12, k⟩ := h
    refine ⟨_, (pss_cons (ps_set (i := 2) sc_law_legs.nd rfl (Or.inl rfl) (pe_lst pa_nil))
    (pss_cons (ps_set (i := 3) sc_law_legs.nd rfl (Or.inl rfl) (pe_callB (r := rLenK K) call_len_seq (by rfl) T.len boot_len (pa_cons (pv 1) pa_nil)))
    (pss_cons (ps_for PassesOwn.never rfl (pi_range1 (by rfl) T.range (pa_cons (pv 3) pa_nil)) (pg_name (i := 4) sc_law_legs.nd rfl (Or.inr rfl))
      (pss_one (ps_for PassesOwn.never rfl (pi_range1 (by rfl) T.range (pa_cons (pe_def D_law_pick (hr.mono (by decide)) (by rfl) (pa_cons (pv 0) (pa_cons (pe_lst (pa_cons pe_int (pa_cons pe_int (pa_cons pe_int (pa_cons pe_int (pa_cons pe_int pa_nil)))))) pa_nil))) pa_nil)) (pg_name (i := 5) sc_law_legs.nd rfl (Or.inl rfl))
      (pss_cons (ps_set (i := 6) sc_law_legs.nd rfl (Or.inr rfl) (pe_ix (r := rIxL K) ix_list (pv 1) (pe_op op_mod (pe_callTy call_int1 (by rfl) T.int boot_int (pa_cons (pe_op op_add (pe_op op_add (pv 4) pe_int) (pe_def D_law_draw (hr.mono (by decide)) (by rfl) (pa_cons (pv 0) (pa_cons (pe_op op_sub (pv 3) pe_int) pa_nil)))) pa_nil)) (pv 3)) (fun _ _ => rfl)))
    (pss_one (ps_if (pt_not (pt_val (pe_callB (cr_any rfl) (by rfl) T.any boot_any (pa_cons (pe_lc (own := [("leg", 8)]) (g := gName 8) (by rfl) sc_law_legs.nd (pi_list (pv 2)) (blkOk_by (own := [("leg", 8)]) (N := ["state", "names", "legs", "many", "k", "j", "other", "levels", "leg"]) (sc := defScope s_law_legs) (by decide +kernel)) (fun _ _ _ _ _ => (pg_name (i := 8) sc_law_legs.nd rfl (Or.inl rfl))) (fun _ _ _ _ _ => pts_nil) (fun _ _ _ _ _ => (pe_and (pe_cmpR op_eq (pe_ix (r := rIxT K) ix_tup (pv 8) pe_int (fun _ _ => rfl)) (pe_ix (r := rIxL K) ix_list (pv 1) (pv 4) (fun _ _ => rfl)) (nomark _)) (pe_one (pe_cmpR op_eq (pe_ix (r := rIxT K) ix_tup (pv 8) pe_int (fun _ _ => rfl)) (pv 6) (nomark _)))))) pa_nil)))) (pss_cons (ps_set (i := 7) sc_law_legs.nd rfl (Or.inl rfl) (pe_def D_law_pick (hr.mono (by decide)) (by rfl) (pa_cons (pv 0) (pa_cons (pe_lst (pa_cons (pe_tup (pa_cons pe_int (pa_cons pe_int pa_nil))) (pa_cons (pe_tup (pa_cons pe_int (pa_cons pe_int pa_nil))) (pa_cons (pe_tup (pa_cons pe_int (pa_cons pe_int pa_nil))) (pa_cons (pe_tup (pa_cons pe_int (pa_cons pe_int pa_nil))) (pa_cons (pe_tup (pa_cons pe_int (pa_cons pe_int pa_nil))) pa_nil)))))) pa_nil))))
    (pss_one (ps_expr (pe_bm PySem.F.plainAttrs_list PySem.F.slot_list_append PySem.F.type_list_append mt_append (pv 2) (pa_cons (pe_tup (pa_cons (pe_ix (r := rIxL K) ix_list (pv 1) (pv 4) (fun _ _ => rfl)) (pa_cons (pv 6) (pa_cons (pe_def D_law_pick (hr.mono (by decide)) (by rfl) (pa_cons (pv 0) (pa_cons (pe_lst (pa_cons pe_str (pa_cons pe_str (pa_cons pe_str pa_nil)))) pa_nil))) (pa_cons (pe_ix (r := rIxT K) ix_tup (pv 7) pe_int (fun _ _ => rfl)) (pa_cons (pe_ix (r := rIxT K) ix_tup (pv 7) pe_int (fun _ _ => rfl)) pa_nil)))))) pa_nil)))))
      pss_nil))))))
    (pss_one (ps_ret (pv 2)))))), ?_⟩
    refine ⟨szOk rfl, fun p1 hp1 => ?_⟩
    refine ⟨_, rfl, _, _, rfl, (.inl (.inl (.inl (same_new hp1 _ _ hN)))), ?_⟩
    have npd : p1 ≠ d := S.nd hp1
    have npc : p1 ≠ c := S.nc hp1
    have npl : l ≠ p1 := ne_of_none hN hp1
    have nHp : H p1 = none := hp1
    refine ⟨_, rfl, _, rfl, by rw [List.length_map]; omega, by rw [List.length_map]; omega, for_range (n := ((ns.map V.str).length : Int).toNat) (fun i σ H2 => ∃ (ls : List Lg) (v_k v_j v_other v_levels v_leg : Option V), σ = [some (.ref d), some (.ref l), some (.ref p1), some (.int (ns.length : Int)), v_k, v_j, v_other, v_levels, v_leg] ∧ St1 K H2 d c ∧ H2 l = some (.lst (ns.map V.str)) ∧ LegsAt H2 p1 ns ls ∧ ls.length ≤ 3 * i ∧ Keep d H H2)
      ⟨[], none, none, none, none, none, by rw [List.length_map]; rfl, (S.new hp1), (same_new hp1 _ _ hN), ⟨upd_same, (fun _ h => nomatch h), (fun _ h => nomatch h), (fun _ h => nomatch h), fun _ _ h => nomatch h⟩, Nat.le_refl _, Keep.of (same_new hp1)⟩ ?_ ?_⟩
    · rintro i σ H2 hi ⟨ls, v_k, v_j, v_other, v_levels, v_leg, rfl, S0, hN, hL, hlen, hk⟩
      have hik : i < ns.length := by rw [List.length_map] at hi; omega
      refine ⟨_, rfl, szOk rfl, fun p2 hp2 => ?_⟩
      refine ⟨d, c, _, _, rfl, (S0.new hp2), .inl (.inl upd_same), (fun z => nomatch z), (by show 5 ≤ 1000; decide), fun v3 H3 hv3 S3 kp3 => ?_⟩
      have hN := kp3.l (S0.new hp2) (same_new hp2 _ _ hN)
      have hL := (hL.same (same_new hp2)).keep (S0.new hp2) kp3
      obtain ⟨x3, rfl, x3a, x3b⟩ : ∃ z : Int, v3 = .int z ∧ 0 ≤ z ∧ z ≤ 3 := by
        simp only [List.mem_cons, List.not_mem_nil, or_false] at hv3
        rcases hv3 with rfl | rfl | rfl | rfl | rfl <;> exact ⟨_, rfl, by decide, by decide⟩
      refine ⟨_, rfl, by omega, by omega, for_range (n := x3.toNat) (fun j σ H2 => ∃ (ls : List Lg) (v_j v_other v_levels v_leg : Option V), σ = [some (.ref d), some (.ref l), some (.ref p1), some (.int (ns.length : Int)), some (.int (0 + (i : Int))), v_j, v_other, v_levels, v_leg] ∧ St1 K H2 d c ∧ H2 l = some (.lst (ns.map V.str)) ∧ LegsAt H2 p1 ns ls ∧ ls.length ≤ 3 * i + j ∧ Keep d H H2)
        ⟨ls, _, _, _, _, rfl, S3, hN, hL, by omega, hk.trans ((Keep.of (same_new hp2)).trans kp3)⟩ ?_ ?_⟩
      · rintro j σ H2 hj ⟨ls, v_j, v_other, v_levels, v_leg, rfl, S0, hN, hL, hlen, hk⟩
        refine ⟨_, rfl, _, rfl, _, _, rfl, rfl, _, rfl, _, rfl, _, _, rfl, rfl, d, c, _, rfl, S0, (by omega), (by omega), fun x4 H4 x4a x4b S4 kp4 => ?_⟩
        have hN := kp4.l S0 hN
        have hL := hL.keep S0 kp4
        obtain ⟨oj, hoj, hoe, hat⟩ := at_mod2 (f := V.str) (ns := ns) (z := 0 + (i : Int) + 1 + x4) (m := (ns.length : Int)) rfl (by omega)
        have hone : ns.Nodup → ns[i] ≠ ns[oj] := fun nd => nodup_ne nd hik hoj (mod_ne (by omega) x4a x4b hoe)
        have hoth : ns[oj] ∈ ns := List.getElem_mem hoj
        generalize ns[oj] = oth at hat hone hoth
        refine ⟨_, _, rfl, rfl, .inl ⟨_, rfl, _, rfl, _, _, rfl, rfl, (by show 0 < (ns.length : Int); omega), _, _, _, _, rfl, rfl, .inl (.inl hN), hat, ?_⟩⟩
        refine ⟨_, rfl, p1, rfl, ⟨_, .inl (.inl hL.li)⟩, fun D hD => ?_⟩
        refine lc_list (K := K) (a := p1) (xs := ls.map fun l => V.ref l.a) (fun u H' => ∃ bs : List Bool, H' = upd H4 D (.lst (bs.map V.bl)) ∧ bs.length = u) ⟨[], rfl, rfl⟩ (fun u H' _ ⟨_, e, _⟩ => .inl (.inl (by rw [e, upd_ne (ne_of_none hL.li hD)]; exact hL.li))) ?_ ?_
        · rintro u y H' hu1 ⟨bs, rfl, hbs⟩
          obtain ⟨q, rfl, hq, hul, _⟩ := getMap hu1
          have ht := same_new (o := .lst (bs.map V.bl)) hD _ _ (hL.tu q hq)
          have hN2 := same_new (o := .lst (bs.map V.bl)) hD _ _ hN
          refine ⟨rfl, ?_⟩
          refine ⟨_, rfl, _, _, _, .str q.s, rfl, rfl, .inl (.inl ht), rfl, _, rfl, _, rfl, _, _, _, _, rfl, rfl, .inl (.inl hN2), atI0 (mapAt hik), rfl, _, rfl, ite2 (fun e1 => ?_) (fun e1 => ?_)⟩
          · refine ⟨_, rfl, _, _, _, .str q.e, rfl, rfl, .inl (.inl ht), rfl, _, rfl, rfl, _, upd_same, (by rw [List.length_map]; exact small1000 (by omega)), bs ++ [decide (V.str q.e = V.str oth)], ?_, by rw [List.length_append, hbs]; rfl⟩
            rw [upd_upd, List.map_append]
            rfl
          · refine ⟨_, upd_same, (by rw [List.length_map]; exact small1000 (by omega)), bs ++ [false], ?_, by rw [List.length_append, hbs]; rfl⟩
            rw [upd_upd, List.map_append]
            rfl
        rintro H' ⟨bs, rfl, hbs⟩
        refine ⟨D, bs, rfl, .inl (.inl upd_same), _, rfl, ?_⟩
        have hk1 : Keep d H (upd H4 D (.lst (bs.map V.bl))) := (hk.trans kp4).trans (Keep.of (same_new hD))
        have S1 := S4.new (o := .lst (bs.map V.bl)) hD
        have hN1 := same_new (o := .lst (bs.map V.bl)) hD _ _ hN
        have hL1 := hL.same (same_new (o := .lst (bs.map V.bl)) hD)
        generalize upd H4 D (.lst (bs.map V.bl)) = Hb at hk1 S1 hN1 hL1 ⊢
        cases hb : bs.any id with
        | true => exact ⟨ls, _, _, _, _, rfl, S1, hN1, hL1, by omega, hk1⟩
        | false =>
          refine ⟨_, rfl, szOk rfl, fun p5 hp5 => ?_⟩
          refine ⟨szOk rfl, fun p6 hp6 => ?_⟩
          refine ⟨szOk rfl, fun p7 hp7 => ?_⟩
          refine ⟨szOk rfl, fun p8 hp8 => ?_⟩
          refine ⟨szOk rfl, fun p9 hp9 => ?_⟩
          refine ⟨szOk rfl, fun p10 hp10 => ?_⟩
          refine ⟨d, c, _, _, rfl, ((((((S1.new hp5).new hp6).new hp7).new hp8).new hp9).new hp10), .inl (.inl upd_same), (fun z => nomatch z), (by show 5 ≤ 1000; decide), fun v11 H11 hv11 S11 kp11 => ?_⟩
          obtain ⟨lv, lo', hi', rfl, hlv⟩ : ∃ a lo' hi', v11 = .ref a ∧ H11 a = some (.tup [.int lo', .int hi']) := by
            simp only [List.mem_cons, List.not_mem_nil, or_false] at hv11
            rcases hv11 with rfl | rfl | rfl | rfl | rfl
            · exact ⟨_, _, _, rfl, kp11.t ((((((S1.new hp5).new hp6).new hp7).new hp8).new hp9).new hp10) (same_new hp10 _ _ (same_new hp9 _ _ (same_new hp8 _ _ (same_new hp7 _ _ (same_new hp6 _ _ upd_same)))))⟩
            · exact ⟨_, _, _, rfl, kp11.t ((((((S1.new hp5).new hp6).new hp7).new hp8).new hp9).new hp10) (same_new hp10 _ _ (same_new hp9 _ _ (same_new hp8 _ _ (same_new hp7 _ _ upd_same))))⟩
            · exact ⟨_, _, _, rfl, kp11.t ((((((S1.new hp5).new hp6).new hp7).new hp8).new hp9).new hp10) (same_new hp10 _ _ (same_new hp9 _ _ (same_new hp8 _ _ upd_same)))⟩
            · exact ⟨_, _, _, rfl, kp11.t ((((((S1.new hp5).new hp6).new hp7).new hp8).new hp9).new hp10) (same_new hp10 _ _ (same_new hp9 _ _ upd_same))⟩
            · exact ⟨_, _, _, rfl, kp11.t ((((((S1.new hp5).new hp6).new hp7).new hp8).new hp9).new hp10) (same_new hp10 _ _ upd_same)⟩
          have hN1 := kp11.l ((((((S1.new hp5).new hp6).new hp7).new hp8).new hp9).new hp10) (same_new hp10 _ _ (same_new hp9 _ _ (same_new hp8 _ _ (same_new hp7 _ _ (same_new hp6 _ _ (same_new hp5 _ _ hN1))))))
          have hL1 := ((((((hL1.same (same_new hp5)).same (same_new hp6)).same (same_new hp7)).same (same_new hp8)).same (same_new hp9)).same (same_new hp10)).keep ((((((S1.new hp5).new hp6).new hp7).new hp8).new hp9).new hp10) kp11
          have hk2 : Keep d H H11 := ((((((hk1.trans (Keep.of (same_new hp5))).trans (Keep.of (same_new hp6))).trans (Keep.of (same_new hp7))).trans (Keep.of (same_new hp8))).trans (Keep.of (same_new hp9))).trans (Keep.of (same_new hp10))).trans kp11
          refine ⟨_, rfl, (.inl ⟨rfl, _, .inl (.inl hL1.li)⟩), _, rfl, _, rfl, _, _, _, _, rfl, rfl, (.inl (.inl hN1)), (atI0 (mapAt hik)), _, rfl, _, rfl, szOk rfl, fun p12 hp12 => ?_⟩
          refine ⟨d, c, _, _, rfl, (S11.new hp12), .inl (.inl upd_same), (fun z => nomatch z), (by show 3 ≤ 1000; decide), fun v13 H13 hv13 S13 kp13 => ?_⟩
          have hN1 := kp13.l (S11.new hp12) (same_new hp12 _ _ hN1)
          have hL1 := (hL1.same (same_new hp12)).keep (S11.new hp12) kp13
          have hlv := kp13.t (S11.new hp12) (same_new hp12 _ _ hlv)
          obtain ⟨sec, rfl, hsec⟩ : ∃ z : Str, v13 = .str z ∧ sOk z := by
            simp only [List.mem_cons, List.not_mem_nil, or_false] at hv13
            rcases hv13 with rfl | rfl | rfl <;> exact ⟨_, rfl, by decide +kernel⟩
          refine ⟨_, rfl, _, _, _, _, rfl, rfl, (.inl (.inl hlv)), rfl, _, rfl, _, _, _, _, rfl, rfl, (.inl (.inl hlv)), rfl, szOk rfl, fun p14 hp14 => ?_⟩
          refine ⟨_, _, _, rfl, rfl, (hL1.same (same_new hp14)).li, (by rw [List.length_map]; exact small1000 (by omega)), ?_⟩
          have hk3 : Keep d H (upd H13 p14 (.tup (Lg.v (Lg.mk p14 ns[i] oth sec lo' hi')))) := ((hk2.trans (Keep.of (same_new hp12))).trans kp13).trans (Keep.of (same_new hp14))
          refine ⟨ls ++ [(Lg.mk p14 ns[i] oth sec lo' hi')], _, _, _, _, rfl, St1.put (S13.new hp14) npd npc, by rw [upd_ne npl]; exact (same_new hp14 _ _ hN1), LegsAt.snoc (q := (Lg.mk p14 ns[i] oth sec lo' hi')) (hL1.same (same_new hp14)) upd_same (List.getElem_mem hik) hoth hsec hone, by rw [List.length_append, List.length_singleton]; omega, fun b o e nb => ?_⟩
          rw [upd_ne (fun z => by rw [z, nHp] at e; cases e)]
          exact hk3 b o e nb
      · rintro σ H2 ⟨ls, v_j, v_other, v_levels, v_leg, rfl, S0, hN, hL, hlen, hk⟩
        exact ⟨ls, _, _, _, _, _, rfl, S0, hN, hL, by omega, hk⟩
    · rintro σ H2 ⟨ls, v_k, v_j, v_other, v_levels, v_leg, rfl, S0, hN, hL, hlen, hk⟩
      refine ⟨_, rfl, k ls p1 H2 hL ?_ nHp S0 hk⟩
      have : ((ns.map V.str).length : Int).toNat = ns.length := by rw [List.length_map]; omega
      omega
theorem sc_law_chart : FnScope ["state", "many", "size", "names", "fixes", "k", "legs", "holds", "leg", "back", "runways", "chart", "name", "other"] ["state", "many", "size"] (defScope s_law_chart) := ⟨rfl, rfl, rfl, by decide +kernel, rfl, by decide +kernel, by decide +kernel⟩
theorem ok_law_chart {f : Addr} {fd : FuncData} (F : Fun K "_law_chart" "_law_chart" s_law_chart f fd) (T : TxtA mg)
    (D_law_draw : Def P w K mg base 1 "_law_draw" ["state", "bound"] (spDraw K))
    (D_law_names : Def P w K mg base 3 "_law_names" ["state", "many"] (spNames K))
    (D_law_legs : Def P w K mg base 3 "_law_legs" ["state", "names"] (spLegs K)) : FnOk P w K mg base CX0 4 f fd ["state", "many", "size"] (spChart K) := by
  refine F.ok sc_law_chart (fun vs H Q E h => ?_) (fun cdv A outer s H vs Q E hr h => ?_)
  · obtain ⟨_, _, _, _, rfl, _⟩ := h
    rfl
  · obtain ⟨d, c, m, z, rfl, S, m0, m1, z0, z1, k⟩ := h
    have hu := hu_of hr
    refine ⟨_, (pss_cons (ps_set (i := 3) sc_law_chart.nd rfl (Or.inl rfl) (pe_def D_law_names (hr.mono (by decide)) (by rfl) (pa_cons (pv 0) (pa_cons (pv 1) pa_nil))))
    (pss_cons (ps_set (i := 4) sc_law_chart.nd rfl (Or.inl rfl) pe_dnewK)
    (pss_cons (ps_for PassesOwn.never rfl (pi_range1 (by rfl) T.range (pa_cons (pv 1) pa_nil)) (pg_name (i := 5) sc_law_chart.nd rfl (Or.inl rfl))
      (pss_one (ps_dput hu (pv 4) (pe_ix (r := rIxL K) ix_list (pv 3) (pv 5) (fun _ _ => rfl)) (pe_tup (pa_cons (pe_op op_sub (pe_def D_law_draw (hr.mono (by decide)) (by rfl) (pa_cons (pv 0) (pa_cons (pe_op op_add (pe_op op_mul pe_int (pv 2)) pe_int) pa_nil))) (pv 2)) (pa_cons (pe_op op_add (pe_op op_mul (pv 1) (pe_op op_sub (pe_def D_law_draw (hr.mono (by decide)) (by rfl) (pa_cons (pv 0) (pa_cons (pe_op op_add (pe_op op_mul pe_int (pv 2)) pe_int) pa_nil))) (pv 2))) (pv 5)) pa_nil))) rfl)))
    (pss_cons (ps_set (i := 6) sc_law_chart.nd rfl (Or.inl rfl) (pe_def D_law_legs (hr.mono (by decide)) (by rfl) (pa_cons (pv 0) (pa_cons (pv 3) pa_nil))))
    (pss_cons (ps_set (i := 7) sc_law_chart.nd rfl (Or.inl rfl) pe_dnewK)
    (pss_cons (ps_for PassesOwn.never rfl (pi_list (pv 6)) (pg_name (i := 8) sc_law_chart.nd rfl (Or.inr rfl))
      (pss_cons (ps_setLc (i := 9) (own := [("other", 13)]) (g := gName 13) (by rfl) sc_law_chart.nd rfl rfl (sw_true rfl rfl rfl (by decide +kernel)) (pi_list (pv 6)) (blkOk_by (own := [("other", 13)]) (N := ["state", "many", "size", "names", "fixes", "k", "legs", "holds", "leg", "back", "runways", "chart", "name", "other"]) (sc := defScope s_law_chart) (by decide +kernel)) (fun _ _ _ _ _ => (pg_name (i := 13) sc_law_chart.nd rfl (Or.inl rfl))) (fun _ _ _ _ _ => pts_one (PW.pt (pw_and (pt_cmpR op_eq (pe_ix (r := rIxT K) ix_tup (pv 13) pe_int (fun _ _ => rfl)) (pe_ix (r := rIxT K) ix_tup (pv 8) pe_int (fun _ _ => rfl)) (nomark _)) (pw_and1 (pt_cmpR op_eq (pe_ix (r := rIxT K) ix_tup (pv 13) pe_int (fun _ _ => rfl)) (pe_ix (r := rIxT K) ix_tup (pv 8) pe_int (fun _ _ => rfl)) (nomark _)))))) (fun _ _ _ _ _ => (pv 13)))
    (pss_one (ps_if (PW.pt (pw_and (pt_cmpR op_gt (pe_callB (r := rLenK K) call_len_seq (by rfl) T.len boot_len (pa_cons (pv 9) pa_nil)) pe_int (nomark _)) (pw_and1 (pt_cmpR op_eq (pe_def D_law_draw (hr.mono (by decide)) (by rfl) (pa_cons (pv 0) (pa_cons pe_int pa_nil))) pe_int (nomark _))))) (pss_one (ps_dput hu (pv 7) (pe_ix (r := rIxT K) ix_tup (pv 8) pe_int (fun _ _ => rfl)) (pe_ix (r := rIxT K) ix_tup (pv 8) pe_int (fun _ _ => rfl)) rfl))
      pss_nil))))
    (pss_cons (ps_setLc (i := 10) (own := [("name", 12)]) (g := gName 12) (by rfl) sc_law_chart.nd rfl rfl (sw_true rfl rfl rfl (by decide +kernel)) (pi_list (pv 3)) (blkOk_by (own := [("name", 12)]) (N := ["state", "many", "size", "names", "fixes", "k", "legs", "holds", "leg", "back", "runways", "chart", "name", "other"]) (sc := defScope s_law_chart) (by decide +kernel)) (fun _ _ _ _ _ => (pg_name (i := 12) sc_law_chart.nd rfl (Or.inl rfl))) (fun _ _ _ _ _ => pts_one (pt_cmpR op_eq (pe_def D_law_draw (hr.mono (by decide)) (by rfl) (pa_cons (pv 0) (pa_cons pe_int pa_nil))) pe_int (nomark _))) (fun _ _ _ _ _ => (pv 12)))
    (pss_cons (ps_set (i := 11) sc_law_chart.nd rfl (Or.inl rfl) (pe_disp (pps_cons pe_str (pv 4) (pps_cons pe_str (pv 6) (pps_cons pe_str (pe_lst pa_nil) (pps_cons pe_str (pe_slice sl_list (pv 10) po_none (po_some pe_int)) (pps_cons pe_str (pv 7) pps_nil))))) (by rfl) (by rfl) (fun z => by cases z) (by decide)))
    (pss_cons (ps_dput hu (pv 11) pe_str (pe_lst pa_nil) rfl)
    (pss_cons (ps_dput hu (pv 11) pe_str pe_dnewK rfl)
    (pss_one (ps_ret (pv 11))))))))))))), ?_⟩
    refine ⟨_, rfl, _, rfl, d, c, m, rfl, S, by omega, by omega, fun ns ln Hn hns hnok hnd hln hN Sn kpn => ?_⟩
    have hnl : ns.length ≤ 7 ∧ 2 ≤ ns.length := by omega
    intro fd hfd
    have nfd : fd ≠ d := Sn.nd hfd
    have nfc : fd ≠ c := Sn.nc hfd
    have nfl : ln ≠ fd := ne_of_none hN hfd
    have nHf : H fd = none := kpn.none nfd hfd
    refine ⟨_, rfl, _, rfl, by omega, by omega, for_range (n := m.toNat) (fun i σ H2 => ∃ (kvs : List (Key × V)) (pt : Str → Option (Addr × Int × Int)) (v_k v_legs v_holds v_leg v_back v_runways v_chart v_name v_other : Option V), σ = [some (.ref d), some (.int m), some (.int z), some (.ref ln), some (.ref fd), v_k, v_legs, v_holds, v_leg, v_back, v_runways, v_chart, v_name, v_other] ∧ St1 K H2 d c ∧ H2 ln = some (.lst (ns.map V.str)) ∧ FixAt H2 fd kvs pt (ns.take i) ∧ kvs.length ≤ i ∧ Keep2 d fd Hn H2 ∧ Sep pt ns m i)
      ⟨[], fun _ => none, none, none, none, none, none, none, none, none, none, rfl, (Sn.new hfd), (same_new hfd _ _ hN), ⟨upd_same, (fun _ _ _ _ h => nomatch h), fun _ h => nomatch h⟩, Nat.le_refl _, (Keep2.refl d fd Hn).new hfd, fun j _ h => absurd h (Nat.not_lt_zero j)⟩ ?_ ?_⟩
    · rintro i σ H2 hi ⟨kvs, pt, v_k, v_legs, v_holds, v_leg, v_back, v_runways, v_chart, v_name, v_other, rfl, S0, hN, hF, hlen, hk, hsep⟩
      have hik : i < ns.length := by omega
      have e1 : ns.take (i + 1) = ns.take i ++ [ns[i]] := by rw [List.take_add_one, List.getElem?_eq_getElem hik]; rfl
      refine ⟨_, rfl, _, rfl, _, _, rfl, rfl, (by walk_at "ms"), _, _, rfl, rfl, d, c, _, rfl, S0, (by omega), (by omega), fun x2 H2 x2a x2b S2 kp2 => ?_⟩
      have hF := hF.keep S0 kp2 nfd
      have hN := kp2.l S0 hN
      refine ⟨_, rfl, _, _, rfl, rfl, _, rfl, _, rfl, _, rfl, _, _, rfl, rfl, (by walk_at "ms"), _, _, rfl, rfl, d, c, _, rfl, S2, (by omega), (by omega), fun x3 H3 x3a x3b S3 kp3 => ?_⟩
      have hF := hF.keep S2 kp3 nfd
      have hN := kp3.l S2 hN
      refine ⟨_, rfl, _, _, rfl, rfl, _, _, rfl, rfl, .inl ⟨by omega, by omega⟩, _, rfl, _, _, rfl, rfl, szOk rfl, fun p4 hp4 => ?_⟩
      have hb : -100000 ≤ (x2 - z) ∧ (x2 - z) ≤ 100000 ∧ -100000 ≤ (m * (x3 - z) + (0 + (i : Int))) ∧ (m * (x3 - z) + (0 + (i : Int))) ≤ 100000 := by
        have h1 : m * (x3 - z) ≤ 7 * 9000 := by
          rcases ltge (x3 - z) 0 with w | w
          · have := Int.mul_nonneg (show 0 ≤ m by omega) (show 0 ≤ -(x3 - z) by omega)
            rw [Int.mul_neg] at this
            omega
          · exact Int.mul_le_mul (by omega) (by omega) w (by decide)
        have h2 : m * -(x3 - z) ≤ 7 * 9000 := by
          rcases ltge (-(x3 - z)) 0 with w | w
          · have := Int.mul_nonneg (show 0 ≤ m by omega) (show 0 ≤ (x3 - z) by omega)
            rw [Int.mul_neg]
            omega
          · exact Int.mul_le_mul (by omega) (by omega) w (by decide)
        rw [Int.mul_neg] at h2
        omega
      refine ⟨_, rfl, _, rfl, _, rfl, _, _, _, _, rfl, rfl, .inl (.inl (same_new hp4 _ _ hN)), atI0 (mapAt hik), _, _, rfl, DPut.k (k := .inr ns[i]) (hF.same (same_new hp4)).dc (small1000 (by omega)), ?_⟩
      refine ⟨_, _, _, _, _, _, _, _, _, _, _, rfl, St1.put (S3.new hp4) nfd nfc, by rw [upd_ne nfl]; exact (same_new hp4 _ _ hN), by rw [e1]; exact FixAt.put (hF.same (same_new hp4)) upd_same hb, Nat.le_trans putK_len (by omega), (((hk.k kp2).k kp3).new hp4).put, Sep.put hnd hsep hik (y_mod (by omega) (by omega))⟩
    rintro σ H2 ⟨kvs, pt, v_k, v_legs, v_holds, v_leg, v_back, v_runways, v_chart, v_name, v_other, rfl, S0, hN, hF, hlen, hk, hsep⟩
    have hm0 : ns.take m.toNat = ns := List.take_of_length_le (by omega)
    rw [hm0] at hF
    refine ⟨_, rfl, _, rfl, d, c, ln, ns, rfl, S0, hN, by omega, by omega, fun ls lg Hl hL hls nlg Sl kpl => ?_⟩
    have hF := hF.keep S0 kpl nfd
    have hN := kpl.l S0 hN
    have nlgd : lg ≠ d := let ⟨_, w⟩ := Sl.dk; ne_of hL.li w (by intro w; cases w)
    have nHl : H2 lg = none := nlg
    intro hd hhd
    have nhd : hd ≠ d := Sl.nd hhd
    have nhc : hd ≠ c := Sl.nc hhd
    have nhf : fd ≠ hd := ne_of_none hF.dc hhd
    have Sl0 := Sl
    refine ⟨_, rfl, lg, rfl, ⟨_, .inl (.inl (same_new hhd _ _ hL.li))⟩, for_list (K := K) (a := lg) (xs := ls.map fun l => V.ref l.a) (fun i σ H3 => ∃ (hv : List (Key × V)) (v_k v_leg v_back v_runways v_chart v_name v_other : Option V), σ = [some (.ref d), some (.int m), some (.int z), some (.ref ln), some (.ref fd), v_k, some (.ref lg), some (.ref hd), v_leg, v_back, v_runways, v_chart, v_name, v_other] ∧ St1 K H3 d c ∧ H3 hd = some (.dK hv) ∧ hv.length ≤ i ∧ Keep2 d hd Hl H3)
      ⟨[], _, _, _, _, _, _, _, rfl, Sl.new hhd, upd_same, Nat.le_refl _, (Keep2.refl d hd Hl).new hhd⟩ (fun i σ H3 _ ⟨hv, _, _, _, _, _, _, _, _, _, _, _, hk3⟩ => .inl (.inl (hk3 _ _ hL.li nlgd (ne_of_none hL.li hhd)))) ?_ ?_⟩
    · rintro i y σ H3 hi ⟨hv, v_k, v_leg, v_back, v_runways, v_chart, v_name, v_other, rfl, S3, hH, hvl, hk3⟩
      obtain ⟨q, rfl, hq, hil, _⟩ := getMap hi
      have hL3 : H3 lg = some (.lst (ls.map fun l => V.ref l.a)) := hk3 _ _ hL.li nlgd (ne_of_none hL.li hhd)
      have hT3 : ∀ q ∈ ls, H3 q.a = some (.tup q.v) := fun q hq => hk3 _ _ (hL.tu q hq) (let ⟨_, w⟩ := Sl.dk; ne_of (hL.tu q hq) w (by intro w; cases w)) (ne_of_none (hL.tu q hq) hhd)
      refine ⟨_, rfl, lg, rfl, ⟨_, .inl (.inl hL3)⟩, fun D hD => ?_⟩
      refine lc_list (K := K) (a := lg) (xs := ls.map fun l => V.ref l.a) (fun u H' => ∃ xs : List V, H' = upd H3 D (.lst xs) ∧ xs.length ≤ u) ⟨[], rfl, Nat.le_refl _⟩ (fun u H' _ ⟨_, e, _⟩ => .inl (.inl (by rw [e, upd_ne (ne_of_none hL3 hD)]; exact hL3))) ?_ ?_
      · rintro u y H' hu1 ⟨xs, rfl, hxs⟩
        obtain ⟨o, rfl, ho, hul, _⟩ := getMap hu1
        have ht := same_new (o := .lst xs) hD _ _ (hT3 o ho)
        have htq := same_new (o := .lst xs) hD _ _ (hT3 q hq)
        refine ⟨rfl, ?_⟩
        refine ⟨_, rfl, _, _, _, .str o.s, rfl, rfl, .inl (.inl ht), rfl, _, rfl, _, _, _, .str q.e, rfl, rfl, .inl (.inl htq), rfl, rfl, _, rfl, ite2 (fun e1 => ?_) (fun e1 => ?_)⟩
        · refine ⟨_, rfl, _, _, _, .str o.e, rfl, rfl, .inl (.inl ht), rfl, _, rfl, _, _, _, .str q.s, rfl, rfl, .inl (.inl htq), rfl, rfl, _, rfl, ite2 (fun e2 => ?_) (fun e2 => ?_)⟩
          · refine ⟨_, rfl, _, upd_same, small1000 (by omega), xs ++ [.ref o.a], by rw [upd_upd], by rw [List.length_append, List.length_singleton]; omega⟩
          · exact ⟨xs, rfl, by omega⟩
        · refine iteF ?_
          exact ⟨xs, rfl, by omega⟩
      rintro H' ⟨xs, rfl, hxs⟩
      have S4 := S3.new (o := .lst xs) hD
      have hk4 := hk3.new (o := .lst xs) hD
      have hH4 := same_new (o := .lst xs) hD _ _ hH
      refine ⟨_, rfl, _, _, rfl, .inl (.inl (.inl upd_same)), _, _, rfl, rfl, _, rfl, ite2 (fun e1 => ?_) (fun e1 => ?_)⟩
      · refine ⟨_, rfl, d, c, _, rfl, S4, by decide, by decide, fun x5 H5 _ _ S5 kp5 => ⟨rfl, _, rfl, ite2 (fun e2 => ?_) (fun e2 => ?_)⟩⟩
        · have hT5 := kp5.t S4 (same_new (o := .lst xs) hD _ _ (hT3 q hq))
          have hH5 := kp5 _ _ hH4 nhd
          refine ⟨_, rfl, _, _, _, .str q.e, rfl, rfl, .inl (.inl hT5), rfl, _, rfl, _, rfl, _, _, _, .str q.s, rfl, rfl, .inl (.inl hT5), rfl, _, _, rfl, DPut.k (k := .inr q.s) hH5 (small1000 (by omega)), ?_⟩
          exact ⟨_, _, _, _, _, _, _, _, rfl, S5.put nhd nhc, upd_same, Nat.le_trans putK_len (by omega), (hk4.k kp5).put⟩
        · exact ⟨_, _, _, _, _, _, _, _, rfl, S5, kp5 _ _ hH4 nhd, by omega, hk4.k kp5⟩
      · exact ⟨_, _, _, _, _, _, _, _, rfl, S4, hH4, by omega, hk4⟩
    rintro σ H3 ⟨hv, v_k, v_leg, v_back, v_runways, v_chart, v_name, v_other, rfl, S3, hH, hvl, hk3⟩
    have hN3 : H3 ln = some (.lst (ns.map V.str)) := hk3 _ _ hN (let ⟨_, w⟩ := Sl.dk; ne_of hN w (by intro w; cases w)) (ne_of_none hN hhd)
    refine ⟨_, rfl, ln, rfl, ⟨_, .inl (.inl hN3)⟩, fun D hD => ?_⟩
    have nDd : D ≠ d := S3.nd hD
    have nDc : D ≠ c := S3.nc hD
    have nDl : ln ≠ D := ne_of_none hN3 hD
    have nDh : hd ≠ D := ne_of_none hH hD
    refine lc_list (K := K) (a := ln) (xs := ns.map V.str) (fun u H' => ∃ xs : List V, H' D = some (.lst xs) ∧ xs.length ≤ u ∧ St1 K H' d c ∧ Keep2 d D H3 H') ⟨[], upd_same, Nat.le_refl _, S3.new hD, (Keep2.refl d D H3).new hD⟩
      (fun u H' _ ⟨_, _, _, _, e⟩ => .inl (.inl (e _ _ hN3 (let ⟨_, w⟩ := S3.dk; ne_of hN3 w (by intro w; cases w)) nDl))) ?_ ?_
    · rintro u y H' hu1 ⟨xs, hxs, hxl, S4, hk4⟩
      obtain ⟨o, rfl, ho, hul, _⟩ := getMap hu1
      refine ⟨rfl, ?_⟩
      refine ⟨_, rfl, d, c, _, rfl, S4, by decide, by decide, fun x5 H5 _ _ S5 kp5 => ⟨rfl, _, rfl, ite2 (fun e2 => ?_) (fun e2 => ?_)⟩⟩
      · refine ⟨_, rfl, _, kp5.l S4 hxs, small1000 (by omega), _, upd_same, by rw [List.length_append, List.length_singleton]; omega, S5.put nDd nDc, (hk4.k kp5).put⟩
      · exact ⟨xs, kp5.l S4 hxs, by omega, S5, hk4.k kp5⟩
    rintro H' ⟨xs, hxs, hxl, S4, hk4⟩
    -- the chart
    intro ch hch
    refine ⟨_, rfl, _, rfl, szOk rfl, fun zo hzo => ?_⟩
    refine ⟨_, rfl, _, rfl, D, xs, rfl, .inl (.inl (same_new hzo _ _ (same_new hch _ _ hxs))), fun ru hru => ?_⟩
    refine ⟨_, rfl, same_new hru _ _ (same_new hzo _ _ upd_same), [(.inr "fixes", .ref fd), (.inr "legs", .ref lg), (.inr "zones", .ref zo), (.inr "runways", .ref ru), (.inr "holds", .ref hd)], rfl, (by show 5 ≤ 15; decide), ?_⟩
    have nchd : ch ≠ d := S4.nd hch
    have nchc : ch ≠ c := S4.nc hch
    have hlen5 := ch_len (f := V.ref fd) (l := .ref lg) (z := .ref zo) (r := .ref ru) (h := .ref hd)
    have nHd : H3 hd ≠ none := by rw [hH]; intro w; cases w
    refine ⟨szOk rfl, fun ho hho => ⟨_, rfl, _, _, rfl, DPut.k (k := .inr "hours") (same_new hho _ _ upd_same) (small1000 (Nat.le_trans hlen5 (by decide))), ?_⟩⟩
    intro ca hca
    refine ⟨_, rfl, _, _, rfl, DPut.k (k := .inr "capacities") (same_new hca _ _ upd_same) (small1000 (Nat.le_trans putK_len (by omega))), ?_⟩
    refine ⟨_, rfl, ?_⟩
    have E : ∀ b o, H' b = some o → b ≠ ch → (upd (upd (upd (upd (upd (upd (upd (upd H' ch (.dK [])) zo (.lst [])) ru (.lst (cutV xs none (some 4)))) ch (.dK (mergeK [] [(.inr "fixes", V.ref fd), (.inr "legs", .ref lg), (.inr "zones", .ref zo), (.inr "runways", .ref ru), (.inr "holds", .ref hd)]))) ho (.lst [])) ch (.dK (putK (mergeK [] [(.inr "fixes", V.ref fd), (.inr "legs", .ref lg), (.inr "zones", .ref zo), (.inr "runways", .ref ru), (.inr "holds", .ref hd)]) (.inr "hours") (.ref ho)))) ca (.dK [])) ch (.dK (chK (.ref fd) (.ref lg) (.ref zo) (.ref ru) (.ref hd) (.ref ho) (.ref ca)))) b = some o := fun b o e n => by
      rw [upd_ne n]
      refine same_new hca _ _ ?_
      rw [upd_ne n]
      refine same_new hho _ _ ?_
      rw [upd_ne n]
      exact same_new hru _ _ (same_new hzo _ _ (same_new hch _ _ e))
    have tneD : ∀ (a : Addr) xs0, H3 a = some (.tup xs0) → a ≠ d := fun a xs0 e => let ⟨_, w⟩ := S3.dk; ne_of e w (by intro w; cases w)
    have A : ∀ b o, Hl b = some o → b ≠ d → H' b = some o := fun b o e n => hk4 _ _ (hk3 _ _ e n (ne_of_none e hhd)) n (fun w => by have := hk3 _ _ e n (ne_of_none e hhd); rw [w, hD] at this; cases this)
    have nlc : ∀ b o, Hl b = some o → b ≠ d → b ≠ ch := fun b o e n => ne_of_none (A b o e n) hch
    have tl : ∀ (a : Addr) xs0, Hl a = some (.tup xs0) → a ≠ d := fun a xs0 e => let ⟨_, w⟩ := Sl.dk; ne_of e w (by intro w; cases w)
    have back : ∀ b, b ≠ d → H' b = none → H b = none := fun b n e => by
      cases w : H b with
      | none => rfl
      | some o =>
        exfalso
        have w1 := kpn _ _ w n
        have w2 := hk _ _ w1 n (ne_of_none w1 hfd)
        have w3 := A _ _ (kpl _ _ w2 n) n
        rw [e] at w3
        cases w3
    refine k ⟨fd, lg, kvs, pt, ls⟩ ch _ (fun l hl => Sep.len (D := ⟨fd, lg, kvs, pt, ls⟩) (m := m) (by rw [show ns.length = m.toNat by omega]; exact hsep) hnd (hL.nm l hl).1 (hL.nm l hl).2 (hL.ne hnd l hl)) ⟨⟨_, upd_same, ch_fix, ch_leg⟩, E _ _ (A _ _ hF.dc nfd) (nlc _ _ hF.dc nfd), E _ _ (A _ _ hL.li nlgd) (nlc _ _ hL.li nlgd), (fun l hl => E _ _ (A _ _ (hL.tu l hl) (tl _ _ (hL.tu l hl))) (nlc _ _ (hL.tu l hl) (tl _ _ (hL.tu l hl)))),
      (fun n a x y h => let ⟨h1, h2, h3⟩ := hF.pf n a x y h; ⟨h1, E _ _ (A _ _ h2 (tl _ _ h2)) (nlc _ _ h2 (tl _ _ h2)), h3⟩), (fun l hl => ⟨hF.nm _ (hL.nm l hl).1, hF.nm _ (hL.nm l hl).2⟩), (fun l hl => ⟨hnok _ (hL.nm l hl).1, hnok _ (hL.nm l hl).2, hL.ck l hl⟩), hls⟩ (back ch nchd hch) nHf ?_ ?_
    · obtain ⟨_, w1⟩ := S4.dk
      obtain ⟨_, w2⟩ := S4.cl
      exact S4.of ((E _ _ w1 nchd.symm).trans w1.symm) ((E _ _ w2 nchc.symm).trans w2.symm)
    · intro b o e n
      have w1 := kpn _ _ e n
      have w2 := hk _ _ w1 n (ne_of_none w1 hfd)
      have w3 := A _ _ (kpl _ _ w2 n) n
      exact E _ _ w3 (ne_of_none w3 hch)
theorem sc_law_leg : FnScope ["chart", "start", "end", "found", "leg"] ["chart", "start", "end"] (defScope s_law_leg) := ⟨rfl, rfl, rfl, by decide +kernel, rfl, by decide +kernel, by decide +kernel⟩
theorem ok_law_leg {f : Addr} {fd : FuncData} (F : Fun K "_law_leg" "_law_leg" s_law_leg f fd) (T : TxtA mg) : FnOk P w K mg base CX0 1 f fd ["chart", "start", "end"] (spLegS) := by
  refine F.ok sc_law_leg (fun vs H Q E h => ?_) (fun cdv A outer s H vs Q E hr h => ?_)
  · obtain ⟨_, _, _, _, rfl, _⟩ := h
    rfl
  · obtain ⟨ch, D, s', e', rfl, C, k⟩ := h
    have hu := hu_of hr
    refine ⟨_, (pss_cons (ps_setLc (i := 3) (own := [("leg", 4)]) (g := gName 4) (by rfl) sc_law_leg.nd rfl rfl (sw_true rfl rfl rfl (by decide +kernel)) (pi_list (pe_dget hu (pv 0) pe_str (fun _ _ => rfl))) (blkOk_by (own := [("leg", 4)]) (N := ["chart", "start", "end", "found", "leg"]) (sc := defScope s_law_leg) (by decide +kernel)) (fun _ _ _ _ _ => (pg_name (i := 4) sc_law_leg.nd rfl (Or.inl rfl))) (fun _ _ _ _ _ => pts_one (PW.pt (pw_and (pt_cmpR op_eq (pe_ix (r := rIxT K) ix_tup (pv 4) pe_int (fun _ _ => rfl)) (pv 1) (nomark _)) (pw_and1 (pt_cmpR op_eq (pe_ix (r := rIxT K) ix_tup (pv 4) pe_int (fun _ _ => rfl)) (pv 2) (nomark _)))))) (fun _ _ _ _ _ => (pv 4)))
    (pss_one (ps_ret (pe_ifExp (pt_cmpR op_gt (pe_callB (r := rLenK K) call_len_seq (by rfl) T.len boot_len (pa_cons (pv 3) pa_nil)) pe_int (nomark _)) (pe_ix (r := rIxL K) ix_list (pv 3) pe_int (fun _ _ => rfl)) pe_non)))), ?_⟩
    refine ⟨_, rfl, _, _, rfl, C.gl, _, rfl, ⟨_, .inl (.inl C.lg)⟩, fun B hB => ?_⟩
    refine lc_list (K := K) (a := D.lg) (xs := D.ls.map fun l => V.ref l.a) (fun u H' => H' = upd H B (.lst (((D.ls.take u).filter fun l => decide (l.s = s') && decide (l.e = e')).map fun l => V.ref l.a))) rfl (fun u H' _ e => .inl (.inl (by rw [e, upd_ne (ne_of_none C.lg hB)]; exact C.lg))) ?_ ?_
    · rintro u y H' hu1 rfl
      obtain ⟨q, rfl, hq, hul, ht⟩ := getMap hu1
      have htq := same_new (o := .lst (((D.ls.take u).filter fun l => decide (l.s = s') && decide (l.e = e')).map fun l => V.ref l.a)) hB _ _ (C.lt q hq)
      have hle : (((D.ls.take u).filter fun l => decide (l.s = s') && decide (l.e = e')).map fun l => V.ref l.a).length ≤ 100 := by
        rw [List.length_map]
        have h1 := List.length_filter_le (fun l : Lg => decide (l.s = s') && decide (l.e = e')) (D.ls.take u)
        have h2 := List.length_take_le' u D.ls
        have h3 := C.n
        omega
      refine ⟨rfl, ?_⟩
      refine ⟨_, rfl, _, _, _, .str q.s, rfl, rfl, .inl (.inl htq), rfl, _, rfl, rfl, _, rfl, ite2 (fun e1 => ?_) (fun e1 => ?_)⟩
      · have e1 := V.str.inj (of_decide_eq_true e1)
        refine ⟨_, rfl, _, _, _, .str q.e, rfl, rfl, .inl (.inl htq), rfl, _, rfl, rfl, _, rfl, ite2 (fun e2 => ?_) (fun e2 => ?_)⟩
        · have e2 := V.str.inj (of_decide_eq_true e2)
          refine ⟨_, rfl, _, upd_same, small1000 (by omega), ?_⟩
          rw [upd_upd, ht, List.filter_append, List.map_append]
          simp [e1, e2]
        · have e2 : ¬ q.e = e' := fun z => e2 (decide_eq_true (congrArg V.str z))
          show _ = _
          rw [ht, List.filter_append]
          simp [e2]
      · refine iteF ?_
        have e1 : ¬ q.s = s' := fun z => e1 (decide_eq_true (congrArg V.str z))
        show _ = _
        rw [ht, List.filter_append]
        simp [e1]
    rintro H' rfl
    rw [List.length_map, List.take_length]
    have hfd := head_find (fun l : Lg => decide (l.s = s') && decide (l.e = e')) D.ls
    have hsm := same_new (o := .lst ((D.ls.filter fun l => decide (l.s = s') && decide (l.e = e')).map fun l => V.ref l.a)) hB
    refine ⟨_, rfl, _, _, rfl, .inl (.inl (.inl upd_same)), _, _, rfl, rfl, _, rfl, ite2 (fun e1 => ?_) (fun e1 => ?_)⟩
    · have e1 := of_decide_eq_true e1
      cases hf : D.ls.filter fun l => decide (l.s = s') && decide (l.e = e') with
      | nil => rw [hf] at e1; simp at e1
      | cons l r =>
        rw [hf] at hfd hsm
        have e2 : D.leg s' e' = some l := hfd.symm
        refine ⟨_, rfl, _, _, _, .ref l.a, rfl, rfl, .inl (.inl upd_same), atI_nat (j := 0) rfl, ?_⟩
        have := k _ hsm
        rw [e2] at this
        exact this
    · have e1 : ¬ _ := fun z => e1 (decide_eq_true z)
      cases hf : D.ls.filter fun l => decide (l.s = s') && decide (l.e = e') with
      | cons l r => rw [hf] at e1; simp at e1
      | nil =>
        rw [hf] at hfd hsm
        have e2 : D.leg s' e' = none := hfd.symm
        have := k _ hsm
        rw [e2] at this
        exact this
theorem sc_law_lengths : FnScope ["chart", "lengths", "leg", "a", "b"] ["chart"] (defScope s_law_lengths) := ⟨rfl, rfl, rfl, by decide +kernel, rfl, by decide +kernel, by decide +kernel⟩
theorem ok_law_lengths {f : Addr} {fd : FuncData} (F : Fun K "_law_lengths" "_law_lengths" s_law_lengths f fd) (T : TxtA mg)
    (D_law_root_up : Def P w K mg base 1 "_law_root_up" ["n"] (spRootR)) : FnOk P w K mg base CX0 2 f fd ["chart"] (spLens) := by
  refine F.ok sc_law_lengths (fun vs H Q E h => ?_) (fun cdv A outer s H vs Q E hr h => ?_)
  · obtain ⟨_, _, rfl, _⟩ := h
    rfl
  · obtain ⟨ch, D, rfl, C, k⟩ := h
    have hu := hu_of hr
    refine ⟨_, (pss_cons (ps_set (i := 1) sc_law_lengths.nd rfl (Or.inl rfl) pe_dnewT)
    (pss_cons (ps_for PassesOwn.never rfl (pi_list (pe_dget hu (pv 0) pe_str (fun _ _ => rfl))) (pg_name (i := 2) sc_law_lengths.nd rfl (Or.inl rfl))
      (pss_cons (ps_set (i := 3) sc_law_lengths.nd rfl (Or.inl rfl) (pe_dget hu (pe_dget hu (pv 0) pe_str (fun _ _ => rfl)) (pe_ix (r := rIxT K) ix_tup (pv 2) pe_int (fun _ _ => rfl)) (fun _ _ => rfl)))
    (pss_cons (ps_set (i := 4) sc_law_lengths.nd rfl (Or.inl rfl) (pe_dget hu (pe_dget hu (pv 0) pe_str (fun _ _ => rfl)) (pe_ix (r := rIxT K) ix_tup (pv 2) pe_int (fun _ _ => rfl)) (fun _ _ => rfl)))
    (pss_one (ps_dput hu (pv 1) (pe_tup (pa_cons (pe_ix (r := rIxT K) ix_tup (pv 2) pe_int (fun _ _ => rfl)) (pa_cons (pe_ix (r := rIxT K) ix_tup (pv 2) pe_int (fun _ _ => rfl)) pa_nil))) (pe_def D_law_root_up (hr.mono (by decide)) (by rfl) (pa_cons (pe_op op_add (pe_op op_mul (pe_op op_sub (pe_ix (r := rIxT K) ix_tup (pv 3) pe_int (fun _ _ => rfl)) (pe_ix (r := rIxT K) ix_tup (pv 4) pe_int (fun _ _ => rfl))) (pe_op op_sub (pe_ix (r := rIxT K) ix_tup (pv 3) pe_int (fun _ _ => rfl)) (pe_ix (r := rIxT K) ix_tup (pv 4) pe_int (fun _ _ => rfl)))) (pe_op op_mul (pe_op op_sub (pe_ix (r := rIxT K) ix_tup (pv 3) pe_int (fun _ _ => rfl)) (pe_ix (r := rIxT K) ix_tup (pv 4) pe_int (fun _ _ => rfl))) (pe_op op_sub (pe_ix (r := rIxT K) ix_tup (pv 3) pe_int (fun _ _ => rfl)) (pe_ix (r := rIxT K) ix_tup (pv 4) pe_int (fun _ _ => rfl))))) pa_nil)) rfl)))))
    (pss_one (ps_ret (pv 1))))), ?_⟩
    intro ld hld
    refine ⟨_, rfl, _, _, rfl, (C.same (same_new hld)).gl, _, rfl, ⟨_, .inl (.inl (same_new hld _ _ C.lg))⟩, for_list (K := K) (a := D.lg) (xs := D.ls.map fun l => V.ref l.a) (fun i σ H2 => ∃ (kvs : List (List Key × V)) (v_leg v_a v_b : Option V), σ = [some (.ref ch), some (.ref ld), v_leg, v_a, v_b] ∧ H2 ld = some (.dT kvs) ∧ kvs.length ≤ i ∧ Same H H2 ∧ ∀ l ∈ D.ls.take i, valV kvs [(.inr l.s : Key), .inr l.e] = some (.int (D.len l.s l.e)))
      ⟨[], none, none, none, rfl, upd_same, Nat.le_refl _, same_new hld, fun _ h => nomatch h⟩ (fun i σ H2 _ ⟨_, _, _, _, _, _, _, e, _⟩ => .inl (.inl (e _ _ C.lg))) ?_ ?_⟩
    · rintro i y σ H2 hi ⟨kvs, v_leg, v_a, v_b, rfl, hd, hl, sm, hv⟩
      obtain ⟨q, rfl, hq, hil, ht⟩ := getMap hi
      have C2 := C.same sm
      have htq := C2.lt q hq
      obtain ⟨⟨a1, x1, y1, h1⟩, a2, x2, y2, h2⟩ := C.wf q hq
      obtain ⟨p1, p2, p3, p4, p5, p6⟩ := C2.pf _ _ _ _ h1
      obtain ⟨q1, q2, q3, q4, q5, q6⟩ := C2.pf _ _ _ _ h2
      have b1 := sq_le (show -200000 ≤ x1 - x2 by omega) (show x1 - x2 ≤ 200000 by omega)
      have b2 := sq_le (show -200000 ≤ y1 - y2 by omega) (show y1 - y2 ≤ 200000 by omega)
      refine ⟨_, rfl, _, _, rfl, C2.gf, _, rfl, _, _, _, .str q.s, rfl, rfl, .inl (.inl htq), rfl, _, _, rfl, C2.gp h1, ?_⟩
      refine ⟨_, rfl, _, _, rfl, C2.gf, _, rfl, _, _, _, .str q.e, rfl, rfl, .inl (.inl htq), rfl, _, _, rfl, C2.gp h2, ?_⟩
      refine ⟨_, rfl, _, _, _, _, rfl, rfl, (.inl (.inl p2)), rfl, _, rfl, _, _, _, _, rfl, rfl, (.inl (.inl q2)), rfl, _, _, rfl, rfl, _, rfl, _, _, _, _, rfl, rfl, (.inl (.inl p2)), rfl, _, rfl, _, _, _, _, rfl, rfl, (.inl (.inl q2)), rfl, _, _, rfl, rfl, _, _, rfl, rfl, (by walk_at "ms"), _, rfl, _, _, _, _, rfl, rfl, (.inl (.inl p2)), rfl, _, rfl, _, _, _, _, rfl, rfl, (.inl (.inl q2)), rfl, _, _, rfl, rfl, _, rfl, _, _, _, _, rfl, rfl, (.inl (.inl p2)), rfl, _, rfl, _, _, _, _, rfl, rfl, (.inl (.inl q2)), rfl, _, _, rfl, rfl, _, _, rfl, rfl, (by walk_at "ms"), _, _, rfl, rfl, _, rfl, Int.add_nonneg (sq0 _) (sq0 _), (by omega), ?_⟩
      rw [sq_swap x1, sq_swap y1, ← D.len_eq h1 h2]
      refine ⟨_, rfl, _, rfl, _, _, _, .str q.s, rfl, rfl, .inl (.inl htq), rfl, _, rfl, _, _, _, .str q.e, rfl, rfl, .inl (.inl htq), rfl, szOk rfl, fun p5 hp5 => ?_⟩
      have nld : ld ≠ p5 := ne_of_none hd hp5
      refine ⟨_, _, rfl, DPut.t (k := [(.inr q.s : Key), .inr q.e]) (same_new hp5 _ _ hd) upd_same (small1000 (by have := C.n; omega)), ?_⟩
      refine ⟨_, _, _, _, rfl, upd_same, ?_, fun b o e => ?_, fun l hl' => ?_⟩
      · unfold putK
        split
        · rw [List.length_map]; (try omega)
        · rw [List.length_append, List.length_singleton]; (try omega)
      · rw [upd_ne (ne_of_none e hld)]
        exact same_new hp5 _ _ (sm _ _ e)
      · rw [valV_put]
        by_cases e : [(Sum.inr l.s : Key), Sum.inr l.e] = [Sum.inr q.s, Sum.inr q.e]
        · rw [if_pos e]
          have e1 : l.s = q.s := Sum.inr.inj (List.cons.inj e).1
          have e2 : l.e = q.e := Sum.inr.inj (List.cons.inj (List.cons.inj e).2).1
          rw [e1, e2]
        · rw [if_neg e]
          rw [ht] at hl'
          rcases List.mem_append.mp hl' with h | h
          · exact hv l h
          · rw [List.mem_singleton.mp h] at e
            exact absurd rfl e
    · rintro σ H2 ⟨kvs, v_leg, v_a, v_b, rfl, hd, hl, sm, hv⟩
      rw [List.length_map, List.take_length] at hv
      refine ⟨_, rfl, k ld H2 hld ⟨kvs, hd, fun a b l h => ?_⟩ sm⟩
      obtain ⟨h1, h2, h3⟩ := CD.leg_mem h
      have := hv l h1
      rw [h2, h3] at this
      exact this
theorem sc_law_walk : FnScope ["state", "chart", "most", "starts", "route", "k", "ends", "leg"] ["state", "chart", "most"] (defScope s_law_walk) := ⟨rfl, rfl, rfl, by decide +kernel, rfl, by decide +kernel, by decide +kernel⟩
theorem ok_law_walk {f : Addr} {fd : FuncData} (F : Fun K "_law_walk" "_law_walk" s_law_walk f fd) (T : TxtA mg)
    (D_law_draw : Def P w K mg base 1 "_law_draw" ["state", "bound"] (spDraw K))
    (D_law_pick : Def P w K mg base 2 "_law_pick" ["state", "things"] (spPick K)) : FnOk P w K mg base CX0 3 f fd ["state", "chart", "most"] (spWalk K) := by
  refine F.ok sc_law_walk (fun vs H Q E h => ?_) (fun cdv A outer s H vs Q E hr h => ?_)
  · obtain ⟨_, _, _, _, _, rfl, _⟩ := h
    rfl
  · obtain ⟨d, c, ch, D, m, rfl, S, C, n1, n2, hls, m0, m1, k⟩ := h
    have hu := hu_of hr
    refine ⟨_, (pss_cons (ps_setLc (i := 3) (own := [("leg", 7)]) (g := gName 7) (by rfl) sc_law_walk.nd rfl rfl (sw_true rfl rfl rfl (by decide +kernel)) (pi_list (pe_dget hu (pv 1) pe_str (fun _ _ => rfl))) (blkOk_by (own := [("leg", 7)]) (N := ["state", "chart", "most", "starts", "route", "k", "ends", "leg"]) (sc := defScope s_law_walk) (by decide +kernel)) (fun _ _ _ _ _ => (pg_name (i := 7) sc_law_walk.nd rfl (Or.inl rfl))) (fun _ _ _ _ _ => pts_nil) (fun _ _ _ _ _ => (pe_ix (r := rIxT K) ix_tup (pv 7) pe_int (fun _ _ => rfl))))
    (pss_cons (ps_set (i := 4) sc_law_walk.nd rfl (Or.inr rfl) (pe_lst (pa_cons (pe_def D_law_pick (hr.mono (by decide)) (by rfl) (pa_cons (pv 0) (pa_cons (pv 3) pa_nil))) pa_nil)))
    (pss_cons (ps_for PassesOwn.never rfl (pi_range1 (by rfl) T.range (pa_cons (pe_op op_add pe_int (pe_def D_law_draw (hr.mono (by decide)) (by rfl) (pa_cons (pv 0) (pa_cons (pv 2) pa_nil)))) pa_nil)) (pg_name (i := 5) sc_law_walk.nd rfl (Or.inl rfl))
      (pss_cons (ps_setLc (i := 6) (own := [("leg", 7)]) (g := gName 7) (by rfl) sc_law_walk.nd rfl rfl (sw_true rfl rfl rfl (by decide +kernel)) (pi_list (pe_dget hu (pv 1) pe_str (fun _ _ => rfl))) (blkOk_by (own := [("leg", 7)]) (N := ["state", "chart", "most", "starts", "route", "k", "ends", "leg"]) (sc := defScope s_law_walk) (by decide +kernel)) (fun _ _ _ _ _ => (pg_name (i := 7) sc_law_walk.nd rfl (Or.inl rfl))) (fun _ _ _ _ _ => pts_one (pt_cmpR op_eq (pe_ix (r := rIxT K) ix_tup (pv 7) pe_int (fun _ _ => rfl)) (pe_ix (r := rIxL K) ix_list (pv 4) (pe_op op_sub (pe_callB (r := rLenK K) call_len_seq (by rfl) T.len boot_len (pa_cons (pv 4) pa_nil)) pe_int) (fun _ _ => rfl)) (nomark _))) (fun _ _ _ _ _ => (pe_ix (r := rIxT K) ix_tup (pv 7) pe_int (fun _ _ => rfl))))
    (pss_one (ps_if (pt_cmpR op_gt (pe_callB (r := rLenK K) call_len_seq (by rfl) T.len boot_len (pa_cons (pv 6) pa_nil)) pe_int (nomark _)) (pss_one (ps_expr (pe_bm PySem.F.plainAttrs_list PySem.F.slot_list_append PySem.F.type_list_append mt_append (pv 4) (pa_cons (pe_def D_law_pick (hr.mono (by decide)) (by rfl) (pa_cons (pv 0) (pa_cons (pv 6) pa_nil))) pa_nil))))
      pss_nil))))
    (pss_one (ps_ret (pe_callTy call_tuple_of (by rfl) T.tuple boot_tuple (pa_cons (pv 4) pa_nil))))))), ?_⟩
    refine ⟨_, rfl, _, _, rfl, C.gl, _, rfl, ⟨_, .inl (.inl C.lg)⟩, fun B hB => ?_⟩
    refine lc_list (K := K) (a := D.lg) (xs := D.ls.map fun l => V.ref l.a) (fun u H' => H' = upd H B (.lst ((D.ls.take u).map fun l => V.str l.s))) rfl (fun u H' _ e => .inl (.inl (by rw [e, upd_ne (ne_of_none C.lg hB)]; exact C.lg))) ?_ ?_
    · rintro u y H' hu1 rfl
      obtain ⟨q, rfl, hq, hul, ht⟩ := getMap hu1
      have htq := same_new (o := .lst ((D.ls.take u).map fun l => V.str l.s)) hB _ _ (C.lt q hq)
      have hn := C.n
      refine ⟨rfl, ?_⟩
      refine ⟨_, rfl, _, _, _, .str q.s, rfl, rfl, .inl (.inl htq), rfl, _, upd_same, (by rw [List.length_map]; have := List.length_take_le' u D.ls; exact small1000 (by omega)), ?_⟩
      rw [upd_upd, ht, List.map_append]
      rfl
    rintro H' rfl
    rw [List.length_map, List.take_length]
    have C1 := C.same (same_new (o := .lst (D.ls.map fun l => V.str l.s)) hB)
    refine ⟨_, rfl, _, rfl, d, c, _, _, rfl, S.new hB, .inl (.inl upd_same), (fun z => hls (List.map_eq_nil_iff.mp z)), (by rw [List.length_map]; have := C.n; omega), fun v2 H2 hv2 S2 kp2 => ?_⟩
    obtain ⟨l0, hl0, rfl⟩ := List.mem_map.mp hv2
    have C2 := C1.keep (S.new hB) kp2 n1 n2
    have k2 : Keep d H H2 := (Keep.of (same_new hB)).trans kp2
    refine ⟨szOk rfl, fun rl hrl => ?_⟩
    have nrd : rl ≠ d := S2.nd hrl
    have nrc : rl ≠ c := S2.nc hrl
    have nHr : H rl = none := k2.none nrd hrl
    refine ⟨_, rfl, _, rfl, d, c, _, rfl, (S2.new hrl), (by omega), (by omega), fun x1 H1 x1a x1b S1 kp1 => ?_⟩
    refine ⟨_, _, rfl, rfl, ?_⟩
    have hRl := kp1.l (S2.new hrl) (upd_same (H := H2) (a := rl) (o := .lst [.str l0.s]))
    refine ⟨_, rfl, by omega, by omega, for_range (n := (1 + x1).toNat) (fun i σ H3 => ∃ (ns : List Str) (v_k v_ends v_leg : Option V), σ = [some (.ref d), some (.ref ch), some (.int m), some (.ref B), some (.ref rl), v_k, v_ends, v_leg] ∧ St1 K H3 d c ∧ ChartAt H3 ch D ∧ H3 rl = some (.lst (ns.map V.str)) ∧ ns.length ≤ i + 1 ∧ Chain D ns ∧ (∃ a, ns.getLast? = some a ∧ (i = 0 → ∃ l ∈ D.ls, l.s = a)) ∧ (1 ≤ i → 2 ≤ ns.length) ∧ Keep d H H3)
      ⟨[l0.s], none, none, none, rfl, S1, (C2.same (same_new hrl)).keep (S2.new hrl) kp1 n1 n2, hRl, by simp, (fun j hj => by simp at hj), ⟨_, rfl, fun _ => ⟨l0, hl0, rfl⟩⟩, (fun h => by omega), (k2.trans (Keep.of (same_new hrl))).trans kp1⟩ ?_ ?_⟩
    · rintro i σ H3 hi ⟨ns, v_k, v_ends, v_leg, rfl, S0, C0, hR, hln, hch, hst, h2, hk⟩
      obtain ⟨a, ha, ha0⟩ := hst
      refine ⟨_, rfl, _, _, rfl, C0.gl, _, rfl, ⟨_, .inl (.inl C0.lg)⟩, fun B1 hB1 => ?_⟩
      refine lc_list (K := K) (a := D.lg) (xs := D.ls.map fun l => V.ref l.a) (fun u H' => H' = upd H3 B1 (.lst (((D.ls.take u).filter fun l => decide (l.s = a)).map fun l => V.str l.e))) rfl (fun u H' _ e => .inl (.inl (by rw [e, upd_ne (ne_of_none C0.lg hB1)]; exact C0.lg))) ?_ ?_
      · rintro u y H' hu1 rfl
        obtain ⟨q, rfl, hq, hul, ht⟩ := getMap hu1
        have htq := same_new (o := .lst (((D.ls.take u).filter fun l => decide (l.s = a)).map fun l => V.str l.e)) hB1 _ _ (C0.lt q hq)
        have hR1 := same_new (o := .lst (((D.ls.take u).filter fun l => decide (l.s = a)).map fun l => V.str l.e)) hB1 _ _ hR
        have hn := C0.n
        have h1 := List.length_filter_le (fun l : Lg => decide (l.s = a)) (D.ls.take u)
        have h3 := List.length_take_le' u D.ls
        refine ⟨rfl, ?_⟩
        refine ⟨_, rfl, _, _, _, .str q.s, rfl, rfl, .inl (.inl htq), rfl, _, rfl, _, rfl, _, _, rfl, .inl (.inl (.inl hR1)), _, _, rfl, rfl, _, _, _, .str a, rfl, rfl, .inl (.inl hR1), atI_lastn rfl (by rw [List.getLast?_map, ha]; rfl), rfl, _, rfl, ite2 (fun e1 => ?_) (fun e1 => ?_)⟩
        · have e1 := V.str.inj (of_decide_eq_true e1)
          refine ⟨_, rfl, _, _, _, .str q.e, rfl, rfl, .inl (.inl htq), rfl, _, upd_same, (by rw [List.length_map]; exact small1000 (by omega)), ?_⟩
          rw [upd_upd, ht, List.filter_append, List.map_append]
          simp [e1]
        · have e1 : ¬ q.s = a := fun z => e1 (decide_eq_true (congrArg V.str z))
          show _ = _
          rw [ht, List.filter_append]
          simp [e1]
      rintro H' rfl
      rw [List.length_map, List.take_length]
      have S4 := S0.new (o := .lst ((D.ls.filter fun l => decide (l.s = a)).map fun l => V.str l.e)) hB1
      have C4 := C0.same (same_new (o := .lst ((D.ls.filter fun l => decide (l.s = a)).map fun l => V.str l.e)) hB1)
      have hR4 := same_new (o := .lst ((D.ls.filter fun l => decide (l.s = a)).map fun l => V.str l.e)) hB1 _ _ hR
      have k4 := hk.trans (Keep.of (same_new (o := .lst ((D.ls.filter fun l => decide (l.s = a)).map fun l => V.str l.e)) hB1))
      refine ⟨_, rfl, _, _, rfl, .inl (.inl (.inl upd_same)), _, _, rfl, rfl, _, rfl, ite2 (fun e1 => ?_) (fun e1 => ?_)⟩
      · have e1 := of_decide_eq_true e1
        have hn := C0.n
        have h1 := List.length_filter_le (fun l : Lg => decide (l.s = a)) D.ls
        refine ⟨_, rfl, .inl ⟨rfl, _, .inl (.inl hR4)⟩, _, rfl, _, rfl, d, c, _, _, rfl, S4, .inl (.inl upd_same), (fun z => by rw [z] at e1; simp at e1), (by rw [List.length_map]; omega), fun v5 H5 hv5 S5 kp5 => ?_⟩
        obtain ⟨l1, hl1, rfl⟩ := List.mem_map.mp hv5
        obtain ⟨hm1, hs1⟩ := List.mem_filter.mp hl1
        have hs1 := of_decide_eq_true hs1
        have hR5 := kp5.l S4 hR4
        refine ⟨_, _, _, rfl, rfl, hR5, (by rw [List.length_map]; exact small1000 (by omega)), ?_⟩
        refine ⟨ns ++ [l1.e], _, _, _, rfl, S5.put nrd nrc, ?_, by rw [upd_same, List.map_append]; rfl, by rw [List.length_append, List.length_singleton]; omega, hch.snoc ha (hs1 ▸ CD.leg_some hm1), ⟨l1.e, by simp, fun h => by omega⟩, (fun _ => ?_), ?_⟩
        · have C5 := C4.keep S4 kp5 n1 n2
          obtain ⟨⟨kvs, q1, q2, q3⟩, q4, q5, q6, q7, q8, q8', q9⟩ := C5
          have hRx : ∀ b o, H5 b = some o → (∀ xs, o ≠ .lst xs) → (upd H5 rl (.lst (ns.map V.str ++ [.str l1.e]))) b = some o := fun b o e n => by
            rw [upd_ne (ne_of e hR5 (n _))]
            exact e
          have nlg : D.lg ≠ rl := fun w => by
            have w1 := C.lg
            rw [w, nHr] at w1
            cases w1
          exact ⟨⟨kvs, hRx _ _ q1 (by intro _ z; cases z), q2, q3⟩, hRx _ _ q4 (by intro _ z; cases z), by rw [upd_ne nlg]; exact q5, fun l hl => hRx _ _ (q6 l hl) (by intro _ z; cases z), fun n a x y h => let ⟨z1, z2, z3⟩ := q7 n a x y h; ⟨z1, hRx _ _ z2 (by intro _ z; cases z), z3⟩, q8, q8', q9⟩
        · rw [List.length_append, List.length_singleton]
          obtain ⟨ys, rfl⟩ := List.getLast?_eq_some_iff.mp ha
          simp
        · intro b o e nb
          rw [upd_ne (fun w => by rw [w, nHr] at e; cases e)]
          exact kp5 _ _ (k4 _ _ e nb) nb
      · refine ⟨ns, _, _, _, rfl, S4, C4, hR4, by omega, hch, ⟨a, ha, fun h => by omega⟩, (fun _ => ?_), k4⟩
        by_cases h0 : i = 0
        · exfalso
          obtain ⟨l, hl, e⟩ := ha0 h0
          refine e1 (decide_eq_true ?_)
          rw [List.length_map]
          have : l ∈ D.ls.filter fun l => decide (l.s = a) := List.mem_filter.mpr ⟨hl, decide_eq_true e⟩
          have := List.length_pos_of_mem this
          omega
        · exact h2 (by omega)
    · rintro σ H3 ⟨ns, v_k, v_ends, v_leg, rfl, S0, C0, hR, hln, hch, hst, h2, hk⟩
      refine ⟨_, rfl, rl, _, rfl, .inl ⟨.inl (.inl hR), fun r hr' => ?_⟩⟩
      refine k ns r _ ⟨h2 (by omega), by omega, hch⟩ ?_ upd_same (S0.new hr') (hk.trans (Keep.of (same_new hr')))
      exact hk.none (S0.nd hr') hr'
end
end Sk

set_option Elab.async false
set_option linter.all false
set_option maxRecDepth 100000
set_option maxHeartbeats 4000000
namespace Sk
open PySem PySem.Spec PyProof.Rows L2
abbrev s_Path_total : Stmt := inClass (top 19) 2
abbrev s_Path_leg_at : Stmt := inClass (top 19) 3
abbrev s_Path_begin : Stmt := inClass (top 19) 4
abbrev s_Path_leg : Stmt := inClass (top 19) 5
abbrev s_Path_vector : Stmt := inClass (top 19) 6
abbrev s_Path_route : Stmt := inClass (top 19) 9
abbrev s_Path__point : Stmt := inClass (top 19) 12
abbrev s_Path_place : Stmt := inClass (top 19) 7
abbrev s_Path__join : Stmt := inClass (top 19) 1
abbrev s_Path___init__ : Stmt := inClass (top 19) 0
section
variable {P : Program} {w : World} {K : PySem.W.Frag} {mg : Str → Option Value} {base : Heap}
theorem sc_Path_total : FnScope ["self"] ["self"] (defScope s_Path_total) := ⟨rfl, rfl, rfl, by decide +kernel, rfl, by decide +kernel, by decide +kernel⟩
theorem ok_Path_total {f : Addr} {fd : FuncData} {C : Addr} (F : Fun K "total" "Path.total" s_Path_total f fd) (T : TxtA mg) (Y : PathY K mg C) : FnOk P w K mg base CX0 1 f fd ["self"] (spTotal C) := by
  refine F.ok sc_Path_total (fun vs H Q E h => ?_) (fun cdv A outer s H vs Q E hr h => ?_)
  · obtain ⟨_, _, _, _, _, _, _, _, _, _, rfl, _⟩ := h
    rfl
  · obtain ⟨p, r, dx, l1, l2, l3, l4, D, ns, i, rfl, ho, hb, k⟩ := h
    refine ⟨_, (pss_one (ps_ret (pe_ix (r := rIxL K) ix_list (pe_fld (pv 0) rfl) (pe_un un_neg pe_int) (fun _ _ => rfl)))), ?_⟩
    refine ⟨_, rfl, _, _, _, _, _, rfl, ho, Y.cl, Y.n5, pf5, _, rfl, _, _, _, _, rfl, rfl, .inl (.inl hb), atI_back (v := .int (bg D ns i)) (by simp [List.range_succ]), ?_⟩
    exact k
theorem sc_Path_leg_at : FnScope ["self", "progress", "last", "index"] ["self", "progress"] (defScope s_Path_leg_at) := ⟨rfl, rfl, rfl, by decide +kernel, rfl, by decide +kernel, by decide +kernel⟩
theorem ok_Path_leg_at {f : Addr} {fd : FuncData} {C : Addr} (F : Fun K "leg_at" "Path.leg_at" s_Path_leg_at f fd) (T : TxtA mg) (Y : PathY K mg C) : FnOk P w K mg base CX0 1 f fd ["self", "progress"] (spLegAt C) := by
  refine F.ok sc_Path_leg_at (fun vs H Q E h => ?_) (fun cdv A outer s H vs Q E hr h => ?_)
  · obtain ⟨_, _, _, _, _, rfl, _⟩ := h
    rfl
  · obtain ⟨p, r, D, ns, x, rfl, PA, n2, n20, k⟩ := h
    refine ⟨_, (pss_cons (ps_set (i := 2) sc_Path_leg_at.nd rfl (Or.inl rfl) (pe_op op_sub (pe_callB (r := rLenK K) call_len_seq (by rfl) T.len boot_len (pa_cons (pe_fld (pv 0) rfl) pa_nil)) pe_int))
    (pss_cons (ps_for PassesOwn.never rfl (pi_range1 (by rfl) T.range (pa_cons (pv 2) pa_nil)) (pg_name (i := 3) sc_Path_leg_at.nd rfl (Or.inl rfl))
      (pss_one (ps_if (pt_cmpR op_lt (pv 1) (pe_ix (r := rIxL K) ix_list (pe_fld (pv 0) rfl) (pe_op op_add (pv 3) pe_int) (fun _ _ => rfl)) (nomark _)) (pss_one (ps_ret (pv 3)))
      pss_nil)))
    (pss_one (ps_ret (pv 2))))), ?_⟩
    obtain ⟨dx, l1, l2, l3, l4, sa, va, P⟩ := id PA
    refine ⟨_, rfl, _, _, _, _, _, rfl, P.ob, Y.cl, Y.n2, pf2, _, _, rfl, .inl (.inl (.inl P.lg)), _, _, rfl, rfl, ?_⟩
    refine nm ?_
    dsimp only
    rw [List.length_map, List.length_range]
    have e0 : ((ns.length - 1 : Nat) : Int) - 1 = ((ns.length - 1 - 1 : Nat) : Int) := by omega
    rw [e0]
    generalize hm : ns.length - 1 - 1 = m at k ⊢
    refine ⟨_, rfl, _, rfl, by omega, by omega, for_range (n := ((m : Nat) : Int).toNat) (fun i σ H2 => ∃ v3, σ = [some (.ref p), some (.int x), some (.int (m : Int)), v3] ∧ H2 = H ∧ ∀ j, j < i → bg D ns (j + 1) ≤ x)
      ⟨none, rfl, rfl, fun j hj => by omega⟩ ?_ ?_⟩
    · rintro i σ H2 hi ⟨v3, rfl, rfl, hj⟩
      have hi : i < m := by omega
      refine ⟨_, rfl, _, rfl, _, _, _, _, _, rfl, P.ob, Y.cl, Y.n5, pf5, _, rfl, _, _, rfl, rfl, _, _, _, .int (bg D ns (i + 1)), rfl, rfl, .inl (.inl P.bgn), ?_, _, _, rfl, rfl, _, rfl, ite2 (fun e => ?_) (fun e => ?_)⟩
      · have e1 : 0 + (i : Int) + 1 = ((i + 1 : Nat) : Int) := by omega
        rw [e1]
        refine atI_nat ?_
        rw [List.getElem?_map, List.getElem?_range (by omega)]
        rfl
      · have e := of_decide_eq_true e
        rw [lat_eq (Nat.le_of_lt hi) hj fun _ => e] at k
        refine ⟨_, rfl, ?_⟩
        show Q (.int (0 + (i : Int))) H2
        rw [Int.zero_add]
        exact k
      · have e : ¬ x < bg D ns (i + 1) := fun z => e (decide_eq_true z)
        refine ⟨_, rfl, rfl, fun j h => ?_⟩
        by_cases w : j = i
        · rw [w]; omega
        · exact hj j (by omega)
    · rintro σ H2 ⟨v3, rfl, rfl, hj⟩
      rw [lat_eq (Nat.le_refl m) (fun i hi => hj i (by omega)) fun z => absurd z (Nat.lt_irrefl _)] at k
      exact ⟨_, rfl, k⟩
theorem sc_Path_begin : FnScope ["self", "index"] ["self", "index"] (defScope s_Path_begin) := ⟨rfl, rfl, rfl, by decide +kernel, rfl, by decide +kernel, by decide +kernel⟩
theorem ok_Path_begin {f : Addr} {fd : FuncData} {C : Addr} (F : Fun K "begin" "Path.begin" s_Path_begin f fd) (T : TxtA mg) (Y : PathY K mg C) : FnOk P w K mg base CX0 1 f fd ["self", "index"] (spBegin C) := by
  refine F.ok sc_Path_begin (fun vs H Q E h => ?_) (fun cdv A outer s H vs Q E hr h => ?_)
  · obtain ⟨_, _, _, _, _, _, rfl, _⟩ := h
    rfl
  · obtain ⟨p, r, D, ns, j, z, rfl, rfl, PA, hj, k⟩ := h
    refine ⟨_, (pss_one (ps_ret (pe_ix (r := rIxL K) ix_list (pe_fld (pv 0) rfl) (pv 1) (fun _ _ => rfl)))), ?_⟩
    obtain ⟨dx, l1, l2, l3, l4, sa, va, P⟩ := id PA
    refine ⟨_, rfl, _, _, _, _, _, rfl, P.ob, Y.cl, Y.n5, pf5, _, rfl, _, _, _, .int (bg D ns j), rfl, rfl, .inl (.inl P.bgn), atI_nat (by rw [List.getElem?_map, List.getElem?_range (by omega)]; rfl), ?_⟩
    exact k
theorem sc_Path_leg : FnScope ["self", "index"] ["self", "index"] (defScope s_Path_leg) := ⟨rfl, rfl, rfl, by decide +kernel, rfl, by decide +kernel, by decide +kernel⟩
theorem ok_Path_leg {f : Addr} {fd : FuncData} {C : Addr} (F : Fun K "leg" "Path.leg" s_Path_leg f fd) (T : TxtA mg) (Y : PathY K mg C) : FnOk P w K mg base CX0 1 f fd ["self", "index"] (spLegI C) := by
  refine F.ok sc_Path_leg (fun vs H Q E h => ?_) (fun cdv A outer s H vs Q E hr h => ?_)
  · obtain ⟨_, _, _, _, _, _, rfl, _⟩ := h
    rfl
  · obtain ⟨p, r, D, ns, j, z, rfl, rfl, PA, hj, k⟩ := h
    refine ⟨_, (pss_one (ps_ret (pe_ix (r := rIxL K) ix_list (pe_fld (pv 0) rfl) (pv 1) (fun _ _ => rfl)))), ?_⟩
    obtain ⟨dx, l1, l2, l3, l4, sa, va, P⟩ := id PA
    refine ⟨_, rfl, _, _, _, _, _, rfl, P.ob, Y.cl, Y.n2, pf2, _, rfl, _, _, _, optL (D.leg (rn ns j) (rn ns (j + 1))), rfl, rfl, .inl (.inl P.lg), atI_nat (by rw [List.getElem?_map, List.getElem?_range hj]; rfl), ?_⟩
    exact k
theorem sc_Path_vector : FnScope ["self", "index"] ["self", "index"] (defScope s_Path_vector) := ⟨rfl, rfl, rfl, by decide +kernel, rfl, by decide +kernel, by decide +kernel⟩
theorem ok_Path_vector {f : Addr} {fd : FuncData} {C : Addr} (F : Fun K "vector" "Path.vector" s_Path_vector f fd) (T : TxtA mg) (Y : PathY K mg C) : FnOk P w K mg base CX0 1 f fd ["self", "index"] (spVec C) := by
  refine F.ok sc_Path_vector (fun vs H Q E h => ?_) (fun cdv A outer s H vs Q E hr h => ?_)
  · obtain ⟨_, _, _, _, _, _, rfl, _⟩ := h
    rfl
  · obtain ⟨p, r, D, ns, j, z, rfl, rfl, PA, hj, k⟩ := h
    refine ⟨_, (pss_one (ps_ret (pe_ix (r := rIxL K) ix_list (pe_fld (pv 0) rfl) (pv 1) (fun _ _ => rfl)))), ?_⟩
    obtain ⟨dx, l1, l2, l3, l4, sa, va, P⟩ := id PA
    have hv : j < va.length := by rw [P.vl]; exact hj
    refine ⟨_, rfl, _, _, _, _, _, rfl, P.ob, Y.cl, Y.n4, pf4, _, rfl, _, _, _, _, rfl, rfl, .inl (.inl P.ve), atI_nat (mapAt hv), ?_⟩
    exact k _ (P.vx j hv)
theorem sc_Path_route : FnScope ["self"] ["self"] (defScope s_Path_route) := ⟨rfl, rfl, rfl, by decide +kernel, rfl, by decide +kernel, by decide +kernel⟩
theorem ok_Path_route {f : Addr} {fd : FuncData} {C : Addr} (F : Fun K "route" "Path.route" s_Path_route f fd) (T : TxtA mg) (Y : PathY K mg C) : FnOk P w K mg base CX0 1 f fd ["self"] (spRoute C) := by
  refine F.ok sc_Path_route (fun vs H Q E h => ?_) (fun cdv A outer s H vs Q E hr h => ?_)
  · obtain ⟨_, _, _, _, rfl, _⟩ := h
    rfl
  · obtain ⟨p, r, D, ns, rfl, PA, k⟩ := h
    refine ⟨_, (pss_one (ps_ret (pe_fld (pv 0) rfl))), ?_⟩
    obtain ⟨dx, l1, l2, l3, l4, sa, va, P⟩ := id PA
    refine ⟨_, rfl, _, _, _, _, _, rfl, P.ob, Y.cl, Y.n1, pf1, ?_⟩
    exact k
theorem sc_Path__point : FnScope ["self", "index", "progress", "x", "y", "dx", "dy", "length", "along"] ["self", "index", "progress"] (defScope s_Path__point) := ⟨rfl, rfl, rfl, by decide +kernel, rfl, by decide +kernel, by decide +kernel⟩
theorem ok_Path__point {f : Addr} {fd : FuncData} {C : Addr} (F : Fun K "_point" "Path._point" s_Path__point f fd) (T : TxtA mg) (Y : PathY K mg C) : FnOk P w K mg base CX0 1 f fd ["self", "index", "progress"] (spPoint C) := by
  refine F.ok sc_Path__point (fun vs H Q E h => ?_) (fun cdv A outer s H vs Q E hr h => ?_)
  · obtain ⟨_, _, _, _, _, _, _, rfl, _⟩ := h
    rfl
  · obtain ⟨p, r, D, ns, j, z, x, rfl, rfl, PA, hB, hj, k⟩ := h
    refine ⟨_, (pss_cons (ps_asg (pe_ix (r := rIxL K) ix_list (pe_fld (pv 0) rfl) (pv 1) (fun _ _ => rfl)) (pg_tup (by rfl) (pgs_cons (pg_name (i := 3) sc_Path__point.nd rfl (Or.inl rfl)) (pgs_cons (pg_name (i := 4) sc_Path__point.nd rfl (Or.inl rfl)) pgs_nil))))
    (pss_cons (ps_asg (pe_ix (r := rIxL K) ix_list (pe_fld (pv 0) rfl) (pv 1) (fun _ _ => rfl)) (pg_tup (by rfl) (pgs_cons (pg_name (i := 5) sc_Path__point.nd rfl (Or.inl rfl)) (pgs_cons (pg_name (i := 6) sc_Path__point.nd rfl (Or.inl rfl)) (pgs_cons (pg_name (i := 7) sc_Path__point.nd rfl (Or.inl rfl)) pgs_nil)))))
    (pss_cons (ps_set (i := 8) sc_Path__point.nd rfl (Or.inl rfl) (pe_op op_sub (pv 2) (pe_ix (r := rIxL K) ix_list (pe_fld (pv 0) rfl) (pv 1) (fun _ _ => rfl))))
    (pss_one (ps_ret (pe_tup (pa_cons (pe_op op_add (pe_op op_mul (pv 3) (pv 7)) (pe_op op_mul (pv 5) (pv 8))) (pa_cons (pe_op op_add (pe_op op_mul (pv 4) (pv 7)) (pe_op op_mul (pv 6) (pv 8))) pa_nil)))))))), ?_⟩
    obtain ⟨dx, l1, l2, l3, l4, sa, va, P⟩ := id PA
    have hs : j < sa.length := by rw [P.sl]; exact hj
    have hv : j < va.length := by rw [P.vl]; exact hj
    have b1 := hB (rn ns j)
    have b2 := hB (rn ns (j + 1))
    refine ⟨_, rfl, _, _, _, _, _, rfl, P.ob, Y.cl, Y.n3, pf3, _, rfl, _, _, _, _, rfl, rfl, .inl (.inl P.st), atI_nat (mapAt hs), _, _, rfl, .inl (.inl (P.sx j hs)), rfl, _, _, rfl, _, _, rfl, rfl, ?_⟩
    refine ⟨_, rfl, _, _, _, _, _, rfl, P.ob, Y.cl, Y.n4, pf4, _, rfl, _, _, _, _, rfl, rfl, .inl (.inl P.ve), atI_nat (mapAt hv), _, _, rfl, .inl (.inl (P.vx j hv)), rfl, _, _, rfl, _, _, rfl, _, _, rfl, rfl, ?_⟩
    refine ⟨_, rfl, _, rfl, _, _, _, _, _, rfl, P.ob, Y.cl, Y.n5, pf5, _, rfl, _, _, _, .int (bg D ns j), rfl, rfl, .inl (.inl P.bgn), atI_nat (by rw [List.getElem?_map, List.getElem?_range (by omega)]; rfl), _, _, rfl, rfl, ?_⟩
    refine ⟨_, rfl, _, rfl, _, _, rfl, rfl, .inl ⟨by omega, by omega⟩, _, rfl, _, rfl, _, _, rfl, rfl, .inl ⟨by omega, by omega⟩, _, _, rfl, rfl, _, rfl, _, rfl, _, _, rfl, rfl, .inl ⟨by omega, by omega⟩, _, rfl, _, rfl, _, _, rfl, rfl, .inl ⟨by omega, by omega⟩, _, _, rfl, rfl, szOk rfl, fun q hq => ?_⟩
    exact k q _ hq (same_new hq) upd_same


theorem sc_Path_place : FnScope ["self", "progress", "index", "x", "y"] ["self", "progress"] (defScope s_Path_place) := ⟨rfl, rfl, rfl, by decide +kernel, rfl, by decide +kernel, by decide +kernel⟩
theorem ok_Path_place {f : Addr} {fd : FuncData} {C : Addr} (F : Fun K "place" "Path.place" s_Path_place f fd) (T : TxtA mg) (Y : PathY K mg C)
    (M_leg_at : MDef P w K mg base 1 C "leg_at" ["self", "progress"] (spLegAt C))
    (M_point : MDef P w K mg base 1 C "_point" ["self", "index", "progress"] (spPoint C)) : FnOk P w K mg base CX0 2 f fd ["self", "progress"] (spPlace C) := by
  refine F.ok sc_Path_place (fun vs H Q E h => ?_) (fun cdv A outer s H vs Q E hr h => ?_)
  · obtain ⟨_, _, _, _, _, rfl, _⟩ := h
    rfl
  · obtain ⟨p, r, D, ns, x, rfl, PA, hB, n2, n20, k⟩ := h
    refine ⟨_, (pss_cons (ps_set (i := 2) sc_Path_place.nd rfl (Or.inl rfl) (pe_mdef M_leg_at Y.cl (hr.mono (by decide)) (pv 0) (pa_cons (pv 1) pa_nil)))
    (pss_cons (ps_asg (pe_mdef M_point Y.cl (hr.mono (by decide)) (pv 0) (pa_cons (pv 2) (pa_cons (pv 1) pa_nil))) (pg_tup (by rfl) (pgs_cons (pg_name (i := 3) sc_Path_place.nd rfl (Or.inl rfl)) (pgs_cons (pg_name (i := 4) sc_Path_place.nd rfl (Or.inl rfl)) pgs_nil))))
    (pss_one (ps_ret (pe_tup (pa_cons (pv 3) (pa_cons (pv 4) (pa_cons (pe_ix (r := rIxT K) ix_tup (pe_ix (r := rIxL K) ix_list (pe_fld (pv 0) rfl) (pv 2) (fun _ _ => rfl)) pe_int (fun _ _ => rfl)) pa_nil)))))))), ?_⟩
    obtain ⟨dx, l1, l2, l3, l4, sa, va, P⟩ := id PA
    obtain ⟨a1, b1, c1⟩ := lat_cases D ns (ns.length - 1 - 1) x
    refine ⟨_, rfl, _, _, _, rfl, P.ob, rfl, _, rfl, p, r, D, ns, x, rfl, PA, n2, n20, ?_⟩
    generalize hu : lat D ns (ns.length - 1 - 1) x = u at *
    refine ⟨_, rfl, _, _, _, rfl, P.ob, rfl, _, rfl, _, rfl, p, r, D, ns, u, _, _, rfl, rfl, PA, hB, by omega, fun q1 H1 hq1 sm1 ht1 => ?_⟩
    have P1 := P.same sm1
    have hv : u < va.length := by rw [P.vl]; omega
    refine ⟨_, _, rfl, .inl (.inl ht1), rfl, _, _, rfl, _, _, rfl, rfl, ?_⟩
    refine ⟨_, rfl, _, rfl, _, rfl, _, _, _, _, _, rfl, P1.ob, Y.cl, Y.n4, pf4, _, rfl, _, _, _, _, rfl, rfl, .inl (.inl P1.ve), atI_nat (mapAt hv), _, _, _, .int (D.len (rn ns u) (rn ns (u + 1))), rfl, rfl, .inl (.inl (P1.vx u hv)), rfl, szOk rfl, fun q hq => ?_⟩
    exact k q _ (sm1.free hq) (fun b o e => same_new hq _ _ (sm1 _ _ e)) upd_same

theorem sc_Path__join : FnScope ["self", "chart", "start", "end", "ax", "ay", "bx", "by", "length"] ["self", "chart", "start", "end"] (defScope s_Path__join) := ⟨rfl, rfl, rfl, by decide +kernel, rfl, by decide +kernel, by decide +kernel⟩
theorem ok_Path__join {f : Addr} {fd : FuncData} {C : Addr} (F : Fun K "_join" "Path._join" s_Path__join f fd) (T : TxtA mg) (Y : PathY K mg C)
    (D_leg_length : Def P w K mg base 3 "leg_length" ["chart", "start", "end"] (spLegLen))
    (D_leg_between : Def P w K mg base 1 "leg_between" ["chart", "start", "end"] (spLegBt))
    (M_total : MDef P w K mg base 1 C "total" ["self"] (spTotal C)) : FnOk P w K mg base CX0 4 f fd ["self", "chart", "start", "end"] (spJoin C) := by
  refine F.ok sc_Path__join (fun vs H Q E h => ?_) (fun cdv A outer s H vs Q E hr h => ?_)
  · obtain ⟨_, _, _, _, _, _, _, _, _, _, _, _, _, rfl, _⟩ := h
    rfl
  · obtain ⟨p, ch, r, dx, l1, l2, l3, l4, D, ns, i, sa, va, rfl, C0, P, hlg, hi, k⟩ := h
    have hu := hu_of hr
    refine ⟨_, (pss_cons (ps_asg (pe_dget hu (pe_dget hu (pv 1) pe_str (fun _ _ => rfl)) (pv 2) (fun _ _ => rfl)) (pg_tup (by rfl) (pgs_cons (pg_name (i := 4) sc_Path__join.nd rfl (Or.inl rfl)) (pgs_cons (pg_name (i := 5) sc_Path__join.nd rfl (Or.inl rfl)) pgs_nil))))
    (pss_cons (ps_asg (pe_dget hu (pe_dget hu (pv 1) pe_str (fun _ _ => rfl)) (pv 3) (fun _ _ => rfl)) (pg_tup (by rfl) (pgs_cons (pg_name (i := 6) sc_Path__join.nd rfl (Or.inl rfl)) (pgs_cons (pg_name (i := 7) sc_Path__join.nd rfl (Or.inl rfl)) pgs_nil))))
    (pss_cons (ps_set (i := 8) sc_Path__join.nd rfl (Or.inl rfl) (pe_def D_leg_length (hr.mono (by decide)) (by rfl) (pa_cons (pv 1) (pa_cons (pv 2) (pa_cons (pv 3) pa_nil)))))
    (pss_cons (ps_expr (pe_bm PySem.F.plainAttrs_list PySem.F.slot_list_append PySem.F.type_list_append mt_append (pe_fld (pv 0) rfl) (pa_cons (pe_def D_leg_between (hr.mono (by decide)) (by rfl) (pa_cons (pv 1) (pa_cons (pv 2) (pa_cons (pv 3) pa_nil)))) pa_nil)))
    (pss_cons (ps_expr (pe_bm PySem.F.plainAttrs_list PySem.F.slot_list_append PySem.F.type_list_append mt_append (pe_fld (pv 0) rfl) (pa_cons (pe_tup (pa_cons (pv 4) (pa_cons (pv 5) pa_nil))) pa_nil)))
    (pss_cons (ps_expr (pe_bm PySem.F.plainAttrs_list PySem.F.slot_list_append PySem.F.type_list_append mt_append (pe_fld (pv 0) rfl) (pa_cons (pe_tup (pa_cons (pe_op op_sub (pv 6) (pv 4)) (pa_cons (pe_op op_sub (pv 7) (pv 5)) (pa_cons (pv 8) pa_nil)))) pa_nil)))
    (pss_one (ps_expr (pe_bm PySem.F.plainAttrs_list PySem.F.slot_list_append PySem.F.type_list_append mt_append (pe_fld (pv 0) rfl) (pa_cons (pe_op op_add (pe_mdef0 M_total Y.cl (hr.mono (by decide)) (pv 0)) (pv 8)) pa_nil)))))))))), ?_⟩
    obtain ⟨lg, hlg'⟩ := hlg
    obtain ⟨hm, hs, he⟩ := CD.leg_mem hlg'
    obtain ⟨⟨a1, x1, y1, h1⟩, a2, x2, y2, h2⟩ := C0.wf lg hm
    rw [hs] at h1
    rw [he] at h2
    obtain ⟨p1, p2, _⟩ := C0.pf _ _ _ _ h1
    obtain ⟨q1, q2, _⟩ := C0.pf _ _ _ _ h2
    refine ⟨_, rfl, _, _, rfl, C0.gf, _, rfl, _, _, rfl, C0.gp h1, _, _, rfl, .inl (.inl p2), rfl, _, _, rfl, _, _, rfl, rfl, ?_⟩
    refine ⟨_, rfl, _, _, rfl, C0.gf, _, rfl, _, _, rfl, C0.gp h2, _, _, rfl, .inl (.inl q2), rfl, _, _, rfl, _, _, rfl, rfl, ?_⟩
    refine ⟨_, rfl, _, rfl, _, rfl, ch, D, rn ns i, rn ns (i + 1), _, _, _, _, _, _, rfl, C0, h1, h2, ?_⟩
    have npl : ∀ l xs, H l = some (.lst xs) → p ≠ l := fun l xs e => ne_of P.ob e (by intro z; cases z)
    refine ⟨_, rfl, _, _, _, _, _, rfl, P.ob, Y.cl, Y.n2, pf2, .inl ⟨rfl, _, .inl (.inl P.lg)⟩, _, rfl, _, rfl, _, rfl, ch, D, rn ns i, rn ns (i + 1), rfl, C0, ?_⟩
    refine ⟨_, _, _, rfl, rfl, P.lg, small1000 (by rw [List.length_map, List.length_range]; omega), ?_⟩
    -- starts
    have ob1 : ∀ o, (upd H l1 o) p = some (.ins C dx (pfl r l1 l2 l3 l4)) := fun o => by rw [upd_ne (npl _ _ P.lg)]; exact P.ob
    have st1 : ∀ o, (upd H l1 o) l2 = some (.lst (sa.map V.ref)) := fun o => by rw [upd_ne P.d12.symm]; exact P.st
    refine ⟨_, rfl, _, _, _, _, _, rfl, ob1 _, Y.cl, Y.n3, pf3, .inl ⟨rfl, _, .inl (.inl (st1 _))⟩, _, rfl, _, rfl, szOk rfl, fun t1 ht1 => ?_⟩
    have hH1 : ∀ b, (upd H l1 (.lst ((List.range i).map (fun j => optL (D.leg (rn ns j) (rn ns (j + 1)))) ++ [optL (D.leg (rn ns i) (rn ns (i + 1)))]))) b = none → H b = none := fun b e => by
      by_cases w : b = l1
      · rw [w, upd_same] at e; cases e
      · rw [upd_ne w] at e; exact e
    have n1H : H t1 = none := hH1 _ ht1
    refine ⟨_, _, _, rfl, rfl, same_new ht1 _ _ (st1 _), small1000 (by rw [List.length_map, P.sl]; omega), ?_⟩
    generalize hA : upd H l1 (.lst ((List.range i).map (fun j => optL (D.leg (rn ns j) (rn ns (j + 1)))) ++ [optL (D.leg (rn ns i) (rn ns (i + 1)))])) = HA at ht1 ⊢
    generalize hB : upd (upd HA t1 (.tup [.int x1, .int y1])) l2 (.lst (sa.map V.ref ++ [.ref t1])) = HB
    have fB : ∀ b o, H b = some o → b ≠ l1 → b ≠ l2 → HB b = some o := fun b o e m1 m2 => by
      rw [← hB, upd_ne m2]
      refine same_new ht1 _ _ ?_
      rw [← hA, upd_ne m1]
      exact e
    have B1 : HB l1 = some (.lst ((List.range (i + 1)).map fun j => optL (D.leg (rn ns j) (rn ns (j + 1))))) := by
      rw [← hB, upd_ne P.d12]
      refine same_new ht1 _ _ ?_
      rw [← hA, upd_same, List.range_succ, List.map_append]
      rfl
    have B2 : HB l2 = some (.lst ((sa ++ [t1]).map V.ref)) := by rw [← hB, upd_same, List.map_append]; rfl
    have Bt : HB t1 = some (.tup [.int x1, .int y1]) := by
      rw [← hB, upd_ne (fun w => by rw [w, P.st] at n1H; cases n1H), upd_same]
    -- vectors
    have obB := fB _ _ P.ob (npl _ _ P.lg) (npl _ _ P.st)
    have veB := fB _ _ P.ve P.d13.symm P.d23.symm
    have bgB := fB _ _ P.bgn P.d14.symm P.d24.symm
    refine ⟨_, rfl, _, _, _, _, _, rfl, obB, Y.cl, Y.n4, pf4, .inl ⟨rfl, _, .inl (.inl veB)⟩, _, rfl, _, rfl, _, _, rfl, rfl, _, rfl, _, rfl, _, _, rfl, rfl, _, rfl, szOk rfl, fun t2 ht2 => ?_⟩
    refine ⟨_, _, _, rfl, rfl, same_new ht2 _ _ veB, small1000 (by rw [List.length_map, P.vl]; omega), ?_⟩
    generalize hE : upd (upd HB t2 (.tup [.int (x2 - x1), .int (y2 - y1), .int (D.len (rn ns i) (rn ns (i + 1)))])) l3 (.lst (va.map V.ref ++ [.ref t2])) = HE
    have fE : ∀ b o, HB b = some o → b ≠ l3 → HE b = some o := fun b o e m => by
      rw [← hE, upd_ne m]
      exact same_new ht2 _ _ e
    have E3 : HE l3 = some (.lst ((va ++ [t2]).map V.ref)) := by rw [← hE, upd_same, List.map_append]; rfl
    have Et : HE t2 = some (.tup [.int (x2 - x1), .int (y2 - y1), .int (D.len (rn ns i) (rn ns (i + 1)))]) := by
      rw [← hE, upd_ne (fun w => by rw [w, veB] at ht2; cases ht2), upd_same]
    have obE := fE _ _ obB (npl _ _ P.ve)
    have bgE := fE _ _ bgB P.d34.symm
    -- begins
    refine ⟨_, rfl, _, _, _, _, _, rfl, obE, Y.cl, Y.n5, pf5, .inl ⟨rfl, _, .inl (.inl bgE)⟩, _, rfl, _, _, _, rfl, obE, rfl, p, r, dx, l1, l2, l3, l4, D, ns, i, rfl, obE, bgE, _, rfl, _, _, rfl, rfl, ?_⟩
    refine ⟨_, _, _, rfl, rfl, bgE, small1000 (by rw [List.length_map, List.length_range]; omega), ?_⟩
    generalize hG : upd HE l4 (.lst ((List.range (i + 1)).map (fun j => V.int (bg D ns j)) ++ [.int (bg D ns i + D.len (rn ns i) (rn ns (i + 1)))])) = HG
    have fG : ∀ b o, HE b = some o → b ≠ l4 → HG b = some o := fun b o e m => by
      rw [← hG, upd_ne m]
      exact e
    have G4 : HG l4 = some (.lst ((List.range (i + 1 + 1)).map fun j => V.int (bg D ns j))) := by
      rw [← hG, upd_same, List.range_succ (n := i + 1), List.map_append]
      rfl
    have tup3 : ∀ b xs, HB b = some (.tup xs) → HG b = some (.tup xs) := fun b xs e => fG _ _ (fE _ _ e (ne_of e veB (by intro z; cases z))) (ne_of e bgB (by intro z; cases z))
    have tup0 : ∀ b xs, H b = some (.tup xs) → HG b = some (.tup xs) := fun b xs e => tup3 _ _ (fB _ _ e (ne_of e P.lg (by intro z; cases z)) (ne_of e P.st (by intro z; cases z)))
    refine k t1 t2 HG ⟨fG _ _ obE (npl _ _ P.bgn), tup0 _ _ P.rt, fG _ _ (fE _ _ B1 P.d13) P.d14, fG _ _ (fE _ _ B2 P.d23) P.d24, fG _ _ E3 P.d34, G4, by rw [List.length_append, P.sl]; rfl, by rw [List.length_append, P.vl]; rfl, fun j hj => ?_, fun j hj => ?_, P.d12, P.d13, P.d14, P.d23, P.d24, P.d34⟩ fun b o e m1 m2 m3 m4 => fG _ _ (fE _ _ (fB _ _ e m1 m2) m3) m4
    · by_cases w : j < sa.length
      · rw [List.getElem_append_left w]
        exact tup0 _ _ (P.sx j w)
      · rw [List.length_append, List.length_singleton] at hj
        have ej : j = sa.length := by omega
        subst ej
        have e : (sa ++ [t1])[sa.length] = t1 := by simp
        rw [e, P.sl, CD.xy_eq h1]
        exact tup3 _ _ Bt
    · by_cases w : j < va.length
      · rw [List.getElem_append_left w]
        exact tup0 _ _ (P.vx j w)
      · rw [List.length_append, List.length_singleton] at hj
        have ej : j = va.length := by omega
        subst ej
        have e : (va ++ [t2])[va.length] = t2 := by simp
        rw [e, P.vl, CD.xy_eq h1, CD.xy_eq h2]
        exact fG _ _ Et (ne_of Et bgE (by intro z; cases z))
theorem sc_Path___init__ : FnScope ["self", "chart", "route", "index"] ["self", "chart", "route"] (defScope s_Path___init__) := ⟨rfl, rfl, rfl, by decide +kernel, rfl, by decide +kernel, by decide +kernel⟩
theorem ok_Path___init__ {f : Addr} {fd : FuncData} {C : Addr} (F : Fun K "__init__" "Path.__init__" s_Path___init__ f fd) (T : TxtA mg) (Y : PathY K mg C)
    (M_join : MDef P w K mg base 4 C "_join" ["self", "chart", "start", "end"] (spJoin C)) : FnOk P w K mg base CX0 5 f fd ["self", "chart", "route"] (spPInit C) := by
  refine F.ok sc_Path___init__ (fun vs H Q E h => ?_) (fun cdv A outer s H vs Q E hr h => ?_)
  · obtain ⟨_, _, _, _, _, _, rfl, _⟩ := h
    rfl
  · obtain ⟨p, ch, r, dx, D, ns, rfl, hp, C0, hr0, R, k⟩ := h
    refine ⟨_, (pss_cons (ps_fld (pv 0) (pv 2) rfl)
    (pss_cons (ps_fld (pv 0) (pe_lst pa_nil) rfl)
    (pss_cons (ps_fld (pv 0) (pe_lst pa_nil) rfl)
    (pss_cons (ps_fld (pv 0) (pe_lst pa_nil) rfl)
    (pss_cons (ps_fld (pv 0) (pe_lst (pa_cons pe_int pa_nil)) rfl)
    (pss_one (ps_for PassesOwn.never rfl (pi_range1 (by rfl) T.range (pa_cons (pe_op op_sub (pe_callB (r := rLenK K) call_len_seq (by rfl) T.len boot_len (pa_cons (pv 2) pa_nil)) pe_int) pa_nil)) (pg_name (i := 3) sc_Path___init__.nd rfl (Or.inl rfl))
      (pss_one (ps_expr (pe_mdef M_join Y.cl (hr.mono (by decide)) (pv 0) (pa_cons (pv 1) (pa_cons (pe_ix (r := rIxT K) ix_tup (pv 2) (pv 3) (fun _ _ => rfl)) (pa_cons (pe_ix (r := rIxT K) ix_tup (pv 2) (pe_op op_add (pv 3) pe_int) (fun _ _ => rfl)) pa_nil))))))))))))), ?_⟩
    have pr : p ≠ r := ne_of hp hr0 (by intro z; cases z)
    refine ⟨_, rfl, _, rfl, p, C, dx, [], rfl, hp, Y.cl, Y.n1, (by show 0 < 1000; decide), ?_⟩
    refine ⟨szOk rfl, fun l1 hl1 => ⟨_, rfl, p, C, dx, _, rfl, same_new hl1 _ _ upd_same, Y.cl, Y.n2, (by show 1 < 1000; decide), ?_⟩⟩
    refine ⟨szOk rfl, fun l2 hl2 => ⟨_, rfl, p, C, dx, _, rfl, same_new hl2 _ _ upd_same, Y.cl, Y.n3, (by show 2 < 1000; decide), ?_⟩⟩
    refine ⟨szOk rfl, fun l3 hl3 => ⟨_, rfl, p, C, dx, _, rfl, same_new hl3 _ _ upd_same, Y.cl, Y.n4, (by show 3 < 1000; decide), ?_⟩⟩
    refine ⟨szOk rfl, fun l4 hl4 => ⟨_, rfl, p, C, dx, _, rfl, same_new hl4 _ _ upd_same, Y.cl, Y.n5, (by show 4 < 1000; decide), ?_⟩⟩
    have np : ∀ (Hx : Hp) l o, (upd Hx p o) l = none → p ≠ l ∧ Hx l = none := fun Hx l o e => by
      have w : p ≠ l := fun w => by rw [← w, upd_same] at e; cases e
      exact ⟨w, by rw [upd_ne w.symm] at e; exact e⟩
    obtain ⟨m1, e1⟩ := np _ _ _ hl1
    obtain ⟨m2, e2⟩ := np _ _ _ hl2
    obtain ⟨m3, e3⟩ := np _ _ _ hl3
    obtain ⟨m4, e4⟩ := np _ _ _ hl4
    have nn : ∀ (Hx : Hp) l o b, (upd Hx l o) b = none → b ≠ l ∧ Hx b = none := fun Hx l o b e => by
      have w : b ≠ l := fun w => by rw [w, upd_same] at e; cases e
      exact ⟨w, by rw [upd_ne w] at e; exact e⟩
    obtain ⟨d12, e2a⟩ := nn _ _ _ _ e2
    obtain ⟨d23, e3a⟩ := nn _ _ _ _ e3
    obtain ⟨_, e3b⟩ := np _ _ _ e3a
    obtain ⟨d13, e3c⟩ := nn _ _ _ _ e3b
    obtain ⟨d34, e4a⟩ := nn _ _ _ _ e4
    obtain ⟨_, e4b⟩ := np _ _ _ e4a
    obtain ⟨d24, e4c⟩ := nn _ _ _ _ e4b
    obtain ⟨_, e4d⟩ := np _ _ _ e4c
    obtain ⟨d14, e4e⟩ := nn _ _ _ _ e4d
    obtain ⟨_, f2⟩ := np _ _ _ e2a
    obtain ⟨_, f3⟩ := np _ _ _ e3c
    obtain ⟨_, f4⟩ := np _ _ _ e4e
    generalize hG : upd (upd (upd (upd (upd (upd (upd (upd (upd H p _) l1 _) p _) l2 _) p _) l3 _) p _) l4 _) p _ = HG
    have fr : ∀ b o, H b = some o → b ≠ p → HG b = some o := fun b o e n => by
      rw [← hG, upd_ne n, upd_ne (ne_of_none e f4), upd_ne n, upd_ne (ne_of_none e f3), upd_ne n, upd_ne (ne_of_none e f2), upd_ne n, upd_ne (ne_of_none e e1), upd_ne n]
      exact e
    have g1 : HG l1 = some (.lst []) := by rw [← hG, upd_ne m1.symm, upd_ne d14.symm, upd_ne m1.symm, upd_ne d13.symm, upd_ne m1.symm, upd_ne d12.symm, upd_ne m1.symm, upd_same]
    have g2 : HG l2 = some (.lst []) := by rw [← hG, upd_ne m2.symm, upd_ne d24.symm, upd_ne m2.symm, upd_ne d23.symm, upd_ne m2.symm, upd_same]
    have g3 : HG l3 = some (.lst []) := by rw [← hG, upd_ne m3.symm, upd_ne d34.symm, upd_ne m3.symm, upd_same]
    have g4 : HG l4 = some (.lst [.int 0]) := by rw [← hG, upd_ne m4.symm, upd_same]
    have gp : HG p = some (.ins C dx (pfl r l1 l2 l3 l4)) := by rw [← hG, upd_same]; rfl
    have P0 : PathP C HG p D ns r 0 dx l1 l2 l3 l4 [] [] := ⟨gp, fr _ _ hr0 pr.symm, g1, g2, g3, g4, rfl, rfl, (fun j h => by simp at h), (fun j h => by simp at h), d12.symm, d13.symm, d14.symm, d23.symm, d24.symm, d34.symm⟩
    refine ⟨_, rfl, _, _, rfl, .inr (.inl (.inl P0.rt)), _, _, rfl, rfl, ?_⟩
    refine ⟨_, rfl, by rw [List.length_map]; have := R.n2; omega, by rw [List.length_map]; have := R.n20; omega, for_range (n := (((ns.map V.str).length : Int) - 1).toNat) (fun i σ H2 => ∃ sa va v3, σ = [some (.ref p), some (.ref ch), some (.ref r), v3] ∧ PathP C H2 p D ns r i dx l1 l2 l3 l4 sa va ∧ ∀ b o, H b = some o → b ≠ p → H2 b = some o)
      ⟨[], [], none, rfl, P0, fr⟩ ?_ ?_⟩
    · rintro i σ H2 hi ⟨sa, va, v3, rfl, P, hk⟩
      have hi : i + 1 < ns.length := by rw [List.length_map] at hi; omega
      have eu : 0 + (i : Int) + 1 = ((i + 1 : Nat) : Int) := by omega
      refine ⟨_, rfl, _, _, _, rfl, P.ob, rfl, _, rfl, _, rfl, _, rfl, _, _, _, _, rfl, rfl, .inl (.inl P.rt), atI0 (rn_at (by omega)), _, rfl, _, rfl, _, _, rfl, rfl, _, _, _, .str (rn ns (i + 1)), rfl, rfl, .inl (.inl P.rt), by rw [eu]; exact atI_nat (rn_at hi), p, ch, r, dx, l1, l2, l3, l4, D, ns, i, sa, va, rfl, C0.fr hp hk, P, R.ch i hi, by have := R.n20; omega, fun s v H' P' fr' => ?_⟩
      exact ⟨_, _, _, rfl, P', fun b o e n => fr' _ _ (hk _ _ e n) (ne_of_none e e1) (ne_of_none e f2) (ne_of_none e f3) (ne_of_none e f4)⟩
    · rintro σ H2 ⟨sa, va, v3, rfl, P, hk⟩
      rw [List.length_map] at P
      rw [show ((ns.length : Int) - 1).toNat = ns.length - 1 by omega] at P
      exact k H2 ⟨_, _, _, _, _, _, _, P⟩ hk
end
end Sk

set_option Elab.async false
set_option linter.all false
set_option maxRecDepth 100000
set_option maxHeartbeats 4000000
namespace Sk
open PySem PySem.Spec PyProof.Rows L2
local macro_rules | `(tactic| walk_at "ms") => `(tactic| first | exact .inl ⟨by decide, by decide⟩ | exact .inl ⟨by omega, by omega⟩ | exact .inr ⟨by omega, by omega⟩ | exact wm (by omega) (by omega) | exact log_of (by omega) (by omega) | (show (0:Int) < _; omega) | exact ⟨by decide, by decide, by decide⟩)
abbrev s_wind_at : Stmt := top 3
abbrev s_step_bounds : Stmt := top 4
section
variable {P : Program} {w : World} {K : PySem.W.Frag} {mg : Str → Option Value} {base : Heap}
theorem sc_wind_at : FnScope ["winds", "tick", "found", "wind"] ["winds", "tick"] (defScope s_wind_at) := ⟨rfl, rfl, rfl, by decide +kernel, rfl, by decide +kernel, by decide +kernel⟩
theorem ok_wind_at {f : Addr} {fd : FuncData} (F : Fun K "wind_at" "wind_at" s_wind_at f fd) (T : TxtA mg) : FnOk P w K mg base CX0 1 f fd ["winds", "tick"] (spWind K) := by
  refine F.ok sc_wind_at (fun vs H Q E h => ?_) (fun cdv A outer s H vs Q E hr h => ?_)
  · obtain ⟨l, t, qs, rfl, _⟩ := h
    rfl
  · obtain ⟨l, t, qs, rfl, W, t0, k⟩ := h
    refine ⟨_, (pss_cons (ps_set (i := 2) sc_wind_at.nd rfl (Or.inl rfl) (pe_ix ix_list (pv 0) pe_int (fun _ _ => rfl)))
    (pss_cons (ps_for PassesOwn.never rfl (pi_list (pv 0)) (pg_name (i := 3) sc_wind_at.nd rfl (Or.inl rfl))
      (pss_one (ps_if (pt_cmpR op_le (pe_ix ix_tup (pv 3) pe_int (fun _ _ => rfl)) (pv 1) (nomark _)) (pss_one (ps_set (i := 2) sc_wind_at.nd rfl (Or.inl rfl) (pv 3)))
      pss_nil)))
    (pss_one (ps_ret (pv 2))))), ?_⟩
    obtain ⟨q0, r, hq, h00⟩ := W.hd
    have hL : SqL K H l (qs.map fun q => V.ref q.1) := .inl (.inl W.li)
    refine ⟨_, rfl, _, _, _, .ref q0.1, rfl, rfl, hL, by rw [hq]; exact atI_nat (j := 0) rfl, ?_⟩
    refine ⟨_, rfl, l, rfl, ⟨_, hL⟩, for_list (K := K) (a := l) (xs := qs.map fun q => V.ref q.1) (fun i σ H2 => ∃ v, σ = [some (.ref l), some (.int t), some (.ref (((lb t (qs.take i)).getLast?).getD q0).1), v] ∧ H2 = H)
      ⟨none, rfl, rfl⟩ (fun i σ H2 _ ⟨_, _, e⟩ => e ▸ hL) ?_ ?_⟩
    · rintro i y σ H2 hi ⟨v, rfl, rfl⟩
      have hil : i < qs.length := by
        have := (List.getElem?_eq_some_iff.mp hi).1
        rw [List.length_map] at this
        exact this
      have ey : y = .ref qs[i].1 := Option.some.inj (hi.symm.trans (W.at hil))
      subst ey
      have hq1 := W.tu qs[i] (List.getElem_mem hil)
      have et : qs.take (i + 1) = qs.take i ++ [qs[i]] := by rw [List.take_add_one, List.getElem?_eq_getElem hil]; rfl
      refine ⟨_, rfl, _, _, _, .int qs[i].2.1, rfl, rfl, .inl (.inl hq1), rfl, _, rfl, _, _, rfl, rfl, _, rfl, ite2 (fun e => ?_) (fun e => ?_)⟩
      · refine ⟨_, rfl, some (.ref qs[i].1), ?_, rfl⟩
        rw [et, lb_snoc, if_pos (of_decide_eq_true e), List.getLast?_concat]
        rfl
      · refine ⟨some (.ref qs[i].1), ?_, rfl⟩
        rw [et, lb_snoc, if_neg (fun z => e (decide_eq_true z)), List.append_nil]
        rfl
    · rintro σ H2 ⟨v, rfl, rfl⟩
      refine ⟨_, rfl, ?_⟩
      rw [List.length_map, List.take_length]
      cases e : (lb t qs).getLast? with
      | some q => exact k q e
      | none =>
        exfalso
        have hz := List.getLast?_eq_none_iff.mp e
        rw [hq] at hz
        unfold lb at hz
        rw [List.filter_cons, if_pos (decide_eq_true (show q0.2.1 ≤ t by omega))] at hz
        cases hz
theorem sc_step_bounds : FnScope ["vector", "speed", "slip", "wind", "dx", "dy", "length", "_", "wx", "wy", "error", "push", "doubt"] ["vector", "speed", "slip", "wind"] (defScope s_step_bounds) := ⟨rfl, rfl, rfl, by decide +kernel, rfl, by decide +kernel, by decide +kernel⟩
theorem ok_step_bounds {f : Addr} {fd : FuncData} (F : Fun K "step_bounds" "step_bounds" s_step_bounds f fd) (T : TxtA mg) : FnOk P w K mg base CX0 1 f fd ["vector", "speed", "slip", "wind"] spStep := by
  refine F.ok sc_step_bounds (fun vs H Q E h => ?_) (fun cdv A outer s H vs Q E hr h => ?_)
  · obtain ⟨_, _, _, _, _, _, _, _, _, _, _, rfl, _⟩ := h
    rfl
  · obtain ⟨v, wa, s, sl, dx, dy, n, t, wx, wy, e, rfl, hv, hw, ⟨b1, b2, b3, b4, b5, b6, b7, b8, b9, b10, b11, b12⟩, k⟩ := h
    refine ⟨_, (pss_cons (ps_asg (pv 0) (pg_tup (by rfl) (pgs_cons (pg_name (i := 4) sc_step_bounds.nd rfl (Or.inl rfl)) (pgs_cons (pg_name (i := 5) sc_step_bounds.nd rfl (Or.inl rfl)) (pgs_cons (pg_name (i := 6) sc_step_bounds.nd rfl (Or.inl rfl)) pgs_nil)))))
    (pss_cons (ps_asg (pv 3) (pg_tup (by rfl) (pgs_cons (pg_name (i := 7) sc_step_bounds.nd rfl (Or.inl rfl)) (pgs_cons (pg_name (i := 8) sc_step_bounds.nd rfl (Or.inl rfl)) (pgs_cons (pg_name (i := 9) sc_step_bounds.nd rfl (Or.inl rfl)) (pgs_cons (pg_name (i := 10) sc_step_bounds.nd rfl (Or.inl rfl)) pgs_nil))))))
    (pss_cons (ps_set (i := 11) sc_step_bounds.nd rfl (Or.inl rfl) (pe_op op_add (pe_op op_mul (pv 8) (pv 4)) (pe_op op_mul (pv 9) (pv 5))))
    (pss_cons (ps_set (i := 12) sc_step_bounds.nd rfl (Or.inl rfl) (pe_op op_mul (pv 10) (pe_op op_add (pe_callB call_abs (by rfl) T.abs boot_abs (pa_cons (pv 4) pa_nil)) (pe_callB call_abs (by rfl) T.abs boot_abs (pa_cons (pv 5) pa_nil)))))
    (pss_one (ps_ret (pe_tup (pa_cons (pe_op op_add (pe_op op_sub (pv 1) (pv 2)) (pe_op op_fdivW (pe_op op_sub (pv 11) (pv 12)) (pv 6))) (pa_cons (pe_op op_add (pe_op op_add (pv 1) (pv 2)) (pe_op op_fdivW (pe_op op_add (pv 11) (pv 12)) (pv 6))) pa_nil))))))))), ?_⟩
    refine ⟨_, rfl, _, _, rfl, .inl (.inl hv), rfl, _, _, rfl, _, _, rfl, _, _, rfl, rfl, ?_⟩
    refine ⟨_, rfl, _, _, rfl, .inl (.inl hw), rfl, _, _, rfl, _, _, rfl, _, _, rfl, _, _, rfl, rfl, ?_⟩
    refine ⟨_, rfl, _, rfl, _, _, rfl, rfl, (by walk_at "ms"), _, rfl, _, rfl, _, _, rfl, rfl, (by walk_at "ms"), _, _, rfl, rfl, ?_⟩
    refine ⟨_, rfl, _, rfl, _, rfl, _, rfl, _, rfl, _, _, rfl, rfl, _, _, rfl, rfl, (by walk_at "ms"), ?_⟩
    refine ⟨_, rfl, _, rfl, _, _, rfl, rfl, _, rfl, _, rfl, _, _, rfl, rfl, _, rfl, _, _, rfl, rfl, (by walk_at "ms"), _, _, rfl, rfl, _, rfl, _, rfl, _, _, rfl, rfl, _, rfl, _, rfl, _, _, rfl, rfl, _, rfl, _, _, rfl, rfl, (by walk_at "ms"), _, _, rfl, rfl, ?_⟩
    refine ⟨szOk rfl, fun p hp => ?_⟩
    exact k p hp
end
end Sk

set_option Elab.async false
set_option linter.all false
set_option maxRecDepth 100000
set_option maxHeartbeats 4000000
namespace Sk
open PySem PySem.Spec PyProof.Rows L2
local macro_rules | `(tactic| walk_at "ms") => `(tactic| first | exact .inl ⟨by decide, by decide⟩ | exact .inl ⟨by omega, by omega⟩ | exact .inr ⟨by omega, by omega⟩ | exact wm (by omega) (by omega) | exact log_of (by omega) (by omega) | (show (0:Int) < _; omega) | exact ⟨by decide, by decide, by decide⟩)
abbrev s_law_begins : Stmt := top 34
abbrev s_law_leg_at : Stmt := top 35
section
variable {P : Program} {w : World} {K : PySem.W.Frag} {mg : Str → Option Value} {base : Heap}
theorem sc_law_begins : FnScope ["lengths", "route", "begins", "k"] ["lengths", "route"] (defScope s_law_begins) := ⟨rfl, rfl, rfl, by decide +kernel, rfl, by decide +kernel, by decide +kernel⟩
theorem ok_law_begins {f : Addr} {fd : FuncData} (F : Fun K "_law_begins" "_law_begins" s_law_begins f fd) (T : TxtA mg) : FnOk P w K mg base CX0 1 f fd ["lengths", "route"] (spBegins) := by
  refine F.ok sc_law_begins (fun vs H Q E h => ?_) (fun cdv A outer s H vs Q E hr h => ?_)
  · obtain ⟨_, _, _, _, rfl, _⟩ := h
    rfl
  · obtain ⟨ld, r, D, ns, rfl, L, hr0, R, k⟩ := h
    have hu := hu_of hr
    refine ⟨_, (pss_cons (ps_set (i := 2) sc_law_begins.nd rfl (Or.inl rfl) (pe_lst (pa_cons pe_int pa_nil)))
    (pss_cons (ps_for PassesOwn.never rfl (pi_range1 (by rfl) T.range (pa_cons (pe_op op_sub (pe_callB (r := rLenK K) call_len_seq (by rfl) T.len boot_len (pa_cons (pv 1) pa_nil)) pe_int) pa_nil)) (pg_name (i := 3) sc_law_begins.nd rfl (Or.inl rfl))
      (pss_one (ps_expr (pe_bm PySem.F.plainAttrs_list PySem.F.slot_list_append PySem.F.type_list_append mt_append (pv 2) (pa_cons (pe_op op_add (pe_ix (r := rIxL K) ix_list (pv 2) (pv 3) (fun _ _ => rfl)) (pe_dget hu (pv 0) (pe_tup (pa_cons (pe_ix (r := rIxT K) ix_tup (pv 1) (pv 3) (fun _ _ => rfl)) (pa_cons (pe_ix (r := rIxT K) ix_tup (pv 1) (pe_op op_add (pv 3) pe_int) (fun _ _ => rfl)) pa_nil))) (fun _ _ => rfl))) pa_nil)))))
    (pss_one (ps_ret (pv 2))))), ?_⟩
    refine ⟨szOk rfl, fun b hb => ?_⟩
    have sm0 : Same H (upd H b (.lst [.int 0])) := same_new hb
    have n2 := R.n2
    have n20 := R.n20
    refine ⟨_, rfl, _, _, rfl, .inr (.inl (.inl (sm0 _ _ hr0))), _, _, rfl, rfl, ?_⟩
    refine ⟨_, rfl, by rw [List.length_map]; omega, by rw [List.length_map]; omega, for_range (n := (((ns.map V.str).length : Int) - 1).toNat) (fun i σ H2 => ∃ v3, σ = [some (.ref ld), some (.ref r), some (.ref b), v3] ∧ Same H H2 ∧ H2 b = some (.lst (((List.range (i + 1)).map (bg D ns)).map V.int)))
      ⟨none, rfl, sm0, upd_same⟩ ?_ ?_⟩
    · rintro i σ H2 hi ⟨v3, rfl, sm, hB⟩
      have hi : i + 1 < ns.length := by rw [List.length_map] at hi; omega
      have eu : 0 + (i : Int) + 1 = ((i + 1 : Nat) : Int) := by omega
      have hr2 := sm _ _ hr0
      refine ⟨_, rfl, .inl ⟨rfl, _, .inl (.inl hB)⟩, _, rfl, _, rfl, _, _, _, .int (bg D ns i), rfl, rfl, .inl (.inl hB), atI0 (by rw [List.getElem?_map, List.getElem?_map, List.getElem?_range (by omega)]; rfl), _, rfl, _, rfl, _, rfl, _, _, _, _, rfl, rfl, .inl (.inl hr2), atI0 (rn_at (by omega)), _, rfl, _, rfl, _, _, rfl, rfl, _, _, _, .str (rn ns (i + 1)), rfl, rfl, .inl (.inl hr2), by rw [eu]; exact atI_nat (rn_at hi), szOk rfl, fun q hq => ?_⟩
      have L2' := (L.same sm).same (same_new (o := .tup [.str (rn ns i), .str (rn ns (i + 1))]) hq)
      refine ⟨_, _, rfl, L2'.g (R.ch i hi) upd_same, _, _, rfl, rfl, ?_⟩
      refine ⟨_, _, _, rfl, rfl, same_new hq _ _ hB, small1000 (by rw [List.length_map, List.length_map, List.length_range]; omega), ?_⟩
      refine ⟨_, rfl, fun c o e => ?_, ?_⟩
      · rw [upd_ne (ne_of_none e hb)]
        exact same_new hq _ _ (sm _ _ e)
      · rw [upd_same, List.range_succ (n := i + 1), List.map_append, List.map_append]
        rfl
    · rintro σ H2 ⟨v3, rfl, sm, hB⟩
      rw [List.length_map, show ((ns.length : Int) - 1).toNat + 1 = ns.length by omega] at hB
      exact ⟨_, rfl, k b H2 hb sm hB⟩
theorem sc_law_leg_at : FnScope ["begins", "progress", "found", "k"] ["begins", "progress"] (defScope s_law_leg_at) := ⟨rfl, rfl, rfl, by decide +kernel, rfl, by decide +kernel, by decide +kernel⟩
theorem ok_law_leg_at {f : Addr} {fd : FuncData} (F : Fun K "_law_leg_at" "_law_leg_at" s_law_leg_at f fd) (T : TxtA mg) : FnOk P w K mg base CX0 1 f fd ["begins", "progress"] (spLawLegAt) := by
  refine F.ok sc_law_leg_at (fun vs H Q E h => ?_) (fun cdv A outer s H vs Q E hr h => ?_)
  · obtain ⟨_, _, _, _, rfl, _⟩ := h
    rfl
  · obtain ⟨b, x, D, ns, rfl, hb, n2, n20, k⟩ := h
    refine ⟨_, (pss_cons (ps_set (i := 2) sc_law_leg_at.nd rfl (Or.inl rfl) pe_int)
    (pss_cons (ps_for PassesOwn.never rfl (pi_range2 (by rfl) T.range (pa_cons pe_int (pa_cons (pe_op op_sub (pe_callB (r := rLenK K) call_len_seq (by rfl) T.len boot_len (pa_cons (pv 0) pa_nil)) pe_int) pa_nil))) (pg_name (i := 3) sc_law_leg_at.nd rfl (Or.inl rfl))
      (pss_one (ps_if (pt_cmpR op_le (pe_ix (r := rIxL K) ix_list (pv 0) (pv 3) (fun _ _ => rfl)) (pv 1) (nomark _)) (pss_one (ps_set (i := 2) sc_law_leg_at.nd rfl (Or.inl rfl) (pv 3)))
      pss_nil)))
    (pss_one (ps_ret (pv 2))))), ?_⟩
    refine ⟨_, rfl, _, _, rfl, .inl (.inl (.inl hb)), _, _, rfl, rfl, ?_⟩
    rw [bgs_len]
    refine ⟨_, _, rfl, ⟨by omega, by omega, by omega, by omega⟩, for_range (lo := 1) (n := ((ns.length : Int) - 1 - 1).toNat) (fun i σ H2 => ∃ v3, σ = [some (.ref b), some (.int x), some (.int (lat D ns i x : Nat)), v3] ∧ H2 = H)
      ⟨none, rfl, rfl⟩ ?_ ?_⟩
    · rintro i σ H2 hi ⟨v3, rfl, rfl⟩
      have e1 : (1 : Int) + (i : Int) = ((i + 1 : Nat) : Int) := by omega
      refine ⟨_, rfl, _, rfl, _, _, _, .int (bg D ns (i + 1)), rfl, rfl, .inl (.inl hb), by rw [e1]; exact atI_nat (bgs_at (by omega)), _, rfl, _, _, rfl, rfl, _, rfl, ite2 (fun e => ?_) (fun e => ?_)⟩
      · have e := of_decide_eq_true e
        refine ⟨_, rfl, some (.int (1 + (i : Int))), ?_, rfl⟩
        rw [lat_succ, if_pos e, e1]
        rfl
      · have e : ¬ bg D ns (i + 1) ≤ x := fun z => e (decide_eq_true z)
        refine ⟨some (.int (1 + (i : Int))), ?_, rfl⟩
        rw [lat_succ, if_neg e]
        rfl
    · rintro σ H2 ⟨v3, rfl, rfl⟩
      rw [show ((ns.length : Int) - 1 - 1).toNat = ns.length - 1 - 1 by omega]
      exact ⟨_, rfl, k⟩
end
end Sk

set_option Elab.async false
set_option linter.all false
set_option maxRecDepth 100000
set_option maxHeartbeats 4000000
namespace Sk
open PySem PySem.Spec PyProof.Rows L2
local macro_rules | `(tactic| walk_at "ms") => `(tactic| first | exact .inl ⟨by decide, by decide⟩ | exact .inl ⟨by omega, by omega⟩ | exact .inr ⟨by omega, by omega⟩ | exact wm (by omega) (by omega) | exact log_of (by omega) (by omega) | (show (0:Int) < _; omega) | exact ⟨by decide, by decide, by decide⟩)
abbrev s_within : Stmt := top 8
abbrev s_lowest : Stmt := top 10
abbrev s_highest : Stmt := top 11
abbrev s_target : Stmt := top 6
abbrev s_bounds : Stmt := top 9
abbrev s_next_box : Stmt := top 7
abbrev s_law_towards : Stmt := top 44
abbrev s_law_target : Stmt := top 43
abbrev s_law_bounds : Stmt := top 42
abbrev s_law_wind_at : Stmt := top 41
abbrev s_law_box : Stmt := top 46
abbrev s_law_kind : Stmt := top 38
abbrev s_law_winds : Stmt := top 40
abbrev s_law_rules : Stmt := top 39
theorem tgt_more {D : CD} {ns : List Str} {k : Nat} {x : Int} {l1 l2 : Lg} (h1 : D.leg (rn ns k) (rn ns (k + 1)) = some l1) (h2 : D.leg (rn ns (k + 1)) (rn ns (k + 1 + 1)) = some l2) (h : k + 2 < ns.length) : tgt D ns k x = clamp l2.lo l2.hi (clamp l1.lo l1.hi x) := by
  unfold tgt
  simp only [h1, h2, if_pos h]
theorem tgt_last {D : CD} {ns : List Str} {k : Nat} {x : Int} {l1 : Lg} (h1 : D.leg (rn ns k) (rn ns (k + 1)) = some l1) (h : ¬ k + 2 < ns.length) : tgt D ns k x = clamp l1.lo l1.hi x := by
  unfold tgt
  simp only [h1, if_neg h]
theorem same_app {H H1 : Hp} {a : Addr} {o : HO} (h : H a = none) (s : Same H H1) : Same H (upd H1 a o) := fun b x e => by
  rw [upd_ne (ne_of_none e h)]
  exact s _ _ e
abbrev rTupK (K : PySem.W.Frag) (xs : List V) (H : Hp) (Q : VK) : Prop := ∃ a zs, xs = [.ref a] ∧ ((SqL K H a zs ∧ ∀ b, H b = none → Q (.ref b) (upd H b (.tup zs))) ∨ (SqT K H a zs ∧ Q (.ref a) H))
theorem nx_ {D : Ends} {σ : L2.St} {H : Hp} (h : D.nx σ H) : tNext D σ H := h
section
variable {P : Program} {w : World} {K : PySem.W.Frag} {mg : Str → Option Value} {base : Heap}
theorem sc_within : FnScope ["leg", "level"] ["leg", "level"] (defScope s_within) := ⟨rfl, rfl, rfl, by decide +kernel, rfl, by decide +kernel, by decide +kernel⟩
theorem ok_within {f : Addr} {fd : FuncData} (F : Fun K "_within" "_within" s_within f fd) (T : TxtA mg) : FnOk P w K mg base CX0 1 f fd ["leg", "level"] (spWithin) := by
  refine F.ok sc_within (fun vs H Q E h => ?_) (fun cdv A outer s H vs Q E hr h => ?_)
  · obtain ⟨_, _, rfl, _⟩ := h
    rfl
  · obtain ⟨l, x, rfl, hl, k⟩ := h
    refine ⟨_, (pss_one (ps_ret (pe_callB (call_min2 rfl) (by rfl) T.min boot_min (pa_cons (pe_callB (call_max2 rfl) (by rfl) T.max boot_max (pa_cons (pv 1) (pa_cons (pe_ix (r := rIxT K) ix_tup (pv 0) pe_int (fun _ _ => rfl)) pa_nil))) (pa_cons (pe_ix (r := rIxT K) ix_tup (pv 0) pe_int (fun _ _ => rfl)) pa_nil))))), ?_⟩
    exact ⟨_, rfl, _, rfl, _, _, _, .int l.lo, rfl, rfl, .inl (.inl hl), rfl, _, _, rfl, _, rfl, _, _, _, .int l.hi, rfl, rfl, .inl (.inl hl), rfl, _, _, rfl, k⟩
theorem sc_lowest : FnScope ["kind", "level", "aim"] ["kind", "level", "aim"] (defScope s_lowest) := ⟨rfl, rfl, rfl, by decide +kernel, rfl, by decide +kernel, by decide +kernel⟩
theorem ok_lowest {f : Addr} {fd : FuncData} (F : Fun K "_lowest" "_lowest" s_lowest f fd) (T : TxtA mg) : FnOk P w K mg base CX0 1 f fd ["kind", "level", "aim"] (spLowest) := by
  refine F.ok sc_lowest (fun vs H Q E h => ?_) (fun cdv A outer s H vs Q E hr h => ?_)
  · obtain ⟨_, _, _, _, _, _, _, _, rfl, _⟩ := h
    rfl
  · obtain ⟨ki, x, g, w0, s0, f0, a, b, rfl, hk, k⟩ := h
    refine ⟨_, (pss_cons (ps_if (pt_cmpR op_lt (pv 1) (pv 2) (nomark _)) (pss_one (ps_ret (pe_callB (call_min2 rfl) (by rfl) T.min boot_min (pa_cons (pe_op op_add (pv 1) (pe_ix (r := rIxT K) ix_tup (pv 0) pe_int (fun _ _ => rfl))) (pa_cons (pv 2) pa_nil)))))
      pss_nil)
    (pss_one (ps_ret (pe_callB (call_max2 rfl) (by rfl) T.max boot_max (pa_cons (pe_op op_sub (pv 1) (pe_ix (r := rIxT K) ix_tup (pv 0) pe_int (fun _ _ => rfl))) (pa_cons (pv 2) pa_nil)))))), ?_⟩
    refine ⟨_, rfl, _, rfl, _, _, rfl, rfl, _, rfl, ite2 (fun e => ?_) (fun e => ?_)⟩
    · unfold lowest at k
      rw [if_pos (of_decide_eq_true e)] at k
      exact ⟨_, rfl, _, rfl, _, _, _, .int a, rfl, rfl, .inl (.inl hk), rfl, _, _, rfl, rfl, _, rfl, _, _, rfl, k⟩
    · unfold lowest at k
      rw [if_neg (fun z => e (decide_eq_true z))] at k
      exact ⟨_, rfl, _, rfl, _, _, _, .int b, rfl, rfl, .inl (.inl hk), rfl, _, _, rfl, rfl, _, rfl, _, _, rfl, k⟩
theorem sc_highest : FnScope ["kind", "level", "aim"] ["kind", "level", "aim"] (defScope s_highest) := ⟨rfl, rfl, rfl, by decide +kernel, rfl, by decide +kernel, by decide +kernel⟩
theorem ok_highest {f : Addr} {fd : FuncData} (F : Fun K "_highest" "_highest" s_highest f fd) (T : TxtA mg) : FnOk P w K mg base CX0 1 f fd ["kind", "level", "aim"] (spHighest) := by
  refine F.ok sc_highest (fun vs H Q E h => ?_) (fun cdv A outer s H vs Q E hr h => ?_)
  · obtain ⟨_, _, _, _, _, _, _, _, rfl, _⟩ := h
    rfl
  · obtain ⟨ki, x, g, w0, s0, f0, a, b, rfl, hk, k⟩ := h
    refine ⟨_, (pss_cons (ps_if (pt_cmpR op_gt (pv 1) (pv 2) (nomark _)) (pss_one (ps_ret (pe_callB (call_max2 rfl) (by rfl) T.max boot_max (pa_cons (pe_op op_sub (pv 1) (pe_ix (r := rIxT K) ix_tup (pv 0) pe_int (fun _ _ => rfl))) (pa_cons (pv 2) pa_nil)))))
      pss_nil)
    (pss_one (ps_ret (pe_callB (call_min2 rfl) (by rfl) T.min boot_min (pa_cons (pe_op op_add (pv 1) (pe_ix (r := rIxT K) ix_tup (pv 0) pe_int (fun _ _ => rfl))) (pa_cons (pv 2) pa_nil)))))), ?_⟩
    refine ⟨_, rfl, _, rfl, _, _, rfl, rfl, _, rfl, ite2 (fun e => ?_) (fun e => ?_)⟩
    · unfold highest at k
      rw [if_pos (of_decide_eq_true e)] at k
      exact ⟨_, rfl, _, rfl, _, _, _, .int a, rfl, rfl, .inl (.inl hk), rfl, _, _, rfl, rfl, _, rfl, _, _, rfl, k⟩
    · unfold highest at k
      rw [if_neg (fun z => e (decide_eq_true z))] at k
      exact ⟨_, rfl, _, rfl, _, _, _, .int b, rfl, rfl, .inl (.inl hk), rfl, _, _, rfl, rfl, _, rfl, _, _, rfl, k⟩
theorem sc_target : FnScope ["path", "course", "index", "level"] ["path", "course", "index"] (defScope s_target) := ⟨rfl, rfl, rfl, by decide +kernel, rfl, by decide +kernel, by decide +kernel⟩
theorem ok_target {f : Addr} {fd : FuncData} {C : Addr} (F : Fun K "target" "target" s_target f fd) (T : TxtA mg) (Y : PathY K mg C)
    (D_within : Def P w K mg base 1 "_within" ["leg", "level"] (spWithin))
    (M_leg : MDef P w K mg base 1 C "leg" ["self", "index"] (spLegI C))
    (M_begin : MDef P w K mg base 1 C "begin" ["self", "index"] (spBegin C))
    (M_total : MDef P w K mg base 1 C "total" ["self"] (spTotal C)) : FnOk P w K mg base CX0 2 f fd ["path", "course", "index"] (spTarget C) := by
  refine F.ok sc_target (fun vs H Q E h => ?_) (fun cdv A outer s H vs Q E hr h => ?_)
  · obtain ⟨_, _, _, rfl, _⟩ := h
    rfl
  · obtain ⟨N, j, z, rfl, rfl, I, hj, k⟩ := h
    refine ⟨_, (pss_cons (ps_set (i := 3) sc_target.nd rfl (Or.inl rfl) (pe_def D_within (hr.mono (by decide)) (by rfl) (pa_cons (pe_mdef M_leg Y.cl (hr.mono (by decide)) (pv 0) (pa_cons (pv 2) pa_nil)) (pa_cons (pe_ix (r := rIxT K) ix_tup (pv 1) pe_int (fun _ _ => rfl)) pa_nil))))
    (pss_cons (ps_if (pt_cmpR op_lt (pe_mdef M_begin Y.cl (hr.mono (by decide)) (pv 0) (pa_cons (pe_op op_add (pv 2) pe_int) pa_nil)) (pe_mdef0 M_total Y.cl (hr.mono (by decide)) (pv 0)) (nomark _)) (pss_one (ps_set (i := 3) sc_target.nd rfl (Or.inl rfl) (pe_def D_within (hr.mono (by decide)) (by rfl) (pa_cons (pe_mdef M_leg Y.cl (hr.mono (by decide)) (pv 0) (pa_cons (pe_op op_add (pv 2) pe_int) pa_nil)) (pa_cons (pv 3) pa_nil)))))
      pss_nil)
    (pss_one (ps_ret (pv 3))))), ?_⟩
    obtain ⟨dx, l1, l2, l3, l4, sa, va, P⟩ := id I.P
    have n2 := I.R.n2
    have n20 := I.R.n20
    obtain ⟨g1, hg1⟩ := I.R.ch j hj
    have ht1 := I.C0.lt g1 (CD.leg_mem hg1).1
    refine ⟨_, rfl, _, _, _, rfl, P.ob, rfl, _, rfl, N.p, N.r, N.D, N.ns, j, _, rfl, rfl, I.P, by omega, ?_⟩
    rw [hg1]
    refine ⟨_, rfl, _, _, _, .int N.lv, rfl, rfl, .inl (.inl I.cs), rfl, g1, N.lv, rfl, ht1, ?_⟩
    refine nm ?_
    dsimp only
    refine ⟨_, rfl, _, _, _, rfl, P.ob, rfl, _, rfl, _, _, rfl, rfl, N.p, N.r, N.D, N.ns, j + 1, _, rfl, by omega, I.P, by omega, ?_⟩
    refine ⟨_, rfl, _, _, _, rfl, P.ob, rfl, N.p, N.r, dx, l1, l2, l3, l4, N.D, N.ns, N.ns.length - 1, rfl, P.ob, P.bgn, _, _, rfl, rfl, _, rfl, ite2 (fun e => ?_) (fun e => ?_)⟩
    · have e := of_decide_eq_true e
      have hj2 : j + 2 < N.ns.length := by
        rcases Nat.lt_or_ge (j + 2) N.ns.length with w | w
        · exact w
        · rw [show N.ns.length - 1 = j + 1 by omega] at e
          omega
      obtain ⟨g2, hg2⟩ := I.R.ch (j + 1) hj2
      have ht2 := I.C0.lt g2 (CD.leg_mem hg2).1
      unfold ND.af at k
      rw [tgt_more hg1 hg2 hj2] at k
      refine ⟨_, rfl, _, _, _, rfl, P.ob, rfl, _, rfl, _, _, rfl, rfl, N.p, N.r, N.D, N.ns, j + 1, _, rfl, by omega, I.P, by omega, ?_⟩
      rw [hg2]
      exact ⟨_, rfl, g2, _, rfl, ht2, _, rfl, k⟩
    · have hj2 : ¬ j + 2 < N.ns.length := fun w => e (decide_eq_true (by
        have h1 := I.ps.lt w
        have h2 := bg_mono N.D N.ns (show j + 1 + 1 ≤ N.ns.length - 1 by omega)
        omega))
      unfold ND.af at k
      rw [tgt_last hg1 hj2] at k
      exact ⟨_, rfl, k⟩
theorem sc_bounds : FnScope ["path", "course", "rules", "winds", "tick", "index"] ["path", "course", "rules", "winds", "tick", "index"] (defScope s_bounds) := ⟨rfl, rfl, rfl, by decide +kernel, rfl, by decide +kernel, by decide +kernel⟩
theorem ok_bounds {f : Addr} {fd : FuncData} {C : Addr} (F : Fun K "_bounds" "_bounds" s_bounds f fd) (T : TxtA mg) (Y : PathY K mg C)
    (D_step_bounds : Def P w K mg base 1 "step_bounds" ["vector", "speed", "slip", "wind"] (spStep))
    (D_wind_at : Def P w K mg base 1 "wind_at" ["winds", "tick"] (spWind K))
    (M_vector : MDef P w K mg base 1 C "vector" ["self", "index"] (spVec C)) : FnOk P w K mg base CX0 2 f fd ["path", "course", "rules", "winds", "tick", "index"] (spBounds C) := by
  refine F.ok sc_bounds (fun vs H Q E h => ?_) (fun cdv A outer s H vs Q E hr h => ?_)
  · obtain ⟨_, _, _, rfl, _⟩ := h
    rfl
  · obtain ⟨N, j, z, rfl, rfl, I, hj, k⟩ := h
    have hu := hu_of hr
    refine ⟨_, (pss_one (ps_ret (pe_def D_step_bounds (hr.mono (by decide)) (by rfl) (pa_cons (pe_mdef M_vector Y.cl (hr.mono (by decide)) (pv 0) (pa_cons (pv 5) pa_nil)) (pa_cons (pe_ix (r := rIxT K) ix_tup (pv 1) pe_int (fun _ _ => rfl)) (pa_cons (pe_dget hu (pv 2) pe_str (fun _ _ => rfl)) (pa_cons (pe_def D_wind_at (hr.mono (by decide)) (by rfl) (pa_cons (pv 3) (pa_cons (pv 4) pa_nil))) pa_nil))))))), ?_⟩
    obtain ⟨dx, l1, l2, l3, l4, sa, va, P⟩ := id I.P
    have n2 := I.R.n2
    have n20 := I.R.n20
    have c1 := I.C0.bd (rn N.ns j)
    have c2 := I.C0.bd (rn N.ns (j + 1))
    have c3 := I.ps j hj
    have c4 := CD.len_le I.C0.bd (rn N.ns j) (rn N.ns (j + 1))
    have c5 := I.wi.bd _ I.qm
    refine ⟨_, rfl, _, _, _, rfl, P.ob, rfl, _, rfl, N.p, N.r, N.D, N.ns, j, _, rfl, rfl, I.P, by omega, fun v hv => ?_⟩
    refine ⟨_, rfl, _, _, _, .int N.pc, rfl, rfl, .inl (.inl I.cs), rfl, _, rfl, _, _, rfl, I.sl, _, rfl, _, rfl, N.wi, N.tick, N.qs, rfl, I.wi, I.tk, fun q hq => ?_⟩
    obtain rfl := Option.some.inj (I.qw.symm.trans hq)
    exact ⟨v, N.qw.1, N.pc, N.sl, N.dx j, N.dy j, N.ln j, N.qw.2.1, N.qw.2.2.1, N.qw.2.2.2.1, N.qw.2.2.2.2, rfl, hv, I.wi.tu _ I.qm, (by unfold ND.dx ND.dy ND.ln; omega), fun q hq => k q _ hq (same_new hq) upd_same⟩
theorem sc_next_box : FnScope ["path", "course", "kind", "rules", "winds", "tick", "box", "low", "high", "down", "up", "first", "last", "lows", "highs", "downs", "ups", "index", "least", "most", "aim"] ["path", "course", "kind", "rules", "winds", "tick", "box"] (defScope s_next_box) := ⟨rfl, rfl, rfl, by decide +kernel, rfl, by decide +kernel, by decide +kernel⟩
theorem ok_next_box {f : Addr} {fd : FuncData} {C : Addr} (F : Fun K "next_box" "next_box" s_next_box f fd) (T : TxtA mg) (Y : PathY K mg C)
    (D_bounds : Def P w K mg base 2 "_bounds" ["path", "course", "rules", "winds", "tick", "index"] (spBounds C))
    (D_target : Def P w K mg base 2 "target" ["path", "course", "index"] (spTarget C))
    (D_lowest : Def P w K mg base 1 "_lowest" ["kind", "level", "aim"] (spLowest))
    (D_highest : Def P w K mg base 1 "_highest" ["kind", "level", "aim"] (spHighest))
    (M_leg_at : MDef P w K mg base 1 C "leg_at" ["self", "progress"] (spLegAt C))
    (M_begin : MDef P w K mg base 1 C "begin" ["self", "index"] (spBegin C)) : FnOk P w K mg base CX0 3 f fd ["path", "course", "kind", "rules", "winds", "tick", "box"] (spNext C) := by
  refine F.ok sc_next_box (fun vs H Q E h => ?_) (fun cdv A outer s H vs Q E hr h => ?_)
  · obtain ⟨_, _, _, _, _, _, rfl, _⟩ := h
    rfl
  · obtain ⟨N, bx, low, high, down, up, rfl, I, hbx, hlh, hdu, k⟩ := h
    have hu := hu_of hr
    refine ⟨_, (pss_cons (ps_asg (pv 6) (pg_tup (by rfl) (pgs_cons (pg_name (i := 7) sc_next_box.nd rfl (Or.inl rfl)) (pgs_cons (pg_name (i := 8) sc_next_box.nd rfl (Or.inl rfl)) (pgs_cons (pg_name (i := 9) sc_next_box.nd rfl (Or.inl rfl)) (pgs_cons (pg_name (i := 10) sc_next_box.nd rfl (Or.inl rfl)) pgs_nil))))))
    (pss_cons (ps_set (i := 11) sc_next_box.nd rfl (Or.inl rfl) (pe_mdef M_leg_at Y.cl (hr.mono (by decide)) (pv 0) (pa_cons (pv 7) pa_nil)))
    (pss_cons (ps_set (i := 12) sc_next_box.nd rfl (Or.inl rfl) (pe_mdef M_leg_at Y.cl (hr.mono (by decide)) (pv 0) (pa_cons (pv 8) pa_nil)))
    (pss_cons (ps_asg (pe_tup (pa_cons (pe_lst pa_nil) (pa_cons (pe_lst pa_nil) (pa_cons (pe_lst pa_nil) (pa_cons (pe_lst pa_nil) pa_nil))))) (pg_tup (by rfl) (pgs_cons (pg_name (i := 13) sc_next_box.nd rfl (Or.inl rfl)) (pgs_cons (pg_name (i := 14) sc_next_box.nd rfl (Or.inl rfl)) (pgs_cons (pg_name (i := 15) sc_next_box.nd rfl (Or.inl rfl)) (pgs_cons (pg_name (i := 16) sc_next_box.nd rfl (Or.inl rfl)) pgs_nil))))))
    (pss_cons (ps_for PassesOwn.never rfl (pi_range2 (by rfl) T.range (pa_cons (pv 11) (pa_cons (pe_op op_add (pv 12) pe_int) pa_nil))) (pg_name (i := 17) sc_next_box.nd rfl (Or.inl rfl))
      (pss_cons (ps_asg (pe_def D_bounds (hr.mono (by decide)) (by rfl) (pa_cons (pv 0) (pa_cons (pv 1) (pa_cons (pv 3) (pa_cons (pv 4) (pa_cons (pv 5) (pa_cons (pv 17) pa_nil))))))) (pg_tup (by rfl) (pgs_cons (pg_name (i := 18) sc_next_box.nd rfl (Or.inl rfl)) (pgs_cons (pg_name (i := 19) sc_next_box.nd rfl (Or.inl rfl)) pgs_nil))))
    (pss_cons (ps_set (i := 20) sc_next_box.nd rfl (Or.inl rfl) (pe_def D_target (hr.mono (by decide)) (by rfl) (pa_cons (pv 0) (pa_cons (pv 1) (pa_cons (pv 17) pa_nil)))))
    (pss_cons (ps_expr (pe_bm PySem.F.plainAttrs_list PySem.F.slot_list_append PySem.F.type_list_append mt_append (pv 13) (pa_cons (pe_op op_add (pe_ifExp (pt_cmpR op_eq (pv 17) (pv 11) (nomark _)) (pv 7) (pe_mdef M_begin Y.cl (hr.mono (by decide)) (pv 0) (pa_cons (pv 17) pa_nil))) (pv 18)) pa_nil)))
    (pss_cons (ps_expr (pe_bm PySem.F.plainAttrs_list PySem.F.slot_list_append PySem.F.type_list_append mt_append (pv 14) (pa_cons (pe_op op_add (pe_ifExp (pt_cmpR op_eq (pv 17) (pv 12) (nomark _)) (pv 8) (pe_op op_sub (pe_mdef M_begin Y.cl (hr.mono (by decide)) (pv 0) (pa_cons (pe_op op_add (pv 17) pe_int) pa_nil)) pe_int)) (pv 19)) pa_nil)))
    (pss_cons (ps_expr (pe_bm PySem.F.plainAttrs_list PySem.F.slot_list_append PySem.F.type_list_append mt_append (pv 15) (pa_cons (pe_def D_lowest (hr.mono (by decide)) (by rfl) (pa_cons (pv 2) (pa_cons (pv 9) (pa_cons (pv 20) pa_nil)))) pa_nil)))
    (pss_one (ps_expr (pe_bm PySem.F.plainAttrs_list PySem.F.slot_list_append PySem.F.type_list_append mt_append (pv 16) (pa_cons (pe_def D_highest (hr.mono (by decide)) (by rfl) (pa_cons (pv 2) (pa_cons (pv 10) (pa_cons (pv 20) pa_nil)))) pa_nil))))))))))
    (pss_one (ps_ret (pe_tup (pa_cons (pe_callB (cr_min rfl) (by rfl) T.min boot_min (pa_cons (pv 13) pa_nil)) (pa_cons (pe_callB (cr_max rfl) (by rfl) T.max boot_max (pa_cons (pv 14) pa_nil)) (pa_cons (pe_callB (cr_min rfl) (by rfl) T.min boot_min (pa_cons (pv 15) pa_nil)) (pa_cons (pe_callB (cr_max rfl) (by rfl) T.max boot_max (pa_cons (pv 16) pa_nil)) pa_nil)))))))))))), ?_⟩
    obtain ⟨dx, l1, l2, l3, l4, sa, va, P⟩ := id I.P
    have n2 := I.R.n2
    have n20 := I.R.n20
    refine ⟨_, rfl, _, _, rfl, .inl (.inl hbx), rfl, _, _, rfl, _, _, rfl, _, _, rfl, _, _, rfl, rfl, ?_⟩
    refine ⟨_, rfl, _, _, _, rfl, P.ob, rfl, _, rfl, N.p, N.r, N.D, N.ns, low, rfl, I.P, n2, n20, ?_⟩
    refine ⟨_, rfl, _, _, _, rfl, P.ob, rfl, _, rfl, N.p, N.r, N.D, N.ns, high, rfl, I.P, n2, n20, ?_⟩
    obtain ⟨fi, hfi⟩ : ∃ n, lat N.D N.ns (N.ns.length - 1 - 1) low = n := ⟨_, rfl⟩
    obtain ⟨la, hla⟩ : ∃ n, lat N.D N.ns (N.ns.length - 1 - 1) high = n := ⟨_, rfl⟩
    have hfl : fi ≤ la := by rw [← hfi, ← hla]; exact lat_mono N.D N.ns _ hlh
    have hl2 : la ≤ N.ns.length - 1 - 1 := by rw [← hla]; exact (lat_cases N.D N.ns _ high).1
    refine nm ?_
    dsimp only
    rw [hfi, hla]
    refine ⟨szOk rfl, fun w1 hw1 => ?_⟩
    refine ⟨szOk rfl, fun w2 hw2 => ?_⟩
    refine ⟨szOk rfl, fun w3 hw3 => ?_⟩
    refine ⟨szOk rfl, fun w4 hw4 => ?_⟩
    refine ⟨szOk rfl, fun w5 hw5 => ?_⟩
    refine ⟨_, _, rfl, .inl (.inl upd_same), rfl, _, _, rfl, _, _, rfl, _, _, rfl, _, _, rfl, rfl, ?_⟩
    have q1 : (upd H w1 (.lst [])) w1 = some (.lst []) := upd_same
    have s1 : Same H (upd H w1 (.lst [])) := same_new hw1
    generalize upd H w1 (.lst []) = H1 at *
    have q12 := same_new (o := .lst []) hw2 _ _ q1
    have q2 : (upd H1 w2 (.lst [])) w2 = some (.lst []) := upd_same
    have s2 : Same H1 (upd H1 w2 (.lst [])) := same_new hw2
    have d12 : w1 ≠ w2 := ne_of_none q1 hw2
    have g2 : H w2 = none := by
      cases e : H w2 with
      | none => rfl
      | some o => rw [s1 _ _ e] at hw2; cases hw2
    generalize upd H1 w2 (.lst []) = H2 at *
    have q13 := same_new (o := .lst []) hw3 _ _ q12
    have q23 := same_new (o := .lst []) hw3 _ _ q2
    have q3 : (upd H2 w3 (.lst [])) w3 = some (.lst []) := upd_same
    have s3 : Same H2 (upd H2 w3 (.lst [])) := same_new hw3
    have d13 : w1 ≠ w3 := ne_of_none q12 hw3
    have d23 : w2 ≠ w3 := ne_of_none q2 hw3
    have g3 : H w3 = none := by
      cases e : H w3 with
      | none => rfl
      | some o => rw [s2 _ _ (s1 _ _ e)] at hw3; cases hw3
    generalize upd H2 w3 (.lst []) = H3 at *
    have q14 := same_new (o := .lst []) hw4 _ _ q13
    have q24 := same_new (o := .lst []) hw4 _ _ q23
    have q34 := same_new (o := .lst []) hw4 _ _ q3
    have q4 : (upd H3 w4 (.lst [])) w4 = some (.lst []) := upd_same
    have s4 : Same H3 (upd H3 w4 (.lst [])) := same_new hw4
    have d14 : w1 ≠ w4 := ne_of_none q13 hw4
    have d24 : w2 ≠ w4 := ne_of_none q23 hw4
    have d34 : w3 ≠ w4 := ne_of_none q3 hw4
    have g4 : H w4 = none := by
      cases e : H w4 with
      | none => rfl
      | some o => rw [s3 _ _ (s2 _ _ (s1 _ _ e))] at hw4; cases hw4
    generalize upd H3 w4 (.lst []) = H4 at *
    have q15 := same_new (o := .tup [.ref w1, .ref w2, .ref w3, .ref w4]) hw5 _ _ q14
    have q25 := same_new (o := .tup [.ref w1, .ref w2, .ref w3, .ref w4]) hw5 _ _ q24
    have q35 := same_new (o := .tup [.ref w1, .ref w2, .ref w3, .ref w4]) hw5 _ _ q34
    have q45 := same_new (o := .tup [.ref w1, .ref w2, .ref w3, .ref w4]) hw5 _ _ q4
    have s5 : Same H (upd H4 w5 (.tup [.ref w1, .ref w2, .ref w3, .ref w4])) := fun b o e => same_new hw5 _ _ (s4 _ _ (s3 _ _ (s2 _ _ (s1 _ _ e))))
    generalize upd H4 w5 (.tup [.ref w1, .ref w2, .ref w3, .ref w4]) = H5 at *
    refine ⟨_, rfl, _, rfl, _, _, rfl, rfl, _, _, rfl, ⟨by omega, by omega, by omega, by omega⟩, for_range (lo := (fi : Int)) (n := ((la : Int) + 1 - (fi : Int)).toNat) (fun i σ H6 => ∃ v17 v18 v19 v20, σ = [some (.ref N.p), some (.ref N.cs), some (.ref N.ki), some (.ref N.ru), some (.ref N.wi), some (.int N.tick), some (.ref bx), some (.int low), some (.int high), some (.int down), some (.int up), some (.int (fi : Int)), some (.int (la : Int)), some (.ref w1), some (.ref w2), some (.ref w3), some (.ref w4), v17, v18, v19, v20] ∧ Same H H6 ∧ H6 w1 = some (.lst (((List.range i).map (fun j : Nat => (if fi + j = fi then low else bg N.D N.ns (fi + j)) + N.lf (fi + j))).map V.int)) ∧ H6 w2 = some (.lst (((List.range i).map (fun j : Nat => (if fi + j = la then high else bg N.D N.ns (fi + j + 1) - 1) + N.hf (fi + j))).map V.int)) ∧ H6 w3 = some (.lst (((List.range i).map (fun j : Nat => lowest N.a N.b down (N.af (fi + j)))).map V.int)) ∧ H6 w4 = some (.lst (((List.range i).map (fun j : Nat => highest N.a N.b up (N.af (fi + j)))).map V.int)))
      ⟨none, none, none, none, rfl, s5, q15, q25, q35, q45⟩ ?_ ?_⟩
    · rintro i σ H6 hi ⟨v17, v18, v19, v20, rfl, s6, r1, r2, r3, r4⟩
      have I6 := I.same s6
      have hj : fi + i + 1 < N.ns.length := by omega
      have ez : (fi : Int) + (i : Int) = ((fi + i : Nat) : Int) := by omega
      refine ⟨_, rfl, _, rfl, _, rfl, _, rfl, _, rfl, _, rfl, N, fi + i, _, rfl, ez, I6, hj, fun b7 H7 hb7 s7 hB7 => ?_⟩
      have I7 := I6.same s7
      have t1 := s7 _ _ r1
      have t2 := s7 _ _ r2
      have t3 := s7 _ _ r3
      have t4 := s7 _ _ r4
      have S7 : Same H H7 := fun b o e => s7 _ _ (s6 _ _ e)
      refine ⟨_, _, rfl, .inl (.inl hB7), rfl, _, _, rfl, _, _, rfl, rfl, ?_⟩
      refine ⟨_, rfl, _, rfl, _, rfl, N, fi + i, _, rfl, ez, I7, hj, ?_⟩
      refine nm ?_
      dsimp only
      have P7 := P.same S7
      refine cut (fun σ' H' => σ' = [some (.ref N.p), some (.ref N.cs), some (.ref N.ki), some (.ref N.ru), some (.ref N.wi), some (.int N.tick), some (.ref bx), some (.int low), some (.int high), some (.int down), some (.int up), some (.int (fi : Int)), some (.int (la : Int)), some (.ref w1), some (.ref w2), some (.ref w3), some (.ref w4), some (.int ((fi : Int) + (i : Int))), some (.int (N.lf (fi + i))), some (.int (N.hf (fi + i))), some (.int (N.af (fi + i)))] ∧ H' = upd H7 w1 (.lst (((List.range (i + 1)).map (fun j : Nat => (if fi + j = fi then low else bg N.D N.ns (fi + j)) + N.lf (fi + j))).map V.int))) ?_ (fun nxk => ?_)
      rotate_left
      · refine ⟨_, rfl, .inl ⟨rfl, _, .inl (.inl t1)⟩, _, rfl, _, rfl, rfl, _, rfl, ite2 (fun e => ?_) (fun e => ?_)⟩
        · have e := V.int.inj (of_decide_eq_true e)
          refine ⟨_, rfl, _, rfl, _, _, rfl, rfl, _, _, _, rfl, rfl, t1, by rw [List.length_map, List.length_map, List.length_range]; exact small1000 (by omega), nxk _ _ ⟨rfl, ?_⟩⟩
          rw [List.range_succ, List.map_append, List.map_append]
          simp only [List.map_cons, List.map_nil]
          rw [if_pos (show fi + i = fi by omega)]
        · have e : ¬ fi + i = fi := fun z => e (decide_eq_true (congrArg V.int (by omega)))
          refine ⟨_, rfl, _, _, _, rfl, P7.ob, rfl, _, rfl, N.p, N.r, N.D, N.ns, fi + i, _, rfl, ez, I7.P, by omega, ?_⟩
          refine ⟨_, rfl, _, _, rfl, rfl, _, _, _, rfl, rfl, t1, by rw [List.length_map, List.length_map, List.length_range]; exact small1000 (by omega), nxk _ _ ⟨rfl, ?_⟩⟩
          rw [List.range_succ, List.map_append, List.map_append]
          simp only [List.map_cons, List.map_nil]
          rw [if_neg e]
      rintro σ' H' ⟨rfl, rfl⟩
      have S8 : Same H (upd H7 w1 (.lst (((List.range (i + 1)).map (fun j : Nat => (if fi + j = fi then low else bg N.D N.ns (fi + j)) + N.lf (fi + j))).map V.int))) := same_app hw1 S7
      have t1 : upd H7 w1 (.lst (((List.range (i + 1)).map (fun j : Nat => (if fi + j = fi then low else bg N.D N.ns (fi + j)) + N.lf (fi + j))).map V.int)) w1 = some (.lst (((List.range (i + 1)).map (fun j : Nat => (if fi + j = fi then low else bg N.D N.ns (fi + j)) + N.lf (fi + j))).map V.int)) := upd_same
      have t2 : upd H7 w1 (.lst (((List.range (i + 1)).map (fun j : Nat => (if fi + j = fi then low else bg N.D N.ns (fi + j)) + N.lf (fi + j))).map V.int)) w2 = _ := (upd_ne d12.symm).trans t2
      have t3 : upd H7 w1 (.lst (((List.range (i + 1)).map (fun j : Nat => (if fi + j = fi then low else bg N.D N.ns (fi + j)) + N.lf (fi + j))).map V.int)) w3 = _ := (upd_ne d13.symm).trans t3
      have t4 : upd H7 w1 (.lst (((List.range (i + 1)).map (fun j : Nat => (if fi + j = fi then low else bg N.D N.ns (fi + j)) + N.lf (fi + j))).map V.int)) w4 = _ := (upd_ne d14.symm).trans t4
      generalize upd H7 w1 (.lst (((List.range (i + 1)).map (fun j : Nat => (if fi + j = fi then low else bg N.D N.ns (fi + j)) + N.lf (fi + j))).map V.int)) = H8 at *
      have I8 := I.same S8
      have P8 := P.same S8
      refine cut (fun σ' H' => σ' = [some (.ref N.p), some (.ref N.cs), some (.ref N.ki), some (.ref N.ru), some (.ref N.wi), some (.int N.tick), some (.ref bx), some (.int low), some (.int high), some (.int down), some (.int up), some (.int (fi : Int)), some (.int (la : Int)), some (.ref w1), some (.ref w2), some (.ref w3), some (.ref w4), some (.int ((fi : Int) + (i : Int))), some (.int (N.lf (fi + i))), some (.int (N.hf (fi + i))), some (.int (N.af (fi + i)))] ∧ H' = upd H8 w2 (.lst (((List.range (i + 1)).map (fun j : Nat => (if fi + j = la then high else bg N.D N.ns (fi + j + 1) - 1) + N.hf (fi + j))).map V.int))) ?_ (fun nxk => ?_)
      rotate_left
      · refine ⟨_, rfl, .inl ⟨rfl, _, .inl (.inl t2)⟩, _, rfl, _, rfl, rfl, _, rfl, ite2 (fun e => ?_) (fun e => ?_)⟩
        · have e := V.int.inj (of_decide_eq_true e)
          refine ⟨_, rfl, _, rfl, _, _, rfl, rfl, _, _, _, rfl, rfl, t2, by rw [List.length_map, List.length_map, List.length_range]; exact small1000 (by omega), nxk _ _ ⟨rfl, ?_⟩⟩
          rw [List.range_succ, List.map_append, List.map_append]
          simp only [List.map_cons, List.map_nil]
          rw [if_pos (show fi + i = la by omega)]
        · have e : ¬ fi + i = la := fun z => e (decide_eq_true (congrArg V.int (by omega)))
          refine ⟨_, rfl, _, _, _, rfl, P8.ob, rfl, _, rfl, _, _, rfl, rfl, N.p, N.r, N.D, N.ns, fi + i + 1, _, rfl, by omega, I8.P, by omega, ?_⟩
          refine ⟨_, _, rfl, rfl, _, rfl, _, _, rfl, rfl, _, _, _, rfl, rfl, t2, by rw [List.length_map, List.length_map, List.length_range]; exact small1000 (by omega), nxk _ _ ⟨rfl, ?_⟩⟩
          rw [List.range_succ, List.map_append, List.map_append]
          simp only [List.map_cons, List.map_nil]
          rw [if_neg e]
      rintro σ' H' ⟨rfl, rfl⟩
      have S9 : Same H (upd H8 w2 (.lst (((List.range (i + 1)).map (fun j : Nat => (if fi + j = la then high else bg N.D N.ns (fi + j + 1) - 1) + N.hf (fi + j))).map V.int))) := same_app g2 S8
      have t1 : upd H8 w2 (.lst (((List.range (i + 1)).map (fun j : Nat => (if fi + j = la then high else bg N.D N.ns (fi + j + 1) - 1) + N.hf (fi + j))).map V.int)) w1 = _ := (upd_ne d12).trans t1
      have t2 : upd H8 w2 (.lst (((List.range (i + 1)).map (fun j : Nat => (if fi + j = la then high else bg N.D N.ns (fi + j + 1) - 1) + N.hf (fi + j))).map V.int)) w2 = some (.lst (((List.range (i + 1)).map (fun j : Nat => (if fi + j = la then high else bg N.D N.ns (fi + j + 1) - 1) + N.hf (fi + j))).map V.int)) := upd_same
      have t3 : upd H8 w2 (.lst (((List.range (i + 1)).map (fun j : Nat => (if fi + j = la then high else bg N.D N.ns (fi + j + 1) - 1) + N.hf (fi + j))).map V.int)) w3 = _ := (upd_ne d23.symm).trans t3
      have t4 : upd H8 w2 (.lst (((List.range (i + 1)).map (fun j : Nat => (if fi + j = la then high else bg N.D N.ns (fi + j + 1) - 1) + N.hf (fi + j))).map V.int)) w4 = _ := (upd_ne d24.symm).trans t4
      generalize upd H8 w2 (.lst (((List.range (i + 1)).map (fun j : Nat => (if fi + j = la then high else bg N.D N.ns (fi + j + 1) - 1) + N.hf (fi + j))).map V.int)) = H9 at *
      have I9 := I.same S9
      refine ⟨_, rfl, .inl ⟨rfl, _, .inl (.inl t3)⟩, _, rfl, _, rfl, _, rfl, N.ki, down, N.af (fi + i), N.w, N.s, N.f, N.a, N.b, rfl, I9.ki, _, _, _, rfl, rfl, t3, by rw [List.length_map, List.length_map, List.length_range]; exact small1000 (by omega), ?_⟩
      refine ⟨_, rfl, .inl ⟨rfl, _, .inl (.inl ((upd_ne d34.symm).trans t4))⟩, _, rfl, _, rfl, _, rfl, N.ki, up, N.af (fi + i), N.w, N.s, N.f, N.a, N.b, rfl, (same_app g3 S9) _ _ I.ki, _, _, _, rfl, rfl, (upd_ne d34.symm).trans t4, by rw [List.length_map, List.length_map, List.length_range]; exact small1000 (by omega), ?_⟩
      refine ⟨_, _, _, _, rfl, same_app g4 (same_app g3 S9), ?_, ?_, ?_, ?_⟩
      · rw [upd_ne d14, upd_ne d13]
        exact t1
      · rw [upd_ne d24, upd_ne d23]
        exact t2
      · rw [upd_ne d34, upd_same, List.range_succ, List.map_append, List.map_append]
        rfl
      · rw [upd_same, List.range_succ, List.map_append, List.map_append]
        rfl
    rintro σ H6 ⟨v17, v18, v19, v20, rfl, s6, r1, r2, r3, r4⟩
    have ec : ((la : Int) + 1 - (fi : Int)).toNat = la + 1 - fi := by omega
    rw [ec] at r1 r2 r3 r4
    have lp : ∀ f : Nat → Int, 0 < ((List.range (la + 1 - fi)).map f).length := fun f => by rw [List.length_map, List.length_range]; omega
    refine ⟨_, rfl, w1, (List.range (la + 1 - fi)).map (fun j : Nat => (if fi + j = fi then low else bg N.D N.ns (fi + j)) + N.lf (fi + j)), rfl, .inl (.inl r1), lp _, fun m1 m1a m1b => ?_⟩
    refine ⟨_, rfl, w2, (List.range (la + 1 - fi)).map (fun j : Nat => (if fi + j = la then high else bg N.D N.ns (fi + j + 1) - 1) + N.hf (fi + j)), rfl, .inl (.inl r2), lp _, fun m2 m2a m2b => ?_⟩
    refine ⟨_, rfl, w3, (List.range (la + 1 - fi)).map (fun j : Nat => lowest N.a N.b down (N.af (fi + j))), rfl, .inl (.inl r3), lp _, fun m3 m3a m3b => ?_⟩
    refine ⟨_, rfl, w4, (List.range (la + 1 - fi)).map (fun j : Nat => highest N.a N.b up (N.af (fi + j))), rfl, .inl (.inl r4), lp _, fun m4 m4a m4b => ?_⟩
    refine ⟨szOk rfl, fun q hq => k q m1 m2 m3 m4 _ ?_ (fun b o e => same_new hq _ _ (s6 _ _ e)) upd_same ?_⟩
    · cases e : H q with
      | none => rfl
      | some o => rw [s6 _ _ e] at hq; cases hq
    · exact NextOf.legs I.ps n2 hlh hfi hla rfl m1a m1b m2a m2b m3a m3b m4a m4b
theorem sc_law_towards : FnScope ["level", "goal", "rate"] ["level", "goal", "rate"] (defScope s_law_towards) := ⟨rfl, rfl, rfl, by decide +kernel, rfl, by decide +kernel, by decide +kernel⟩
theorem ok_law_towards {f : Addr} {fd : FuncData} (F : Fun K "_law_towards" "_law_towards" s_law_towards f fd) (T : TxtA mg) : FnOk P w K mg base CX0 1 f fd ["level", "goal", "rate"] (spTowards) := by
  refine F.ok sc_law_towards (fun vs H Q E h => ?_) (fun cdv A outer s H vs Q E hr h => ?_)
  · obtain ⟨_, _, _, rfl, _⟩ := h
    rfl
  · obtain ⟨x, g, r, rfl, k⟩ := h
    refine ⟨_, (pss_cons (ps_if (pt_cmpR op_lt (pv 0) (pv 1) (nomark _)) (pss_one (ps_ret (pe_callB (call_min2 rfl) (by rfl) T.min boot_min (pa_cons (pe_op op_add (pv 0) (pv 2)) (pa_cons (pv 1) pa_nil)))))
      pss_nil)
    (pss_one (ps_ret (pe_callB (call_max2 rfl) (by rfl) T.max boot_max (pa_cons (pe_op op_sub (pv 0) (pv 2)) (pa_cons (pv 1) pa_nil)))))), ?_⟩
    refine ⟨_, rfl, _, rfl, _, _, rfl, rfl, _, rfl, ite2 (fun e => ?_) (fun e => ?_)⟩
    · unfold tow at k
      rw [if_pos (of_decide_eq_true e)] at k
      exact ⟨_, rfl, _, rfl, _, _, rfl, rfl, _, rfl, _, _, rfl, k⟩
    · unfold tow at k
      rw [if_neg (fun z => e (decide_eq_true z))] at k
      exact ⟨_, rfl, _, rfl, _, _, rfl, rfl, _, rfl, _, _, rfl, k⟩
theorem sc_law_target : FnScope ["chart", "route", "k", "level", "leg", "after"] ["chart", "route", "k", "level"] (defScope s_law_target) := ⟨rfl, rfl, rfl, by decide +kernel, rfl, by decide +kernel, by decide +kernel⟩
theorem ok_law_target {f : Addr} {fd : FuncData} {C : Addr} (F : Fun K "_law_target" "_law_target" s_law_target f fd) (T : TxtA mg)
    (D_law_leg : Def P w K mg base 1 "_law_leg" ["chart", "start", "end"] (spLegS)) : FnOk P w K mg base CX0 2 f fd ["chart", "route", "k", "level"] (spLawTarget C) := by
  refine F.ok sc_law_target (fun vs H Q E h => ?_) (fun cdv A outer s H vs Q E hr h => ?_)
  · obtain ⟨_, _, _, rfl, _⟩ := h
    rfl
  · obtain ⟨N, j, z, rfl, rfl, I, hj, k⟩ := h
    refine ⟨_, (pss_cons (ps_set (i := 4) sc_law_target.nd rfl (Or.inl rfl) (pe_def D_law_leg (hr.mono (by decide)) (by rfl) (pa_cons (pv 0) (pa_cons (pe_ix (r := rIxT K) ix_tup (pv 1) (pv 2) (fun _ _ => rfl)) (pa_cons (pe_ix (r := rIxT K) ix_tup (pv 1) (pe_op op_add (pv 2) pe_int) (fun _ _ => rfl)) pa_nil)))))
    (pss_cons (ps_set (i := 3) sc_law_target.nd rfl (Or.inl rfl) (pe_callB (call_min2 rfl) (by rfl) T.min boot_min (pa_cons (pe_callB (call_max2 rfl) (by rfl) T.max boot_max (pa_cons (pv 3) (pa_cons (pe_ix (r := rIxT K) ix_tup (pv 4) pe_int (fun _ _ => rfl)) pa_nil))) (pa_cons (pe_ix (r := rIxT K) ix_tup (pv 4) pe_int (fun _ _ => rfl)) pa_nil))))
    (pss_cons (ps_if (pt_cmpR op_lt (pe_op op_add (pv 2) pe_int) (pe_callB (r := rLenK K) call_len_seq (by rfl) T.len boot_len (pa_cons (pv 1) pa_nil)) (nomark _)) (pss_cons (ps_set (i := 5) sc_law_target.nd rfl (Or.inl rfl) (pe_def D_law_leg (hr.mono (by decide)) (by rfl) (pa_cons (pv 0) (pa_cons (pe_ix (r := rIxT K) ix_tup (pv 1) (pe_op op_add (pv 2) pe_int) (fun _ _ => rfl)) (pa_cons (pe_ix (r := rIxT K) ix_tup (pv 1) (pe_op op_add (pv 2) pe_int) (fun _ _ => rfl)) pa_nil)))))
    (pss_one (ps_set (i := 3) sc_law_target.nd rfl (Or.inl rfl) (pe_callB (call_min2 rfl) (by rfl) T.min boot_min (pa_cons (pe_callB (call_max2 rfl) (by rfl) T.max boot_max (pa_cons (pv 3) (pa_cons (pe_ix (r := rIxT K) ix_tup (pv 5) pe_int (fun _ _ => rfl)) pa_nil))) (pa_cons (pe_ix (r := rIxT K) ix_tup (pv 5) pe_int (fun _ _ => rfl)) pa_nil))))))
      pss_nil)
    (pss_one (ps_ret (pv 3)))))), ?_⟩
    have hr0 := I.rt
    obtain ⟨g1, hg1⟩ := I.R.ch j hj
    have eu : (j : Int) + 1 = ((j + 1 : Nat) : Int) := by omega
    have eu2 : (j : Int) + 2 = ((j + 1 + 1 : Nat) : Int) := by omega
    refine ⟨_, rfl, _, rfl, _, rfl, _, _, _, .str (rn N.ns (j)), rfl, rfl, .inl (.inl hr0), atI_nat (rn_at (by omega)), _, rfl, _, rfl, _, _, rfl, rfl, _, _, _, .str (rn N.ns (j + 1)), rfl, rfl, .inl (.inl hr0), by rw [eu]; exact atI_nat (rn_at hj), N.ch, N.D, rn N.ns j, rn N.ns (j + 1), rfl, I.C0, fun H1 sm1 => ?_⟩
    rw [hg1]
    have I1 := I.same sm1
    have hr1 := sm1 _ _ hr0
    have ht1 := I1.C0.lt g1 (CD.leg_mem hg1).1
    refine ⟨_, rfl, _, rfl, _, _, _, .int g1.lo, rfl, rfl, .inl (.inl ht1), rfl, _, _, rfl, _, rfl, _, _, _, .int g1.hi, rfl, rfl, .inl (.inl ht1), rfl, _, _, rfl, ?_⟩
    refine ⟨_, rfl, _, _, rfl, rfl, _, rfl, _, _, rfl, .inr (.inl (.inl hr1)), _, _, rfl, rfl, _, rfl, ite2 (fun e => ?_) (fun e => ?_)⟩
    · have e := of_decide_eq_true e
      rw [List.length_map] at e
      have hj2 : j + 2 < N.ns.length := by omega
      obtain ⟨g2, hg2⟩ := I.R.ch (j + 1) hj2
      refine ⟨_, rfl, _, rfl, _, rfl, _, _, rfl, rfl, _, _, _, .str (rn N.ns (j + 1)), rfl, rfl, .inl (.inl hr1), by rw [eu]; exact atI_nat (rn_at hj), _, rfl, _, rfl, _, _, rfl, rfl, _, _, _, .str (rn N.ns (j + 1 + 1)), rfl, rfl, .inl (.inl hr1), by rw [eu2]; exact atI_nat (rn_at (by omega)), N.ch, N.D, rn N.ns (j + 1), rn N.ns (j + 1 + 1), rfl, I1.C0, fun H2 sm2 => ?_⟩
      rw [hg2]
      have ht2 := (I1.same sm2).C0.lt g2 (CD.leg_mem hg2).1
      unfold ND.af at k
      rw [tgt_more hg1 hg2 hj2] at k
      exact ⟨_, rfl, _, rfl, _, _, _, .int g2.lo, rfl, rfl, .inl (.inl ht2), rfl, _, _, rfl, _, rfl, _, _, _, .int g2.hi, rfl, rfl, .inl (.inl ht2), rfl, _, _, rfl, _, rfl, k _ fun b o e => sm2 _ _ (sm1 _ _ e)⟩
    · have hj2 : ¬ j + 2 < N.ns.length := fun w => e (decide_eq_true (by rw [List.length_map]; omega))
      unfold ND.af at k
      rw [tgt_last hg1 hj2] at k
      exact ⟨_, rfl, k _ sm1⟩
theorem sc_law_bounds : FnScope ["chart", "route", "begins", "k", "speed", "slip", "wind", "a", "b", "length", "push", "doubt"] ["chart", "route", "begins", "k", "speed", "slip", "wind"] (defScope s_law_bounds) := ⟨rfl, rfl, rfl, by decide +kernel, rfl, by decide +kernel, by decide +kernel⟩
theorem ok_law_bounds {f : Addr} {fd : FuncData} {C : Addr} (F : Fun K "_law_bounds" "_law_bounds" s_law_bounds f fd) (T : TxtA mg) : FnOk P w K mg base CX0 1 f fd ["chart", "route", "begins", "k", "speed", "slip", "wind"] (spLawBounds C) := by
  refine F.ok sc_law_bounds (fun vs H Q E h => ?_) (fun cdv A outer s H vs Q E hr h => ?_)
  · obtain ⟨_, _, _, _, rfl, _⟩ := h
    rfl
  · obtain ⟨N, b, j, z, rfl, rfl, I, hb, hj, k⟩ := h
    have hu := hu_of hr
    refine ⟨_, (pss_cons (ps_set (i := 7) sc_law_bounds.nd rfl (Or.inl rfl) (pe_dget hu (pe_dget hu (pv 0) pe_str (fun _ _ => rfl)) (pe_ix (r := rIxT K) ix_tup (pv 1) (pv 3) (fun _ _ => rfl)) (fun _ _ => rfl)))
    (pss_cons (ps_set (i := 8) sc_law_bounds.nd rfl (Or.inl rfl) (pe_dget hu (pe_dget hu (pv 0) pe_str (fun _ _ => rfl)) (pe_ix (r := rIxT K) ix_tup (pv 1) (pe_op op_add (pv 3) pe_int) (fun _ _ => rfl)) (fun _ _ => rfl)))
    (pss_cons (ps_set (i := 9) sc_law_bounds.nd rfl (Or.inl rfl) (pe_op op_sub (pe_ix (r := rIxL K) ix_list (pv 2) (pe_op op_add (pv 3) pe_int) (fun _ _ => rfl)) (pe_ix (r := rIxL K) ix_list (pv 2) (pv 3) (fun _ _ => rfl))))
    (pss_cons (ps_set (i := 10) sc_law_bounds.nd rfl (Or.inl rfl) (pe_op op_add (pe_op op_mul (pe_ix (r := rIxT K) ix_tup (pv 6) pe_int (fun _ _ => rfl)) (pe_op op_sub (pe_ix (r := rIxT K) ix_tup (pv 8) pe_int (fun _ _ => rfl)) (pe_ix (r := rIxT K) ix_tup (pv 7) pe_int (fun _ _ => rfl)))) (pe_op op_mul (pe_ix (r := rIxT K) ix_tup (pv 6) pe_int (fun _ _ => rfl)) (pe_op op_sub (pe_ix (r := rIxT K) ix_tup (pv 8) pe_int (fun _ _ => rfl)) (pe_ix (r := rIxT K) ix_tup (pv 7) pe_int (fun _ _ => rfl))))))
    (pss_cons (ps_set (i := 11) sc_law_bounds.nd rfl (Or.inl rfl) (pe_op op_mul (pe_ix (r := rIxT K) ix_tup (pv 6) pe_int (fun _ _ => rfl)) (pe_op op_add (pe_callB call_abs (by rfl) T.abs boot_abs (pa_cons (pe_op op_sub (pe_ix (r := rIxT K) ix_tup (pv 8) pe_int (fun _ _ => rfl)) (pe_ix (r := rIxT K) ix_tup (pv 7) pe_int (fun _ _ => rfl))) pa_nil)) (pe_callB call_abs (by rfl) T.abs boot_abs (pa_cons (pe_op op_sub (pe_ix (r := rIxT K) ix_tup (pv 8) pe_int (fun _ _ => rfl)) (pe_ix (r := rIxT K) ix_tup (pv 7) pe_int (fun _ _ => rfl))) pa_nil)))))
    (pss_one (ps_ret (pe_tup (pa_cons (pe_op op_add (pe_op op_sub (pv 4) (pv 5)) (pe_op op_fdivW (pe_op op_sub (pv 10) (pv 11)) (pv 9))) (pa_cons (pe_op op_add (pe_op op_add (pv 4) (pv 5)) (pe_op op_fdivW (pe_op op_add (pv 10) (pv 11)) (pv 9))) pa_nil)))))))))), ?_⟩
    have hr0 := I.rt
    obtain ⟨⟨a1, x1, y1, h1⟩, a2, x2, y2, h2⟩ := I.R.pt I.C0 hj
    obtain ⟨p1, p2, p3, p4, p5, p6⟩ := I.C0.pf _ _ _ _ h1
    obtain ⟨q1, q2, q3, q4, q5, q6⟩ := I.C0.pf _ _ _ _ h2
    have eu : (j : Int) + 1 = ((j + 1 : Nat) : Int) := by omega
    have c3 := I.ps j hj
    have c4 := CD.len_le I.C0.bd (rn N.ns j) (rn N.ns (j + 1))
    have c5 := I.wi.bd _ I.qm
    have hw : H N.qw.1 = some (.tup [.int N.qw.2.1, .int N.qw.2.2.1, .int N.qw.2.2.2.1, .int N.qw.2.2.2.2]) := I.wi.tu _ I.qm
    have e1 : N.lf j = lo (x2 - x1) (y2 - y1) (N.D.len (rn N.ns j) (rn N.ns (j + 1))) N.pc N.sl N.qw.2.2.1 N.qw.2.2.2.1 N.qw.2.2.2.2 := by
      unfold ND.lf ND.dx ND.dy ND.ln
      rw [CD.xy_eq h1, CD.xy_eq h2]
    have e2 : N.hf j = hi (x2 - x1) (y2 - y1) (N.D.len (rn N.ns j) (rn N.ns (j + 1))) N.pc N.sl N.qw.2.2.1 N.qw.2.2.2.1 N.qw.2.2.2.2 := by
      unfold ND.hf ND.dx ND.dy ND.ln
      rw [CD.xy_eq h1, CD.xy_eq h2]
    rw [e1, e2] at k
    refine ⟨_, rfl, _, _, rfl, I.C0.gf, _, rfl, _, rfl, _, _, _, _, rfl, rfl, .inl (.inl hr0), atI_nat (rn_at (by omega)), _, _, rfl, I.C0.gp h1, ?_⟩
    refine ⟨_, rfl, _, _, rfl, I.C0.gf, _, rfl, _, rfl, _, _, rfl, rfl, _, _, _, .str (rn N.ns (j + 1)), rfl, rfl, .inl (.inl hr0), by rw [eu]; exact atI_nat (rn_at hj), _, _, rfl, I.C0.gp h2, ?_⟩
    refine ⟨_, rfl, _, rfl, _, _, rfl, rfl, _, _, _, .int (bg N.D N.ns (j + 1)), rfl, rfl, .inl (.inl hb), by rw [eu]; exact atI_nat (bgs_at hj), _, rfl, _, rfl, _, _, _, .int (bg N.D N.ns j), rfl, rfl, .inl (.inl hb), atI_nat (bgs_at (by omega)), _, _, rfl, rfl, ?_⟩
    refine nm ?_
    dsimp only
    have el : bg N.D N.ns (j + 1) - bg N.D N.ns j = N.D.len (rn N.ns j) (rn N.ns (j + 1)) := by
      show bg N.D N.ns j + N.D.len (rn N.ns j) (rn N.ns (j + 1)) - bg N.D N.ns j = _
      omega
    rw [el]
    refine ⟨_, rfl, _, _, _, _, rfl, rfl, (.inl (.inl hw)), rfl, _, rfl, _, _, _, _, rfl, rfl, (.inl (.inl q2)), rfl, _, rfl, _, _, _, _, rfl, rfl, (.inl (.inl p2)), rfl, _, _, rfl, rfl, _, _, rfl, rfl, (by walk_at "ms"), _, rfl, _, _, _, _, rfl, rfl, (.inl (.inl hw)), rfl, _, rfl, _, _, _, _, rfl, rfl, (.inl (.inl q2)), rfl, _, rfl, _, _, _, _, rfl, rfl, (.inl (.inl p2)), rfl, _, _, rfl, rfl, _, _, rfl, rfl, (by walk_at "ms"), _, _, rfl, rfl, _, rfl, _, _, _, _, rfl, rfl, (.inl (.inl hw)), rfl, _, rfl, _, _, _, _, rfl, rfl, (.inl (.inl q2)), rfl, _, rfl, _, _, _, _, rfl, rfl, (.inl (.inl p2)), rfl, _, _, rfl, rfl, _, rfl, _, rfl, _, _, _, _, rfl, rfl, (.inl (.inl q2)), rfl, _, rfl, _, _, _, _, rfl, rfl, (.inl (.inl p2)), rfl, _, _, rfl, rfl, _, rfl, _, _, rfl, rfl, _, _, rfl, rfl, (by walk_at "ms"), _, rfl, _, rfl, _, _, rfl, rfl, _, rfl, _, rfl, _, _, rfl, rfl, _, rfl, _, _, rfl, rfl, (by walk_at "ms"), _, _, rfl, rfl, _, rfl, _, rfl, _, _, rfl, rfl, _, rfl, _, rfl, _, _, rfl, rfl, _, rfl, _, _, rfl, rfl, (by walk_at "ms"), _, _, rfl, rfl, szOk rfl, fun p1 hp1 => ?_⟩
    exact k _ _ hp1 (same_new hp1) upd_same
theorem sc_law_wind_at : FnScope ["winds", "tick", "wind"] ["winds", "tick"] (defScope s_law_wind_at) := ⟨rfl, rfl, rfl, by decide +kernel, rfl, by decide +kernel, by decide +kernel⟩
theorem ok_law_wind_at {f : Addr} {fd : FuncData} {C : Addr} (F : Fun K "_law_wind_at" "_law_wind_at" s_law_wind_at f fd) (T : TxtA mg) : FnOk P w K mg base CX0 1 f fd ["winds", "tick"] (spLawWindAt C) := by
  refine F.ok sc_law_wind_at (fun vs H Q E h => ?_) (fun cdv A outer s H vs Q E hr h => ?_)
  · obtain ⟨_, rfl, _⟩ := h
    rfl
  · obtain ⟨N, rfl, I, k⟩ := h
    refine ⟨_, (pss_one (ps_ret (pe_ix (r := rIxL K) ix_list (pe_lc (own := [("wind", 2)]) (g := gName 2) (by rfl) sc_law_wind_at.nd (pi_list (pv 0)) (blkOk_by (own := [("wind", 2)]) (N := ["winds", "tick", "wind"]) (sc := defScope s_law_wind_at) (by decide +kernel)) (fun _ _ _ _ _ => (pg_name (i := 2) sc_law_wind_at.nd rfl (Or.inl rfl))) (fun _ _ _ _ _ => pts_one (pt_cmpR op_le (pe_ix (r := rIxT K) ix_tup (pv 2) pe_int (fun _ _ => rfl)) (pv 1) (nomark _))) (fun _ _ _ _ _ => (pv 2))) (pe_un un_neg pe_int) (fun _ _ => rfl)))), ?_⟩
    have hW := I.wi
    refine ⟨_, rfl, N.wi, rfl, ⟨_, .inl (.inl hW.li)⟩, fun D hD => ?_⟩
    refine lc_list (K := K) (a := N.wi) (xs := N.qs.map fun q => V.ref q.1) (fun i H' => H' = upd H D (.lst ((lb N.tick (N.qs.take i)).map fun q => V.ref q.1)) ∧ (lb N.tick (N.qs.take i)).length ≤ i) ⟨rfl, Nat.le_refl _⟩ (fun i H' _ e => .inl (.inl (by rw [e.1, upd_ne (ne_of_none hW.li hD)]; exact hW.li))) ?_ ?_
    · rintro i y H' hi ⟨rfl, hle⟩
      have hil : i < N.qs.length := by
        have := (List.getElem?_eq_some_iff.mp hi).1
        rw [List.length_map] at this
        exact this
      have ey : y = .ref N.qs[i].1 := Option.some.inj (hi.symm.trans (hW.at hil))
      subst ey
      have hq1 := hW.tu N.qs[i] (List.getElem_mem hil)
      have et : N.qs.take (i + 1) = N.qs.take i ++ [N.qs[i]] := by rw [List.take_add_one, List.getElem?_eq_getElem hil]; rfl
      refine ⟨rfl, ?_⟩
      refine ⟨_, rfl, _, _, _, .int N.qs[i].2.1, rfl, rfl, .inl (.inl (by rw [upd_ne (ne_of_none hq1 hD)]; exact hq1)), rfl, _, rfl, _, _, rfl, rfl, _, rfl, ite2 (fun e => ?_) (fun e => ?_)⟩
      · refine ⟨_, rfl, _, upd_same, ?_, ?_, ?_⟩
        · rw [List.length_map]
          have := I.qn
          exact small1000 (by omega)
        · rw [upd_upd, et, lb_snoc, if_pos (of_decide_eq_true e), List.map_append]
          rfl
        · rw [et, lb_snoc, if_pos (of_decide_eq_true e), List.length_append, List.length_singleton]
          omega
      · refine ⟨?_, ?_⟩
        · rw [et, lb_snoc, if_neg (fun z => e (decide_eq_true z)), List.append_nil]
        · rw [et, lb_snoc, if_neg (fun z => e (decide_eq_true z)), List.append_nil]
          omega
    rintro H' ⟨rfl, _⟩
    rw [List.length_map, List.take_length]
    exact ⟨_, rfl, _, _, _, .ref N.qw.1, rfl, rfl, .inl (.inl upd_same), atI_back (by rw [List.getLast?_map, I.qw]; rfl), k _ (same_new hD)⟩
theorem sc_law_box : FnScope ["state", "begins", "wide", "low", "down"] ["state", "begins", "wide"] (defScope s_law_box) := ⟨rfl, rfl, rfl, by decide +kernel, rfl, by decide +kernel, by decide +kernel⟩
theorem ok_law_box {f : Addr} {fd : FuncData} (F : Fun K "_law_box" "_law_box" s_law_box f fd) (T : TxtA mg)
    (D_law_draw : Def P w K mg base 1 "_law_draw" ["state", "bound"] (spDraw K))
    (D_law_pick : Def P w K mg base 2 "_law_pick" ["state", "things"] (spPick K)) : FnOk P w K mg base CX0 3 f fd ["state", "begins", "wide"] (spLawBox K) := by
  refine F.ok sc_law_box (fun vs H Q E h => ?_) (fun cdv A outer s H vs Q E hr h => ?_)
  · obtain ⟨_, _, _, _, _, _, rfl, _⟩ := h
    rfl
  · obtain ⟨d, c, b, D, ns, wide, rfl, S, hb, hB, n2, n20, w0, w1, k⟩ := h
    refine ⟨_, (pss_cons (ps_set (i := 3) sc_law_box.nd rfl (Or.inl rfl) (pe_op op_sub (pe_op op_add (pe_def D_law_pick (hr.mono (by decide)) (by rfl) (pa_cons (pv 0) (pa_cons (pv 1) pa_nil))) (pe_def D_law_draw (hr.mono (by decide)) (by rfl) (pa_cons (pv 0) (pa_cons pe_int pa_nil)))) pe_int))
    (pss_cons (ps_set (i := 4) sc_law_box.nd rfl (Or.inl rfl) (pe_op op_add (pe_def D_law_pick (hr.mono (by decide)) (by rfl) (pa_cons (pv 0) (pa_cons (pe_lst (pa_cons pe_int (pa_cons pe_int (pa_cons pe_int (pa_cons pe_int (pa_cons pe_int (pa_cons pe_int (pa_cons pe_int (pa_cons pe_int pa_nil))))))))) pa_nil))) (pe_def D_law_draw (hr.mono (by decide)) (by rfl) (pa_cons (pv 0) (pa_cons pe_int pa_nil)))))
    (pss_one (ps_ret (pe_tup (pa_cons (pv 3) (pa_cons (pe_op op_add (pv 3) (pe_def D_law_draw (hr.mono (by decide)) (by rfl) (pa_cons (pv 0) (pa_cons (pv 2) pa_nil)))) (pa_cons (pv 4) (pa_cons (pe_op op_add (pv 4) (pe_def D_law_draw (hr.mono (by decide)) (by rfl) (pa_cons (pv 0) (pa_cons pe_int pa_nil)))) pa_nil))))))))), ?_⟩
    refine ⟨_, rfl, _, rfl, d, c, _, _, rfl, S, .inl (.inl hb), (fun z => by have e := congrArg List.length z; rw [bgs_len] at e; exact absurd (show ns.length = 0 from e) (by omega)), (by rw [bgs_len]; omega), fun v1 H1 hv1 S1 kp1 => ?_⟩
    have hb := kp1.l S hb
    obtain ⟨xb, hxb, rfl⟩ := List.mem_map.mp hv1
    have hxb2 : 0 ≤ xb ∧ xb ≤ 6000000 := by
      obtain ⟨j, hj, rfl⟩ := List.mem_map.mp hxb
      have hj := List.mem_range.mp hj
      have h1 := bg_nn D ns j
      have h2 := bg_le hB ns j
      omega
    refine ⟨_, rfl, d, c, _, rfl, S1, (by omega), (by omega), fun x2 H2 x2a x2b S2 kp2 => ?_⟩
    have hb := kp2.l S1 hb
    refine ⟨_, _, rfl, rfl, _, _, rfl, rfl, _, rfl, szOk rfl, fun p3 hp3 => ?_⟩
    refine ⟨d, c, _, _, rfl, (S2.new hp3), .inl (.inl upd_same), (fun z => nomatch z), (by show 8 ≤ 1000; decide), fun v4 H4 hv4 S4 kp4 => ?_⟩
    have hb := kp4.l (S2.new hp3) (same_new hp3 _ _ hb)
    obtain ⟨x4, rfl, x4a, x4b⟩ : ∃ z : Int, v4 = .int z ∧ 0 ≤ z ∧ z ≤ 590 := by
      simp only [List.mem_cons, List.not_mem_nil, or_false] at hv4
      rcases hv4 with rfl | rfl | rfl | rfl | rfl | rfl | rfl | rfl <;> exact ⟨_, rfl, by decide, by decide⟩
    refine ⟨_, rfl, d, c, _, rfl, S4, (by omega), (by omega), fun x5 H5 x5a x5b S5 kp5 => ?_⟩
    have hb := kp5.l S4 hb
    refine ⟨_, _, rfl, rfl, _, rfl, _, rfl, _, rfl, _, rfl, d, c, _, rfl, S5, (by omega), (by omega), fun x6 H6 x6a x6b S6 kp6 => ?_⟩
    have hb := kp6.l S5 hb
    refine ⟨_, _, rfl, rfl, _, rfl, _, rfl, _, rfl, d, c, _, rfl, S6, (by omega), (by omega), fun x7 H7 x7a x7b S7 kp7 => ?_⟩
    have hb := kp7.l S6 hb
    refine ⟨_, _, rfl, rfl, szOk rfl, fun p8 hp8 => ?_⟩
    refine k _ _ _ _ _ _ ?_ (by omega) (by omega) (by omega) (by omega) (by omega) (by omega) (by omega) (by omega) upd_same (S7.new hp8) ?_
    · exact Keep.none ((((((kp1.trans kp2).trans (Keep.of (same_new hp3))).trans kp4).trans kp5).trans kp6).trans kp7) (St1.nd S7 hp8) hp8
    · exact (((((((kp1.trans kp2).trans (Keep.of (same_new hp3))).trans kp4).trans kp5).trans kp6).trans kp7).trans (Keep.of (same_new hp8)))
theorem sc_law_kind : FnScope ["state", "slow", "least"] ["state"] (defScope s_law_kind) := ⟨rfl, rfl, rfl, by decide +kernel, rfl, by decide +kernel, by decide +kernel⟩
theorem ok_law_kind {f : Addr} {fd : FuncData} (F : Fun K "_law_kind" "_law_kind" s_law_kind f fd) (T : TxtA mg)
    (D_law_draw : Def P w K mg base 1 "_law_draw" ["state", "bound"] (spDraw K))
    (D_law_pick : Def P w K mg base 2 "_law_pick" ["state", "things"] (spPick K)) : FnOk P w K mg base CX0 3 f fd ["state"] (spKind K) := by
  refine F.ok sc_law_kind (fun vs H Q E h => ?_) (fun cdv A outer s H vs Q E hr h => ?_)
  · obtain ⟨_, _, rfl, _⟩ := h
    rfl
  · obtain ⟨d, c, rfl, S, k⟩ := h
    refine ⟨_, (pss_cons (ps_set (i := 1) sc_law_kind.nd rfl (Or.inl rfl) (pe_op op_add pe_int (pe_def D_law_draw (hr.mono (by decide)) (by rfl) (pa_cons (pv 0) (pa_cons (pe_def D_law_pick (hr.mono (by decide)) (by rfl) (pa_cons (pv 0) (pa_cons (pe_lst (pa_cons pe_int (pa_cons pe_int (pa_cons pe_int pa_nil)))) pa_nil))) pa_nil)))))
    (pss_cons (ps_set (i := 2) sc_law_kind.nd rfl (Or.inl rfl) (pe_op op_add pe_int (pe_def D_law_draw (hr.mono (by decide)) (by rfl) (pa_cons (pv 0) (pa_cons pe_int pa_nil)))))
    (pss_one (ps_ret (pe_tup (pa_cons (pe_def D_law_draw (hr.mono (by decide)) (by rfl) (pa_cons (pv 0) (pa_cons pe_int pa_nil))) (pa_cons (pv 1) (pa_cons (pe_op op_add (pv 1) (pe_def D_law_draw (hr.mono (by decide)) (by rfl) (pa_cons (pv 0) (pa_cons pe_int pa_nil)))) (pa_cons (pv 2) (pa_cons (pe_op op_add (pv 2) (pe_def D_law_draw (hr.mono (by decide)) (by rfl) (pa_cons (pv 0) (pa_cons pe_int pa_nil)))) pa_nil)))))))))), ?_⟩
    refine ⟨_, rfl, _, rfl, szOk rfl, fun p1 hp1 => ?_⟩
    refine ⟨d, c, _, _, rfl, (S.new hp1), .inl (.inl upd_same), (fun z => nomatch z), (by show 3 ≤ 1000; decide), fun v2 H2 hv2 S2 kp2 => ?_⟩
    obtain ⟨x2, rfl, x2a, x2b⟩ : ∃ z : Int, v2 = .int z ∧ 8 ≤ z ∧ z ≤ 60 := by
      simp only [List.mem_cons, List.not_mem_nil, or_false] at hv2
      rcases hv2 with rfl | rfl | rfl <;> exact ⟨_, rfl, by decide, by decide⟩
    refine ⟨d, c, _, rfl, S2, (by omega), (by omega), fun x3 H3 x3a x3b S3 kp3 => ?_⟩
    refine ⟨_, _, rfl, rfl, _, rfl, d, c, _, rfl, S3, (by omega), (by omega), fun x4 H4 x4a x4b S4 kp4 => ?_⟩
    refine ⟨_, _, rfl, rfl, _, rfl, d, c, _, rfl, S4, (by omega), (by omega), fun x5 H5 x5a x5b S5 kp5 => ?_⟩
    refine ⟨_, rfl, _, rfl, _, rfl, d, c, _, rfl, S5, (by omega), (by omega), fun x6 H6 x6a x6b S6 kp6 => ?_⟩
    refine ⟨_, _, rfl, rfl, _, rfl, _, rfl, _, rfl, d, c, _, rfl, S6, (by omega), (by omega), fun x7 H7 x7a x7b S7 kp7 => ?_⟩
    refine ⟨_, _, rfl, rfl, szOk rfl, fun p8 hp8 => ?_⟩
    refine k _ _ _ _ _ _ _ ?_ (by omega) (by omega) (by omega) (by omega) (by omega) upd_same (S7.new hp8) ?_
    · exact Keep.none (((((((Keep.of (same_new hp1)).trans kp2).trans kp3).trans kp4).trans kp5).trans kp6).trans kp7) (St1.nd S7 hp8) hp8
    · exact ((((((((Keep.of (same_new hp1)).trans kp2).trans kp3).trans kp4).trans kp5).trans kp6).trans kp7).trans (Keep.of (same_new hp8)))
theorem sc_law_winds : FnScope ["state", "winds", "k", "last"] ["state"] (defScope s_law_winds) := ⟨rfl, rfl, rfl, by decide +kernel, rfl, by decide +kernel, by decide +kernel⟩
theorem ok_law_winds {f : Addr} {fd : FuncData} (F : Fun K "_law_winds" "_law_winds" s_law_winds f fd) (T : TxtA mg)
    (D_law_draw : Def P w K mg base 1 "_law_draw" ["state", "bound"] (spDraw K)) : FnOk P w K mg base CX0 2 f fd ["state"] (spWinds K) := by
  refine F.ok sc_law_winds (fun vs H Q E h => ?_) (fun cdv A outer s H vs Q E hr h => ?_)
  · obtain ⟨_, _, rfl, _⟩ := h
    rfl
  · obtain ⟨d, c, rfl, S, k⟩ := h
    refine ⟨_, (pss_cons (ps_set (i := 1) sc_law_winds.nd rfl (Or.inl rfl) (pe_lst (pa_cons (pe_tup (pa_cons pe_int (pa_cons (pe_op op_sub (pe_def D_law_draw (hr.mono (by decide)) (by rfl) (pa_cons (pv 0) (pa_cons pe_int pa_nil))) pe_int) (pa_cons (pe_op op_sub (pe_def D_law_draw (hr.mono (by decide)) (by rfl) (pa_cons (pv 0) (pa_cons pe_int pa_nil))) pe_int) (pa_cons (pe_def D_law_draw (hr.mono (by decide)) (by rfl) (pa_cons (pv 0) (pa_cons pe_int pa_nil))) pa_nil))))) pa_nil)))
    (pss_cons (ps_for PassesOwn.never rfl (pi_range1 (by rfl) T.range (pa_cons (pe_def D_law_draw (hr.mono (by decide)) (by rfl) (pa_cons (pv 0) (pa_cons pe_int pa_nil))) pa_nil)) (pg_name (i := 2) sc_law_winds.nd rfl (Or.inl rfl))
      (pss_cons (ps_set (i := 3) sc_law_winds.nd rfl (Or.inl rfl) (pe_ix (r := rIxL K) ix_list (pv 1) (pe_op op_sub (pe_callB (r := rLenK K) call_len_seq (by rfl) T.len boot_len (pa_cons (pv 1) pa_nil)) pe_int) (fun _ _ => rfl)))
    (pss_one (ps_expr (pe_bm PySem.F.plainAttrs_list PySem.F.slot_list_append PySem.F.type_list_append mt_append (pv 1) (pa_cons (pe_tup (pa_cons (pe_op op_add (pe_op op_add (pe_ix (r := rIxT K) ix_tup (pv 3) pe_int (fun _ _ => rfl)) pe_int) (pe_def D_law_draw (hr.mono (by decide)) (by rfl) (pa_cons (pv 0) (pa_cons pe_int pa_nil)))) (pa_cons (pe_op op_sub (pe_def D_law_draw (hr.mono (by decide)) (by rfl) (pa_cons (pv 0) (pa_cons pe_int pa_nil))) pe_int) (pa_cons (pe_op op_sub (pe_def D_law_draw (hr.mono (by decide)) (by rfl) (pa_cons (pv 0) (pa_cons pe_int pa_nil))) pe_int) (pa_cons (pe_def D_law_draw (hr.mono (by decide)) (by rfl) (pa_cons (pv 0) (pa_cons pe_int pa_nil))) pa_nil))))) pa_nil))))))
    (pss_one (ps_ret (pv 1))))), ?_⟩
    refine ⟨_, rfl, d, c, _, rfl, S, (by omega), (by omega), fun x1 H1 x1a x1b S1 kp1 => ?_⟩
    refine ⟨_, _, rfl, rfl, _, rfl, d, c, _, rfl, S1, (by omega), (by omega), fun x2 H2 x2a x2b S2 kp2 => ?_⟩
    refine ⟨_, _, rfl, rfl, _, rfl, d, c, _, rfl, S2, (by omega), (by omega), fun x3 H3 x3a x3b S3 kp3 => ?_⟩
    refine ⟨szOk rfl, fun p4 hp4 => ?_⟩
    refine ⟨szOk rfl, fun p5 hp5 => ?_⟩
    have hW : WAt (upd (upd H3 p4 (.tup [.int 0, .int (x1 - 3), .int (x2 - 3), .int x3])) p5 (.lst [.ref p4])) p5 [(p4, 0, x1 - 3, x2 - 3, x3)] :=
      ⟨upd_same, (fun q hq => by rw [List.mem_singleton.mp hq]; exact same_new hp5 _ _ upd_same), (fun q hq => by rw [List.mem_singleton.mp hq]; show -10001 ≤ x1 - 3 ∧ x1 - 3 ≤ 10001 ∧ -10001 ≤ x2 - 3 ∧ x2 - 3 ≤ 10001 ∧ 0 ≤ x3 ∧ x3 ≤ 10001; omega), _, _, rfl, rfl⟩
    have nld : p5 ≠ d := St1.nd (St1.new S3 hp4) hp5
    have nlc : p5 ≠ c := St1.nc (St1.new S3 hp4) hp5
    have k0 : Keep d H (upd H3 p4 (.tup [.int 0, .int (x1 - 3), .int (x2 - 3), .int x3])) := ((kp1.trans kp2).trans kp3).trans (Keep.of (same_new hp4))
    have nHl : H p5 = none := k0.none nld hp5
    have k1 := k0.trans (Keep.of (same_new (o := .lst [.ref p4]) hp5))
    refine ⟨_, rfl, d, c, _, rfl, ((S3.new hp4).new hp5), (by omega), (by omega), fun x6 H6 x6a x6b S6 kp6 => ?_⟩
    have hW := hW.keep ((S3.new hp4).new hp5) kp6
    have k2 := k1.trans kp6
    refine ⟨_, rfl, by omega, by omega, for_range (n := x6.toNat) (fun i σ2 H2 => ∃ qs v2 v3, σ2 = [some (.ref d), some (.ref p5), v2, v3] ∧ St1 K H2 d c ∧ WAt H2 p5 qs ∧ qs.length = i + 1 ∧ Keep d H H2)
      ⟨_, none, none, rfl, S6, hW, rfl, k2⟩ ?_ ?_⟩
    · rintro i σ2 H2 hi ⟨qs, v2, v3, rfl, S0, hW, hq, hk⟩
      obtain ⟨ql, hql⟩ : ∃ q, qs.getLast? = some q := by
        cases e : qs.getLast? with
        | some q => exact ⟨q, rfl⟩
        | none =>
          have := List.getLast?_eq_none_iff.mp e
          rw [this] at hq
          cases hq
      have hqm : ql ∈ qs := List.mem_of_getLast? hql
      have hT : H2 ql.1 = some (.tup [.int ql.2.1, .int ql.2.2.1, .int ql.2.2.2.1, .int ql.2.2.2.2]) := hW.tu _ hqm
      refine ⟨_, rfl, _, rfl, _, _, rfl, .inl (.inl (.inl hW.li)), _, _, rfl, rfl, _, _, _, .ref ql.1, rfl, rfl, .inl (.inl hW.li), atI_lastn rfl (by rw [List.getLast?_map, hql]; rfl), ?_⟩
      refine ⟨_, rfl, (.inl ⟨rfl, _, .inl (.inl hW.li)⟩), _, rfl, _, _, _, _, rfl, rfl, (.inl (.inl hT)), rfl, _, _, rfl, rfl, _, rfl, d, c, _, rfl, S0, (by omega), (by omega), fun x7 H7 x7a x7b S7 kp7 => ?_⟩
      have hW := hW.keep S0 kp7
      have hT := kp7.t S0 hT
      refine ⟨_, _, rfl, rfl, _, rfl, d, c, _, rfl, S7, (by omega), (by omega), fun x8 H8 x8a x8b S8 kp8 => ?_⟩
      have hW := hW.keep S7 kp8
      have hT := kp8.t S7 hT
      refine ⟨_, _, rfl, rfl, _, rfl, d, c, _, rfl, S8, (by omega), (by omega), fun x9 H9 x9a x9b S9 kp9 => ?_⟩
      have hW := hW.keep S8 kp9
      have hT := kp9.t S8 hT
      refine ⟨_, _, rfl, rfl, _, rfl, d, c, _, rfl, S9, (by omega), (by omega), fun x10 H10 x10a x10b S10 kp10 => ?_⟩
      have hW := hW.keep S9 kp10
      have hT := kp10.t S9 hT
      refine ⟨szOk rfl, fun p11 hp11 => ?_⟩
      refine ⟨_, _, _, rfl, rfl, (hW.same (same_new hp11)).li, (by rw [List.length_map]; exact small1000 (by omega)), ?_⟩
      have hk3 := hk.trans (((kp7.trans kp8).trans kp9).trans kp10)
      refine ⟨qs ++ [(p11, ql.2.1 + 1 + x7, x8 - 4, x9 - 4, x10)], _, _, rfl, St1.put (S10.new hp11) nld nlc, WAt.snoc (q := (p11, ql.2.1 + 1 + x7, x8 - 4, x9 - 4, x10)) (hW.same (same_new hp11)) upd_same (by show -10001 ≤ x8 - 4 ∧ x8 - 4 ≤ 10001 ∧ -10001 ≤ x9 - 4 ∧ x9 - 4 ≤ 10001 ∧ 0 ≤ x10 ∧ x10 ≤ 10001; omega), by rw [List.length_append, hq]; rfl, fun b o e nb => ?_⟩
      rw [upd_ne (ne_of_none e nHl)]
      exact same_new hp11 _ _ (hk3 b o e nb)
    rintro σ2 H2 ⟨qs, v2, v3, rfl, S0, hW, hq, hk⟩
    exact ⟨_, rfl, k p5 qs H2 nHl hW (by omega) S0 hk⟩
theorem sc_law_rules : FnScope ["state", "lateral", "vertical", "rules", "j", "k"] ["state"] (defScope s_law_rules) := ⟨rfl, rfl, rfl, by decide +kernel, rfl, by decide +kernel, by decide +kernel⟩
theorem ok_law_rules {f : Addr} {fd : FuncData} (F : Fun K "_law_rules" "_law_rules" s_law_rules f fd) (T : TxtA mg)
    (D_law_draw : Def P w K mg base 1 "_law_draw" ["state", "bound"] (spDraw K))
    (D_law_pick : Def P w K mg base 2 "_law_pick" ["state", "things"] (spPick K)) : FnOk P w K mg base CX0 3 f fd ["state"] (spRules K) := by
  refine F.ok sc_law_rules (fun vs H Q E h => ?_) (fun cdv A outer s H vs Q E hr h => ?_)
  · obtain ⟨_, _, rfl, _⟩ := h
    rfl
  · obtain ⟨d, c, rfl, S, k⟩ := h
    have hu := hu_of hr
    refine ⟨_, (pss_cons (ps_set (i := 1) sc_law_rules.nd rfl (Or.inl rfl) (pe_op op_add pe_int (pe_def D_law_draw (hr.mono (by decide)) (by rfl) (pa_cons (pv 0) (pa_cons (pe_def D_law_pick (hr.mono (by decide)) (by rfl) (pa_cons (pv 0) (pa_cons (pe_lst (pa_cons pe_int (pa_cons pe_int (pa_cons pe_int pa_nil)))) pa_nil))) pa_nil)))))
    (pss_cons (ps_set (i := 2) sc_law_rules.nd rfl (Or.inl rfl) (pe_op op_add pe_int (pe_def D_law_draw (hr.mono (by decide)) (by rfl) (pa_cons (pv 0) (pa_cons (pe_def D_law_pick (hr.mono (by decide)) (by rfl) (pa_cons (pv 0) (pa_cons (pe_lst (pa_cons pe_int (pa_cons pe_int (pa_cons pe_int pa_nil)))) pa_nil))) pa_nil)))))
    (pss_cons (ps_set (i := 3) sc_law_rules.nd rfl (Or.inl rfl) (pe_disp (pps_cons pe_str (pv 1) (pps_cons pe_str (pv 2) (pps_cons pe_str (pe_def D_law_draw (hr.mono (by decide)) (by rfl) (pa_cons (pv 0) (pa_cons pe_int pa_nil))) (pps_cons pe_str (pe_def D_law_draw (hr.mono (by decide)) (by rfl) (pa_cons (pv 0) (pa_cons pe_int pa_nil))) pps_nil)))) (by rfl) (by rfl) (fun z => by cases z) (by decide)))
    (pss_cons (ps_dput hu (pv 3) pe_str (pe_def D_law_draw (hr.mono (by decide)) (by rfl) (pa_cons (pv 0) (pa_cons pe_int pa_nil))) rfl)
    (pss_cons (ps_dput hu (pv 3) pe_str (pe_def D_law_draw (hr.mono (by decide)) (by rfl) (pa_cons (pv 0) (pa_cons (pe_op op_fdivW (pe_op op_add (pv 1) pe_int) pe_int) pa_nil))) rfl)
    (pss_cons (ps_dput hu (pv 3) pe_str (pe_def D_law_draw (hr.mono (by decide)) (by rfl) (pa_cons (pv 0) (pa_cons (pe_op op_fdivW (pe_op op_add (pv 2) pe_int) pe_int) pa_nil))) rfl)
    (pss_cons (ps_dput hu (pv 3) pe_str (pe_def D_law_draw (hr.mono (by decide)) (by rfl) (pa_cons (pv 0) (pa_cons pe_int pa_nil))) rfl)
    (pss_cons (ps_dput hu (pv 3) pe_str (pe_def D_law_draw (hr.mono (by decide)) (by rfl) (pa_cons (pv 0) (pa_cons pe_int pa_nil))) rfl)
    (pss_cons (ps_dput hu (pv 3) pe_str (pe_op op_add pe_int (pe_def D_law_draw (hr.mono (by decide)) (by rfl) (pa_cons (pv 0) (pa_cons pe_int pa_nil)))) rfl)
    (pss_cons (ps_dput hu (pv 3) pe_str (pe_def D_law_draw (hr.mono (by decide)) (by rfl) (pa_cons (pv 0) (pa_cons pe_int pa_nil))) rfl)
    (pss_cons (ps_dput hu (pv 3) pe_str (pe_callTy call_tuple_of (by rfl) T.tuple boot_tuple (pa_cons (pe_lc (own := [("j", 4)]) (g := gName 4) (by rfl) sc_law_rules.nd (pi_range1 (by rfl) T.range (pa_cons pe_int pa_nil)) (blkOk_by (own := [("j", 4)]) (N := ["state", "lateral", "vertical", "rules", "j", "k"]) (sc := defScope s_law_rules) (by decide +kernel)) (fun _ _ _ _ _ => (pg_name (i := 4) sc_law_rules.nd rfl (Or.inl rfl))) (fun _ _ _ _ _ => pts_nil) (fun _ _ _ _ _ => (pe_callTy (r := rTupK K) call_tuple_of (by rfl) T.tuple boot_tuple (pa_cons (pe_lc (own := [("k", 5)]) (g := gName 5) (by rfl) sc_law_rules.nd (pi_range1 (by rfl) T.range (pa_cons pe_int pa_nil)) (by apply blkOk_by; with_unfolding_all rfl) (fun _ _ _ _ _ => (pg_name (i := 5) sc_law_rules.nd rfl (Or.inl rfl))) (fun _ _ _ _ _ => pts_nil) (fun _ _ _ _ _ => (pe_op op_add pe_int (pe_def D_law_draw (hr.mono (by decide)) (by rfl) (pa_cons (pv 0) (pa_cons pe_int pa_nil)))))) pa_nil)))) pa_nil)) rfl)
    (pss_one (ps_ret (pv 3)))))))))))))), ?_⟩
    refine ⟨_, rfl, _, rfl, szOk rfl, fun p1 hp1 => ?_⟩
    refine ⟨d, c, _, _, rfl, (S.new hp1), .inl (.inl upd_same), (fun z => nomatch z), (by show 3 ≤ 1000; decide), fun v2 H2 hv2 S2 kp2 => ?_⟩
    obtain ⟨x2, rfl, x2a, x2b⟩ : ∃ z : Int, v2 = .int z ∧ 3 ≤ z ∧ z ≤ 60 := by
      simp only [List.mem_cons, List.not_mem_nil, or_false] at hv2
      rcases hv2 with rfl | rfl | rfl <;> exact ⟨_, rfl, by decide, by decide⟩
    refine ⟨d, c, _, rfl, S2, (by omega), (by omega), fun x3 H3 x3a x3b S3 kp3 => ?_⟩
    refine ⟨_, _, rfl, rfl, _, rfl, _, rfl, szOk rfl, fun p4 hp4 => ?_⟩
    refine ⟨d, c, _, _, rfl, (S3.new hp4), .inl (.inl upd_same), (fun z => nomatch z), (by show 3 ≤ 1000; decide), fun v5 H5 hv5 S5 kp5 => ?_⟩
    obtain ⟨x5, rfl, x5a, x5b⟩ : ∃ z : Int, v5 = .int z ∧ 3 ≤ z ∧ z ≤ 60 := by
      simp only [List.mem_cons, List.not_mem_nil, or_false] at hv5
      rcases hv5 with rfl | rfl | rfl <;> exact ⟨_, rfl, by decide, by decide⟩
    refine ⟨d, c, _, rfl, S5, (by omega), (by omega), fun x6 H6 x6a x6b S6 kp6 => ?_⟩
    refine ⟨_, _, rfl, rfl, ?_⟩
    have k0 : Keep d H _ := ((((((Keep.of (same_new hp1)).trans kp2).trans kp3).trans (Keep.of (same_new hp4))).trans kp5).trans kp6)
    intro ru hru
    have nrd : ru ≠ d := St1.nd S6 hru
    have nrc : ru ≠ c := St1.nc S6 hru
    have hruH : H ru = none := k0.none nrd hru
    have kU : ∀ (Hx : Hp) (kv : List (Key × V)), Keep d H Hx → Keep d H (upd Hx ru (.dK kv)) := fun Hx kv w b o e nb => by
      rw [upd_ne (ne_of_none e hruH)]
      exact w b o e nb
    have kS : ∀ a x, (Str.ofString a == Str.ofString x) = false → True := fun _ _ _ => trivial
    refine ⟨_, rfl, _, rfl, _, rfl, d, c, _, rfl, St1.new S6 hru, by decide, by decide, fun xr Hr xra xrb Sr kpr => ?_⟩
    refine ⟨_, rfl, d, c, _, rfl, Sr, by decide, by decide, fun xb Hb xba xbb Sb kpb => ?_⟩
    have kb : Keep d H Hb := ((k0.trans (Keep.of (same_new hru))).trans kpr).trans kpb
    refine ⟨kpb _ _ (kpr _ _ upd_same nrd) nrd, [(.inr "lateral", .int (1 + x3)), (.inr "vertical", .int (1 + x6)), (.inr "radius", .int xr), (.inr "band", .int xb)], rfl, (by show 4 ≤ 15; decide), ?_⟩
    have len0 : (mergeK [] [((.inr "lateral" : Key), V.int (1 + x3)), (.inr "vertical", .int (1 + x6)), (.inr "radius", .int xr), (.inr "band", .int xb)]).length ≤ 4 := by
      simp only [mergeK, List.foldl]
      have l1 := putK_len (kvs := ([] : List (Key × V))) (k := (.inr "lateral" : Key)) (v := .int (1 + x3))
      have l2 := putK_len (kvs := putK ([] : List (Key × V)) (.inr "lateral" : Key) (.int (1 + x3))) (k := (.inr "vertical" : Key)) (v := .int (1 + x6))
      have l3 := putK_len (kvs := putK (putK ([] : List (Key × V)) (.inr "lateral" : Key) (.int (1 + x3))) (.inr "vertical" : Key) (.int (1 + x6))) (k := (.inr "radius" : Key)) (v := .int xr)
      have l4 := putK_len (kvs := putK (putK (putK ([] : List (Key × V)) (.inr "lateral" : Key) (.int (1 + x3))) (.inr "vertical" : Key) (.int (1 + x6))) (.inr "radius" : Key) (.int xr)) (k := (.inr "band" : Key)) (v := .int xb)
      simp only [List.length_nil] at l1
      omega
    have S0 := Sb.put (o := .dK (mergeK [] [((.inr "lateral" : Key), V.int (1 + x3)), (.inr "vertical", .int (1 + x6)), (.inr "radius", .int xr), (.inr "band", .int xb)])) nrd nrc
    have h0 : (upd Hb ru (.dK (mergeK [] [((.inr "lateral" : Key), V.int (1 + x3)), (.inr "vertical", .int (1 + x6)), (.inr "radius", .int xr), (.inr "band", .int xb)]))) ru = _ := upd_same
    have w0 := kU Hb (mergeK [] [((.inr "lateral" : Key), V.int (1 + x3)), (.inr "vertical", .int (1 + x6)), (.inr "radius", .int xr), (.inr "band", .int xb)]) kb
    generalize mergeK [] [((.inr "lateral" : Key), V.int (1 + x3)), (.inr "vertical", .int (1 + x6)), (.inr "radius", .int xr), (.inr "band", .int xb)] = kv0 at *
    generalize upd Hb ru (.dK kv0) = G0 at *
    refine ⟨_, rfl, d, c, _, rfl, S0, (by decide), (by decide), fun y0 T0 y0a y0b U0 kq0 => ?_⟩
    refine ⟨_, rfl, _, _, rfl, DPut.k (k := .inr "slip") (kq0 _ _ h0 nrd) (small1000 (by omega)), ?_⟩
    have S1 := U0.put (o := .dK (putK kv0 (.inr "slip") (.int (y0)))) nrd nrc
    have h1 : (upd T0 ru (.dK (putK kv0 (.inr "slip") (.int (y0))))) ru = _ := upd_same
    have w1 := kU T0 (putK kv0 (.inr "slip") (.int (y0))) (w0.trans kq0)
    have len1 : (putK kv0 (.inr "slip") (.int (y0))).length ≤ 5 := Nat.le_trans putK_len (by omega)
    have sl1 : valV (putK kv0 (.inr "slip") (.int (y0))) (.inr "slip") = some (.int y0) := by
      rw [valV_put]
      exact if_pos rfl
    generalize putK kv0 (.inr "slip") (.int (y0)) = kv1 at *
    generalize upd T0 ru (.dK kv1) = G1 at *
    refine ⟨_, rfl, _, rfl, _, _, rfl, rfl, _, _, rfl, rfl, (by walk_at "ms"), d, c, _, rfl, S1, (by omega), (by omega), fun y1 T1 y1a y1b U1 kq1 => ?_⟩
    refine ⟨_, rfl, _, _, rfl, DPut.k (k := .inr "radar") (kq1 _ _ h1 nrd) (small1000 (by omega)), ?_⟩
    have S2 := U1.put (o := .dK (putK kv1 (.inr "radar") (.int (y1)))) nrd nrc
    have h2 : (upd T1 ru (.dK (putK kv1 (.inr "radar") (.int (y1))))) ru = _ := upd_same
    have w2 := kU T1 (putK kv1 (.inr "radar") (.int (y1))) (w1.trans kq1)
    have len2 : (putK kv1 (.inr "radar") (.int (y1))).length ≤ 6 := Nat.le_trans putK_len (by omega)
    have sl2 : valV (putK kv1 (.inr "radar") (.int (y1))) (.inr "slip") = some (.int y0) := by
      rw [valV_put]
      rw [if_neg (kr (by decide +kernel))]
      exact sl1
    generalize putK kv1 (.inr "radar") (.int (y1)) = kv2 at *
    generalize upd T1 ru (.dK kv2) = G2 at *
    refine ⟨_, rfl, _, rfl, _, _, rfl, rfl, _, _, rfl, rfl, (by walk_at "ms"), d, c, _, rfl, S2, (by omega), (by omega), fun y2 T2 y2a y2b U2 kq2 => ?_⟩
    refine ⟨_, rfl, _, _, rfl, DPut.k (k := .inr "height") (kq2 _ _ h2 nrd) (small1000 (by omega)), ?_⟩
    have S3 := U2.put (o := .dK (putK kv2 (.inr "height") (.int (y2)))) nrd nrc
    have h3 : (upd T2 ru (.dK (putK kv2 (.inr "height") (.int (y2))))) ru = _ := upd_same
    have w3 := kU T2 (putK kv2 (.inr "height") (.int (y2))) (w2.trans kq2)
    have len3 : (putK kv2 (.inr "height") (.int (y2))).length ≤ 7 := Nat.le_trans putK_len (by omega)
    have sl3 : valV (putK kv2 (.inr "height") (.int (y2))) (.inr "slip") = some (.int y0) := by
      rw [valV_put]
      rw [if_neg (kr (by decide +kernel))]
      exact sl2
    generalize putK kv2 (.inr "height") (.int (y2)) = kv3 at *
    generalize upd T2 ru (.dK kv3) = G3 at *
    refine ⟨_, rfl, d, c, _, rfl, S3, (by decide), (by decide), fun y3 T3 y3a y3b U3 kq3 => ?_⟩
    refine ⟨_, rfl, _, _, rfl, DPut.k (k := .inr "foreign") (kq3 _ _ h3 nrd) (small1000 (by omega)), ?_⟩
    have S4 := U3.put (o := .dK (putK kv3 (.inr "foreign") (.int (y3)))) nrd nrc
    have h4 : (upd T3 ru (.dK (putK kv3 (.inr "foreign") (.int (y3))))) ru = _ := upd_same
    have w4 := kU T3 (putK kv3 (.inr "foreign") (.int (y3))) (w3.trans kq3)
    have len4 : (putK kv3 (.inr "foreign") (.int (y3))).length ≤ 8 := Nat.le_trans putK_len (by omega)
    have sl4 : valV (putK kv3 (.inr "foreign") (.int (y3))) (.inr "slip") = some (.int y0) := by
      rw [valV_put]
      rw [if_neg (kr (by decide +kernel))]
      exact sl3
    generalize putK kv3 (.inr "foreign") (.int (y3)) = kv4 at *
    generalize upd T3 ru (.dK kv4) = G4 at *
    refine ⟨_, rfl, d, c, _, rfl, S4, (by decide), (by decide), fun y4 T4 y4a y4b U4 kq4 => ?_⟩
    refine ⟨_, rfl, _, _, rfl, DPut.k (k := .inr "climb") (kq4 _ _ h4 nrd) (small1000 (by omega)), ?_⟩
    have S5 := U4.put (o := .dK (putK kv4 (.inr "climb") (.int (y4)))) nrd nrc
    have h5 : (upd T4 ru (.dK (putK kv4 (.inr "climb") (.int (y4))))) ru = _ := upd_same
    have w5 := kU T4 (putK kv4 (.inr "climb") (.int (y4))) (w4.trans kq4)
    have len5 : (putK kv4 (.inr "climb") (.int (y4))).length ≤ 9 := Nat.le_trans putK_len (by omega)
    have sl5 : valV (putK kv4 (.inr "climb") (.int (y4))) (.inr "slip") = some (.int y0) := by
      rw [valV_put]
      rw [if_neg (kr (by decide +kernel))]
      exact sl4
    generalize putK kv4 (.inr "climb") (.int (y4)) = kv5 at *
    generalize upd T4 ru (.dK kv5) = G5 at *
    refine ⟨_, rfl, d, c, _, rfl, S5, (by decide), (by decide), fun y5 T5 y5a y5b U5 kq5 => ?_⟩
    refine ⟨_, _, rfl, rfl, _, rfl, _, _, rfl, DPut.k (k := .inr "memory") (kq5 _ _ h5 nrd) (small1000 (by omega)), ?_⟩
    have S6 := U5.put (o := .dK (putK kv5 (.inr "memory") (.int (1 + y5)))) nrd nrc
    have h6 : (upd T5 ru (.dK (putK kv5 (.inr "memory") (.int (1 + y5))))) ru = _ := upd_same
    have w6 := kU T5 (putK kv5 (.inr "memory") (.int (1 + y5))) (w5.trans kq5)
    have len6 : (putK kv5 (.inr "memory") (.int (1 + y5))).length ≤ 10 := Nat.le_trans putK_len (by omega)
    have sl6 : valV (putK kv5 (.inr "memory") (.int (1 + y5))) (.inr "slip") = some (.int y0) := by
      rw [valV_put]
      rw [if_neg (kr (by decide +kernel))]
      exact sl5
    generalize putK kv5 (.inr "memory") (.int (1 + y5)) = kv6 at *
    generalize upd T5 ru (.dK kv6) = G6 at *
    refine ⟨_, rfl, d, c, _, rfl, S6, (by decide), (by decide), fun y6 T6 y6a y6b U6 kq6 => ?_⟩
    refine ⟨_, rfl, _, _, rfl, DPut.k (k := .inr "ahead") (kq6 _ _ h6 nrd) (small1000 (by omega)), ?_⟩
    have S7 := U6.put (o := .dK (putK kv6 (.inr "ahead") (.int (y6)))) nrd nrc
    have h7 : (upd T6 ru (.dK (putK kv6 (.inr "ahead") (.int (y6))))) ru = _ := upd_same
    have w7 := kU T6 (putK kv6 (.inr "ahead") (.int (y6))) (w6.trans kq6)
    have len7 : (putK kv6 (.inr "ahead") (.int (y6))).length ≤ 11 := Nat.le_trans putK_len (by omega)
    have sl7 : valV (putK kv6 (.inr "ahead") (.int (y6))) (.inr "slip") = some (.int y0) := by
      rw [valV_put]
      rw [if_neg (kr (by decide +kernel))]
      exact sl6
    generalize putK kv6 (.inr "ahead") (.int (y6)) = kv7 at *
    generalize upd T6 ru (.dK kv7) = G7 at *
    refine ⟨_, rfl, by decide, by decide, fun E1 hE1 => ?_⟩
    have nE1d : E1 ≠ d := S7.nd hE1
    have nE1c : E1 ≠ c := S7.nc hE1
    have nE1r : ru ≠ E1 := ne_of_none h7 hE1
    refine lc_range (lo := 0) (n := (4 : Int).toNat) (fun i H' => St1 K H' d c ∧ Keep2 d E1 G7 H' ∧ ∃ ys : List V, H' E1 = some (.lst ys) ∧ ys.length = i) ⟨S7.new hE1, (Keep2.refl d E1 _).new hE1, [], upd_same, rfl⟩ ?_ ?_
    · rintro i H' hi ⟨Si, ki, ys, hys, hyl⟩
      refine ⟨rfl, ?_⟩
      refine ⟨_, rfl, by decide, by decide, fun E2 hE2 => ?_⟩
      have nE2d : E2 ≠ d := Si.nd hE2
      have nE2c : E2 ≠ c := Si.nc hE2
      have nE12 : E1 ≠ E2 := ne_of_none hys hE2
      refine lc_range (lo := 0) (n := (4 : Int).toNat) (fun j H2 => St1 K H2 d c ∧ Keep2 d E2 H' H2 ∧ ∃ zs : List V, H2 E2 = some (.lst zs) ∧ zs.length = j) ⟨Si.new hE2, (Keep2.refl d E2 _).new hE2, [], upd_same, rfl⟩ ?_ ?_
      · rintro j H2 hj ⟨Sj, kj, zs, hzs, hzl⟩
        refine ⟨rfl, ?_⟩
        refine ⟨_, rfl, d, c, _, rfl, Sj, by decide, by decide, fun x5 H5 x5a x5b S5 kp5 => ?_⟩
        refine ⟨_, _, rfl, rfl, zs, kp5.l Sj hzs, small1000 (by omega), S5.put nE2d nE2c, (kj.k kp5).put, _, upd_same, by rw [List.length_append, hzl]; rfl⟩
      rintro H2 ⟨Sj, kj, zs, hzs, hzl⟩
      refine ⟨E2, zs, rfl, .inl ⟨.inl (.inl hzs), fun l hl => ?_⟩⟩
      have h1 : H2 E1 = some (.lst ys) := kj _ _ hys nE1d nE12
      have kk : Keep2 d E1 G7 (upd H2 l (.tup zs)) := fun b o e nb nb2 => by
        have q1 := ki b o e nb nb2
        exact same_new hl _ _ (kj b o q1 nb (ne_of_none q1 hE2))
      refine ⟨ys, same_new hl _ _ h1, small1000 (by omega), (Sj.new hl).put nE1d nE1c, kk.put, _, upd_same, by rw [List.length_append, hyl]; rfl⟩
    rintro H' ⟨Si, ki, ys, hys, hyl⟩
    refine ⟨E1, ys, rfl, .inl ⟨.inl (.inl hys), fun l hl => ?_⟩⟩
    have hf := ki _ _ h7 nrd nE1r
    refine ⟨_, rfl, _, _, rfl, DPut.k (k := .inr "gaps") (same_new hl _ _ hf) (small1000 (by omega)), ?_⟩
    have nE1H : H E1 = none := w7.none nE1d hE1
    refine ⟨_, rfl, k ru _ y0 _ hruH upd_same ?_ y0a ((Si.new hl).put nrd nrc) ?_⟩
    · rw [valV_put, if_neg (kr (by decide +kernel))]
      exact sl7
    · refine kU _ _ fun b o e nb => ?_
      exact same_new hl _ _ (ki _ _ (w7 _ _ e nb) nb (ne_of_none e nE1H))
end
end Sk

set_option Elab.async false
set_option linter.all false
set_option maxRecDepth 100000
set_option maxHeartbeats 4000000
namespace Sk
open PySem PySem.Spec PyProof.Rows L2
local macro_rules | `(tactic| walk_at "ms") => `(tactic| first | exact .inl ⟨by decide, by decide⟩ | exact .inl ⟨by omega, by omega⟩ | exact .inr ⟨by omega, by omega⟩ | exact wm (by omega) (by omega) | exact log_of (by omega) (by omega) | (show (0:Int) < _; omega) | exact ⟨by decide, by decide, by decide⟩)
abbrev s_law_next : Stmt := top 45
abbrev s_law : Stmt := top 47
/-- the levels of every progress below low + i -/
structure LvOk (N : ND) (low down up : Int) (i : Nat) (L : List Int) : Prop where
  fw : ∀ x ∈ L, ∃ p lv r, low ≤ p ∧ p < low + (i : Int) ∧ down ≤ lv ∧ lv ≤ up ∧ (r = N.a ∨ r = N.b) ∧ x = tow lv (N.af (N.lt p)) r
  bw : ∀ p lv r, low ≤ p → p < low + (i : Int) → down ≤ lv → lv ≤ up → (r = N.a ∨ r = N.b) → tow lv (N.af (N.lt p)) r ∈ L
theorem LvOk.skip {N : ND} {low down up : Int} {i : Nat} {L : List Int} (h : LvOk N low down up i L) (hne : L ≠ []) (he : N.lt (low + (i : Int)) = N.lt (low + (i : Int) - 1)) : LvOk N low down up (i + 1) L := by
  refine ⟨fun x hx => ?_, fun p lv r p0 p1 l0 l1 hr => ?_⟩
  · obtain ⟨p, lv, r, h1, h2, h3⟩ := h.fw x hx
    exact ⟨p, lv, r, h1, by omega, h3⟩
  · by_cases e : p < low + (i : Int)
    · exact h.bw p lv r p0 e l0 l1 hr
    · have e1 : p = low + (i : Int) := by omega
      subst e1
      rw [he]
      obtain ⟨x, hx⟩ := List.exists_mem_of_ne_nil L hne
      obtain ⟨q, _, _, q0, q1, _⟩ := h.fw x hx
      exact h.bw _ lv r (by omega) (by omega) l0 l1 hr
theorem LvOk.step {N : ND} {low down up : Int} {i : Nat} {L L' : List Int} (h : LvOk N low down up i L) (g : Int) (hg : g = N.af (N.lt (low + (i : Int))))
    (hA : ∀ x ∈ L', x ∈ L ∨ ∃ lv r, down ≤ lv ∧ lv ≤ up ∧ (r = N.a ∨ r = N.b) ∧ x = tow lv g r) (hB : ∀ x ∈ L, x ∈ L') (hC : ∀ lv r, down ≤ lv → lv ≤ up → (r = N.a ∨ r = N.b) → tow lv g r ∈ L') : LvOk N low down up (i + 1) L' := by
  subst hg
  refine ⟨fun x hx => ?_, fun p lv r p0 p1 l0 l1 hr => ?_⟩
  · rcases hA x hx with h1 | ⟨lv, r, h1, h2, h3, h4⟩
    · obtain ⟨p, lv, r, h1, h2, h3⟩ := h.fw x h1
      exact ⟨p, lv, r, h1, by omega, h3⟩
    · exact ⟨low + (i : Int), lv, r, by omega, by omega, h1, h2, h3, h4⟩
  · by_cases e : p < low + (i : Int)
    · exact hB _ (h.bw p lv r p0 e l0 l1 hr)
    · have e1 : p = low + (i : Int) := by omega
      subst e1
      exact hC lv r l0 l1 hr
def spLaw (K : PySem.W.Frag) : Sp := fun vs H Q _ => ∃ (a : Addr) (ns : List Int), vs = [.ref a] ∧ SqL K H a (ns.map V.int) ∧ ns.length ≤ 63 ∧ ∀ H', Q (.bl true) H'
def tChain3 (r1 r2 r3 : R2) (ta tb tc td : TE) : TE := fun σ H Q => ta σ H fun x H1 => tb σ H1 fun y H2 => r1 x y H2 fun z H3 => ∃ k, z = .bl k ∧
  (if k = true then tc σ H3 fun u H4 => r2 y u H4 fun z2 H5 => ∃ k2, z2 = .bl k2 ∧ (if k2 = true then td σ H5 fun v H6 => r3 u v H6 Q else Q (.bl false) H5) else Q (.bl false) H3)
theorem pe_chain3 {X : Cx} {op1 op2 op3 : CmpOp} {r1 r2 r3 : R2} {a b c d : Expr} {ta tb tc td : TE} {pos : Pos} (h1 : OpR X (compareOp op1) r1) (h2 : OpR X (compareOp op2) r2) (h3 : OpR X (compareOp op3) r3) (ha : PE X a ta) (hb : PE X b tb) (hc : PE X c tc) (hd : PE X d td)
    (hm : lastMarks [op1, op2, op3] [b, c, d] = false := by with_unfolding_all rfl) : PE X (.Compare a [op1, op2, op3] [b, c, d] pos) (tChain3 r1 r2 r3 ta tb tc td) := by
  refine ⟨fun pins s σ H Q I h => ?_⟩
  refine Compare_chain (thn (ha.run pins s σ H _ I h) fun v s1 ⟨x, H1, I1, q1, p1⟩ => chain_link (thn (hb.run pins s1 σ H1 _ I1 p1) fun u s2 ⟨y, H2, I2, q2, p2⟩ =>
    thn (h1 pins s2 σ H2 x y v u _ I2 q1 q2 p2) fun e s3 ⟨z, H3, I3, q3, k, ek, p3⟩ => ?_)) hm
  subst ek
  cases q3
  refine wpAny_truthy_bool ?_
  cases k with
  | false => exact ite_ff ⟨.bl false, H3, I3, rfl, p3⟩
  | true =>
    refine ite_tt (chain_link (thn (hc.run pins s3 σ H3 _ I3 p3) fun u2 s4 ⟨y2, H4, I4, q4, p4⟩ => thn (h2 pins s4 σ H4 y y2 u u2 _ I4 q2 q4 p4) fun e2 s5 ⟨z2, H5, I5, q5, k2, ek2, p5⟩ => ?_))
    subst ek2
    cases q5
    refine wpAny_truthy_bool ?_
    cases k2 with
    | false => exact ite_ff ⟨.bl false, H5, I5, rfl, p5⟩
    | true => exact ite_tt (chain_last (thn (hd.run pins s5 σ H5 _ I5 p5) fun u3 s6 ⟨y3, H6, I6, q6, p6⟩ => h3 pins s6 σ H6 y2 y3 u2 u3 Q I6 q4 q6 p6))
structure PIn (K : PySem.W.Frag) (H : Hp) (d c ch r b ki ru wi : Addr) (D : CD) (ns : List Str) (w s f x y sl : Int) (qs : List WQ) : Prop where
  S : St1 K H d c
  C0 : ChartAt H ch D
  hr : H r = some (.tup (ns.map V.str))
  hb : H b = some (.lst ((bgs D ns).map V.int))
  hki : H ki = some (.tup [.int w, .int s, .int f, .int x, .int y])
  hru : ∃ kvs, H ru = some (.dK kvs) ∧ valV kvs (.inr "slip") = some (.int sl)
  hwi : WAt H wi qs
  n1 : ch ≠ d
  n2 : D.fx ≠ d
  n3 : ru ≠ d
theorem PIn.same {K : PySem.W.Frag} {H H' : Hp} {d c ch r b ki ru wi : Addr} {D : CD} {ns : List Str} {w s f x y sl : Int} {qs : List WQ} (I : PIn K H d c ch r b ki ru wi D ns w s f x y sl qs) (e : Same H H') : PIn K H' d c ch r b ki ru wi D ns w s f x y sl qs :=
  { I with S := I.S.same e, C0 := I.C0.same e, hr := e _ _ I.hr, hb := e _ _ I.hb, hki := e _ _ I.hki, hru := let ⟨kvs, h1, h2⟩ := I.hru; ⟨kvs, e _ _ h1, h2⟩, hwi := I.hwi.same e }
theorem PIn.keep {K : PySem.W.Frag} {H H' : Hp} {d c ch r b ki ru wi : Addr} {D : CD} {ns : List Str} {w s f x y sl : Int} {qs : List WQ} (I : PIn K H d c ch r b ki ru wi D ns w s f x y sl qs) (S' : St1 K H' d c) (k : Keep d H H') : PIn K H' d c ch r b ki ru wi D ns w s f x y sl qs :=
  { I with S := S', C0 := I.C0.keep I.S k I.n1 I.n2, hr := k.t I.S I.hr, hb := k.l I.S I.hb, hki := k.t I.S I.hki, hru := let ⟨kvs, h1, h2⟩ := I.hru; ⟨kvs, k _ _ h1 I.n3, h2⟩, hwi := I.hwi.keep I.S k }
section
variable {P : Program} {w : World} {K : PySem.W.Frag} {mg : Str → Option Value} {base : Heap}
theorem sc_law_next : FnScope ["chart", "route", "begins", "course", "kind", "rules", "winds", "tick", "box", "wind", "lows", "highs", "levels", "progress", "k", "bounds", "goal", "level"] ["chart", "route", "begins", "course", "kind", "rules", "winds", "tick", "box"] (defScope s_law_next) := ⟨rfl, rfl, rfl, by decide +kernel, rfl, by decide +kernel, by decide +kernel⟩
theorem ok_law_next {f : Addr} {fd : FuncData} {C : Addr} (F : Fun K "_law_next" "_law_next" s_law_next f fd) (T : TxtA mg)
    (D_law_wind_at : Def P w K mg base 1 "_law_wind_at" ["winds", "tick"] (spLawWindAt C))
    (D_law_leg_at : Def P w K mg base 1 "_law_leg_at" ["begins", "progress"] (spLawLegAt))
    (D_law_bounds : Def P w K mg base 1 "_law_bounds" ["chart", "route", "begins", "k", "speed", "slip", "wind"] (spLawBounds C))
    (D_law_target : Def P w K mg base 2 "_law_target" ["chart", "route", "k", "level"] (spLawTarget C))
    (D_law_towards : Def P w K mg base 1 "_law_towards" ["level", "goal", "rate"] (spTowards)) : FnOk P w K mg base CX0 3 f fd ["chart", "route", "begins", "course", "kind", "rules", "winds", "tick", "box"] (spLawNext C) := by
  refine F.ok sc_law_next (fun vs H Q E h => ?_) (fun cdv A outer s H vs Q E hr h => ?_)
  · obtain ⟨_, _, _, _, _, _, _, rfl, _⟩ := h
    rfl
  · obtain ⟨N, b, bx, low, high, down, up, rfl, I, hb, hbx, hlh, hl40, hdu, hd11, lb0, lb1, db0, db1, k⟩ := h
    have hu := hu_of hr
    refine ⟨_, (pss_cons (ps_set (i := 9) sc_law_next.nd rfl (Or.inl rfl) (pe_def D_law_wind_at (hr.mono (by decide)) (by rfl) (pa_cons (pv 6) (pa_cons (pv 7) pa_nil))))
    (pss_cons (ps_set (i := 10) sc_law_next.nd rfl (Or.inl rfl) (pe_lst pa_nil))
    (pss_cons (ps_set (i := 11) sc_law_next.nd rfl (Or.inl rfl) (pe_lst pa_nil))
    (pss_cons (ps_set (i := 12) sc_law_next.nd rfl (Or.inl rfl) (pe_lst pa_nil))
    (pss_cons (ps_for PassesOwn.never rfl (pi_range2 (by rfl) T.range (pa_cons (pe_ix (r := rIxT K) ix_tup (pv 8) pe_int (fun _ _ => rfl)) (pa_cons (pe_op op_add (pe_ix (r := rIxT K) ix_tup (pv 8) pe_int (fun _ _ => rfl)) pe_int) pa_nil))) (pg_name (i := 13) sc_law_next.nd rfl (Or.inl rfl))
      (pss_cons (ps_set (i := 14) sc_law_next.nd rfl (Or.inl rfl) (pe_def D_law_leg_at (hr.mono (by decide)) (by rfl) (pa_cons (pv 2) (pa_cons (pv 13) pa_nil))))
    (pss_cons (ps_set (i := 15) sc_law_next.nd rfl (Or.inl rfl) (pe_def D_law_bounds (hr.mono (by decide)) (by rfl) (pa_cons (pv 0) (pa_cons (pv 1) (pa_cons (pv 2) (pa_cons (pv 14) (pa_cons (pe_ix (r := rIxT K) ix_tup (pv 3) pe_int (fun _ _ => rfl)) (pa_cons (pe_dget hu (pv 5) pe_str (fun _ _ => rfl)) (pa_cons (pv 9) pa_nil)))))))))
    (pss_cons (ps_expr (pe_bm PySem.F.plainAttrs_list PySem.F.slot_list_append PySem.F.type_list_append mt_append (pv 10) (pa_cons (pe_op op_add (pv 13) (pe_ix (r := rIxT K) ix_tup (pv 15) pe_int (fun _ _ => rfl))) pa_nil)))
    (pss_cons (ps_expr (pe_bm PySem.F.plainAttrs_list PySem.F.slot_list_append PySem.F.type_list_append mt_append (pv 11) (pa_cons (pe_op op_add (pv 13) (pe_ix (r := rIxT K) ix_tup (pv 15) pe_int (fun _ _ => rfl))) pa_nil)))
    (pss_cons (ps_set (i := 16) sc_law_next.nd rfl (Or.inl rfl) (pe_def D_law_target (hr.mono (by decide)) (by rfl) (pa_cons (pv 0) (pa_cons (pv 1) (pa_cons (pv 14) (pa_cons (pe_ix (r := rIxT K) ix_tup (pv 3) pe_int (fun _ _ => rfl)) pa_nil))))))
    (pss_one (ps_if (PW.pt (pw_or (pt_cmpR op_eq (pe_callB (r := rLenK K) call_len_seq (by rfl) T.len boot_len (pa_cons (pv 12) pa_nil)) pe_int (nomark _)) (pw_or1 (pt_cmpR op_ne (pv 14) (pe_def D_law_leg_at (hr.mono (by decide)) (by rfl) (pa_cons (pv 2) (pa_cons (pe_op op_sub (pv 13) pe_int) pa_nil))) (nomark _))))) (pss_one (ps_for PassesOwn.never rfl (pi_range2 (by rfl) T.range (pa_cons (pe_ix (r := rIxT K) ix_tup (pv 8) pe_int (fun _ _ => rfl)) (pa_cons (pe_op op_add (pe_ix (r := rIxT K) ix_tup (pv 8) pe_int (fun _ _ => rfl)) pe_int) pa_nil))) (pg_name (i := 17) sc_law_next.nd rfl (Or.inl rfl))
      (pss_cons (ps_expr (pe_bm PySem.F.plainAttrs_list PySem.F.slot_list_append PySem.F.type_list_append mt_append (pv 12) (pa_cons (pe_def D_law_towards (hr.mono (by decide)) (by rfl) (pa_cons (pv 17) (pa_cons (pv 16) (pa_cons (pe_ix (r := rIxT K) ix_tup (pv 4) pe_int (fun _ _ => rfl)) pa_nil)))) pa_nil)))
    (pss_one (ps_expr (pe_bm PySem.F.plainAttrs_list PySem.F.slot_list_append PySem.F.type_list_append mt_append (pv 12) (pa_cons (pe_def D_law_towards (hr.mono (by decide)) (by rfl) (pa_cons (pv 17) (pa_cons (pv 16) (pa_cons (pe_ix (r := rIxT K) ix_tup (pv 4) pe_int (fun _ _ => rfl)) pa_nil)))) pa_nil)))))))
      pss_nil))))))))
    (pss_one (ps_ret (pe_tup (pa_cons (pe_callB (cr_min rfl) (by rfl) T.min boot_min (pa_cons (pv 10) pa_nil)) (pa_cons (pe_callB (cr_max rfl) (by rfl) T.max boot_max (pa_cons (pv 11) pa_nil)) (pa_cons (pe_callB (cr_min rfl) (by rfl) T.min boot_min (pa_cons (pv 12) pa_nil)) (pa_cons (pe_callB (cr_max rfl) (by rfl) T.max boot_max (pa_cons (pv 12) pa_nil)) pa_nil)))))))))))), ?_⟩
    have n2 := I.R.n2
    have n20 := I.R.n20
    refine ⟨_, rfl, _, rfl, N, rfl, I, fun H0 s0 => ?_⟩
    refine ⟨szOk rfl, fun w1 hw1 => ?_⟩
    refine ⟨szOk rfl, fun w2 hw2 => ?_⟩
    refine ⟨szOk rfl, fun w3 hw3 => ?_⟩
    have z1 : H w1 = none := by
      cases e : H w1 with
      | none => rfl
      | some o => rw [s0 _ _ e] at hw1; cases hw1
    have q1 : (upd H0 w1 (.lst [])) w1 = some (.lst []) := upd_same
    have s1 : Same H (upd H0 w1 (.lst [])) := fun b o e => same_new hw1 _ _ (s0 _ _ e)
    generalize upd H0 w1 (.lst []) = H1 at *
    have q12 := same_new (o := .lst []) hw2 _ _ q1
    have q2 : (upd H1 w2 (.lst [])) w2 = some (.lst []) := upd_same
    have s2 : Same H (upd H1 w2 (.lst [])) := fun b o e => same_new hw2 _ _ (s1 _ _ e)
    have d12 : w1 ≠ w2 := ne_of_none q1 hw2
    have g2 : H w2 = none := by
      cases e : H w2 with
      | none => rfl
      | some o => rw [s1 _ _ e] at hw2; cases hw2
    generalize upd H1 w2 (.lst []) = H2 at *
    have q13 := same_new (o := .lst []) hw3 _ _ q12
    have q23 := same_new (o := .lst []) hw3 _ _ q2
    have q3 : (upd H2 w3 (.lst [])) w3 = some (.lst []) := upd_same
    have s3 : Same H (upd H2 w3 (.lst [])) := fun b o e => same_new hw3 _ _ (s2 _ _ e)
    have d13 : w1 ≠ w3 := ne_of_none q12 hw3
    have d23 : w2 ≠ w3 := ne_of_none q2 hw3
    have g3 : H w3 = none := by
      cases e : H w3 with
      | none => rfl
      | some o => rw [s2 _ _ e] at hw3; cases hw3
    generalize upd H2 w3 (.lst []) = H3 at *
    have hbx3 := s3 _ _ hbx
    refine ⟨_, rfl, _, _, _, .int low, rfl, rfl, .inl (.inl hbx3), rfl, _, rfl, _, _, _, .int high, rfl, rfl, .inl (.inl hbx3), rfl, _, _, rfl, rfl, _, _, rfl, ⟨by omega, by omega, by omega, by omega⟩, for_range (lo := low) (n := (high + 1 - low).toNat) (fun i σ H6 => ∃ v13 v14 v15 v16 v17 L, σ = [some (.ref N.ch), some (.ref N.r), some (.ref b), some (.ref N.cs), some (.ref N.ki), some (.ref N.ru), some (.ref N.wi), some (.int N.tick), some (.ref bx), some (.ref N.qw.1), some (.ref w1), some (.ref w2), some (.ref w3), v13, v14, v15, v16, v17] ∧ Same H H6 ∧ H6 w1 = some (.lst (((List.range i).map (fun j : Nat => low + (j : Int) + N.lf (N.lt (low + (j : Int))))).map V.int)) ∧ H6 w2 = some (.lst (((List.range i).map (fun j : Nat => low + (j : Int) + N.hf (N.lt (low + (j : Int))))).map V.int)) ∧ H6 w3 = some (.lst (L.map V.int)) ∧ L.length ≤ 24 * i ∧ LvOk N low down up i L)
      ⟨none, none, none, none, none, [], rfl, s3, q13, q23, q3, Nat.le_refl _, ⟨(fun _ h => nomatch h), fun p lv r p0 p1 _ _ _ => absurd p1 (by omega)⟩⟩ ?_ ?_⟩
    · rintro i σ H6 hi ⟨v13, v14, v15, v16, v17, L, rfl, s6, r1, r2, r3, hlen, hL⟩
      have I6 := I.same s6
      obtain ⟨kk, hkk⟩ : ∃ n, N.lt (low + (i : Int)) = n := ⟨_, rfl⟩
      have hkl : kk ≤ N.ns.length - 1 - 1 := by rw [← hkk]; exact (lat_cases N.D N.ns _ _).1
      refine ⟨_, rfl, _, rfl, b, low + (i : Int), N.D, N.ns, rfl, s6 _ _ hb, n2, n20, ?_⟩
      rw [show lat N.D N.ns (N.ns.length - 1 - 1) (low + (i : Int)) = kk from hkk]
      refine ⟨_, rfl, _, rfl, _, rfl, _, rfl, _, rfl, _, _, _, .int N.pc, rfl, rfl, .inl (.inl I6.cs), rfl, _, rfl, _, _, rfl, I6.sl, _, rfl, N, b, kk, _, rfl, rfl, I6, s6 _ _ hb, by omega, fun b7 H7 hb7 s7 hB7 => ?_⟩
      have t1 := s7 _ _ r1
      have t2 := s7 _ _ r2
      have t3 := s7 _ _ r3
      have S7 : Same H H7 := fun b o e => s7 _ _ (s6 _ _ e)
      refine ⟨_, rfl, .inl ⟨rfl, _, .inl (.inl t1)⟩, _, rfl, _, rfl, _, _, _, .int (N.lf kk), rfl, rfl, .inl (.inl hB7), rfl, _, _, rfl, rfl, _, _, _, rfl, rfl, t1, by rw [List.length_map, List.length_map, List.length_range]; exact small1000 (by omega), ?_⟩
      have e1 : ((List.range i).map (fun j : Nat => low + (j : Int) + N.lf (N.lt (low + (j : Int))))).map V.int ++ [.int (low + (i : Int) + N.lf kk)] = ((List.range (i + 1)).map (fun j : Nat => low + (j : Int) + N.lf (N.lt (low + (j : Int))))).map V.int := by
        rw [List.range_succ, List.map_append, List.map_append, ← hkk]
        rfl
      rw [e1]
      have ne7 : w1 ≠ b7 := ne_of_none r1 hb7
      have ne72 : w2 ≠ b7 := ne_of_none r2 hb7
      have hB8 : upd H7 w1 (.lst (((List.range (i + 1)).map (fun j : Nat => low + (j : Int) + N.lf (N.lt (low + (j : Int))))).map V.int)) b7 = _ := (upd_ne ne7.symm).trans hB7
      have S8 : Same H (upd H7 w1 (.lst (((List.range (i + 1)).map (fun j : Nat => low + (j : Int) + N.lf (N.lt (low + (j : Int))))).map V.int))) := same_app z1 S7
      have t1 : upd H7 w1 (.lst (((List.range (i + 1)).map (fun j : Nat => low + (j : Int) + N.lf (N.lt (low + (j : Int))))).map V.int)) w1 = some (.lst (((List.range (i + 1)).map (fun j : Nat => low + (j : Int) + N.lf (N.lt (low + (j : Int))))).map V.int)) := upd_same
      have t2 : upd H7 w1 (.lst (((List.range (i + 1)).map (fun j : Nat => low + (j : Int) + N.lf (N.lt (low + (j : Int))))).map V.int)) w2 = _ := (upd_ne d12.symm).trans t2
      have t3 : upd H7 w1 (.lst (((List.range (i + 1)).map (fun j : Nat => low + (j : Int) + N.lf (N.lt (low + (j : Int))))).map V.int)) w3 = _ := (upd_ne d13.symm).trans t3
      generalize upd H7 w1 (.lst (((List.range (i + 1)).map (fun j : Nat => low + (j : Int) + N.lf (N.lt (low + (j : Int))))).map V.int)) = H8 at *
      refine ⟨_, rfl, .inl ⟨rfl, _, .inl (.inl t2)⟩, _, rfl, _, rfl, _, _, _, .int (N.hf kk), rfl, rfl, .inl (.inl hB8), rfl, _, _, rfl, rfl, _, _, _, rfl, rfl, t2, by rw [List.length_map, List.length_map, List.length_range]; exact small1000 (by omega), ?_⟩
      have e2 : ((List.range i).map (fun j : Nat => low + (j : Int) + N.hf (N.lt (low + (j : Int))))).map V.int ++ [.int (low + (i : Int) + N.hf kk)] = ((List.range (i + 1)).map (fun j : Nat => low + (j : Int) + N.hf (N.lt (low + (j : Int))))).map V.int := by
        rw [List.range_succ, List.map_append, List.map_append, ← hkk]
        rfl
      rw [e2]
      have S9 : Same H (upd H8 w2 (.lst (((List.range (i + 1)).map (fun j : Nat => low + (j : Int) + N.hf (N.lt (low + (j : Int))))).map V.int))) := same_app g2 S8
      have t1 : upd H8 w2 (.lst (((List.range (i + 1)).map (fun j : Nat => low + (j : Int) + N.hf (N.lt (low + (j : Int))))).map V.int)) w1 = _ := (upd_ne d12).trans t1
      have t2 : upd H8 w2 (.lst (((List.range (i + 1)).map (fun j : Nat => low + (j : Int) + N.hf (N.lt (low + (j : Int))))).map V.int)) w2 = some (.lst (((List.range (i + 1)).map (fun j : Nat => low + (j : Int) + N.hf (N.lt (low + (j : Int))))).map V.int)) := upd_same
      have t3 : upd H8 w2 (.lst (((List.range (i + 1)).map (fun j : Nat => low + (j : Int) + N.hf (N.lt (low + (j : Int))))).map V.int)) w3 = _ := (upd_ne d23.symm).trans t3
      generalize upd H8 w2 (.lst (((List.range (i + 1)).map (fun j : Nat => low + (j : Int) + N.hf (N.lt (low + (j : Int))))).map V.int)) = H9 at *
      have I9 := I.same S9
      refine ⟨_, rfl, _, rfl, _, rfl, _, rfl, _, _, _, .int N.lv, rfl, rfl, .inl (.inl I9.cs), rfl, N, kk, _, rfl, rfl, I9, by omega, fun H9' s9 => ?_⟩
      have S9 : Same H H9' := fun b o e => s9 _ _ (S9 _ _ e)
      have t1 := s9 _ _ t1
      have t2 := s9 _ _ t2
      have t3 := s9 _ _ t3
      clear I9 s9
      have hbx9 := S9 _ _ hbx
      refine ⟨_, rfl, _, _, rfl, .inl (.inl (.inl t3)), rfl, _, rfl, ite2 (fun e => ?_) (fun e => ?_)⟩
      · refine ⟨_, rfl, _, _, _, .int down, rfl, rfl, .inl (.inl hbx9), rfl, _, rfl, _, _, _, .int up, rfl, rfl, .inl (.inl hbx9), rfl, _, _, rfl, rfl, _, _, rfl, ⟨by omega, by omega, by omega, by omega⟩, for_range (lo := down) (n := (up + 1 - down).toNat) (fun j σ H10 => ∃ v17 L', σ = [some (.ref N.ch), some (.ref N.r), some (.ref b), some (.ref N.cs), some (.ref N.ki), some (.ref N.ru), some (.ref N.wi), some (.int N.tick), some (.ref bx), some (.ref N.qw.1), some (.ref w1), some (.ref w2), some (.ref w3), some (.int (low + (i : Int))), some (.int (kk : Nat)), some (.ref b7), some (.int (N.af kk)), v17] ∧ Same H H10 ∧ H10 w1 = some (.lst (((List.range (i + 1)).map (fun j : Nat => low + (j : Int) + N.lf (N.lt (low + (j : Int))))).map V.int)) ∧ H10 w2 = some (.lst (((List.range (i + 1)).map (fun j : Nat => low + (j : Int) + N.hf (N.lt (low + (j : Int))))).map V.int)) ∧ H10 w3 = some (.lst (L'.map V.int)) ∧ L'.length ≤ 24 * i + 2 * j ∧
            (∀ x ∈ L', x ∈ L ∨ ∃ lv r, down ≤ lv ∧ lv < down + (j : Int) ∧ (r = N.a ∨ r = N.b) ∧ x = tow lv (N.af kk) r) ∧ (∀ x ∈ L, x ∈ L') ∧ (∀ lv r, down ≤ lv → lv < down + (j : Int) → (r = N.a ∨ r = N.b) → tow lv (N.af kk) r ∈ L'))
          ⟨_, L, rfl, S9, t1, t2, t3, by omega, fun x hx => .inl hx, fun x hx => hx, fun lv r l0 l1 _ => absurd l1 (by omega)⟩ ?_ ?_⟩
        · rintro j σ H10 hj ⟨v17, L', rfl, sA, y1, y2, y3, hlen, cA, cB, cC⟩
          have kiA := sA _ _ I.ki
          refine ⟨_, rfl, .inl ⟨rfl, _, .inl (.inl y3)⟩, _, rfl, _, rfl, _, rfl, _, _, _, .int N.a, rfl, rfl, .inl (.inl kiA), rfl, down + (j : Int), N.af kk, N.a, rfl, _, _, _, rfl, rfl, y3, by rw [List.length_map]; exact small1000 (by omega), ?_⟩
          have y3b : (upd H10 w3 (.lst (L'.map V.int ++ [.int (tow (down + (j : Int)) (N.af kk) N.a)]))) w3 = _ := upd_same
          have kiB := (same_app (o := .lst (L'.map V.int ++ [.int (tow (down + (j : Int)) (N.af kk) N.a)])) g3 sA) _ _ I.ki
          refine ⟨_, rfl, .inl ⟨rfl, _, .inl (.inl y3b)⟩, _, rfl, _, rfl, _, rfl, _, _, _, .int N.b, rfl, rfl, .inl (.inl kiB), rfl, down + (j : Int), N.af kk, N.b, rfl, _, _, _, rfl, rfl, y3b, by rw [List.length_append, List.length_map, List.length_singleton]; exact small1000 (by omega), ?_⟩
          refine ⟨_, (L' ++ [tow (down + (j : Int)) (N.af kk) N.a]) ++ [tow (down + (j : Int)) (N.af kk) N.b], rfl, same_app g3 (same_app g3 sA), ?_, ?_, ?_, ?_, ?_, ?_, ?_⟩
          · rw [upd_ne d13, upd_ne d13]; exact y1
          · rw [upd_ne d23, upd_ne d23]; exact y2
          · rw [upd_same, List.map_append, List.map_append]; rfl
          · rw [List.length_append, List.length_append, List.length_singleton, List.length_singleton]; omega
          · intro x hx
            rcases List.mem_append.mp hx with h | h
            · rcases List.mem_append.mp h with h | h
              · rcases cA x h with z | ⟨lv, r, z1, z2, z3⟩
                · exact .inl z
                · exact .inr ⟨lv, r, z1, by omega, z3⟩
              · exact .inr ⟨down + (j : Int), N.a, by omega, by omega, .inl rfl, List.mem_singleton.mp h⟩
            · exact .inr ⟨down + (j : Int), N.b, by omega, by omega, .inr rfl, List.mem_singleton.mp h⟩
          · intro x hx
            exact List.mem_append_left _ (List.mem_append_left _ (cB x hx))
          · intro lv r l0 l1 hr
            by_cases e : lv < down + (j : Int)
            · exact List.mem_append_left _ (List.mem_append_left _ (cC lv r l0 e hr))
            · have e1 : lv = down + (j : Int) := by omega
              subst e1
              rcases hr with rfl | rfl
              · exact List.mem_append_left _ (List.mem_append_right _ (List.mem_singleton.mpr rfl))
              · exact List.mem_append_right _ (List.mem_singleton.mpr rfl)
        rintro σ H10 ⟨v17, L', rfl, sA, y1, y2, y3, hlen, cA, cB, cC⟩
        refine ⟨_, _, _, _, _, L', rfl, sA, y1, y2, y3, by omega, LvOk.step hL (N.af kk) (by rw [← hkk]) (fun x hx => ?_) cB (fun lv r l0 l1 hr => cC lv r l0 (by omega) hr)⟩
        rcases cA x hx with z | ⟨lv, r, z1, z2, z3⟩
        · exact .inl z
        · exact .inr ⟨lv, r, z1, by omega, z3⟩
      have hne : L ≠ [] := fun z => e (decide_eq_true (by rw [z]; rfl))
      refine ⟨_, rfl, _, rfl, _, rfl, _, _, rfl, rfl, b, low + (i : Int) - 1, N.D, N.ns, rfl, S9 _ _ hb, n2, n20, rfl, _, rfl, ite2 (fun e2 => ?_) (fun e2 => ?_)⟩
      · refine ⟨_, rfl, _, _, _, .int down, rfl, rfl, .inl (.inl hbx9), rfl, _, rfl, _, _, _, .int up, rfl, rfl, .inl (.inl hbx9), rfl, _, _, rfl, rfl, _, _, rfl, ⟨by omega, by omega, by omega, by omega⟩, for_range (lo := down) (n := (up + 1 - down).toNat) (fun j σ H10 => ∃ v17 L', σ = [some (.ref N.ch), some (.ref N.r), some (.ref b), some (.ref N.cs), some (.ref N.ki), some (.ref N.ru), some (.ref N.wi), some (.int N.tick), some (.ref bx), some (.ref N.qw.1), some (.ref w1), some (.ref w2), some (.ref w3), some (.int (low + (i : Int))), some (.int (kk : Nat)), some (.ref b7), some (.int (N.af kk)), v17] ∧ Same H H10 ∧ H10 w1 = some (.lst (((List.range (i + 1)).map (fun j : Nat => low + (j : Int) + N.lf (N.lt (low + (j : Int))))).map V.int)) ∧ H10 w2 = some (.lst (((List.range (i + 1)).map (fun j : Nat => low + (j : Int) + N.hf (N.lt (low + (j : Int))))).map V.int)) ∧ H10 w3 = some (.lst (L'.map V.int)) ∧ L'.length ≤ 24 * i + 2 * j ∧
            (∀ x ∈ L', x ∈ L ∨ ∃ lv r, down ≤ lv ∧ lv < down + (j : Int) ∧ (r = N.a ∨ r = N.b) ∧ x = tow lv (N.af kk) r) ∧ (∀ x ∈ L, x ∈ L') ∧ (∀ lv r, down ≤ lv → lv < down + (j : Int) → (r = N.a ∨ r = N.b) → tow lv (N.af kk) r ∈ L'))
          ⟨_, L, rfl, S9, t1, t2, t3, by omega, fun x hx => .inl hx, fun x hx => hx, fun lv r l0 l1 _ => absurd l1 (by omega)⟩ ?_ ?_⟩
        · rintro j σ H10 hj ⟨v17, L', rfl, sA, y1, y2, y3, hlen, cA, cB, cC⟩
          have kiA := sA _ _ I.ki
          refine ⟨_, rfl, .inl ⟨rfl, _, .inl (.inl y3)⟩, _, rfl, _, rfl, _, rfl, _, _, _, .int N.a, rfl, rfl, .inl (.inl kiA), rfl, down + (j : Int), N.af kk, N.a, rfl, _, _, _, rfl, rfl, y3, by rw [List.length_map]; exact small1000 (by omega), ?_⟩
          have y3b : (upd H10 w3 (.lst (L'.map V.int ++ [.int (tow (down + (j : Int)) (N.af kk) N.a)]))) w3 = _ := upd_same
          have kiB := (same_app (o := .lst (L'.map V.int ++ [.int (tow (down + (j : Int)) (N.af kk) N.a)])) g3 sA) _ _ I.ki
          refine ⟨_, rfl, .inl ⟨rfl, _, .inl (.inl y3b)⟩, _, rfl, _, rfl, _, rfl, _, _, _, .int N.b, rfl, rfl, .inl (.inl kiB), rfl, down + (j : Int), N.af kk, N.b, rfl, _, _, _, rfl, rfl, y3b, by rw [List.length_append, List.length_map, List.length_singleton]; exact small1000 (by omega), ?_⟩
          refine ⟨_, (L' ++ [tow (down + (j : Int)) (N.af kk) N.a]) ++ [tow (down + (j : Int)) (N.af kk) N.b], rfl, same_app g3 (same_app g3 sA), ?_, ?_, ?_, ?_, ?_, ?_, ?_⟩
          · rw [upd_ne d13, upd_ne d13]; exact y1
          · rw [upd_ne d23, upd_ne d23]; exact y2
          · rw [upd_same, List.map_append, List.map_append]; rfl
          · rw [List.length_append, List.length_append, List.length_singleton, List.length_singleton]; omega
          · intro x hx
            rcases List.mem_append.mp hx with h | h
            · rcases List.mem_append.mp h with h | h
              · rcases cA x h with z | ⟨lv, r, z1, z2, z3⟩
                · exact .inl z
                · exact .inr ⟨lv, r, z1, by omega, z3⟩
              · exact .inr ⟨down + (j : Int), N.a, by omega, by omega, .inl rfl, List.mem_singleton.mp h⟩
            · exact .inr ⟨down + (j : Int), N.b, by omega, by omega, .inr rfl, List.mem_singleton.mp h⟩
          · intro x hx
            exact List.mem_append_left _ (List.mem_append_left _ (cB x hx))
          · intro lv r l0 l1 hr
            by_cases e : lv < down + (j : Int)
            · exact List.mem_append_left _ (List.mem_append_left _ (cC lv r l0 e hr))
            · have e1 : lv = down + (j : Int) := by omega
              subst e1
              rcases hr with rfl | rfl
              · exact List.mem_append_left _ (List.mem_append_right _ (List.mem_singleton.mpr rfl))
              · exact List.mem_append_right _ (List.mem_singleton.mpr rfl)
        rintro σ H10 ⟨v17, L', rfl, sA, y1, y2, y3, hlen, cA, cB, cC⟩
        refine ⟨_, _, _, _, _, L', rfl, sA, y1, y2, y3, by omega, LvOk.step hL (N.af kk) (by rw [← hkk]) (fun x hx => ?_) cB (fun lv r l0 l1 hr => cC lv r l0 (by omega) hr)⟩
        rcases cA x hx with z | ⟨lv, r, z1, z2, z3⟩
        · exact .inl z
        · exact .inr ⟨lv, r, z1, by omega, z3⟩
      refine ⟨_, _, _, _, _, L, rfl, S9, t1, t2, t3, by omega, LvOk.skip hL hne ?_⟩
      rw [hkk]
      rcases Nat.lt_trichotomy kk (N.lt (low + (i : Int) - 1)) with z | z | z
      · exact absurd (show (!decide (V.int (kk : Nat) = V.int (N.lt (low + (i : Int) - 1) : Nat))) = true by
          rw [decide_eq_false (fun y => by have := V.int.inj y; omega)]; rfl) e2
      · exact z
      · exact absurd (show (!decide (V.int (kk : Nat) = V.int (N.lt (low + (i : Int) - 1) : Nat))) = true by
          rw [decide_eq_false (fun y => by have := V.int.inj y; omega)]; rfl) e2
    rintro σ H6 ⟨v13, v14, v15, v16, v17, L, rfl, s6, r1, r2, r3, hlen, hL⟩
    have lp : ∀ f : Nat → Int, 0 < ((List.range (high + 1 - low).toNat).map f).length := fun f => by rw [List.length_map, List.length_range]; omega
    have lL : 0 < L.length := List.length_pos_of_mem (hL.bw low down N.a (Int.le_refl _) (by omega) (Int.le_refl _) hdu (.inl rfl))
    refine ⟨_, rfl, w1, (List.range (high + 1 - low).toNat).map (fun j : Nat => low + (j : Int) + N.lf (N.lt (low + (j : Int)))), rfl, .inl (.inl r1), lp _, fun m1 m1a m1b => ?_⟩
    refine ⟨_, rfl, w2, (List.range (high + 1 - low).toNat).map (fun j : Nat => low + (j : Int) + N.hf (N.lt (low + (j : Int)))), rfl, .inl (.inl r2), lp _, fun m2 m2a m2b => ?_⟩
    refine ⟨_, rfl, w3, L, rfl, .inl (.inl r3), lL, fun m3 m3a m3b => ?_⟩
    refine ⟨_, rfl, w3, L, rfl, .inl (.inl r3), lL, fun m4 m4a m4b => ?_⟩
    refine ⟨szOk rfl, fun q hq => k q m1 m2 m3 m4 _ ?_ (fun b o e => same_new hq _ _ (s6 _ _ e)) upd_same ?_⟩
    · cases e : H q with
      | none => rfl
      | some o => rw [s6 _ _ e] at hq; cases hq
    · exact NextOf.every (c := (high + 1 - low).toNat) (by omega) I.hab.1 I.hab.2 hdu m1a m1b m2a m2b (fun x hx => let ⟨p, lv, r, h1, h2, h3⟩ := hL.fw x hx; ⟨p, lv, r, h1, by omega, h3⟩) (fun p lv r p0 p1 l0 l1 hr => hL.bw p lv r p0 (by omega) l0 l1 hr) m3a m3b m4a m4b
theorem sc_law : FnScope ["script", "state", "chart", "route", "begins", "kind", "rules", "winds", "tick", "course", "path", "k", "box", "due", "found", "low", "down", "inner", "after", "number"] ["script"] (defScope s_law) := ⟨rfl, rfl, rfl, by decide +kernel, rfl, by decide +kernel, by decide +kernel⟩
theorem ok_law {f : Addr} {fd : FuncData} {C : Addr} (F : Fun K "law" "law" s_law f fd) (T : TxtA mg) (Y : PathY K mg C)
    (D_Path : CDef P w K mg base 5 C "Path" ["self", "chart", "route"] (spPInit C))
    (D_law_start : Def P w K mg base 1 "_law_start" ["script"] (spStart K))
    (D_law_draw : Def P w K mg base 1 "_law_draw" ["state", "bound"] (spDraw K))
    (D_law_pick : Def P w K mg base 2 "_law_pick" ["state", "things"] (spPick K))
    (D_law_chart : Def P w K mg base 4 "_law_chart" ["state", "many", "size"] (spChart K))
    (D_law_walk : Def P w K mg base 3 "_law_walk" ["state", "chart", "most"] (spWalk K))
    (D_law_lengths : Def P w K mg base 2 "_law_lengths" ["chart"] (spLens))
    (D_law_begins : Def P w K mg base 1 "_law_begins" ["lengths", "route"] (spBegins))
    (D_law_kind : Def P w K mg base 3 "_law_kind" ["state"] (spKind K))
    (D_law_rules : Def P w K mg base 3 "_law_rules" ["state"] (spRules K))
    (D_law_winds : Def P w K mg base 2 "_law_winds" ["state"] (spWinds K))
    (D_target : Def P w K mg base 2 "target" ["path", "course", "index"] (spTarget C))
    (D_law_target : Def P w K mg base 2 "_law_target" ["chart", "route", "k", "level"] (spLawTarget C))
    (D_law_box : Def P w K mg base 3 "_law_box" ["state", "begins", "wide"] (spLawBox K))
    (D_law_next : Def P w K mg base 3 "_law_next" ["chart", "route", "begins", "course", "kind", "rules", "winds", "tick", "box"] (spLawNext C))
    (D_next_box : Def P w K mg base 3 "next_box" ["path", "course", "kind", "rules", "winds", "tick", "box"] (spNext C))
    (D_law_is_number : Def P w K mg base 1 "_law_is_number" ["thing"] (spIsNum)) : FnOk P w K mg base CX0 8 f fd ["script"] (spLaw K) := by
  refine F.ok sc_law (fun vs H Q E h => ?_) (fun cdv A outer s H vs Q E hr h => ?_)
  · obtain ⟨_, _, rfl, _⟩ := h
    rfl
  · obtain ⟨a, ns0, rfl, hS, hl0, k⟩ := h
    have hu := hu_of hr
    refine ⟨_, (pss_cons (ps_set (i := 1) sc_law.nd rfl (Or.inl rfl) (pe_def D_law_start (hr.mono (by decide)) (by rfl) (pa_cons (pv 0) pa_nil)))
    (pss_cons (ps_set (i := 2) sc_law.nd rfl (Or.inl rfl) (pe_def D_law_chart (hr.mono (by decide)) (by rfl) (pa_cons (pv 1) (pa_cons (pe_op op_add pe_int (pe_def D_law_draw (hr.mono (by decide)) (by rfl) (pa_cons (pv 1) (pa_cons pe_int pa_nil)))) (pa_cons (pe_def D_law_pick (hr.mono (by decide)) (by rfl) (pa_cons (pv 1) (pa_cons (pe_lst (pa_cons pe_int (pa_cons pe_int (pa_cons pe_int pa_nil)))) pa_nil))) pa_nil)))))
    (pss_cons (ps_if (pt_cmpR op_eq (pe_callB (r := rLenK K) call_len_seq (by rfl) T.len boot_len (pa_cons (pe_dget hu (pv 2) pe_str (fun _ _ => rfl)) pa_nil)) pe_int (nomark _)) (pss_one (ps_ret pe_bl))
      pss_nil)
    (pss_cons (ps_set (i := 3) sc_law.nd rfl (Or.inl rfl) (pe_def D_law_walk (hr.mono (by decide)) (by rfl) (pa_cons (pv 1) (pa_cons (pv 2) (pa_cons pe_int pa_nil)))))
    (pss_cons (ps_set (i := 4) sc_law.nd rfl (Or.inl rfl) (pe_def D_law_begins (hr.mono (by decide)) (by rfl) (pa_cons (pe_def D_law_lengths (hr.mono (by decide)) (by rfl) (pa_cons (pv 2) pa_nil)) (pa_cons (pv 3) pa_nil))))
    (pss_cons (ps_set (i := 5) sc_law.nd rfl (Or.inl rfl) (pe_def D_law_kind (hr.mono (by decide)) (by rfl) (pa_cons (pv 1) pa_nil)))
    (pss_cons (ps_set (i := 6) sc_law.nd rfl (Or.inl rfl) (pe_def D_law_rules (hr.mono (by decide)) (by rfl) (pa_cons (pv 1) pa_nil)))
    (pss_cons (ps_set (i := 7) sc_law.nd rfl (Or.inl rfl) (pe_def D_law_winds (hr.mono (by decide)) (by rfl) (pa_cons (pv 1) pa_nil)))
    (pss_cons (ps_set (i := 8) sc_law.nd rfl (Or.inl rfl) (pe_def D_law_draw (hr.mono (by decide)) (by rfl) (pa_cons (pv 1) (pa_cons pe_int pa_nil))))
    (pss_cons (ps_set (i := 9) sc_law.nd rfl (Or.inl rfl) (pe_tup (pa_cons (pv 3) (pa_cons (pe_op op_add (pe_ix (r := rIxT K) ix_tup (pv 5) pe_int (fun _ _ => rfl)) (pe_def D_law_draw (hr.mono (by decide)) (by rfl) (pa_cons (pv 1) (pa_cons (pe_op op_add (pe_op op_sub (pe_ix (r := rIxT K) ix_tup (pv 5) pe_int (fun _ _ => rfl)) (pe_ix (r := rIxT K) ix_tup (pv 5) pe_int (fun _ _ => rfl))) pe_int) pa_nil)))) (pa_cons (pe_def D_law_pick (hr.mono (by decide)) (by rfl) (pa_cons (pv 1) (pa_cons (pe_lst (pa_cons pe_int (pa_cons pe_int (pa_cons pe_int (pa_cons pe_int (pa_cons pe_int pa_nil)))))) pa_nil))) pa_nil)))))
    (pss_cons (ps_set (i := 10) sc_law.nd rfl (Or.inl rfl) (pe_cdef D_Path (hr.mono (by decide)) (by rfl) (pa_cons (pv 2) (pa_cons (pv 3) pa_nil))))
    (pss_cons (ps_for PassesOwn.never rfl (pi_range1 (by rfl) T.range (pa_cons (pe_op op_sub (pe_callB (r := rLenK K) call_len_seq (by rfl) T.len boot_len (pa_cons (pv 3) pa_nil)) pe_int) pa_nil)) (pg_name (i := 11) sc_law.nd rfl (Or.inl rfl))
      (pss_one (ps_if (pt_cmpR op_ne (pe_def D_target (hr.mono (by decide)) (by rfl) (pa_cons (pv 10) (pa_cons (pv 9) (pa_cons (pv 11) pa_nil)))) (pe_def D_law_target (hr.mono (by decide)) (by rfl) (pa_cons (pv 2) (pa_cons (pv 3) (pa_cons (pv 11) (pa_cons (pe_ix (r := rIxT K) ix_tup (pv 9) pe_int (fun _ _ => rfl)) pa_nil))))) (nomark _)) (pss_one (ps_ret pe_bl))
      pss_nil)))
    (pss_cons (ps_set (i := 12) sc_law.nd rfl (Or.inl rfl) (pe_def D_law_box (hr.mono (by decide)) (by rfl) (pa_cons (pv 1) (pa_cons (pv 4) (pa_cons (pe_def D_law_pick (hr.mono (by decide)) (by rfl) (pa_cons (pv 1) (pa_cons (pe_lst (pa_cons pe_int (pa_cons pe_int (pa_cons pe_int pa_nil)))) pa_nil))) pa_nil)))))
    (pss_cons (ps_set (i := 13) sc_law.nd rfl (Or.inl rfl) (pe_def D_law_next (hr.mono (by decide)) (by rfl) (pa_cons (pv 2) (pa_cons (pv 3) (pa_cons (pv 4) (pa_cons (pv 9) (pa_cons (pv 5) (pa_cons (pv 6) (pa_cons (pv 7) (pa_cons (pv 8) (pa_cons (pv 12) pa_nil)))))))))))
    (pss_cons (ps_set (i := 14) sc_law.nd rfl (Or.inl rfl) (pe_def D_next_box (hr.mono (by decide)) (by rfl) (pa_cons (pv 10) (pa_cons (pv 9) (pa_cons (pv 5) (pa_cons (pv 6) (pa_cons (pv 7) (pa_cons (pv 8) (pa_cons (pv 12) pa_nil)))))))))
    (pss_cons (ps_if (PW.pt (pw_or (pt_not (pt_val (pe_callB call_isi (by rfl) T.isinstance boot_isinstance (pa_cons (pv 14) (pa_cons (pe_bltn (v := .ty "tuple") (by rfl) T.tuple boot_tuple rfl) pa_nil))))) (pw_or (pt_cmpR (op_neD hr.units) (pv 14) (pv 13) (nomark _)) (pw_or1 (pt_not (pt_val (pe_callB (cr_all rfl) (by rfl) T.all boot_all (pa_cons (pe_lc (own := [("number", 19)]) (g := gName 19) (by rfl) sc_law.nd (pi_tup (pv 14)) (blkOk_by (own := [("number", 19)]) (N := ["script", "state", "chart", "route", "begins", "kind", "rules", "winds", "tick", "course", "path", "k", "box", "due", "found", "low", "down", "inner", "after", "number"]) (sc := defScope s_law) (by decide +kernel)) (fun _ _ _ _ _ => (pg_name (i := 19) sc_law.nd rfl (Or.inl rfl))) (fun _ _ _ _ _ => pts_nil) (fun _ _ _ _ _ => (pe_def D_law_is_number (hr.mono (by decide)) (by rfl) (pa_cons (pv 19) pa_nil)))) pa_nil)))))))) (pss_one (ps_ret pe_bl))
      pss_nil)
    (pss_cons (ps_set (i := 15) sc_law.nd rfl (Or.inl rfl) (pe_op op_add (pe_ix (r := rIxT K) ix_tup (pv 12) pe_int (fun _ _ => rfl)) (pe_def D_law_draw (hr.mono (by decide)) (by rfl) (pa_cons (pv 1) (pa_cons (pe_op op_add (pe_op op_sub (pe_ix (r := rIxT K) ix_tup (pv 12) pe_int (fun _ _ => rfl)) (pe_ix (r := rIxT K) ix_tup (pv 12) pe_int (fun _ _ => rfl))) pe_int) pa_nil)))))
    (pss_cons (ps_set (i := 16) sc_law.nd rfl (Or.inl rfl) (pe_op op_add (pe_ix (r := rIxT K) ix_tup (pv 12) pe_int (fun _ _ => rfl)) (pe_def D_law_draw (hr.mono (by decide)) (by rfl) (pa_cons (pv 1) (pa_cons (pe_op op_add (pe_op op_sub (pe_ix (r := rIxT K) ix_tup (pv 12) pe_int (fun _ _ => rfl)) (pe_ix (r := rIxT K) ix_tup (pv 12) pe_int (fun _ _ => rfl))) pe_int) pa_nil)))))
    (pss_cons (ps_set (i := 17) sc_law.nd rfl (Or.inl rfl) (pe_tup (pa_cons (pv 15) (pa_cons (pe_op op_add (pv 15) (pe_def D_law_draw (hr.mono (by decide)) (by rfl) (pa_cons (pv 1) (pa_cons (pe_op op_add (pe_op op_sub (pe_ix (r := rIxT K) ix_tup (pv 12) pe_int (fun _ _ => rfl)) (pv 15)) pe_int) pa_nil)))) (pa_cons (pv 16) (pa_cons (pe_op op_add (pv 16) (pe_def D_law_draw (hr.mono (by decide)) (by rfl) (pa_cons (pv 1) (pa_cons (pe_op op_add (pe_op op_sub (pe_ix (r := rIxT K) ix_tup (pv 12) pe_int (fun _ _ => rfl)) (pv 16)) pe_int) pa_nil)))) pa_nil))))))
    (pss_cons (ps_set (i := 18) sc_law.nd rfl (Or.inl rfl) (pe_def D_next_box (hr.mono (by decide)) (by rfl) (pa_cons (pv 10) (pa_cons (pv 9) (pa_cons (pv 5) (pa_cons (pv 6) (pa_cons (pv 7) (pa_cons (pv 8) (pa_cons (pv 17) pa_nil)))))))))
    (pss_one (ps_ret (pe_and (pe_chain3 op_le op_le op_le (pe_ix (r := rIxT K) ix_tup (pv 13) pe_int (fun _ _ => rfl)) (pe_ix (r := rIxT K) ix_tup (pv 18) pe_int (fun _ _ => rfl)) (pe_ix (r := rIxT K) ix_tup (pv 18) pe_int (fun _ _ => rfl)) (pe_ix (r := rIxT K) ix_tup (pv 13) pe_int (fun _ _ => rfl))) (pe_one (pe_chain3 op_le op_le op_le (pe_ix (r := rIxT K) ix_tup (pv 13) pe_int (fun _ _ => rfl)) (pe_ix (r := rIxT K) ix_tup (pv 18) pe_int (fun _ _ => rfl)) (pe_ix (r := rIxT K) ix_tup (pv 18) pe_int (fun _ _ => rfl)) (pe_ix (r := rIxT K) ix_tup (pv 13) pe_int (fun _ _ => rfl))))))))))))))))))))))))))), ?_⟩
    refine ⟨_, rfl, a, ns0, rfl, hS, hl0, fun d c H0 hd0 hc0 S0 sm0 => ?_⟩
    refine ⟨_, rfl, _, rfl, d, c, _, rfl, S0, by decide, by decide, fun x1 H1 x1a x1b S1 kp1 => ?_⟩
    refine ⟨_, _, rfl, rfl, _, rfl, szOk rfl, fun p2 hp2 => ?_⟩
    refine ⟨d, c, _, _, rfl, S1.new hp2, .inl (.inl upd_same), (fun z => nomatch z), (by show 3 ≤ 1000; decide), fun v3 H3 hv3 S3 kp3 => ?_⟩
    obtain ⟨x3, rfl, x3a, x3b⟩ : ∃ z : Int, v3 = .int z ∧ 1 ≤ z ∧ z ≤ 9000 := by
      simp only [List.mem_cons, List.not_mem_nil, or_false] at hv3
      rcases hv3 with rfl | rfl | rfl <;> exact ⟨_, rfl, by decide, by decide⟩
    refine ⟨d, c, _, _, rfl, S3, by omega, by omega, by omega, by omega, fun D ch H4 hpos C4 hch hfx S4 kp4 => ?_⟩
    have n1 : ch ≠ d := S3.nd hch
    have n2 : D.fx ≠ d := S3.nd hfx
    refine ⟨_, rfl, _, _, rfl, C4.gl, _, _, rfl, .inl (.inl (.inl C4.lg)), rfl, _, rfl, ite2 (fun e => ?_) (fun e => ?_)⟩
    · exact k H4
    have hne : D.ls ≠ [] := fun z => e (decide_eq_true (by rw [z]; rfl))
    refine ⟨_, rfl, _, rfl, d, c, ch, D, _, rfl, S4, C4, n1, n2, hne, by decide, by decide, fun ns r H5 R hr0 hr5 S5 kp5 => ?_⟩
    have C5 := C4.keep S4 kp5 n1 n2
    have ns2 := R.n2
    have ns20 := R.n20
    refine ⟨_, rfl, ch, D, rfl, C5, fun ld H6 hld L6 sm6 => ?_⟩
    refine ⟨_, rfl, ld, r, D, ns, rfl, L6, sm6 _ _ hr5, R, fun b H7 hb sm7 hB7 => ?_⟩
    have S7 := (S5.same sm6).same sm7
    have C7 := (C5.same sm6).same sm7
    have hr7 := sm7 _ _ (sm6 _ _ hr5)
    refine ⟨_, rfl, d, c, rfl, S7, fun ki w0 s0 f0 a0 b0 H8 hki e1 e2 e3 e4 e5 hK8 S8 kp8 => ?_⟩
    have C8 := C7.keep S7 kp8 n1 n2
    have hr8 := kp8.t S7 hr7
    have hB8 := kp8.l S7 hB7
    refine ⟨_, rfl, d, c, rfl, S8, fun ru kvs sl H9 hru hR9 hsl sl0 S9 kp9 => ?_⟩
    have nru : ru ≠ d := S8.nd hru
    have C9 := C8.keep S8 kp9 n1 n2
    have hr9 := kp9.t S8 hr8
    have hB9 := kp9.l S8 hB8
    have hK9 := kp9.t S8 hK8
    refine ⟨_, rfl, d, c, rfl, S9, fun wi qs H10 hwi W10 hqn S10 kp10 => ?_⟩
    have Z10 : PIn K H10 d c ch r b ki ru wi D ns w0 s0 f0 a0 b0 sl qs := ⟨S10, C9.keep S9 kp10 n1 n2, kp10.t S9 hr9, kp10.l S9 hB9, kp10.t S9 hK9, ⟨kvs, kp10 _ _ hR9 nru, hsl⟩, W10, n1, n2, nru⟩
    refine ⟨_, rfl, d, c, _, rfl, S10, by decide, by decide, fun tick H11 tka tkb S11 kp11 => ?_⟩
    have Z11 := Z10.keep S11 kp11
    clear Z10 C9 hr9 hB9 hK9 C8 hr8 hB8 C7 hr7 C5 C4
    refine ⟨_, rfl, _, rfl, _, _, _, .int s0, rfl, rfl, .inl (.inl Z11.hki), rfl, _, rfl, _, rfl, _, _, _, .int f0, rfl, rfl, .inl (.inl Z11.hki), rfl, _, rfl, _, _, _, .int s0, rfl, rfl, .inl (.inl Z11.hki), rfl, _, _, rfl, rfl, _, _, rfl, rfl, d, c, _, rfl, S11, by omega, by omega, fun xp H12 xpa xpb S12 kp12 => ?_⟩
    have Z12 := Z11.keep S12 kp12
    refine ⟨_, _, rfl, rfl, _, rfl, szOk rfl, fun p13 hp13 => ?_⟩
    refine ⟨d, c, _, _, rfl, S12.new hp13, .inl (.inl upd_same), (fun z => nomatch z), (by show 5 ≤ 1000; decide), fun v14 H14 hv14 S14 kp14 => ?_⟩
    obtain ⟨lv, rfl⟩ : ∃ z : Int, v14 = .int z := by
      simp only [List.mem_cons, List.not_mem_nil, or_false] at hv14
      rcases hv14 with rfl | rfl | rfl | rfl | rfl <;> exact ⟨_, rfl⟩
    have Z14 := (Z12.same (same_new hp13)).keep S14 kp14
    refine ⟨szOk rfl, fun cs hcs => ?_⟩
    have Zc := Z14.same (same_new (o := .tup [.ref r, .int (s0 + xp), .int lv]) hcs)
    have hcc : upd H14 cs (.tup [.ref r, .int (s0 + xp), .int lv]) cs = some (.tup [.ref r, .int (s0 + xp), .int lv]) := upd_same
    generalize upd H14 cs (.tup [.ref r, .int (s0 + xp), .int lv]) = Hc at *
    clear Z14 Z12 Z11
    refine ⟨_, rfl, _, rfl, fun q dx hq hdx hqd => ?_⟩
    have smx : Same Hc (upd (upd Hc dx (.own q)) q (.ins C dx [])) := fun b o e => by
      rw [upd_ne (ne_of_none e hq), upd_ne (ne_of_none e hdx)]
      exact e
    refine ⟨q, ch, r, dx, D, ns, rfl, upd_same, Zc.C0.same smx, smx _ _ Zc.hr, R, fun H15 PA fr => ⟨rfl, ?_⟩⟩
    have sm15 : Same Hc H15 := fun b o e => fr b o (smx _ _ e) (ne_of_none e hq)
    have Z15 := Zc.same sm15
    have hcc := sm15 _ _ hcc
    clear Zc fr
    obtain ⟨qw, hqw⟩ : ∃ z, (lb tick qs).getLast? = some z := by
      cases e : (lb tick qs).getLast? with
      | some z => exact ⟨z, rfl⟩
      | none =>
        exfalso
        have hz := List.getLast?_eq_none_iff.mp e
        obtain ⟨q0, rr, hq0, hz0⟩ := Z15.hwi.hd
        rw [hq0] at hz
        unfold lb at hz
        rw [List.filter_cons, if_pos (decide_eq_true (show q0.2.1 ≤ tick by omega))] at hz
        cases hz
    obtain ⟨N, hN⟩ : ∃ N : ND, N = ⟨q, r, ch, cs, ki, ru, wi, D, ns, s0 + xp, lv, w0, s0, f0, a0, b0, sl, tick, qs, qw⟩ := ⟨_, rfl⟩
    have I15 : NIn C H15 ⟨q, r, ch, cs, ki, ru, wi, D, ns, s0 + xp, lv, w0, s0, f0, a0, b0, sl, tick, qs, qw⟩ := ⟨PA, Z15.C0, R, PosR.of R hpos, hcc, Z15.hki, Z15.hru, Z15.hwi, tka, hqw, ⟨e4, e5⟩, sl0, hqn⟩
    refine ⟨_, rfl, _, _, rfl, .inr (.inl (.inl Z15.hr)), _, _, rfl, rfl, ?_⟩
    refine ⟨_, rfl, by rw [List.length_map]; omega, by rw [List.length_map]; omega, for_range (n := (((ns.map V.str).length : Int) - 1).toNat) (fun i σ H2 => ∃ v11, σ = [some (.ref a), some (.ref d), some (.ref ch), some (.ref r), some (.ref b), some (.ref ki), some (.ref ru), some (.ref wi), some (.int tick), some (.ref cs), some (.ref q), v11, none, none, none, none, none, none, none, none] ∧ Same H15 H2) ⟨none, rfl, Same.refl _⟩ ?_ ?_⟩
    · rintro i σ H2 hi ⟨v11, rfl, sm2⟩
      have hi : i + 1 < ns.length := by rw [List.length_map] at hi; omega
      have I2 := I15.same sm2
      refine ⟨_, rfl, _, rfl, _, rfl, _, i, _, rfl, Int.zero_add _, I2, hi, ?_⟩
      refine ⟨_, rfl, _, rfl, _, rfl, _, rfl, _, _, _, .int lv, rfl, rfl, .inl (.inl I2.cs), rfl, _, i, _, rfl, Int.zero_add _, I2, hi, fun H2' sm2' => ?_⟩
      exact ⟨rfl, _, rfl, neN rfl ⟨_, rfl, fun b o e => sm2' _ _ (sm2 _ _ e)⟩⟩
    rintro σ H16 ⟨v11, rfl, sm16⟩
    have Z16 := Z15.same sm16
    have I16 := I15.same sm16
    clear I15 Z15 PA
    refine ⟨_, rfl, _, rfl, _, rfl, szOk rfl, fun p17 hp17 => ?_⟩
    refine ⟨d, c, _, _, rfl, Z16.S.new hp17, .inl (.inl upd_same), (fun z => nomatch z), (by show 3 ≤ 1000; decide), fun v18 H18 hv18 S18 kp18 => ?_⟩
    obtain ⟨wide, rfl, wia, wib⟩ : ∃ z : Int, v18 = .int z ∧ 1 ≤ z ∧ z ≤ 41 := by
      simp only [List.mem_cons, List.not_mem_nil, or_false] at hv18
      rcases hv18 with rfl | rfl | rfl <;> exact ⟨_, rfl, by decide, by decide⟩
    have Z17 := Z16.same (same_new (o := .lst [.int 1, .int 6, .int 41]) hp17)
    have Z18 := Z17.keep S18 kp18
    have I18 := (I16.same (same_new (o := .lst [.int 1, .int 6, .int 41]) hp17)).keep Z17.S kp18 n1 n2 nru
    refine ⟨d, c, b, D, ns, wide, rfl, S18, Z18.hb, Z18.C0.bd, ns2, ns20, wia, wib, fun bx low high down up H19 hbx hlh h40 hdu h11 lb0 lb1 db0 db1 hX19 S19 kp19 => ?_⟩
    have Z19 := Z18.keep S19 kp19
    have I19 := I18.keep S18 kp19 n1 n2 nru
    refine ⟨_, rfl, _, rfl, _, rfl, _, rfl, _, rfl, _, rfl, _, rfl, _, rfl, _, rfl, _, b, bx, low, high, down, up, rfl, I19, Z19.hb, hX19, hlh, h40, hdu, h11, lb0, lb1, db0, db1, fun du v0 v1 v2 v3 H20 hdu20 sm20 hD20 X20 => ?_⟩
    have I20 := I19.same sm20
    refine ⟨_, rfl, _, rfl, _, rfl, _, rfl, _, rfl, _, rfl, _, rfl, _, bx, low, high, down, up, rfl, I20, sm20 _ _ hX19, hlh, hdu, fun fo u0 u1 u2 u3 H21 hfo sm21 hF21 X21 => ?_⟩
    obtain ⟨rfl, rfl, rfl, rfl⟩ := X21.uniq X20
    have hD21 := sm21 _ _ hD20
    have hX21 := sm21 _ _ (sm20 _ _ hX19)
    have Z21 := (Z19.same sm20).same sm21
    have I21 := I20.same sm21
    refine ⟨_, rfl, _, _, _, _, true, rfl, ClsV.ty "tuple", TyX.base (TyOf.tup hF21), kit_ty (by decide +kernel), ?_⟩
    refine ⟨_, rfl, iteF ?_⟩
    refine ⟨_, rfl, _, rfl, _, _, Dp.tup (.inl (.inl hF21)) (dpAll_int [u0, u1, u2, u3]), Dp.tup (.inl (.inl hD21)) (dpAll_int [u0, u1, u2, u3]), rfl, rfl, _, rfl, eqvN rfl ?_⟩
    refine ⟨_, rfl, fo, rfl, ⟨_, .inl (.inl hF21)⟩, fun E hE => ?_⟩
    refine lc_tup (K := K) (a := fo) (xs := [u0, u1, u2, u3].map V.int) (fun j H3 => H3 = upd H21 E (.lst ((List.replicate j true).map V.bl))) rfl (fun j H3 _ e => .inl (.inl (by rw [e, upd_ne (ne_of_none hF21 hE)]; exact hF21))) ?_ ?_
    · rintro j y H3 hj rfl
      obtain ⟨x, rfl, _, hjl, _⟩ := getInt hj
      have hjl : j < 4 := hjl
      refine ⟨rfl, ?_⟩
      refine ⟨_, rfl, x, rfl, _, upd_same, (by rw [List.length_map, List.length_replicate]; exact small1000 (by omega)), ?_⟩
      rw [upd_upd, List.replicate_succ', List.map_append]
      rfl
    rintro H3 rfl
    have sm22 := same_new (o := .lst ((List.replicate ([u0, u1, u2, u3].map V.int).length true).map V.bl)) hE
    refine ⟨E, _, rfl, .inl (.inl upd_same), ?_⟩
    have er : ∀ n, (List.replicate n true).all id = true := fun n => List.all_eq_true.mpr fun b hb => (List.eq_of_mem_replicate hb)
    rw [er]
    refine ⟨_, rfl, iteF ?_⟩
    have Z22 := Z21.same sm22
    have I22 := I21.same sm22
    have hD22 := sm22 _ _ hD21
    have hX22 := sm22 _ _ hX21
    generalize upd H21 E (.lst ((List.replicate ([u0, u1, u2, u3].map V.int).length true).map V.bl)) = H22 at *
    clear Z21 I21 I20 I19 Z19 I18 Z18 Z17 I16 Z16
    refine ⟨_, rfl, _, _, _, .int low, rfl, rfl, .inl (.inl hX22), rfl, _, rfl, _, rfl, _, _, _, .int high, rfl, rfl, .inl (.inl hX22), rfl, _, rfl, _, _, _, .int low, rfl, rfl, .inl (.inl hX22), rfl, _, _, rfl, rfl, _, _, rfl, rfl, d, c, _, rfl, Z22.S, by omega, by omega, fun y1 H23 y1a y1b S23 kp23 => ?_⟩
    have hX23 := kp23.t Z22.S hX22
    have hD23 := kp23.t Z22.S hD22
    have I23 := I22.keep Z22.S kp23 n1 n2 nru
    refine ⟨_, _, rfl, rfl, ?_⟩
    refine ⟨_, rfl, _, _, _, .int down, rfl, rfl, .inl (.inl hX23), rfl, _, rfl, _, rfl, _, _, _, .int up, rfl, rfl, .inl (.inl hX23), rfl, _, rfl, _, _, _, .int down, rfl, rfl, .inl (.inl hX23), rfl, _, _, rfl, rfl, _, _, rfl, rfl, d, c, _, rfl, S23, by omega, by omega, fun y2 H24 y2a y2b S24 kp24 => ?_⟩
    have hX24 := kp24.t S23 hX23
    have hD24 := kp24.t S23 hD23
    have I24 := I23.keep S23 kp24 n1 n2 nru
    refine ⟨_, _, rfl, rfl, ?_⟩
    refine ⟨_, rfl, _, rfl, _, rfl, _, rfl, _, _, _, .int high, rfl, rfl, .inl (.inl hX24), rfl, _, rfl, _, _, rfl, rfl, _, _, rfl, rfl, d, c, _, rfl, S24, by omega, by omega, fun y3 H25 y3a y3b S25 kp25 => ?_⟩
    have hX25 := kp25.t S24 hX24
    have hD25 := kp25.t S24 hD24
    have I25 := I24.keep S24 kp25 n1 n2 nru
    refine ⟨_, _, rfl, rfl, _, rfl, _, rfl, _, rfl, _, rfl, _, _, _, .int up, rfl, rfl, .inl (.inl hX25), rfl, _, rfl, _, _, rfl, rfl, _, _, rfl, rfl, d, c, _, rfl, S25, by omega, by omega, fun y4 H26 y4a y4b S26 kp26 => ?_⟩
    have hD26 := kp26.t S25 hD25
    have I26 := I25.keep S25 kp26 n1 n2 nru
    refine ⟨_, _, rfl, rfl, szOk rfl, fun inn hin => ?_⟩
    have I27 := I26.same (same_new (o := .tup [.int (low + y1), .int (low + y1 + y3), .int (down + y2), .int (down + y2 + y4)]) hin)
    have hD27 := same_new (o := .tup [.int (low + y1), .int (low + y1 + y3), .int (down + y2), .int (down + y2 + y4)]) hin _ _ hD26
    refine ⟨_, rfl, _, rfl, _, rfl, _, rfl, _, rfl, _, rfl, _, rfl, _, inn, low + y1, low + y1 + y3, down + y2, down + y2 + y4, rfl, I27, upd_same, by omega, by omega, fun af t0 t1 t2 t3 H28 haf sm28 hA28 X28 => ?_⟩
    have hD28 := sm28 _ _ hD27
    have Z := X20.inner X28 e4 e5 (fun x => I27.lh _ (by
      have h0 := (lat_cases D ns (ns.length - 1 - 1) x).1
      show lat D ns (ns.length - 1 - 1) x + 1 < ns.length
      omega)) (by omega) (by omega) (by omega) (by omega) (by omega)
    obtain ⟨i1, i2, i3, i4, i5, i6⟩ := Z
    refine ⟨_, rfl, _, _, _, .int u0, rfl, rfl, .inl (.inl hD28), rfl, _, rfl, _, _, _, .int t0, rfl, rfl, .inl (.inl hA28), rfl, _, _, rfl, rfl, _, rfl, ifY i1 ?_⟩
    refine ⟨_, rfl, _, _, _, .int t1, rfl, rfl, .inl (.inl hA28), rfl, _, _, rfl, rfl, _, rfl, ifY i2 ?_⟩
    refine ⟨_, rfl, _, _, _, .int u1, rfl, rfl, .inl (.inl hD28), rfl, _, _, rfl, rfl, _, rfl, ifY i3 ?_⟩
    refine ⟨_, rfl, _, _, _, .int u2, rfl, rfl, .inl (.inl hD28), rfl, _, rfl, _, _, _, .int t2, rfl, rfl, .inl (.inl hA28), rfl, _, _, rfl, rfl, _, rfl, ifY i4 ?_⟩
    refine ⟨_, rfl, _, _, _, .int t3, rfl, rfl, .inl (.inl hA28), rfl, _, _, rfl, rfl, _, rfl, ifY i5 ?_⟩
    refine ⟨_, rfl, _, _, _, .int u3, rfl, rfl, .inl (.inl hD28), rfl, _, _, rfl, rfl, ?_⟩
    have kf := k H28
    rw [← decide_eq_true i6] at kf
    exact kf
end
end Sk

set_option Elab.async false
set_option linter.all false
set_option maxRecDepth 100000
set_option maxHeartbeats 4000000
namespace Sk
open PySem PySem.Spec PyProof.Rows L2
/-! the end -/
theorem all_mk {l : PySem.W.OpenLaw} {w : World} {K : PySem.W.Frag} {h : Heap} {mg : Str → Option Value} {fa C f1 f2 f3 f4 f5 f6 f7 f8 f9 f10 f11 f12 f13 f14 f15 f16 f17 f18 f19 f20 f21 f22 f23 f24 f25 f26 f27 f28 f29 f30 f31 f32 f33 f34 f35 f36 f37 f38 f39 f40 f41 f42 : Addr} (X : K.In h) (G : h.Ns mainGlobals mg) (hfa : mg "law" = some (.ref fa))
    {od1 an1 od2 an2 od3 an3 od4 an4 od5 an5 od6 an6 od7 an7 od8 an8 od9 an9 od10 an10 od11 an11 od12 an12 od13 an13 od14 an14 od15 an15 od16 an16 od17 an17 od18 an18 od19 an19 od20 an20 od21 an21 od22 an22 od23 an23 od24 an24 od25 an25 od26 an26 od27 an27 od28 an28 od29 an29 od30 an30 od31 an31 od32 an32 od33 an33 od34 an34 od35 an35 od36 an36 od37 an37 od38 an38 od39 an39 od40 an40 od41 an41 od42 an42 : Option Addr} {sl1 sl2 sl3 sl4 sl5 sl6 sl7 sl8 sl9 sl10 sl11 sl12 sl13 sl14 sl15 sl16 sl17 sl18 sl19 sl20 sl21 sl22 sl23 sl24 sl25 sl26 sl27 sl28 sl29 sl30 sl31 sl32 sl33 sl34 sl35 sl36 sl37 sl38 sl39 sl40 sl41 sl42 : Array (Option Value)} {oc1 kV1 dc1 pm1 cd1 ct1 oc2 kV2 dc2 pm2 cd2 ct2 oc3 kV3 dc3 pm3 cd3 ct3 oc4 kV4 dc4 pm4 cd4 ct4 oc5 kV5 dc5 pm5 cd5 ct5 oc6 kV6 dc6 pm6 cd6 ct6 oc7 kV7 dc7 pm7 cd7 ct7 oc8 kV8 dc8 pm8 cd8 ct8 oc9 kV9 dc9 pm9 cd9 ct9 oc10 kV10 dc10 pm10 cd10 ct10 oc11 kV11 dc11 pm11 cd11 ct11 oc12 kV12 dc12 pm12 cd12 ct12 oc13 kV13 dc13 pm13 cd13 ct13 oc14 kV14 dc14 pm14 cd14 ct14 oc15 kV15 dc15 pm15 cd15 ct15 oc16 kV16 dc16 pm16 cd16 ct16 oc17 kV17 dc17 pm17 cd17 ct17 oc18 kV18 dc18 pm18 cd18 ct18 oc19 kV19 dc19 pm19 cd19 ct19 oc20 kV20 dc20 pm20 cd20 ct20 oc21 kV21 dc21 pm21 cd21 ct21 oc22 kV22 dc22 pm22 cd22 ct22 oc23 kV23 dc23 pm23 cd23 ct23 oc24 kV24 dc24 pm24 cd24 ct24 oc25 kV25 dc25 pm25 cd25 ct25 oc26 kV26 dc26 pm26 cd26 ct26 oc27 kV27 dc27 pm27 cd27 ct27 oc28 kV28 dc28 pm28 cd28 ct28 oc29 kV29 dc29 pm29 cd29 ct29 oc30 kV30 dc30 pm30 cd30 ct30 oc31 kV31 dc31 pm31 cd31 ct31 oc32 kV32 dc32 pm32 cd32 ct32 oc33 kV33 dc33 pm33 cd33 ct33 oc34 kV34 dc34 pm34 cd34 ct34 oc35 kV35 dc35 pm35 cd35 ct35 oc36 kV36 dc36 pm36 cd36 ct36 oc37 kV37 dc37 pm37 cd37 ct37 oc38 kV38 dc38 pm38 cd38 ct38 oc39 kV39 dc39 pm39 cd39 ct39 oc40 kV40 dc40 pm40 cd40 ct40 oc41 kV41 dc41 pm41 cd41 ct41 oc42 kV42 dc42 pm42 cd42 ct42 : Value}
    (aC : PySem.W.nsIn K mainGlobals "Path" = some (some (.ref C))) (pg : PySem.W.plainGet K C Str.empty = true) (hd : PySem.W.hasDictIn K C = true) (po : PySem.W.plainOver K C = true) (sa : PySem.W.findIn K (.ref C) "__setattr__" = some (some (.builtin "object.__setattr__"))) (mk : PySem.W.makesIn K C = true) (kc : PySem.W.keepIn K (.ref C) = true)
    (nA1 : PySem.W.findIn K (.ref C) "_route" = some none) (nA2 : PySem.W.findIn K (.ref C) "_legs" = some none) (nA3 : PySem.W.findIn K (.ref C) "_starts" = some none) (nA4 : PySem.W.findIn K (.ref C) "_vectors" = some none) (nA5 : PySem.W.findIn K (.ref C) "_begins" = some none)
    (a1 : PySem.W.nsIn K mainGlobals "_law_start" = some (some (.ref f1))) (l1 : K.lookup f1 = some ⟨oc1, od1, .func (PySem.W.fnOf "_law_start" "_law_start" (defArgs s_law_start) (defBody s_law_start) (defScope s_law_start) .none kV1 dc1 pm1 an1 cd1 ct1), sl1⟩) (c1 : PySem.W.codeIn K cd1 "_law_start" = true) (k1 : PySem.W.keepIn K (.ref f1) = true)
    (a2 : PySem.W.nsIn K mainGlobals "_law_draw" = some (some (.ref f2))) (l2 : K.lookup f2 = some ⟨oc2, od2, .func (PySem.W.fnOf "_law_draw" "_law_draw" (defArgs s_law_draw) (defBody s_law_draw) (defScope s_law_draw) .none kV2 dc2 pm2 an2 cd2 ct2), sl2⟩) (c2 : PySem.W.codeIn K cd2 "_law_draw" = true) (k2 : PySem.W.keepIn K (.ref f2) = true)
    (a3 : PySem.W.nsIn K mainGlobals "_law_pick" = some (some (.ref f3))) (l3 : K.lookup f3 = some ⟨oc3, od3, .func (PySem.W.fnOf "_law_pick" "_law_pick" (defArgs s_law_pick) (defBody s_law_pick) (defScope s_law_pick) .none kV3 dc3 pm3 an3 cd3 ct3), sl3⟩) (c3 : PySem.W.codeIn K cd3 "_law_pick" = true) (k3 : PySem.W.keepIn K (.ref f3) = true)
    (a4 : PySem.W.nsIn K mainGlobals "_law_is_number" = some (some (.ref f4))) (l4 : K.lookup f4 = some ⟨oc4, od4, .func (PySem.W.fnOf "_law_is_number" "_law_is_number" (defArgs s_law_is_number) (defBody s_law_is_number) (defScope s_law_is_number) .none kV4 dc4 pm4 an4 cd4 ct4), sl4⟩) (c4 : PySem.W.codeIn K cd4 "_law_is_number" = true) (k4 : PySem.W.keepIn K (.ref f4) = true)
    (a5 : PySem.W.nsIn K mainGlobals "root_down" = some (some (.ref f5))) (l5 : K.lookup f5 = some ⟨oc5, od5, .func (PySem.W.fnOf "root_down" "root_down" (defArgs s_root_down) (defBody s_root_down) (defScope s_root_down) .none kV5 dc5 pm5 an5 cd5 ct5), sl5⟩) (c5 : PySem.W.codeIn K cd5 "root_down" = true) (k5 : PySem.W.keepIn K (.ref f5) = true)
    (a6 : PySem.W.nsIn K mainGlobals "root_up" = some (some (.ref f6))) (l6 : K.lookup f6 = some ⟨oc6, od6, .func (PySem.W.fnOf "root_up" "root_up" (defArgs s_root_up) (defBody s_root_up) (defScope s_root_up) .none kV6 dc6 pm6 an6 cd6 ct6), sl6⟩) (c6 : PySem.W.codeIn K cd6 "root_up" = true) (k6 : PySem.W.keepIn K (.ref f6) = true)
    (a7 : PySem.W.nsIn K mainGlobals "leg_length" = some (some (.ref f7))) (l7 : K.lookup f7 = some ⟨oc7, od7, .func (PySem.W.fnOf "leg_length" "leg_length" (defArgs s_leg_length) (defBody s_leg_length) (defScope s_leg_length) .none kV7 dc7 pm7 an7 cd7 ct7), sl7⟩) (c7 : PySem.W.codeIn K cd7 "leg_length" = true) (k7 : PySem.W.keepIn K (.ref f7) = true)
    (a8 : PySem.W.nsIn K mainGlobals "leg_between" = some (some (.ref f8))) (l8 : K.lookup f8 = some ⟨oc8, od8, .func (PySem.W.fnOf "leg_between" "leg_between" (defArgs s_leg_between) (defBody s_leg_between) (defScope s_leg_between) .none kV8 dc8 pm8 an8 cd8 ct8), sl8⟩) (c8 : PySem.W.codeIn K cd8 "leg_between" = true) (k8 : PySem.W.keepIn K (.ref f8) = true)
    (a9 : PySem.W.nsIn K mainGlobals "_law_root_up" = some (some (.ref f9))) (l9 : K.lookup f9 = some ⟨oc9, od9, .func (PySem.W.fnOf "_law_root_up" "_law_root_up" (defArgs s_law_root_up) (defBody s_law_root_up) (defScope s_law_root_up) .none kV9 dc9 pm9 an9 cd9 ct9), sl9⟩) (c9 : PySem.W.codeIn K cd9 "_law_root_up" = true) (k9 : PySem.W.keepIn K (.ref f9) = true)
    (a10 : PySem.W.nsIn K mainGlobals "_law_names" = some (some (.ref f10))) (l10 : K.lookup f10 = some ⟨oc10, od10, .func (PySem.W.fnOf "_law_names" "_law_names" (defArgs s_law_names) (defBody s_law_names) (defScope s_law_names) .none kV10 dc10 pm10 an10 cd10 ct10), sl10⟩) (c10 : PySem.W.codeIn K cd10 "_law_names" = true) (k10 : PySem.W.keepIn K (.ref f10) = true)
    (a11 : PySem.W.nsIn K mainGlobals "_law_legs" = some (some (.ref f11))) (l11 : K.lookup f11 = some ⟨oc11, od11, .func (PySem.W.fnOf "_law_legs" "_law_legs" (defArgs s_law_legs) (defBody s_law_legs) (defScope s_law_legs) .none kV11 dc11 pm11 an11 cd11 ct11), sl11⟩) (c11 : PySem.W.codeIn K cd11 "_law_legs" = true) (k11 : PySem.W.keepIn K (.ref f11) = true)
    (a12 : PySem.W.nsIn K mainGlobals "_law_chart" = some (some (.ref f12))) (l12 : K.lookup f12 = some ⟨oc12, od12, .func (PySem.W.fnOf "_law_chart" "_law_chart" (defArgs s_law_chart) (defBody s_law_chart) (defScope s_law_chart) .none kV12 dc12 pm12 an12 cd12 ct12), sl12⟩) (c12 : PySem.W.codeIn K cd12 "_law_chart" = true) (k12 : PySem.W.keepIn K (.ref f12) = true)
    (a13 : PySem.W.nsIn K mainGlobals "_law_leg" = some (some (.ref f13))) (l13 : K.lookup f13 = some ⟨oc13, od13, .func (PySem.W.fnOf "_law_leg" "_law_leg" (defArgs s_law_leg) (defBody s_law_leg) (defScope s_law_leg) .none kV13 dc13 pm13 an13 cd13 ct13), sl13⟩) (c13 : PySem.W.codeIn K cd13 "_law_leg" = true) (k13 : PySem.W.keepIn K (.ref f13) = true)
    (a14 : PySem.W.nsIn K mainGlobals "_law_lengths" = some (some (.ref f14))) (l14 : K.lookup f14 = some ⟨oc14, od14, .func (PySem.W.fnOf "_law_lengths" "_law_lengths" (defArgs s_law_lengths) (defBody s_law_lengths) (defScope s_law_lengths) .none kV14 dc14 pm14 an14 cd14 ct14), sl14⟩) (c14 : PySem.W.codeIn K cd14 "_law_lengths" = true) (k14 : PySem.W.keepIn K (.ref f14) = true)
    (a15 : PySem.W.nsIn K mainGlobals "_law_walk" = some (some (.ref f15))) (l15 : K.lookup f15 = some ⟨oc15, od15, .func (PySem.W.fnOf "_law_walk" "_law_walk" (defArgs s_law_walk) (defBody s_law_walk) (defScope s_law_walk) .none kV15 dc15 pm15 an15 cd15 ct15), sl15⟩) (c15 : PySem.W.codeIn K cd15 "_law_walk" = true) (k15 : PySem.W.keepIn K (.ref f15) = true)
    (a16 : PySem.W.findIn K (.ref C) "total" = some (some (.ref f16))) (i16 : PySem.W.isFn K (.ref f16) = true) (l16 : K.lookup f16 = some ⟨oc16, od16, .func (PySem.W.fnOf "total" "Path.total" (defArgs s_Path_total) (defBody s_Path_total) (defScope s_Path_total) .none kV16 dc16 pm16 an16 cd16 ct16), sl16⟩) (c16 : PySem.W.codeIn K cd16 "Path.total" = true) (k16 : PySem.W.keepIn K (.ref f16) = true)
    (a17 : PySem.W.findIn K (.ref C) "leg_at" = some (some (.ref f17))) (i17 : PySem.W.isFn K (.ref f17) = true) (l17 : K.lookup f17 = some ⟨oc17, od17, .func (PySem.W.fnOf "leg_at" "Path.leg_at" (defArgs s_Path_leg_at) (defBody s_Path_leg_at) (defScope s_Path_leg_at) .none kV17 dc17 pm17 an17 cd17 ct17), sl17⟩) (c17 : PySem.W.codeIn K cd17 "Path.leg_at" = true) (k17 : PySem.W.keepIn K (.ref f17) = true)
    (a18 : PySem.W.findIn K (.ref C) "begin" = some (some (.ref f18))) (i18 : PySem.W.isFn K (.ref f18) = true) (l18 : K.lookup f18 = some ⟨oc18, od18, .func (PySem.W.fnOf "begin" "Path.begin" (defArgs s_Path_begin) (defBody s_Path_begin) (defScope s_Path_begin) .none kV18 dc18 pm18 an18 cd18 ct18), sl18⟩) (c18 : PySem.W.codeIn K cd18 "Path.begin" = true) (k18 : PySem.W.keepIn K (.ref f18) = true)
    (a19 : PySem.W.findIn K (.ref C) "leg" = some (some (.ref f19))) (i19 : PySem.W.isFn K (.ref f19) = true) (l19 : K.lookup f19 = some ⟨oc19, od19, .func (PySem.W.fnOf "leg" "Path.leg" (defArgs s_Path_leg) (defBody s_Path_leg) (defScope s_Path_leg) .none kV19 dc19 pm19 an19 cd19 ct19), sl19⟩) (c19 : PySem.W.codeIn K cd19 "Path.leg" = true) (k19 : PySem.W.keepIn K (.ref f19) = true)
    (a20 : PySem.W.findIn K (.ref C) "vector" = some (some (.ref f20))) (i20 : PySem.W.isFn K (.ref f20) = true) (l20 : K.lookup f20 = some ⟨oc20, od20, .func (PySem.W.fnOf "vector" "Path.vector" (defArgs s_Path_vector) (defBody s_Path_vector) (defScope s_Path_vector) .none kV20 dc20 pm20 an20 cd20 ct20), sl20⟩) (c20 : PySem.W.codeIn K cd20 "Path.vector" = true) (k20 : PySem.W.keepIn K (.ref f20) = true)
    (a21 : PySem.W.findIn K (.ref C) "_join" = some (some (.ref f21))) (i21 : PySem.W.isFn K (.ref f21) = true) (l21 : K.lookup f21 = some ⟨oc21, od21, .func (PySem.W.fnOf "_join" "Path._join" (defArgs s_Path__join) (defBody s_Path__join) (defScope s_Path__join) .none kV21 dc21 pm21 an21 cd21 ct21), sl21⟩) (c21 : PySem.W.codeIn K cd21 "Path._join" = true) (k21 : PySem.W.keepIn K (.ref f21) = true)
    (a22 : PySem.W.findIn K (.ref C) "__init__" = some (some (.ref f22))) (i22 : PySem.W.isFn K (.ref f22) = true) (l22 : K.lookup f22 = some ⟨oc22, od22, .func (PySem.W.fnOf "__init__" "Path.__init__" (defArgs s_Path___init__) (defBody s_Path___init__) (defScope s_Path___init__) .none kV22 dc22 pm22 an22 cd22 ct22), sl22⟩) (c22 : PySem.W.codeIn K cd22 "Path.__init__" = true) (k22 : PySem.W.keepIn K (.ref f22) = true)
    (a23 : PySem.W.nsIn K mainGlobals "wind_at" = some (some (.ref f23))) (l23 : K.lookup f23 = some ⟨oc23, od23, .func (PySem.W.fnOf "wind_at" "wind_at" (defArgs s_wind_at) (defBody s_wind_at) (defScope s_wind_at) .none kV23 dc23 pm23 an23 cd23 ct23), sl23⟩) (c23 : PySem.W.codeIn K cd23 "wind_at" = true) (k23 : PySem.W.keepIn K (.ref f23) = true)
    (a24 : PySem.W.nsIn K mainGlobals "step_bounds" = some (some (.ref f24))) (l24 : K.lookup f24 = some ⟨oc24, od24, .func (PySem.W.fnOf "step_bounds" "step_bounds" (defArgs s_step_bounds) (defBody s_step_bounds) (defScope s_step_bounds) .none kV24 dc24 pm24 an24 cd24 ct24), sl24⟩) (c24 : PySem.W.codeIn K cd24 "step_bounds" = true) (k24 : PySem.W.keepIn K (.ref f24) = true)
    (a25 : PySem.W.nsIn K mainGlobals "_law_begins" = some (some (.ref f25))) (l25 : K.lookup f25 = some ⟨oc25, od25, .func (PySem.W.fnOf "_law_begins" "_law_begins" (defArgs s_law_begins) (defBody s_law_begins) (defScope s_law_begins) .none kV25 dc25 pm25 an25 cd25 ct25), sl25⟩) (c25 : PySem.W.codeIn K cd25 "_law_begins" = true) (k25 : PySem.W.keepIn K (.ref f25) = true)
    (a26 : PySem.W.nsIn K mainGlobals "_law_leg_at" = some (some (.ref f26))) (l26 : K.lookup f26 = some ⟨oc26, od26, .func (PySem.W.fnOf "_law_leg_at" "_law_leg_at" (defArgs s_law_leg_at) (defBody s_law_leg_at) (defScope s_law_leg_at) .none kV26 dc26 pm26 an26 cd26 ct26), sl26⟩) (c26 : PySem.W.codeIn K cd26 "_law_leg_at" = true) (k26 : PySem.W.keepIn K (.ref f26) = true)
    (a27 : PySem.W.nsIn K mainGlobals "_within" = some (some (.ref f27))) (l27 : K.lookup f27 = some ⟨oc27, od27, .func (PySem.W.fnOf "_within" "_within" (defArgs s_within) (defBody s_within) (defScope s_within) .none kV27 dc27 pm27 an27 cd27 ct27), sl27⟩) (c27 : PySem.W.codeIn K cd27 "_within" = true) (k27 : PySem.W.keepIn K (.ref f27) = true)
    (a28 : PySem.W.nsIn K mainGlobals "_lowest" = some (some (.ref f28))) (l28 : K.lookup f28 = some ⟨oc28, od28, .func (PySem.W.fnOf "_lowest" "_lowest" (defArgs s_lowest) (defBody s_lowest) (defScope s_lowest) .none kV28 dc28 pm28 an28 cd28 ct28), sl28⟩) (c28 : PySem.W.codeIn K cd28 "_lowest" = true) (k28 : PySem.W.keepIn K (.ref f28) = true)
    (a29 : PySem.W.nsIn K mainGlobals "_highest" = some (some (.ref f29))) (l29 : K.lookup f29 = some ⟨oc29, od29, .func (PySem.W.fnOf "_highest" "_highest" (defArgs s_highest) (defBody s_highest) (defScope s_highest) .none kV29 dc29 pm29 an29 cd29 ct29), sl29⟩) (c29 : PySem.W.codeIn K cd29 "_highest" = true) (k29 : PySem.W.keepIn K (.ref f29) = true)
    (a30 : PySem.W.nsIn K mainGlobals "target" = some (some (.ref f30))) (l30 : K.lookup f30 = some ⟨oc30, od30, .func (PySem.W.fnOf "target" "target" (defArgs s_target) (defBody s_target) (defScope s_target) .none kV30 dc30 pm30 an30 cd30 ct30), sl30⟩) (c30 : PySem.W.codeIn K cd30 "target" = true) (k30 : PySem.W.keepIn K (.ref f30) = true)
    (a31 : PySem.W.nsIn K mainGlobals "_bounds" = some (some (.ref f31))) (l31 : K.lookup f31 = some ⟨oc31, od31, .func (PySem.W.fnOf "_bounds" "_bounds" (defArgs s_bounds) (defBody s_bounds) (defScope s_bounds) .none kV31 dc31 pm31 an31 cd31 ct31), sl31⟩) (c31 : PySem.W.codeIn K cd31 "_bounds" = true) (k31 : PySem.W.keepIn K (.ref f31) = true)
    (a32 : PySem.W.nsIn K mainGlobals "next_box" = some (some (.ref f32))) (l32 : K.lookup f32 = some ⟨oc32, od32, .func (PySem.W.fnOf "next_box" "next_box" (defArgs s_next_box) (defBody s_next_box) (defScope s_next_box) .none kV32 dc32 pm32 an32 cd32 ct32), sl32⟩) (c32 : PySem.W.codeIn K cd32 "next_box" = true) (k32 : PySem.W.keepIn K (.ref f32) = true)
    (a33 : PySem.W.nsIn K mainGlobals "_law_towards" = some (some (.ref f33))) (l33 : K.lookup f33 = some ⟨oc33, od33, .func (PySem.W.fnOf "_law_towards" "_law_towards" (defArgs s_law_towards) (defBody s_law_towards) (defScope s_law_towards) .none kV33 dc33 pm33 an33 cd33 ct33), sl33⟩) (c33 : PySem.W.codeIn K cd33 "_law_towards" = true) (k33 : PySem.W.keepIn K (.ref f33) = true)
    (a34 : PySem.W.nsIn K mainGlobals "_law_target" = some (some (.ref f34))) (l34 : K.lookup f34 = some ⟨oc34, od34, .func (PySem.W.fnOf "_law_target" "_law_target" (defArgs s_law_target) (defBody s_law_target) (defScope s_law_target) .none kV34 dc34 pm34 an34 cd34 ct34), sl34⟩) (c34 : PySem.W.codeIn K cd34 "_law_target" = true) (k34 : PySem.W.keepIn K (.ref f34) = true)
    (a35 : PySem.W.nsIn K mainGlobals "_law_bounds" = some (some (.ref f35))) (l35 : K.lookup f35 = some ⟨oc35, od35, .func (PySem.W.fnOf "_law_bounds" "_law_bounds" (defArgs s_law_bounds) (defBody s_law_bounds) (defScope s_law_bounds) .none kV35 dc35 pm35 an35 cd35 ct35), sl35⟩) (c35 : PySem.W.codeIn K cd35 "_law_bounds" = true) (k35 : PySem.W.keepIn K (.ref f35) = true)
    (a36 : PySem.W.nsIn K mainGlobals "_law_wind_at" = some (some (.ref f36))) (l36 : K.lookup f36 = some ⟨oc36, od36, .func (PySem.W.fnOf "_law_wind_at" "_law_wind_at" (defArgs s_law_wind_at) (defBody s_law_wind_at) (defScope s_law_wind_at) .none kV36 dc36 pm36 an36 cd36 ct36), sl36⟩) (c36 : PySem.W.codeIn K cd36 "_law_wind_at" = true) (k36 : PySem.W.keepIn K (.ref f36) = true)
    (a37 : PySem.W.nsIn K mainGlobals "_law_box" = some (some (.ref f37))) (l37 : K.lookup f37 = some ⟨oc37, od37, .func (PySem.W.fnOf "_law_box" "_law_box" (defArgs s_law_box) (defBody s_law_box) (defScope s_law_box) .none kV37 dc37 pm37 an37 cd37 ct37), sl37⟩) (c37 : PySem.W.codeIn K cd37 "_law_box" = true) (k37 : PySem.W.keepIn K (.ref f37) = true)
    (a38 : PySem.W.nsIn K mainGlobals "_law_kind" = some (some (.ref f38))) (l38 : K.lookup f38 = some ⟨oc38, od38, .func (PySem.W.fnOf "_law_kind" "_law_kind" (defArgs s_law_kind) (defBody s_law_kind) (defScope s_law_kind) .none kV38 dc38 pm38 an38 cd38 ct38), sl38⟩) (c38 : PySem.W.codeIn K cd38 "_law_kind" = true) (k38 : PySem.W.keepIn K (.ref f38) = true)
    (a39 : PySem.W.nsIn K mainGlobals "_law_winds" = some (some (.ref f39))) (l39 : K.lookup f39 = some ⟨oc39, od39, .func (PySem.W.fnOf "_law_winds" "_law_winds" (defArgs s_law_winds) (defBody s_law_winds) (defScope s_law_winds) .none kV39 dc39 pm39 an39 cd39 ct39), sl39⟩) (c39 : PySem.W.codeIn K cd39 "_law_winds" = true) (k39 : PySem.W.keepIn K (.ref f39) = true)
    (a40 : PySem.W.nsIn K mainGlobals "_law_rules" = some (some (.ref f40))) (l40 : K.lookup f40 = some ⟨oc40, od40, .func (PySem.W.fnOf "_law_rules" "_law_rules" (defArgs s_law_rules) (defBody s_law_rules) (defScope s_law_rules) .none kV40 dc40 pm40 an40 cd40 ct40), sl40⟩) (c40 : PySem.W.codeIn K cd40 "_law_rules" = true) (k40 : PySem.W.keepIn K (.ref f40) = true)
    (a41 : PySem.W.nsIn K mainGlobals "_law_next" = some (some (.ref f41))) (l41 : K.lookup f41 = some ⟨oc41, od41, .func (PySem.W.fnOf "_law_next" "_law_next" (defArgs s_law_next) (defBody s_law_next) (defScope s_law_next) .none kV41 dc41 pm41 an41 cd41 ct41), sl41⟩) (c41 : PySem.W.codeIn K cd41 "_law_next" = true) (k41 : PySem.W.keepIn K (.ref f41) = true)
    (a42 : PySem.W.nsIn K mainGlobals "law" = some (some (.ref f42))) (l42 : K.lookup f42 = some ⟨oc42, od42, .func (PySem.W.fnOf "law" "law" (defArgs s_law) (defBody s_law) (defScope s_law) .none kV42 dc42 pm42 an42 cd42 ct42), sl42⟩) (c42 : PySem.W.codeIn K cd42 "law" = true) (k42 : PySem.W.keepIn K (.ref f42) = true)
    (z1 : PySem.W.nsIn K mainGlobals "abs" = some none) (z2 : PySem.W.nsIn K mainGlobals "int" = some none) (z3 : PySem.W.nsIn K mainGlobals "len" = some none) (z4 : PySem.W.nsIn K mainGlobals "bool" = some none) (z5 : PySem.W.nsIn K mainGlobals "isinstance" = some none) (z6 : PySem.W.nsIn K mainGlobals "max" = some none) (z7 : PySem.W.nsIn K mainGlobals "min" = some none) (z8 : PySem.W.nsIn K mainGlobals "range" = some none) (z9 : PySem.W.nsIn K mainGlobals "tuple" = some none) (z10 : PySem.W.nsIn K mainGlobals "list" = some none) (z11 : PySem.W.nsIn K mainGlobals "sum" = some none) (z12 : PySem.W.nsIn K mainGlobals "any" = some none) (z13 : PySem.W.nsIn K mainGlobals "all" = some none) (z14 : PySem.W.nsIn K mainGlobals "sorted" = some none) (z15 : PySem.W.nsIn K mainGlobals "dict" = some none) (z16 : PySem.W.nsIn K mainGlobals "enumerate" = some none) (yq : PySem.W.nsIn K mainGlobals "isqrt" = some (some (.builtin "math.isqrt"))) :
    ∃ fd : FuncData, (∀ (s : Shared) (v : Value), BindsTo s fd ⟨[v], []⟩ [("script", v)]) ∧ ∀ base : Heap, K.In base → base.Ns mainGlobals mg → FnOk l.prog w K mg base CX0 8 fa fd ["script"] (spLaw K) := by
  have e := hfa.symm.trans (PySem.W.mg_of X G a42)
  cases e
  have F1 := fun_mk (st := s_law_start) l1 c1 k1
  have F2 := fun_mk (st := s_law_draw) l2 c2 k2
  have F3 := fun_mk (st := s_law_pick) l3 c3 k3
  have F4 := fun_mk (st := s_law_is_number) l4 c4 k4
  have F5 := fun_mk (st := s_root_down) l5 c5 k5
  have F6 := fun_mk (st := s_root_up) l6 c6 k6
  have F7 := fun_mk (st := s_leg_length) l7 c7 k7
  have F8 := fun_mk (st := s_leg_between) l8 c8 k8
  have F9 := fun_mk (st := s_law_root_up) l9 c9 k9
  have F10 := fun_mk (st := s_law_names) l10 c10 k10
  have F11 := fun_mk (st := s_law_legs) l11 c11 k11
  have F12 := fun_mk (st := s_law_chart) l12 c12 k12
  have F13 := fun_mk (st := s_law_leg) l13 c13 k13
  have F14 := fun_mk (st := s_law_lengths) l14 c14 k14
  have F15 := fun_mk (st := s_law_walk) l15 c15 k15
  have F16 := fun_mk (st := s_Path_total) l16 c16 k16
  have F17 := fun_mk (st := s_Path_leg_at) l17 c17 k17
  have F18 := fun_mk (st := s_Path_begin) l18 c18 k18
  have F19 := fun_mk (st := s_Path_leg) l19 c19 k19
  have F20 := fun_mk (st := s_Path_vector) l20 c20 k20
  have F21 := fun_mk (st := s_Path__join) l21 c21 k21
  have F22 := fun_mk (st := s_Path___init__) l22 c22 k22
  have F23 := fun_mk (st := s_wind_at) l23 c23 k23
  have F24 := fun_mk (st := s_step_bounds) l24 c24 k24
  have F25 := fun_mk (st := s_law_begins) l25 c25 k25
  have F26 := fun_mk (st := s_law_leg_at) l26 c26 k26
  have F27 := fun_mk (st := s_within) l27 c27 k27
  have F28 := fun_mk (st := s_lowest) l28 c28 k28
  have F29 := fun_mk (st := s_highest) l29 c29 k29
  have F30 := fun_mk (st := s_target) l30 c30 k30
  have F31 := fun_mk (st := s_bounds) l31 c31 k31
  have F32 := fun_mk (st := s_next_box) l32 c32 k32
  have F33 := fun_mk (st := s_law_towards) l33 c33 k33
  have F34 := fun_mk (st := s_law_target) l34 c34 k34
  have F35 := fun_mk (st := s_law_bounds) l35 c35 k35
  have F36 := fun_mk (st := s_law_wind_at) l36 c36 k36
  have F37 := fun_mk (st := s_law_box) l37 c37 k37
  have F38 := fun_mk (st := s_law_kind) l38 c38 k38
  have F39 := fun_mk (st := s_law_winds) l39 c39 k39
  have F40 := fun_mk (st := s_law_rules) l40 c40 k40
  have F41 := fun_mk (st := s_law_next) l41 c41 k41
  have F42 := fun_mk (st := s_law) l42 c42 k42
  have b1 := F1.binds (ps := ["script"]) fun _ _ _ _ _ _ us hl => match us, hl with | [_], _ => rfl
  have b2 := F2.binds (ps := ["state", "bound"]) fun _ _ _ _ _ _ us hl => match us, hl with | [_, _], _ => rfl
  have b3 := F3.binds (ps := ["state", "things"]) fun _ _ _ _ _ _ us hl => match us, hl with | [_, _], _ => rfl
  have b4 := F4.binds (ps := ["thing"]) fun _ _ _ _ _ _ us hl => match us, hl with | [_], _ => rfl
  have b5 := F5.binds (ps := ["n"]) fun _ _ _ _ _ _ us hl => match us, hl with | [_], _ => rfl
  have b6 := F6.binds (ps := ["n"]) fun _ _ _ _ _ _ us hl => match us, hl with | [_], _ => rfl
  have b7 := F7.binds (ps := ["chart", "start", "end"]) fun _ _ _ _ _ _ us hl => match us, hl with | [_, _, _], _ => rfl
  have b8 := F8.binds (ps := ["chart", "start", "end"]) fun _ _ _ _ _ _ us hl => match us, hl with | [_, _, _], _ => rfl
  have b9 := F9.binds (ps := ["n"]) fun _ _ _ _ _ _ us hl => match us, hl with | [_], _ => rfl
  have b10 := F10.binds (ps := ["state", "many"]) fun _ _ _ _ _ _ us hl => match us, hl with | [_, _], _ => rfl
  have b11 := F11.binds (ps := ["state", "names"]) fun _ _ _ _ _ _ us hl => match us, hl with | [_, _], _ => rfl
  have b12 := F12.binds (ps := ["state", "many", "size"]) fun _ _ _ _ _ _ us hl => match us, hl with | [_, _, _], _ => rfl
  have b13 := F13.binds (ps := ["chart", "start", "end"]) fun _ _ _ _ _ _ us hl => match us, hl with | [_, _, _], _ => rfl
  have b14 := F14.binds (ps := ["chart"]) fun _ _ _ _ _ _ us hl => match us, hl with | [_], _ => rfl
  have b15 := F15.binds (ps := ["state", "chart", "most"]) fun _ _ _ _ _ _ us hl => match us, hl with | [_, _, _], _ => rfl
  have b16 := F16.binds (ps := ["self"]) fun _ _ _ _ _ _ us hl => match us, hl with | [_], _ => rfl
  have b17 := F17.binds (ps := ["self", "progress"]) fun _ _ _ _ _ _ us hl => match us, hl with | [_, _], _ => rfl
  have b18 := F18.binds (ps := ["self", "index"]) fun _ _ _ _ _ _ us hl => match us, hl with | [_, _], _ => rfl
  have b19 := F19.binds (ps := ["self", "index"]) fun _ _ _ _ _ _ us hl => match us, hl with | [_, _], _ => rfl
  have b20 := F20.binds (ps := ["self", "index"]) fun _ _ _ _ _ _ us hl => match us, hl with | [_, _], _ => rfl
  have b21 := F21.binds (ps := ["self", "chart", "start", "end"]) fun _ _ _ _ _ _ us hl => match us, hl with | [_, _, _, _], _ => rfl
  have b22 := F22.binds (ps := ["self", "chart", "route"]) fun _ _ _ _ _ _ us hl => match us, hl with | [_, _, _], _ => rfl
  have b23 := F23.binds (ps := ["winds", "tick"]) fun _ _ _ _ _ _ us hl => match us, hl with | [_, _], _ => rfl
  have b24 := F24.binds (ps := ["vector", "speed", "slip", "wind"]) fun _ _ _ _ _ _ us hl => match us, hl with | [_, _, _, _], _ => rfl
  have b25 := F25.binds (ps := ["lengths", "route"]) fun _ _ _ _ _ _ us hl => match us, hl with | [_, _], _ => rfl
  have b26 := F26.binds (ps := ["begins", "progress"]) fun _ _ _ _ _ _ us hl => match us, hl with | [_, _], _ => rfl
  have b27 := F27.binds (ps := ["leg", "level"]) fun _ _ _ _ _ _ us hl => match us, hl with | [_, _], _ => rfl
  have b28 := F28.binds (ps := ["kind", "level", "aim"]) fun _ _ _ _ _ _ us hl => match us, hl with | [_, _, _], _ => rfl
  have b29 := F29.binds (ps := ["kind", "level", "aim"]) fun _ _ _ _ _ _ us hl => match us, hl with | [_, _, _], _ => rfl
  have b30 := F30.binds (ps := ["path", "course", "index"]) fun _ _ _ _ _ _ us hl => match us, hl with | [_, _, _], _ => rfl
  have b31 := F31.binds (ps := ["path", "course", "rules", "winds", "tick", "index"]) fun _ _ _ _ _ _ us hl => match us, hl with | [_, _, _, _, _, _], _ => rfl
  have b32 := F32.binds (ps := ["path", "course", "kind", "rules", "winds", "tick", "box"]) fun _ _ _ _ _ _ us hl => match us, hl with | [_, _, _, _, _, _, _], _ => rfl
  have b33 := F33.binds (ps := ["level", "goal", "rate"]) fun _ _ _ _ _ _ us hl => match us, hl with | [_, _, _], _ => rfl
  have b34 := F34.binds (ps := ["chart", "route", "k", "level"]) fun _ _ _ _ _ _ us hl => match us, hl with | [_, _, _, _], _ => rfl
  have b35 := F35.binds (ps := ["chart", "route", "begins", "k", "speed", "slip", "wind"]) fun _ _ _ _ _ _ us hl => match us, hl with | [_, _, _, _, _, _, _], _ => rfl
  have b36 := F36.binds (ps := ["winds", "tick"]) fun _ _ _ _ _ _ us hl => match us, hl with | [_, _], _ => rfl
  have b37 := F37.binds (ps := ["state", "begins", "wide"]) fun _ _ _ _ _ _ us hl => match us, hl with | [_, _, _], _ => rfl
  have b38 := F38.binds (ps := ["state"]) fun _ _ _ _ _ _ us hl => match us, hl with | [_], _ => rfl
  have b39 := F39.binds (ps := ["state"]) fun _ _ _ _ _ _ us hl => match us, hl with | [_], _ => rfl
  have b40 := F40.binds (ps := ["state"]) fun _ _ _ _ _ _ us hl => match us, hl with | [_], _ => rfl
  have b41 := F41.binds (ps := ["chart", "route", "begins", "course", "kind", "rules", "winds", "tick", "box"]) fun _ _ _ _ _ _ us hl => match us, hl with | [_, _, _, _, _, _, _, _, _], _ => rfl
  have T : TxtA mg := { abs := PySem.W.mg_none_of X G z1, int := PySem.W.mg_none_of X G z2, len := PySem.W.mg_none_of X G z3, bool := PySem.W.mg_none_of X G z4, isinstance := PySem.W.mg_none_of X G z5, max := PySem.W.mg_none_of X G z6, min := PySem.W.mg_none_of X G z7, range := PySem.W.mg_none_of X G z8, tuple := PySem.W.mg_none_of X G z9, list := PySem.W.mg_none_of X G z10, sum := PySem.W.mg_none_of X G z11, any := PySem.W.mg_none_of X G z12, all := PySem.W.mg_none_of X G z13, sorted := PySem.W.mg_none_of X G z14, dict := PySem.W.mg_none_of X G z15, enumerate := PySem.W.mg_none_of X G z16 }
  have Tq : mg "isqrt" = some (.builtin "math.isqrt") := PySem.W.mg_of X G yq
  have Y : PathY K mg C := ⟨⟨pg, hd, po, sa⟩, nA1, nA2, nA3, nA4, nA5⟩
  refine ⟨PySem.W.fnOf "law" "law" (defArgs s_law) (defBody s_law) (defScope s_law) .none kV42 dc42 pm42 an42 cd42 ct42, fun s v => .of_eq rfl, fun base _ _ => ?_⟩
  have D1 : Def l.prog w K mg base 1 "_law_start" ["script"] (spStart K) := .mk' F1 b1 (PySem.W.mg_of X G a1) (ok_law_start F1 T.toTxt0)
  have D2 : Def l.prog w K mg base 1 "_law_draw" ["state", "bound"] (spDraw K) := .mk' F2 b2 (PySem.W.mg_of X G a2) (ok_law_draw F2 T.toTxt0)
  have D3 : Def l.prog w K mg base 2 "_law_pick" ["state", "things"] (spPick K) := .mk' F3 b3 (PySem.W.mg_of X G a3) (ok_law_pick F3 T.toTxt0 D2)
  have D4 : Def l.prog w K mg base 1 "_law_is_number" ["thing"] (spIsNum) := .mk' F4 b4 (PySem.W.mg_of X G a4) (ok_law_is_number F4 T.toTxt0)
  have D5 : Def l.prog w K mg base 1 "root_down" ["n"] (spDownR) := .mk' F5 b5 (PySem.W.mg_of X G a5) (ok_root_down F5 T Tq)
  have D6 : Def l.prog w K mg base 2 "root_up" ["n"] (spUpR) := .mk' F6 b6 (PySem.W.mg_of X G a6) (ok_root_up F6 T D5)
  have D7 : Def l.prog w K mg base 3 "leg_length" ["chart", "start", "end"] (spLegLen) := .mk' F7 b7 (PySem.W.mg_of X G a7) (ok_leg_length F7 T D6)
  have D8 : Def l.prog w K mg base 1 "leg_between" ["chart", "start", "end"] (spLegBt) := .mk' F8 b8 (PySem.W.mg_of X G a8) (ok_leg_between F8 T)
  have D9 : Def l.prog w K mg base 1 "_law_root_up" ["n"] (spRootR) := .mk' F9 b9 (PySem.W.mg_of X G a9) (ok_law_root_up F9 T)
  have D10 : Def l.prog w K mg base 3 "_law_names" ["state", "many"] (spNames K) := .mk' F10 b10 (PySem.W.mg_of X G a10) (ok_law_names F10 T D2 D3)
  have D11 : Def l.prog w K mg base 3 "_law_legs" ["state", "names"] (spLegs K) := .mk' F11 b11 (PySem.W.mg_of X G a11) (ok_law_legs F11 T D2 D3)
  have D12 : Def l.prog w K mg base 4 "_law_chart" ["state", "many", "size"] (spChart K) := .mk' F12 b12 (PySem.W.mg_of X G a12) (ok_law_chart F12 T D2 D10 D11)
  have D13 : Def l.prog w K mg base 1 "_law_leg" ["chart", "start", "end"] (spLegS) := .mk' F13 b13 (PySem.W.mg_of X G a13) (ok_law_leg F13 T)
  have D14 : Def l.prog w K mg base 2 "_law_lengths" ["chart"] (spLens) := .mk' F14 b14 (PySem.W.mg_of X G a14) (ok_law_lengths F14 T D9)
  have D15 : Def l.prog w K mg base 3 "_law_walk" ["state", "chart", "most"] (spWalk K) := .mk' F15 b15 (PySem.W.mg_of X G a15) (ok_law_walk F15 T D2 D3)
  have D16 : MDef l.prog w K mg base 1 C "total" ["self"] (spTotal C) := ⟨_, _, ok_Path_total F16 T Y, ⟨a16, i16, k16⟩, b16⟩
  have D17 : MDef l.prog w K mg base 1 C "leg_at" ["self", "progress"] (spLegAt C) := ⟨_, _, ok_Path_leg_at F17 T Y, ⟨a17, i17, k17⟩, b17⟩
  have D18 : MDef l.prog w K mg base 1 C "begin" ["self", "index"] (spBegin C) := ⟨_, _, ok_Path_begin F18 T Y, ⟨a18, i18, k18⟩, b18⟩
  have D19 : MDef l.prog w K mg base 1 C "leg" ["self", "index"] (spLegI C) := ⟨_, _, ok_Path_leg F19 T Y, ⟨a19, i19, k19⟩, b19⟩
  have D20 : MDef l.prog w K mg base 1 C "vector" ["self", "index"] (spVec C) := ⟨_, _, ok_Path_vector F20 T Y, ⟨a20, i20, k20⟩, b20⟩
  have D21 : MDef l.prog w K mg base 4 C "_join" ["self", "chart", "start", "end"] (spJoin C) := ⟨_, _, ok_Path__join F21 T Y D7 D8 D16, ⟨a21, i21, k21⟩, b21⟩
  have DC : CDef l.prog w K mg base 5 C "Path" ["self", "chart", "route"] (spPInit C) := ⟨_, _, ok_Path___init__ F22 T Y D21, ⟨mk, a22, i22, kc⟩, PySem.W.mg_of X G aC, b22⟩
  have D23 : Def l.prog w K mg base 1 "wind_at" ["winds", "tick"] (spWind K) := .mk' F23 b23 (PySem.W.mg_of X G a23) (ok_wind_at F23 T)
  have D24 : Def l.prog w K mg base 1 "step_bounds" ["vector", "speed", "slip", "wind"] (spStep) := .mk' F24 b24 (PySem.W.mg_of X G a24) (ok_step_bounds F24 T)
  have D25 : Def l.prog w K mg base 1 "_law_begins" ["lengths", "route"] (spBegins) := .mk' F25 b25 (PySem.W.mg_of X G a25) (ok_law_begins F25 T)
  have D26 : Def l.prog w K mg base 1 "_law_leg_at" ["begins", "progress"] (spLawLegAt) := .mk' F26 b26 (PySem.W.mg_of X G a26) (ok_law_leg_at F26 T)
  have D27 : Def l.prog w K mg base 1 "_within" ["leg", "level"] (spWithin) := .mk' F27 b27 (PySem.W.mg_of X G a27) (ok_within F27 T)
  have D28 : Def l.prog w K mg base 1 "_lowest" ["kind", "level", "aim"] (spLowest) := .mk' F28 b28 (PySem.W.mg_of X G a28) (ok_lowest F28 T)
  have D29 : Def l.prog w K mg base 1 "_highest" ["kind", "level", "aim"] (spHighest) := .mk' F29 b29 (PySem.W.mg_of X G a29) (ok_highest F29 T)
  have D30 : Def l.prog w K mg base 2 "target" ["path", "course", "index"] (spTarget C) := .mk' F30 b30 (PySem.W.mg_of X G a30) (ok_target F30 T Y D27 D19 D18 D16)
  have D31 : Def l.prog w K mg base 2 "_bounds" ["path", "course", "rules", "winds", "tick", "index"] (spBounds C) := .mk' F31 b31 (PySem.W.mg_of X G a31) (ok_bounds F31 T Y D24 D23 D20)
  have D32 : Def l.prog w K mg base 3 "next_box" ["path", "course", "kind", "rules", "winds", "tick", "box"] (spNext C) := .mk' F32 b32 (PySem.W.mg_of X G a32) (ok_next_box F32 T Y D31 D30 D28 D29 D17 D18)
  have D33 : Def l.prog w K mg base 1 "_law_towards" ["level", "goal", "rate"] (spTowards) := .mk' F33 b33 (PySem.W.mg_of X G a33) (ok_law_towards F33 T)
  have D34 : Def l.prog w K mg base 2 "_law_target" ["chart", "route", "k", "level"] (spLawTarget C) := .mk' F34 b34 (PySem.W.mg_of X G a34) (ok_law_target F34 T D13)
  have D35 : Def l.prog w K mg base 1 "_law_bounds" ["chart", "route", "begins", "k", "speed", "slip", "wind"] (spLawBounds C) := .mk' F35 b35 (PySem.W.mg_of X G a35) (ok_law_bounds F35 T)
  have D36 : Def l.prog w K mg base 1 "_law_wind_at" ["winds", "tick"] (spLawWindAt C) := .mk' F36 b36 (PySem.W.mg_of X G a36) (ok_law_wind_at F36 T)
  have D37 : Def l.prog w K mg base 3 "_law_box" ["state", "begins", "wide"] (spLawBox K) := .mk' F37 b37 (PySem.W.mg_of X G a37) (ok_law_box F37 T D2 D3)
  have D38 : Def l.prog w K mg base 3 "_law_kind" ["state"] (spKind K) := .mk' F38 b38 (PySem.W.mg_of X G a38) (ok_law_kind F38 T D2 D3)
  have D39 : Def l.prog w K mg base 2 "_law_winds" ["state"] (spWinds K) := .mk' F39 b39 (PySem.W.mg_of X G a39) (ok_law_winds F39 T D2)
  have D40 : Def l.prog w K mg base 3 "_law_rules" ["state"] (spRules K) := .mk' F40 b40 (PySem.W.mg_of X G a40) (ok_law_rules F40 T D2 D3)
  have D41 : Def l.prog w K mg base 3 "_law_next" ["chart", "route", "begins", "course", "kind", "rules", "winds", "tick", "box"] (spLawNext C) := .mk' F41 b41 (PySem.W.mg_of X G a41) (ok_law_next F41 T D36 D26 D35 D34 D33)
  exact ok_law F42 T Y DC D1 D2 D3 D12 D15 D14 D25 D38 D40 D39 D30 D34 D37 D41 D32 D4
theorem walk {l : PySem.W.OpenLaw} {q : Program} {loose : List Str} {XP : (Str → Option Value) → Heap → Prop} {YP : World → Heap → Prop} {d : DefRec} {K : Params → PySem.W.Frag} (hn : l.most = some 63) (hdf : d.params.defaults = [])
    (hY : ∀ (w : World) (h : Heap), YP w h → (K w.params).In h)
    (F : ∀ (w : World) (mg : Str → Option Value) (fa : Addr) (h : Heap), (K w.params).In h → h.Ns mainGlobals mg → mg d.name = some (.ref fa) →
      ∃ fd : FuncData, (∀ (s : Shared) (u : Value), BindsTo s fd ⟨[u], []⟩ [("script", u)]) ∧ ∀ base : Heap, (K w.params).In base → base.Ns mainGlobals mg → FnOk l.prog w (K w.params) mg base CX0 8 fa fd ["script"] (spLaw (K w.params))) :
    PySem.W.WalkO q loose XP YP l.row.toRowW d [] (fun f vs => PySem.call f vs) :=
  L2.walk_of (n := 63) (k := 8) (x := "script") (CX := fun _ => CX0) (sp := fun w => spLaw (K w.params)) hn (by decide) hdf ⟨rfl, by decide, by decide⟩ hY F (fun _ _ a ns hl _ hS => ⟨a, ns, rfl, hS, hl, fun _ => rfl⟩) fun _ _ _ _ _ z => z
end Sk
open PySem PySem.W PyProof.Rows
set_option maxRecDepth 100000 in
set_option maxHeartbeats 0 in
theorem PySem.Challenge.cw_skyapart_k12_next_box_holds : PySem.Challenge.rw_skyapart_k12_next_box.Holds := by
  w_on; o_law; k_head; (case hw => w_witness2)
  k_fill
  refine Sk.walk (l := PySem.Challenge.rw_skyapart_k12_next_box) rfl rfl (fun w h Y => PySem.W.kIn_of Y) ?F
  case F =>
    intro w mg fa h KX G hmg
    refine' Sk.all_mk KX G hmg ?aC ?pg ?hd ?po ?sa ?mk ?kc ?nA1 ?nA2 ?nA3 ?nA4 ?nA5 ?a1 ?l1 ?c1 ?k1 ?a2 ?l2 ?c2 ?k2 ?a3 ?l3 ?c3 ?k3 ?a4 ?l4 ?c4 ?k4 ?a5 ?l5 ?c5 ?k5 ?a6 ?l6 ?c6 ?k6 ?a7 ?l7 ?c7 ?k7 ?a8 ?l8 ?c8 ?k8 ?a9 ?l9 ?c9 ?k9 ?a10 ?l10 ?c10 ?k10 ?a11 ?l11 ?c11 ?k11 ?a12 ?l12 ?c12 ?k12 ?a13 ?l13 ?c13 ?k13 ?a14 ?l14 ?c14 ?k14 ?a15 ?l15 ?c15 ?k15 ?a16 ?i16 ?l16 ?c16 ?k16 ?a17 ?i17 ?l17 ?c17 ?k17 ?a18 ?i18 ?l18 ?c18 ?k18 ?a19 ?i19 ?l19 ?c19 ?k19 ?a20 ?i20 ?l20 ?c20 ?k20 ?a21 ?i21 ?l21 ?c21 ?k21 ?a22 ?i22 ?l22 ?c22 ?k22 ?a23 ?l23 ?c23 ?k23 ?a24 ?l24 ?c24 ?k24 ?a25 ?l25 ?c25 ?k25 ?a26 ?l26 ?c26 ?k26 ?a27 ?l27 ?c27 ?k27 ?a28 ?l28 ?c28 ?k28 ?a29 ?l29 ?c29 ?k29 ?a30 ?l30 ?c30 ?k30 ?a31 ?l31 ?c31 ?k31 ?a32 ?l32 ?c32 ?k32 ?a33 ?l33 ?c33 ?k33 ?a34 ?l34 ?c34 ?k34 ?a35 ?l35 ?c35 ?k35 ?a36 ?l36 ?c36 ?k36 ?a37 ?l37 ?c37 ?k37 ?a38 ?l38 ?c38 ?k38 ?a39 ?l39 ?c39 ?k39 ?a40 ?l40 ?c40 ?k40 ?a41 ?l41 ?c41 ?k41 ?a42 ?l42 ?c42 ?k42 ?z1 ?z2 ?z3 ?z4 ?z5 ?z6 ?z7 ?z8 ?z9 ?z10 ?z11 ?z12 ?z13 ?z14 ?z15 ?z16 ?yq
    (case aC => k_is); (case pg => k_is); (case hd => k_is); (case po => k_is)
    (case sa => k_is); (case mk => k_is); (case kc => k_is); (case nA1 => k_is)
    (case nA2 => k_is); (case nA3 => k_is); (case nA4 => k_is); (case nA5 => k_is)
    (case a1 => k_is); (case l1 => k_is); (case c1 => k_is); (case k1 => k_is)
    (case a2 => k_is); (case l2 => k_is); (case c2 => k_is); (case k2 => k_is)
    (case a3 => k_is); (case l3 => k_is); (case c3 => k_is); (case k3 => k_is)
    (case a4 => k_is); (case l4 => k_is); (case c4 => k_is); (case k4 => k_is)
    (case a5 => k_is); (case l5 => k_is); (case c5 => k_is); (case k5 => k_is)
    (case a6 => k_is); (case l6 => k_is); (case c6 => k_is); (case k6 => k_is)
    (case a7 => k_is); (case l7 => k_is); (case c7 => k_is); (case k7 => k_is)
    (case a8 => k_is); (case l8 => k_is); (case c8 => k_is); (case k8 => k_is)
    (case a9 => k_is); (case l9 => k_is); (case c9 => k_is); (case k9 => k_is)
    (case a10 => k_is); (case l10 => k_is); (case c10 => k_is); (case k10 => k_is)
    (case a11 => k_is); (case l11 => k_is); (case c11 => k_is); (case k11 => k_is)
    (case a12 => k_is); (case l12 => k_is); (case c12 => k_is); (case k12 => k_is)
    (case a13 => k_is); (case l13 => k_is); (case c13 => k_is); (case k13 => k_is)
    (case a14 => k_is); (case l14 => k_is); (case c14 => k_is); (case k14 => k_is)
    (case a15 => k_is); (case l15 => k_is); (case c15 => k_is); (case k15 => k_is)
    (case a16 => k_is); (case i16 => k_is); (case l16 => k_is); (case c16 => k_is)
    (case k16 => k_is); (case a17 => k_is); (case i17 => k_is); (case l17 => k_is)
    (case c17 => k_is); (case k17 => k_is); (case a18 => k_is); (case i18 => k_is)
    (case l18 => k_is); (case c18 => k_is); (case k18 => k_is); (case a19 => k_is)
    (case i19 => k_is); (case l19 => k_is); (case c19 => k_is); (case k19 => k_is)
    (case a20 => k_is); (case i20 => k_is); (case l20 => k_is); (case c20 => k_is)
    (case k20 => k_is); (case a21 => k_is); (case i21 => k_is); (case l21 => k_is)
    (case c21 => k_is); (case k21 => k_is); (case a22 => k_is); (case i22 => k_is)
    (case l22 => k_is); (case c22 => k_is); (case k22 => k_is); (case a23 => k_is)
    (case l23 => k_is); (case c23 => k_is); (case k23 => k_is); (case a24 => k_is)
    (case l24 => k_is); (case c24 => k_is); (case k24 => k_is); (case a25 => k_is)
    (case l25 => k_is); (case c25 => k_is); (case k25 => k_is); (case a26 => k_is)
    (case l26 => k_is); (case c26 => k_is); (case k26 => k_is); (case a27 => k_is)
    (case l27 => k_is); (case c27 => k_is); (case k27 => k_is); (case a28 => k_is)
    (case l28 => k_is); (case c28 => k_is); (case k28 => k_is); (case a29 => k_is)
    (case l29 => k_is); (case c29 => k_is); (case k29 => k_is); (case a30 => k_is)
    (case l30 => k_is); (case c30 => k_is); (case k30 => k_is); (case a31 => k_is)
    (case l31 => k_is); (case c31 => k_is); (case k31 => k_is); (case a32 => k_is)
    (case l32 => k_is); (case c32 => k_is); (case k32 => k_is); (case a33 => k_is)
    (case l33 => k_is); (case c33 => k_is); (case k33 => k_is); (case a34 => k_is)
    (case l34 => k_is); (case c34 => k_is); (case k34 => k_is); (case a35 => k_is)
    (case l35 => k_is); (case c35 => k_is); (case k35 => k_is); (case a36 => k_is)
    (case l36 => k_is); (case c36 => k_is); (case k36 => k_is); (case a37 => k_is)
    (case l37 => k_is); (case c37 => k_is); (case k37 => k_is); (case a38 => k_is)
    (case l38 => k_is); (case c38 => k_is); (case k38 => k_is); (case a39 => k_is)
    (case l39 => k_is); (case c39 => k_is); (case k39 => k_is); (case a40 => k_is)
    (case l40 => k_is); (case c40 => k_is); (case k40 => k_is); (case a41 => k_is)
    (case l41 => k_is); (case c41 => k_is); (case k41 => k_is); (case a42 => k_is)
    (case l42 => k_is); (case c42 => k_is); (case k42 => k_is); (case z1 => k_is)
    (case z2 => k_is); (case z3 => k_is); (case z4 => k_is); (case z5 => k_is)
    (case z6 => k_is); (case z7 => k_is); (case z8 => k_is); (case z9 => k_is)
    (case z10 => k_is); (case z11 => k_is); (case z12 => k_is); (case z13 => k_is)
    (case z14 => k_is); (case z15 => k_is); (case z16 => k_is); (case yq => k_is)
