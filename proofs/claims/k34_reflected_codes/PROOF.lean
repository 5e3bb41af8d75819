import PyProof.Rows.All
import Wide.All
import OpenK.AllK
import Wide.FinOn
import HandS.Base
import HandS.Call
import HandS.List
import HandS.Comp
import HandS.Ends
import HandS.Dict
import HandS.Iter
import HandS.Words
import HandS.WordsList
import HandS.Wide
import HandS.Gcd
import HandS.IsInst
import Flt.RightSqrt
import HandS.Text
import HandS.WideMore
import PySem.Challenge.RW_skyapart_k34_reflected_codes
set_option Elab.async false
set_option linter.all false
set_option maxRecDepth 100000
set_option maxHeartbeats 4000000
namespace Sk
open PySem PySem.Spec PyProof.Rows L2

/-! a def of the text, ready to be called by its name -/
structure Def (P : Program) (w : World) (K : PySem.W.Frag) (mg : Str → Option Value) (base : Heap) (k : Nat) (x : Str) (ps : List Str) (sp : Sp) : Prop where
  ex : ∃ (f : Addr) (fd : FuncData), FnOk P w K mg base CX0 k f fd ps sp ∧ mg x = some (.ref f) ∧ PySem.W.keepIn K (.ref f) = true ∧ Binds K fd ps []
theorem Def.mk' {P : Program} {w : World} {K : PySem.W.Frag} {mg : Str → Option Value} {base : Heap} {k : Nat} {x qual : Str} {st : Stmt} {f : Addr} {fd : FuncData} {ps : List Str} {sp : Sp}
    (F : Fun K x qual st f fd) (b : Binds K fd ps []) (m : mg x = some (.ref f)) (G : FnOk P w K mg base CX0 k f fd ps sp) : Def P w K mg base k x ps sp := ⟨f, fd, G, m, F.kp, b⟩
theorem pe_def {X : Cx} {k : Nat} {x : Str} {ps : List Str} {sp : Sp} {p pos : Pos} {e : Expr} {es : List Expr} {t : TA} (D : Def X.prog X.w X.K X.mg X.base k x ps sp) (hr : Room k X.A) (hg : Gl X x)
    (ha : PA X (e :: es) t) (hdb : (x == ("__debug__" : Str)) = false := by decide) (he : starEach (e :: es) X.env = (false, eval e X.env) :: starEach es X.env := by rfl) (hpl : (backTo pos (starEach es X.env)).any (·.1) = false := by rfl) :
    PE X (.Call (.Name x p) (e :: es) [] pos) (tCall sp [] E0 t) := by
  obtain ⟨f, fd, F, m, kp, b⟩ := D.ex
  exact pe_call F hr hg m kp b .nil pass0 ha hdb he hpl
/-- a call's reading: the values of the arguments as they are -/
theorem sp_nil {sp : Sp} {vs : List V} {H : Hp} {Q : VK} {E : XK} (h : sp vs H Q E) : sp (vs ++ []) H Q E := by
  rw [List.append_nil]
  exact h

/-! heaps -/
/-- all but what stands at d is as it was -/
def Keep (d : Addr) (H H' : Hp) : Prop := ∀ c o, H c = some o → c ≠ d → H' c = some o
theorem Keep.refl (d : Addr) (H : Hp) : Keep d H H := fun _ _ h _ => h
theorem Keep.trans {d : Addr} {H H1 H2 : Hp} (a : Keep d H H1) (b : Keep d H1 H2) : Keep d H H2 := fun c o h n => b c o (a c o h n) n
theorem Keep.of {d : Addr} {H H1 : Hp} (a : Same H H1) : Keep d H H1 := fun c o h _ => a c o h
theorem Keep.upd (d : Addr) (H : Hp) (o : HO) : Keep d H (upd H d o) := fun c u h n => by
  rw [upd_ne n]
  exact h
theorem same_new {H : Hp} {p : Addr} {o : HO} (h : H p = none) : Same H (upd H p o) := fun b x e => by
  rw [upd_ne (ne_of_none e h)]
  exact e
theorem lst_ne {H : Hp} {a d : Addr} {xs : List V} {o : HO} (h : H d = some (.dK o')) (ha : H a = some (.lst xs)) : a ≠ d := ne_of ha h (by intro z; cases z)
/-- a list to be read stays, if it isn't the dict at d -/
theorem Keep.seq {K : PySem.W.Frag} {d : Addr} {kvs : List (Key × V)} {H H' : Hp} {a : Addr} {xs : List V} (k : Keep d H H') (hd : H d = some (.dK kvs)) (h : SqL K H a xs) : SqL K H' a xs := by
  rcases h with (h | ⟨o, h⟩) | h
  · exact .inl (.inl (k _ _ h (ne_of h hd (by intro z; cases z))))
  · exact .inl (.inr ⟨o, k _ _ h (ne_of h hd (by intro z; cases z))⟩)
  · exact .inr h
theorem Keep.tup {K : PySem.W.Frag} {d : Addr} {kvs : List (Key × V)} {H H' : Hp} {a : Addr} {xs : List V} (k : Keep d H H') (hd : H d = some (.dK kvs)) (h : SqT K H a xs) : SqT K H' a xs := by
  rcases h with (h | ⟨o, h⟩) | h
  · exact .inl (.inl (k _ _ h (ne_of h hd (by intro z; cases z))))
  · exact .inl (.inr ⟨o, k _ _ h (ne_of h hd (by intro z; cases z))⟩)
  · exact .inr h
theorem Keep.lst {d : Addr} {kvs : List (Key × V)} {H H' : Hp} {a : Addr} {xs : List V} (k : Keep d H H') (hd : H d = some (.dK kvs)) (h : H a = some (.lst xs)) : H' a = some (.lst xs) := k _ _ h (ne_of h hd (by intro z; cases z))
theorem Keep.tp {d : Addr} {kvs : List (Key × V)} {H H' : Hp} {a : Addr} {xs : List V} (k : Keep d H H') (hd : H d = some (.dK kvs)) (h : H a = some (.tup xs)) : H' a = some (.tup xs) := k _ _ h (ne_of h hd (by intro z; cases z))
theorem same_tup {K : PySem.W.Frag} {H H' : Hp} {a : Addr} {xs : List V} (e : Same H H') (h : SqT K H a xs) : SqT K H' a xs := by
  rcases h with (h | ⟨o, h⟩) | h
  · exact .inl (.inl (e _ _ h))
  · exact .inl (.inr ⟨o, e _ _ h⟩)
  · exact .inr h

/-! the state of the draws -/
theorem k01 : ¬ ("cells" : Str) = "at" := by decide +kernel
theorem k02 : ¬ ("cells" : Str) = "left" := by decide +kernel
theorem k03 : ¬ ("cells" : Str) = "mix" := by decide +kernel
theorem k10 : ¬ ("at" : Str) = "cells" := by decide +kernel
theorem k12 : ¬ ("at" : Str) = "left" := by decide +kernel
theorem k13 : ¬ ("at" : Str) = "mix" := by decide +kernel
theorem k20 : ¬ ("left" : Str) = "cells" := by decide +kernel
theorem k21 : ¬ ("left" : Str) = "at" := by decide +kernel
theorem k23 : ¬ ("left" : Str) = "mix" := by decide +kernel
theorem k30 : ¬ ("mix" : Str) = "cells" := by decide +kernel
theorem k31 : ¬ ("mix" : Str) = "at" := by decide +kernel
theorem k32 : ¬ ("mix" : Str) = "left" := by decide +kernel
theorem kr {a b : Str} (h : ¬ a = b) : ¬ (Sum.inr a : Key) = Sum.inr b := fun z => h (Sum.inr.inj z)
def stK (c : Addr) (i l m : Int) : List (Key × V) := [(.inr "cells", .ref c), (.inr "at", .int i), (.inr "left", .int l), (.inr "mix", .int m)]
theorem g_cells (c : Addr) (i l m : Int) : valV (stK c i l m) (.inr "cells") = some (.ref c) := valV_pos rfl
theorem g_at (c : Addr) (i l m : Int) : valV (stK c i l m) (.inr "at") = some (.int i) := by
  unfold stK
  rw [valV_neg (kr k01), valV_pos rfl]
theorem g_left (c : Addr) (i l m : Int) : valV (stK c i l m) (.inr "left") = some (.int l) := by
  unfold stK
  rw [valV_neg (kr k02), valV_neg (kr k12), valV_pos rfl]
theorem g_mix (c : Addr) (i l m : Int) : valV (stK c i l m) (.inr "mix") = some (.int m) := by
  unfold stK
  rw [valV_neg (kr k03), valV_neg (kr k13), valV_neg (kr k23), valV_pos rfl]
theorem put_any {kvs : List (Key × V)} {k : Key} {v y : V} (h : valV kvs k = some v) : putK kvs k y = kvs.map (fun kv => if kv.1 = k then (kv.1, y) else kv) := by
  unfold putK
  rw [valV_any, h]
  exact if_pos rfl
theorem p_at (c : Addr) (i l m j : Int) : putK (stK c i l m) (.inr "at") (.int j) = stK c j l m := by
  rw [put_any (g_at c i l m)]
  unfold stK
  simp only [List.map_cons, List.map_nil, if_neg (kr k01), if_neg (kr k21), if_neg (kr k31), if_true]
theorem p_left (c : Addr) (i l m j : Int) : putK (stK c i l m) (.inr "left") (.int j) = stK c i j m := by
  rw [put_any (g_left c i l m)]
  unfold stK
  simp only [List.map_cons, List.map_nil, if_neg (kr k02), if_neg (kr k12), if_neg (kr k32), if_true]
theorem p_mix (c : Addr) (i l m j : Int) : putK (stK c i l m) (.inr "mix") (.int j) = stK c i l j := by
  rw [put_any (g_mix c i l m)]
  unfold stK
  simp only [List.map_cons, List.map_nil, if_neg (kr k03), if_neg (kr k13), if_neg (kr k23), if_true]
theorem merge_st (c : Addr) (i l m : Int) : mergeK [] (stK c i l m) = stK c i l m := by
  have e0 : putK ([] : List (Key × V)) (.inr "cells" : Key) (.ref c) = [((.inr "cells" : Key), V.ref c)] := rfl
  have e1 : putK [((.inr "cells" : Key), V.ref c)] (.inr "at" : Key) (.int i) = [((.inr "cells" : Key), V.ref c), (.inr "at", .int i)] := by
    rw [putK_new _ (by rw [valV_neg (kr k01)]; rfl)]
    all_goals rfl
  have e2 : putK [((.inr "cells" : Key), V.ref c), (.inr "at", .int i)] (.inr "left") (.int l) = [((.inr "cells" : Key), V.ref c), (.inr "at", .int i), (.inr "left", .int l)] := by
    rw [putK_new _ (by rw [valV_neg (kr k02), valV_neg (kr k12)]; rfl)]
    all_goals rfl
  have e3 : putK [((.inr "cells" : Key), V.ref c), (.inr "at", .int i), (.inr "left", .int l)] (.inr "mix") (.int m) = stK c i l m := by
    rw [putK_new _ (by rw [valV_neg (kr k03), valV_neg (kr k13), valV_neg (kr k23)]; rfl)]
    all_goals rfl
  show putK (putK (putK (putK ([] : List (Key × V)) (.inr "cells" : Key) (.ref c)) (.inr "at" : Key) (.int i)) (.inr "left" : Key) (.int l)) (.inr "mix" : Key) (.int m) = stK c i l m
  rw [e0, e1, e2, e3]
/-- the dict of the draws stands at d -/
structure StAt (K : PySem.W.Frag) (H : Hp) (d : Addr) (c : Addr) (ns : List Int) (i l m : Int) : Prop where
  dc : H d = some (.dK (stK c i l m))
  cs : H c = some (.lst (ns.map V.int))
  nn : ∀ x ∈ ns, 0 ≤ x
  i0 : 0 ≤ i
  l0 : 0 ≤ l
  m0 : 0 ≤ m
  m1 : m < 2147483648
def St1 (K : PySem.W.Frag) (H : Hp) (d c : Addr) : Prop := ∃ ns i l m, StAt K H d c ns i l m
theorem St1.dk {K : PySem.W.Frag} {H : Hp} {d c : Addr} (S : St1 K H d c) : ∃ kvs, H d = some (.dK kvs) := let ⟨_, _, _, _, S⟩ := S; ⟨_, S.dc⟩
theorem St1.cl {K : PySem.W.Frag} {H : Hp} {d c : Addr} (S : St1 K H d c) : ∃ xs, H c = some (.lst xs) := let ⟨_, _, _, _, S⟩ := S; ⟨_, S.cs⟩
/-- the state stands on where both its objects stand -/
theorem St1.of {K : PySem.W.Frag} {H H' : Hp} {d c : Addr} (S : St1 K H d c) (e1 : H' d = H d) (e2 : H' c = H c) : St1 K H' d c := by
  obtain ⟨ns, i, l, m, S⟩ := S
  exact ⟨ns, i, l, m, e1.trans S.dc, e2.trans S.cs, S.nn, S.i0, S.l0, S.m0, S.m1⟩
theorem St1.same {K : PySem.W.Frag} {H H' : Hp} {d c : Addr} (S : St1 K H d c) (e : Same H H') : St1 K H' d c := by
  obtain ⟨ns, i, l, m, S⟩ := S
  exact ⟨ns, i, l, m, e _ _ S.dc, e _ _ S.cs, S.nn, S.i0, S.l0, S.m0, S.m1⟩
theorem St1.new {K : PySem.W.Frag} {H : Hp} {d c a : Addr} {o : HO} (S : St1 K H d c) (h : H a = none) : St1 K (upd H a o) d c := S.same (same_new h)
theorem St1.nd {K : PySem.W.Frag} {H : Hp} {d c a : Addr} (S : St1 K H d c) (h : H a = none) : a ≠ d := let ⟨_, e⟩ := S.dk; (ne_of_none e h).symm
theorem St1.nc {K : PySem.W.Frag} {H : Hp} {d c a : Addr} (S : St1 K H d c) (h : H a = none) : a ≠ c := let ⟨_, e⟩ := S.cl; (ne_of_none e h).symm
theorem St1.put {K : PySem.W.Frag} {H : Hp} {d c a : Addr} {o : HO} (S : St1 K H d c) (h1 : a ≠ d) (h2 : a ≠ c) : St1 K (upd H a o) d c := S.of (upd_ne h1.symm) (upd_ne h2.symm)
theorem StAt.put {K : PySem.W.Frag} {H : Hp} {d c : Addr} {ns : List Int} {i l m i' l' m' : Int} (S : StAt K H d c ns i l m) (h0 : 0 ≤ i') (h1 : 0 ≤ l') (h2 : 0 ≤ m') (h3 : m' < 2147483648) :
    StAt K (upd H d (.dK (stK c i' l' m'))) d c ns i' l' m' := ⟨upd_same, (Keep.upd d H _).lst S.dc S.cs, S.nn, h0, h1, h2, h3⟩
section
variable {H : Hp} {d c : Addr} {i l m j : Int}
theorem dg_cells (h : H d = some (.dK (stK c i l m))) : DGet H d (.str "cells") (some (.ref c)) := g_cells c i l m ▸ DGet.k (k := .inr "cells") h
theorem dg_at (h : H d = some (.dK (stK c i l m))) : DGet H d (.str "at") (some (.int i)) := g_at c i l m ▸ DGet.k (k := .inr "at") h
theorem dg_left (h : H d = some (.dK (stK c i l m))) : DGet H d (.str "left") (some (.int l)) := g_left c i l m ▸ DGet.k (k := .inr "left") h
theorem dg_mix (h : H d = some (.dK (stK c i l m))) : DGet H d (.str "mix") (some (.int m)) := g_mix c i l m ▸ DGet.k (k := .inr "mix") h
theorem st_few : (stK c i l m).length < sizeLine := Nat.lt_of_le_of_lt (show 4 ≤ 1000 by decide) (by decide)
theorem dp_at (h : H d = some (.dK (stK c i l m))) : DPut H d (.str "at") (.int j) (upd H d (.dK (stK c j l m))) := p_at c i l m j ▸ DPut.k (k := .inr "at") h st_few
theorem dp_left (h : H d = some (.dK (stK c i l m))) : DPut H d (.str "left") (.int j) (upd H d (.dK (stK c i j m))) := p_left c i l m j ▸ DPut.k (k := .inr "left") h st_few
theorem dp_mix (h : H d = some (.dK (stK c i l m))) : DPut H d (.str "mix") (.int j) (upd H d (.dK (stK c i l j))) := p_mix c i l m j ▸ DPut.k (k := .inr "mix") h st_few
end
/-! what follows is shown once, for both ways of an if ahead of it -/
theorem cut {t u : TS} {D : Ends} {σ : L2.St} {H : Hp} (I : L2.St → Hp → Prop) (h2 : ∀ σ' H', I σ' H' → u D σ' H') (h1 : (∀ σ' H', I σ' H' → u D σ' H') → t { D with nx := u D } σ H) : tSeq t u D σ H := h1 h2

/-! the promises of the draws -/
/-- the bound's bound -/
def big : Int := 10000000000000000000000000000000000000000000000000000000000000000000000
def spStart (K : PySem.W.Frag) : Sp := fun vs H Q _ => ∃ (a : Addr) (ns : List Int), vs = [.ref a] ∧ SqL K H a (ns.map V.int) ∧ ns.length ≤ 63 ∧ ∀ d c H', H d = none → H c = none → St1 K H' d c → Same H H' → Q (.ref d) H'
def spDraw (K : PySem.W.Frag) : Sp := fun vs H Q _ => ∃ (d c : Addr) (b : Int), vs = [.ref d, .int b] ∧ St1 K H d c ∧ 0 < b ∧ b ≤ 10000000000000000000000000000000000000000000000000000000000000000000000 ∧
  ∀ n H', 0 ≤ n → n < b → St1 K H' d c → Keep d H H' → Q (.int n) H'
def spPick (K : PySem.W.Frag) : Sp := fun vs H Q _ => ∃ (d c l : Addr) (xs : List V), vs = [.ref d, .ref l] ∧ St1 K H d c ∧ SqL K H l xs ∧ xs ≠ [] ∧ xs.length ≤ 1000 ∧
  ∀ v H', v ∈ xs → St1 K H' d c → Keep d H H' → Q v H'
/-- a value's kind -/
def isInt : V → Bool | .int _ => true | _ => false
def isBl : V → Bool | .bl _ => true | _ => false
def spIsNum : Sp := fun vs H Q _ => ∃ n : Int, vs = [.int n] ∧ Q (.bl true) H
theorem log_of {b : Int} (h0 : 0 < b) (h1 : b ≤ 10000000000000000000000000000000000000000000000000000000000000000000000) : CDivW l b := wide_div (b := 300) h0 (by
  have : (b.natAbs : Int) = b := by omega
  have e : (2 : Nat) ^ 300 = 2037035976334486086268445688409378161051468393665936250636140449354381299763336706183397376 := by decide +kernel
  rw [e]
  omega) (by decide) (by decide)
/-! tests whose answer is known -/
theorem ifN {c A B : Prop} [Decidable c] (h : ¬ c) (q : B) : if decide c = true then A else B := by
  rw [decide_eq_false h]
  exact iteF q
theorem ifY {c A B : Prop} [Decidable c] (h : c) (q : A) : if decide c = true then A else B := by
  rw [decide_eq_true h]
  exact iteT q
theorem wm {i j : Int} (hi : i.natAbs < 2 ^ 250) (hj : j.natAbs < 2 ^ 250) : CMulW i j := wide_mul hi hj (by decide) (by decide) (by decide)
theorem ltge (a b : Int) : a < b ∨ b ≤ a := by omega
theorem nm {i : Nat} {x : V} {σ : L2.St} {H : Hp} {k : L2.St → Hp → Prop} (h : k (σ.set i (some x)) H) : gName i x σ H k := h
/-! math.isqrt -/
def rIsqrt : List V → Hp → VK → Prop := fun vs H Q => ∃ n : Int, vs = [.int n] ∧ 0 ≤ n ∧ n.natAbs < 2 ^ 250 ∧ ∀ r : Int, 0 ≤ r → r * r ≤ n → n < (r + 1) * (r + 1) → Q (.int r) H
theorem cr_isqrt {X : Cx} : CallR X (.builtin "math.isqrt") rIsqrt := by
  intro pins s σ H vs us Q I r h
  obtain ⟨a, rfl, h0, h1, q⟩ := h
  obtain ⟨u, rfl, t, rfl⟩ := vals1 r
  have hl : a.toNat.log2 < 250 := by
    have e : a.toNat = a.natAbs := by omega
    rw [e]
    exact PySem.Flt.log2_lt_of (by decide) h1
  obtain ⟨z1, z2⟩ := PySem.Float64.isqrt_spec a.toNat
  refine call_function_meets PySem.W.MGF.kind_isqrt PySem.W.MGF.plain_isqrt PySem.W.MGF.entry_isqrt (PySem.W.MGF.args_isqrt _) (PySem.W.mg_run_isqrt a t (by omega) (by omega) (by omega)).meets ?_
  refine ⟨.int ((Float64.isqrt a.toNat : Nat) : Int), H, I.tok _, ⟨_, rfl⟩, q _ (Int.natCast_nonneg _) ?_ ?_⟩
  · have := Int.ofNat_le.mpr z1
    rw [Int.natCast_mul] at this
    omega
  · have := Int.ofNat_lt.mpr z2
    rw [Int.natCast_mul, Int.natCast_add] at this
    have e : ((a.toNat : Nat) : Int) = a := by omega
    rw [e] at this
    exact this
theorem szOk {xs : List V} (h : Nat.ble xs.length 1000 = true) : xs.length ≤ sizeLine := Nat.le_trans (Nat.le_of_ble_eq_true h) (by decide)
theorem eqN {a b : Int} {A B : Prop} (h : a ≠ b) (q : B) : if decide (V.int a = V.int b) = true then A else B := ifN (fun z => h (V.int.inj z)) q
theorem eqY {a b : Int} {A B : Prop} (h : a = b) (q : A) : if decide (V.int a = V.int b) = true then A else B := ifY (congrArg V.int h) q
theorem neN {a b : Int} {A B : Prop} (h : a = b) (q : B) : if (!decide (V.int a = V.int b)) = true then A else B := iteNS (congrArg V.int h) q
/-! tracked things behind a call that changes the state alone -/
section
variable {K : PySem.W.Frag} {d c : Addr} {H H' : Hp}
theorem Keep.l (k : Keep d H H') (S : St1 K H d c) {a : Addr} {xs : List V} (h : H a = some (.lst xs)) : H' a = some (.lst xs) := let ⟨_, e⟩ := S.dk; k.lst e h
theorem Keep.t (k : Keep d H H') (S : St1 K H d c) {a : Addr} {xs : List V} (h : H a = some (.tup xs)) : H' a = some (.tup xs) := let ⟨_, e⟩ := S.dk; k.tp e h
theorem Keep.sl (k : Keep d H H') (S : St1 K H d c) {a : Addr} {xs : List V} (h : SqL K H a xs) : SqL K H' a xs := let ⟨_, e⟩ := S.dk; k.seq e h
theorem Keep.st (k : Keep d H H') (S : St1 K H d c) {a : Addr} {xs : List V} (h : SqT K H a xs) : SqT K H' a xs := let ⟨_, e⟩ := S.dk; k.tup e h
end
theorem sq0 (x : Int) : 0 ≤ x * x := by
  rcases ltge x 0 with z | z
  · have := Int.mul_nonneg (show 0 ≤ -x by omega) (show 0 ≤ -x by omega)
    rw [Int.neg_mul_neg] at this
    exact this
  · exact Int.mul_nonneg z z
theorem atI0 {α : Type} {xs : List α} {j : Nat} {v : α} (h : xs[j]? = some v) : atI xs (0 + (j : Int)) = some v := by
  rw [Int.zero_add]
  exact atI_nat h
theorem atI_back {α : Type} {xs : List α} {v : α} (h : xs.getLast? = some v) : atI xs (-1) = some v := by
  obtain ⟨ys, rfl⟩ := List.getLast?_eq_some_iff.mp h
  exact atI_last ys v
theorem eqvN {d : PyData} {A B : Prop} (h : d.canLay0 = true) (q : B) : if (!PyData.eqv d d) = true then A else B := by
  rw [SeqAt.eqv_refl d h]
  exact q
theorem getInt {ns : List Int} {i : Nat} {y : V} (h : (ns.map V.int)[i]? = some y) : ∃ x, y = .int x ∧ x ∈ ns ∧ i < ns.length ∧ ns.take (i + 1) = ns.take i ++ [x] := by
  rw [List.getElem?_map] at h
  cases e : ns[i]? with
  | none => rw [e] at h; cases h
  | some x =>
    rw [e] at h
    exact ⟨x, (Option.some.inj h).symm, List.mem_of_getElem? e, (List.getElem?_eq_some_iff.mp e).1, by rw [List.take_add_one, e]; rfl⟩
/-- the built-in names that the text has not bound -/
structure Txt0 (mg : Str → Option Value) : Prop where
  abs : mg "abs" = none
  int : mg "int" = none
  len : mg "len" = none
  bool : mg "bool" = none
  isinstance : mg "isinstance" = none
structure TxtA (mg : Str → Option Value) : Prop extends Txt0 mg where
  max : mg "max" = none
  min : mg "min" = none
  range : mg "range" = none
  tuple : mg "tuple" = none
  list : mg "list" = none
  sum : mg "sum" = none
  any : mg "any" = none
  all : mg "all" = none
  sorted : mg "sorted" = none
  dict : mg "dict" = none
  enumerate : mg "enumerate" = none
theorem getMap {α : Type} {f : α → V} {ns : List α} {i : Nat} {y : V} (h : (ns.map f)[i]? = some y) : ∃ x, y = f x ∧ x ∈ ns ∧ i < ns.length ∧ ns.take (i + 1) = ns.take i ++ [x] := by
  rw [List.getElem?_map] at h
  cases e : ns[i]? with
  | none => rw [e] at h; cases h
  | some x =>
    rw [e] at h
    exact ⟨x, (Option.some.inj h).symm, List.mem_of_getElem? e, (List.getElem?_eq_some_iff.mp e).1, by rw [List.take_add_one, e]; rfl⟩
theorem sq_le {x b : Int} (h0 : -b ≤ x) (h1 : x ≤ b) : x * x ≤ b * b := by
  rcases ltge x 0 with z | z
  · have := Int.mul_le_mul (show -x ≤ b by omega) (show -x ≤ b by omega) (show 0 ≤ -x by omega) (show 0 ≤ b by omega)
    rw [Int.neg_mul_neg] at this
    exact this
  · exact Int.mul_le_mul h1 h1 z (by omega)
/-- 2 ^ (24 - i) -/
def pw (i : Nat) : Int := (2 ^ (24 - i) : Nat)
theorem pw_step {i : Nat} (h : i < 24) : pw i = 2 * pw (i + 1) := by
  unfold pw
  rw [show 24 - i = (24 - (i + 1)) + 1 by omega, Nat.pow_succ]
  omega
theorem mapAt {α : Type} {f : α → V} {ns : List α} {i : Nat} (h : i < ns.length) : (ns.map f)[i]? = some (f ns[i]) := by simp [h]
theorem at_mod {α : Type} {f : α → V} {ns : List α} {z m : Int} (hm : m = (ns.length : Int)) (h : 0 < ns.length) : ∃ x, x ∈ ns ∧ atI (ns.map f) (z % m) = some (f x) := by
  obtain ⟨j, hj⟩ : ∃ j : Nat, z % m = (j : Int) := ⟨(z % m).toNat, by have := Int.emod_nonneg z (show m ≠ 0 by omega); omega⟩
  have hj2 : j < ns.length := by have := Int.emod_lt_of_pos z (show 0 < m by omega); omega
  exact ⟨ns[j], List.getElem_mem hj2, by rw [hj]; exact atI_nat (mapAt hj2)⟩
/-- all that stood, but at d -/
theorem Keep.none {d a : Addr} {H H' : Hp} (k : Keep d H H') (n : a ≠ d) (h : H' a = none) : H a = none := by
  cases e : H a with
  | none => rfl
  | some o => rw [k _ _ e n] at h; cases h
theorem atI_lastn {α : Type} {xs : List α} {v : α} {m : Int} (hm : m = (xs.length : Int) - 1) (h : xs.getLast? = some v) : atI xs m = some v := by
  obtain ⟨ys, rfl⟩ := List.getLast?_eq_some_iff.mp h
  rw [hm, List.length_append, List.length_singleton]
  have e : ((ys.length + 1 : Nat) : Int) - 1 = ((ys.length : Nat) : Int) := by omega
  rw [e]
  exact atI_nat (by simp)
theorem sq_swap (a b : Int) : (a - b) * (a - b) = (b - a) * (b - a) := by
  have e : a - b = -(b - a) := by omega
  rw [e, Int.neg_mul_neg]
def rLenK (K : PySem.W.Frag) : List V → Hp → VK → Prop := fun xs H Q => ∃ p ys, xs = [V.ref p] ∧ (SqL K H p ys ∨ SqT K H p ys) ∧ Q (.int ys.length) H
end Sk

set_option Elab.async false
set_option linter.all false
set_option maxRecDepth 100000
set_option maxHeartbeats 4000000
namespace Sk
/-- the reflected code of a number -/
def enc (n : Nat) : Nat := n ^^^ (n / 2)
/-- a code and all its halves, added without carry -/
def dec (c : Nat) : Nat := if _h : c = 0 then 0 else c ^^^ dec (c / 2)
termination_by c
decreasing_by omega
theorem dec_zero : dec 0 = 0 := by unfold dec; rfl
theorem dec_step (c : Nat) : dec c = c ^^^ dec (c / 2) := by
  rcases Nat.eq_zero_or_pos c with h | h
  · subst h
    rw [show (0:Nat) / 2 = 0 from rfl, dec_zero]
    rfl
  · rw [dec, dif_neg (by omega)]
theorem enc_half (n : Nat) : enc n / 2 = enc (n / 2) := Nat.xor_div_two
theorem dec_enc (n : Nat) : dec (enc n) = n := by
  induction n using Nat.strongRecOn with
  | ind n ih =>
    rcases Nat.eq_zero_or_pos n with h | h
    · subst h
      rw [show enc 0 = 0 from rfl, dec_zero]
    · rw [dec_step, enc_half, ih (n / 2) (by omega)]
      unfold enc
      rw [Nat.xor_assoc, Nat.xor_self, Nat.xor_zero]
theorem dec_half (c : Nat) : dec c / 2 = dec (c / 2) := by
  induction c using Nat.strongRecOn with
  | ind c ih =>
    rcases Nat.eq_zero_or_pos c with h | h
    · subst h
      rw [show (0:Nat) / 2 = 0 from rfl, dec_zero]
    · rw [dec_step c, Nat.xor_div_two, ih (c / 2) (by omega), ← dec_step]
theorem enc_dec (c : Nat) : enc (dec c) = c := by
  unfold enc
  rw [dec_half, dec_step c, Nat.xor_assoc, Nat.xor_self, Nat.xor_zero]
theorem dec_lt {c n : Nat} (h : c < 2 ^ n) : dec c < 2 ^ n := by
  induction c using Nat.strongRecOn generalizing n with
  | ind c ih =>
    rcases Nat.eq_zero_or_pos c with z | z
    · subst z
      rw [dec_zero]; exact h
    · rw [dec_step]
      exact Nat.xor_lt_two_pow h (ih (c / 2) (by omega) (by omega))
theorem enc_lt {c n : Nat} (h : c < 2 ^ n) : enc c < 2 ^ n := Nat.xor_lt_two_pow h (by omega)
theorem xor_mod (a b : Nat) : (a ^^^ b) % 2 = if a % 2 = b % 2 then 0 else 1 := by
  have h := Nat.testBit_xor a b 0
  simp only [Nat.testBit_zero] at h
  rcases Nat.mod_two_eq_zero_or_one a with e1 | e1 <;> rcases Nat.mod_two_eq_zero_or_one b with e2 | e2 <;> rcases Nat.mod_two_eq_zero_or_one (a ^^^ b) with e3 | e3 <;> simp [e1, e2, e3] at h ⊢
/-- the first k bits, the lowest first -/
def bits : Nat → Nat → List Nat
  | 0, _ => []
  | k + 1, n => n % 2 :: bits k (n / 2)
theorem bits_len (k n : Nat) : (bits k n).length = k := by
  induction k generalizing n with
  | zero => rfl
  | succ k ih => simp [bits, ih]
theorem bits_at {k n i : Nat} (h : i < k) : (bits k n)[i]? = some (n / 2 ^ i % 2) := by
  induction k generalizing n i with
  | zero => omega
  | succ k ih =>
    cases i with
    | zero => simp [bits]
    | succ i =>
      rw [bits, List.getElem?_cons_succ, ih (by omega), Nat.div_div_eq_div_mul, Nat.pow_succ, Nat.mul_comm]
theorem bits_snoc (k n : Nat) : bits (k + 1) n = bits k n ++ [n / 2 ^ k % 2] := by
  induction k generalizing n with
  | zero => simp [bits]
  | succ k ih =>
    rw [bits, ih, bits, Nat.div_div_eq_div_mul, Nat.pow_succ, Nat.mul_comm (2 ^ k)]
    rfl
/-- the code that the bits tell, up to the k-th one -/
theorem enc_bit (n k : Nat) : enc n / 2 ^ k % 2 = if n / 2 ^ k % 2 = n / 2 ^ (k + 1) % 2 then 0 else 1 := by
  induction k generalizing n with
  | zero => simpa [enc] using xor_mod n (n / 2)
  | succ k ih =>
    have e : ∀ m : Nat, m / 2 ^ (k + 1) = m / 2 / 2 ^ k := fun m => by rw [Nat.div_div_eq_div_mul, Nat.pow_succ, Nat.mul_comm]
    have e2 : ∀ m : Nat, m / 2 ^ (k + 1 + 1) = m / 2 / 2 ^ (k + 1) := fun m => by rw [Nat.div_div_eq_div_mul, Nat.pow_succ 2 (k + 1), Nat.mul_comm 2]
    rw [e, e, e2, enc_half, ih]
theorem low_step (c k : Nat) : c % 2 ^ (k + 1) = c % 2 ^ k + 2 ^ k * (c / 2 ^ k % 2) := by
  rw [Nat.pow_succ, Nat.mod_mul]
/-- where the first k bits of two numbers differ -/
def diff (k a b : Nat) : List Nat := (List.range k).filter fun i => decide (a / 2 ^ i % 2 ≠ b / 2 ^ i % 2)
theorem diff_snoc (k a b : Nat) : diff (k + 1) a b = diff k a b ++ (if a / 2 ^ k % 2 ≠ b / 2 ^ k % 2 then [k] else []) := by
  unfold diff
  rw [List.range_succ, List.filter_append]
  congr 1
  by_cases h : a / 2 ^ k % 2 = b / 2 ^ k % 2 <;> simp [h]
theorem diff_len_succ (k a b : Nat) : (diff (k + 1) a b).length = (if a % 2 ≠ b % 2 then 1 else 0) + (diff k (a / 2) (b / 2)).length := by
  induction k with
  | zero => 
    rw [diff_snoc]
    simp [diff]
    split <;> simp
  | succ k ih =>
    rw [diff_snoc, List.length_append, ih, diff_snoc k, List.length_append]
    have e : ∀ m : Nat, m / 2 ^ (k + 1) = m / 2 / 2 ^ k := fun m => by rw [Nat.div_div_eq_div_mul, Nat.pow_succ, Nat.mul_comm]
    rw [e, e]
    by_cases h : a / 2 / 2 ^ k % 2 = b / 2 / 2 ^ k % 2 <;> simp [h] <;> omega
theorem diff_self (k a : Nat) : (diff k a a).length = 0 := by simp [diff]
/-- codes of neighbours differ in one bit -/
theorem one_bit (k n : Nat) (h : n + 1 < 2 ^ k) : (diff k (enc n) (enc (n + 1))).length = 1 := by
  induction k generalizing n with
  | zero => simp at h
  | succ k ih =>
    rw [diff_len_succ, enc_half, enc_half]
    have a0 := enc_bit n 0
    have a1 := enc_bit (n + 1) 0
    simp only [Nat.pow_zero, Nat.div_one, Nat.zero_add, Nat.pow_one] at a0 a1
    rw [a0, a1]
    rcases Nat.mod_two_eq_zero_or_one n with e | e
    · rw [show (n + 1) / 2 = n / 2 by omega, diff_self, e, show (n + 1) % 2 = 1 by omega]
      rcases Nat.mod_two_eq_zero_or_one (n / 2) with e2 | e2 <;> simp [e2]
    · rw [show (n + 1) / 2 = n / 2 + 1 by omega, ih (n / 2) (by rw [Nat.pow_succ] at h; omega), e, show (n + 1) % 2 = 0 by omega]
      rcases Nat.mod_two_eq_zero_or_one (n / 2) with e2 | e2
      · rw [e2, show (n / 2 + 1) % 2 = 1 by omega]; rfl
      · rw [e2, show (n / 2 + 1) % 2 = 0 by omega]; rfl
end Sk
namespace Sk
open PySem PySem.Spec PyProof.Rows L2
/-! as whole numbers of the program -/
def nv (n : Nat) : V := .int (n : Int)
def bL (k n : Nat) : List V := (bits k n).map nv
theorem bL_len (k n : Nat) : (bL k n).length = k := by rw [bL, List.length_map, bits_len]
theorem bL_snoc (k n : Nat) : bL (k + 1) n = bL k n ++ [nv (n / 2 ^ k % 2)] := by rw [bL, bits_snoc, List.map_append]; rfl
theorem bL_at {k n i : Nat} (h : i < k) : (bL k n)[i]? = some (nv (n / 2 ^ i % 2)) := by
  rw [bL, List.getElem?_map, bits_at h]; rfl
theorem half_cast (n : Nat) : ((n : Nat) : Int) / 2 = ((n / 2 : Nat) : Int) := by omega
theorem rem_cast (n : Nat) : ((n : Nat) : Int) % 2 = ((n % 2 : Nat) : Int) := by omega
theorem half_pow (n i : Nat) : n / 2 ^ i / 2 = n / 2 ^ (i + 1) := by rw [Nat.div_div_eq_div_mul, Nat.pow_succ]
theorem xor_cast (a b : Nat) : Builtin.bitXor ((a : Nat) : Int) ((b : Nat) : Int) = ((a ^^^ b : Nat) : Int) := by
  rw [Bits.bitXor_pp (Int.natCast_nonneg _) (Int.natCast_nonneg _)]; rfl
theorem enc_val (n : Nat) : Builtin.bitXor ((n : Nat) : Int) (((n : Nat) : Int) / 2) = ((enc n : Nat) : Int) := by rw [half_cast, xor_cast]; rfl
theorem two (l : Int) : CDivW l 2 := log_of (by decide) (by decide)
theorem nv_ne {a b : Nat} : (!decide (nv a = nv b)) = !decide (a = b) := by
  by_cases h : a = b
  · subst h; simp
  · have : nv a ≠ nv b := fun e => h (by unfold nv at e; injection e with e; omega)
    simp [h, this]
theorem decide_int {z : Int} (n : Nat) (h : z = n) : (.int z : V) = nv n := by rw [h]; rfl
theorem atz {α : Type} {xs : List α} {i : Nat} {v : α} (h : xs[i]? = some v) : atI xs (0 + (i : Int)) = some v := by
  rw [Int.zero_add]
  exact atI_nat h
theorem atz1 {α : Type} {xs : List α} {i : Nat} {v : α} (h : xs[i + 1]? = some v) : atI xs (0 + (i : Int) + 1) = some v := by
  rw [Int.zero_add]
  exact atI_nat (j := i + 1) h
theorem code_step (n i : Nat) : ((enc n % 2 ^ i : Nat) : Int) + ((2 ^ i : Nat) : Int) * (if (!decide (n / 2 ^ i % 2 = n / 2 ^ (i + 1) % 2)) = true then 1 else 0) = ((enc n % 2 ^ (i + 1) : Nat) : Int) := by
  rw [low_step (enc n) i, enc_bit]
  by_cases h : n / 2 ^ i % 2 = n / 2 ^ (i + 1) % 2
  · rw [if_pos h, decide_eq_true h]
    simp
  · rw [if_neg h, decide_eq_false h]
    simp
theorem pow_step (i : Nat) : 2 * ((2 ^ i : Nat) : Int) = ((2 ^ (i + 1) : Nat) : Int) := by
  rw [Nat.pow_succ]
  omega
/-- the promises -/
def spEnc : Sp := fun vs H Q _ => ∃ n : Nat, vs = [nv n] ∧ Q (nv (enc n)) H
def spDec : Sp := fun vs H Q _ => ∃ n : Nat, vs = [nv n] ∧ Q (nv (dec n)) H
def spBits : Sp := fun vs H Q _ => ∃ n : Nat, vs = [nv n] ∧ ∀ p H', H p = none → H' p = some (.lst (bL 17 n)) → Same H H' → Q (.ref p) H'
def spCode : Sp := fun vs H Q _ => ∃ n : Nat, vs = [nv n] ∧ ∀ H', Same H H' → Q (nv (enc n % 2 ^ 16)) H'
end Sk

set_option Elab.async false
set_option linter.all false
set_option maxRecDepth 100000
set_option maxHeartbeats 4000000
namespace Sk
open PySem PySem.Spec PyProof.Rows L2
def top (i : Nat) : Stmt := PySem.Challenge.pw_skyapart_k34_reflected_codes.main.body.getD i (.Pass ⟨0, 0, 0, 0⟩)
abbrev s_law_start : Stmt := top 4
abbrev s_law_draw : Stmt := top 5
abbrev s_law_pick : Stmt := top 6
abbrev s_law_is_number : Stmt := top 7
section
variable {P : Program} {w : World} {K : PySem.W.Frag} {mg : Str → Option Value} {base : Heap}
theorem sc_law_start : FnScope ["script", "cell"] ["script"] (defScope s_law_start) := ⟨rfl, rfl, rfl, by decide +kernel, rfl, by decide +kernel, by decide +kernel⟩
theorem ok_law_start {f : Addr} {fd : FuncData} (F : Fun K "_law_start" "_law_start" s_law_start f fd) (T : Txt0 mg) : FnOk P w K mg base CX0 1 f fd ["script"] (spStart K) := by
  refine F.ok sc_law_start (fun vs H Q E h => ?_) (fun cdv A outer s H vs Q E hr h => ?_)
  · obtain ⟨a, ns, rfl, _⟩ := h
    rfl
  · obtain ⟨a, ns, rfl, hS, hl, k⟩ := h
    refine ⟨_, (pss_one (ps_ret (pe_disp (pps_cons pe_str (pe_lc (own := [("cell", 1)]) (g := gName 1) (by rfl) sc_law_start.nd (pi_list (pv 0)) (blkOk_by (own := [("cell", 1)]) (N := ["script", "cell"]) (sc := defScope s_law_start) (by decide +kernel)) (fun _ _ _ _ _ => (pg_name (i := 1) sc_law_start.nd rfl (Or.inl rfl))) (fun _ _ _ _ _ => pts_nil) (fun _ _ _ _ _ => (pe_callB call_abs (by rfl) T.abs boot_abs (pa_cons (pe_callTy call_int1 (by rfl) T.int boot_int (pa_cons (pv 1) pa_nil)) pa_nil)))) (pps_cons pe_str pe_int (pps_cons pe_str pe_int (pps_cons pe_str (pe_op op_add pe_int (pe_callB call_len_seq (by rfl) T.len boot_len (pa_cons (pv 0) pa_nil))) pps_nil)))) (by rfl) (by rfl) (fun z => by cases z) (by decide)))), ?_⟩
    -- the dict
    intro d hd
    have s0 : Same H (upd H d (.dK [])) := same_new hd
    refine ⟨_, rfl, a, rfl, ⟨_, s0.seq hS⟩, fun D hD => ?_⟩
    have nDd : d ≠ D := fun z => by rw [← z, upd_same] at hD; cases hD
    refine lc_list (K := K) (a := a) (xs := ns.map V.int) (fun i H' => ∃ cs : List Int, H' D = some (.lst (cs.map V.int)) ∧ cs.length = i ∧ (∀ x ∈ cs, 0 ≤ x) ∧ Same H H' ∧ H' d = some (.dK []))
      ⟨[], upd_same, rfl, (fun _ h => nomatch h), fun b o e => (same_new hD) b o (s0 b o e), by rw [upd_ne nDd, upd_same]⟩ (fun i H' _ ⟨_, _, _, _, s2, _⟩ => s2.seq hS) ?_ ?_
    · rintro i x H' hx ⟨cs, hc, hi, hn, s2, h2⟩
      obtain ⟨z, rfl⟩ : ∃ z, x = V.int z := by
        rw [List.getElem?_map] at hx
        cases e : ns[i]? with
        | none => rw [e] at hx; cases hx
        | some z => rw [e] at hx; exact ⟨z, (Option.some.inj hx).symm⟩
      have hil : i < (ns.map V.int).length := (List.getElem?_eq_some_iff.mp hx).1
      rw [List.length_map] at hil
      refine ⟨rfl, ?_⟩
      refine ⟨_, rfl, .inl ⟨_, rfl, _, rfl, _, hc, ?_, cs ++ [if z < 0 then -z else z], ?_, ?_, ?_, ?_, ?_⟩⟩
      · rw [List.length_map]; exact small1000 (by omega)
      · rw [upd_same, List.map_append]; rfl
      · rw [List.length_append, hi]; rfl
      · intro y hy
        rcases List.mem_append.mp hy with hy | hy
        · exact hn y hy
        · rw [List.mem_singleton.mp hy]; split <;> omega
      · intro b o e
        rw [upd_ne (ne_of_none e (s0.free hD))]
        exact s2 b o e
      · rw [upd_ne nDd]; exact h2
    · rintro H' ⟨cs, hc, hi, hn, s2, h2⟩
      refine ⟨_, rfl, a, _, rfl, .inl (s2.seq hS), _, _, rfl, rfl, h2, stK D 0 0 (7 + ((ns.map V.int).length : Int)), rfl, (by show 4 ≤ 15; decide), ?_⟩
      rw [merge_st]
      have hDd : D ≠ d := fun z => nDd z.symm
      refine k d D _ hd (s0.free hD) ⟨cs, 0, 0, _, upd_same, (by rw [upd_ne hDd]; exact hc), hn, by omega, by omega, ?_, ?_⟩ fun b o e => ?_
      · omega
      · rw [List.length_map]; omega
      · rw [upd_ne (ne_of_none e hd)]
        exact s2 b o e
theorem sc_law_draw : FnScope ["state", "bound", "cell", "number"] ["state", "bound"] (defScope s_law_draw) := ⟨rfl, rfl, rfl, by decide +kernel, rfl, by decide +kernel, by decide +kernel⟩
theorem ok_law_draw {f : Addr} {fd : FuncData} (F : Fun K "_law_draw" "_law_draw" s_law_draw f fd) (T : Txt0 mg) : FnOk P w K mg base CX0 1 f fd ["state", "bound"] (spDraw K) := by
  refine F.ok sc_law_draw (fun vs H Q E h => ?_) (fun cdv A outer s H vs Q E hr h => ?_)
  · obtain ⟨d, c, b, rfl, _⟩ := h
    rfl
  · obtain ⟨d, c, b, rfl, S1, b0, b1, k⟩ := h
    have hu := hu_of hr
    have hm : ∀ x : Int, 0 ≤ x % b ∧ x % b < b := fun x => ⟨Int.emod_nonneg x (by omega), Int.emod_lt_of_pos x b0⟩
    have hmx : ∀ x : Int, 0 ≤ x % 2147483647 ∧ x % 2147483647 < 2147483648 := fun x => by omega
    refine ⟨_, (pss_cons (ps_if (PW.pt (pw_and (pt_cmpR op_eq (pe_dget hu (pv 0) pe_str (fun _ _ => rfl)) pe_int (nomark _)) (pw_and1 (pt_cmpR op_lt (pe_dget hu (pv 0) pe_str (fun _ _ => rfl)) (pe_callB call_len_seq (by rfl) T.len boot_len (pa_cons (pe_dget hu (pv 0) pe_str (fun _ _ => rfl)) pa_nil)) (nomark _))))) (pss_cons (ps_set (i := 2) sc_law_draw.nd rfl (Or.inl rfl) (pe_ix ix_list (pe_dget hu (pv 0) pe_str (fun _ _ => rfl)) (pe_dget hu (pv 0) pe_str (fun _ _ => rfl)) (fun _ _ => rfl)))
    (pss_cons (ps_dput hu (pv 0) pe_str (pe_op op_add (pe_dget hu (pv 0) pe_str (fun _ _ => rfl)) pe_int) rfl)
    (pss_cons (ps_dput hu (pv 0) pe_str (pe_op op_mod (pe_callTy call_int1 (by rfl) T.int boot_int (pa_cons (pe_op op_add (pe_op op_add (pe_op op_mul (pe_dget hu (pv 0) pe_str (fun _ _ => rfl)) pe_int) (pv 2)) pe_int) pa_nil)) pe_int) rfl)
    (pss_cons (ps_if (pt_cmpR op_lt (pv 2) (pe_op op_pow pe_int pe_int) (nomark _)) (pss_one (ps_ret (pe_op op_mod (pe_callTy call_int1 (by rfl) T.int boot_int (pa_cons (pv 2) pa_nil)) (pv 1))))
      pss_nil)
    (pss_one (ps_dput hu (pv 0) pe_str (pv 2) rfl))))))
      pss_nil)
    (pss_cons (ps_if (pt_cmpR op_gt (pe_dget hu (pv 0) pe_str (fun _ _ => rfl)) pe_int (nomark _)) (pss_cons (ps_set (i := 3) sc_law_draw.nd rfl (Or.inl rfl) (pe_op op_mod (pe_callTy call_int1 (by rfl) T.int boot_int (pa_cons (pe_dget hu (pv 0) pe_str (fun _ _ => rfl)) pa_nil)) (pv 1)))
    (pss_cons (ps_dput hu (pv 0) pe_str (pe_op op_fdivW (pe_dget hu (pv 0) pe_str (fun _ _ => rfl)) (pv 1)) rfl)
    (pss_one (ps_ret (pv 3)))))
      pss_nil)
    (pss_cons (ps_dput hu (pv 0) pe_str (pe_op op_mod (pe_callTy call_int1 (by rfl) T.int boot_int (pa_cons (pe_op op_add (pe_op op_mul (pe_dget hu (pv 0) pe_str (fun _ _ => rfl)) pe_int) pe_int) pa_nil)) pe_int) rfl)
    (pss_one (ps_ret (pe_op op_mod (pe_callTy call_int1 (by rfl) T.int boot_int (pa_cons (pe_op op_mod (pe_callTy call_int1 (by rfl) T.int boot_int (pa_cons (pe_op op_add (pe_op op_mul (pe_dget hu (pv 0) pe_str (fun _ _ => rfl)) pe_int) pe_int) pa_nil)) pe_int) pa_nil)) (pv 1))))))), ?_⟩
    refine cut (fun σ' H' => ∃ v2 v3, σ' = [some (.ref d), some (.int b), v2, v3] ∧ St1 K H' d c ∧ Keep d H H') ?_ (fun rest => ?_)
    · -- the rest: from a number that is left, or from the mix
      rintro σ' H' ⟨v2, v3, rfl, ⟨ns, i, l, m, S⟩, kp⟩
      refine ⟨_, rfl, _, _, rfl, dg_left S.dc, _, _, rfl, rfl, _, rfl, ite2 (fun e => ?_) (fun e => ?_)⟩
      · refine ⟨_, rfl, _, _, rfl, dg_left S.dc, .inl ⟨_, rfl, _, rfl, _, _, rfl, rfl, b0, ?_⟩⟩
        refine ⟨_, rfl, _, _, rfl, dg_left S.dc, _, rfl, _, _, rfl, rfl, log_of b0 b1, _, rfl, _, _, rfl, dp_left S.dc, ?_⟩
        refine ⟨_, rfl, ?_⟩
        exact k _ _ (hm l).1 (hm l).2 ⟨_, _, _, _, S.put S.i0 (Int.ediv_nonneg S.l0 (by omega)) S.m0 S.m1⟩ (kp.trans (Keep.upd _ _ _))
      · refine ⟨_, rfl, _, _, rfl, dg_mix S.dc, _, _, rfl, rfl, .inr ⟨by decide, by decide⟩, _, _, rfl, rfl, .inl ⟨_, rfl, _, _, rfl, rfl, (by show (0:Int) < 2147483647; decide), _, rfl, _, _, rfl, dp_mix S.dc, ?_⟩⟩
        have S2 := S.put (i' := i) (l' := l) S.i0 S.l0 (hmx (m * 48271 + 11)).1 (hmx (m * 48271 + 11)).2
        refine ⟨_, rfl, _, _, rfl, dg_mix S2.dc, _, _, rfl, rfl, .inr ⟨by decide, by decide⟩, _, _, rfl, rfl, .inl ⟨_, rfl, _, _, rfl, rfl, (by show (0:Int) < 2147483629; decide), .inl ⟨_, rfl, _, rfl, _, _, rfl, rfl, b0, ?_⟩⟩⟩
        exact k _ _ (hm _).1 (hm _).2 ⟨_, _, _, _, S2⟩ (kp.trans (Keep.upd _ _ _))
    · -- the first if
      obtain ⟨ns, i, l, m, S⟩ := id S1
      refine ⟨_, rfl, _, _, rfl, dg_left S.dc, rfl, _, rfl, ite2 (fun e => ?_) (fun e => ?_)⟩
      · refine ⟨_, rfl, _, _, rfl, dg_at S.dc, _, rfl, _, _, rfl, dg_cells S.dc, _, _, rfl, .inl (.inl (.inl S.cs)), _, _, rfl, rfl, _, rfl, ite2 (fun e => ?_) (fun e => ?_)⟩
        · have hi : i < (ns.length : Int) := by
            have := of_decide_eq_true e
            rw [List.length_map] at this
            exact this
          obtain ⟨j, rfl⟩ : ∃ j : Nat, i = (j : Int) := ⟨i.toNat, by have := S.i0; omega⟩
          have hj : j < ns.length := by omega
          refine ⟨_, rfl, _, _, rfl, dg_cells S.dc, _, rfl, _, _, rfl, dg_at S.dc, _, _, _, _, rfl, rfl, .inl (.inl S.cs), atI_nat (j := j) (v := .int ns[j]) (by simp [hj]), ?_⟩
          have S2 := S.put (i' := (j : Int) + 1) (l' := l) (m' := m) (by omega) S.l0 S.m0 S.m1
          refine ⟨_, rfl, _, _, rfl, dg_at S.dc, _, _, rfl, rfl, _, rfl, _, _, rfl, dp_at S.dc, ?_⟩
          refine ⟨_, rfl, _, _, rfl, dg_mix S2.dc, _, _, rfl, rfl, .inr ⟨by decide, by decide⟩, _, rfl, _, _, rfl, rfl, _, _, rfl, rfl, .inl ⟨_, rfl, _, _, rfl, rfl, (by show (0:Int) < 2147483647; decide), _, rfl, _, _, rfl, dp_mix S2.dc, ?_⟩⟩
          have S3 := S2.put (i' := (j : Int) + 1) (l' := l) S2.i0 S.l0 (hmx (m * 48271 + ns[j] + 11)).1 (hmx (m * 48271 + ns[j] + 11)).2
          refine ⟨_, rfl, _, _, rfl, rfl, ⟨by decide, by decide, by decide⟩, _, _, rfl, rfl, _, rfl, ite2 (fun e => ?_) (fun e => ?_)⟩
          · refine ⟨_, rfl, .inl ⟨_, rfl, _, rfl, _, _, rfl, rfl, b0, ?_⟩⟩
            exact k _ _ (hm _).1 (hm _).2 ⟨_, _, _, _, S3⟩ ((Keep.upd _ _ _).trans (Keep.upd _ _ _))
          · refine ⟨_, rfl, _, rfl, _, _, rfl, dp_left S3.dc, ?_⟩
            have S4 := S3.put (i' := (j : Int) + 1) (l' := ns[j]) S2.i0 (S.nn _ (List.getElem_mem hj)) S3.m0 S3.m1
            exact rest _ _ ⟨_, _, rfl, ⟨_, _, _, _, S4⟩, ((Keep.upd _ _ _).trans (Keep.upd _ _ _)).trans (Keep.upd _ _ _)⟩
        · exact rest _ _ ⟨_, _, rfl, S1, Keep.refl _ _⟩
      · refine iteF ?_
        exact rest _ _ ⟨_, _, rfl, S1, Keep.refl _ _⟩
theorem sc_law_pick : FnScope ["state", "things"] ["state", "things"] (defScope s_law_pick) := ⟨rfl, rfl, rfl, by decide +kernel, rfl, by decide +kernel, by decide +kernel⟩
theorem ok_law_pick {f : Addr} {fd : FuncData} (F : Fun K "_law_pick" "_law_pick" s_law_pick f fd) (T : Txt0 mg) (D_law_draw : Def P w K mg base 1 "_law_draw" ["state", "bound"] (spDraw K)) : FnOk P w K mg base CX0 2 f fd ["state", "things"] (spPick K) := by
  refine F.ok sc_law_pick (fun vs H Q E h => ?_) (fun cdv A outer s H vs Q E hr h => ?_)
  · obtain ⟨d, c, l, xs, rfl, _⟩ := h
    rfl
  · obtain ⟨d, c, l, xs, rfl, S, hl, hn, hz, k⟩ := h
    refine ⟨_, (pss_one (ps_ret (pe_ix ix_list (pv 1) (pe_def D_law_draw (hr.mono (by decide)) (by rfl) (pa_cons (pv 0) (pa_cons (pe_callB call_len_seq (by rfl) T.len boot_len (pa_cons (pv 1) pa_nil)) pa_nil))) (fun _ _ => rfl)))), ?_⟩
    have hp : 0 < xs.length := List.length_pos_iff.mpr hn
    refine ⟨_, rfl, _, rfl, _, rfl, _, _, rfl, .inl hl, d, c, _, rfl, S, by omega, by omega, fun n H' n0 n1 S' kp => ?_⟩
    obtain ⟨kvs, hd⟩ := S.dk
    obtain ⟨j, rfl⟩ : ∃ j : Nat, n = (j : Int) := ⟨n.toNat, by omega⟩
    have hj : j < xs.length := by omega
    refine ⟨_, _, _, _, rfl, rfl, kp.seq hd hl, atI_nat (j := j) (v := xs[j]) (by simp [hj]), ?_⟩
    exact k _ _ (List.getElem_mem hj) S' kp
theorem sc_law_is_number : FnScope ["thing"] ["thing"] (defScope s_law_is_number) := ⟨rfl, rfl, rfl, by decide +kernel, rfl, by decide +kernel, by decide +kernel⟩
theorem ok_law_is_number {f : Addr} {fd : FuncData} (F : Fun K "_law_is_number" "_law_is_number" s_law_is_number f fd) (T : Txt0 mg) : FnOk P w K mg base CX0 1 f fd ["thing"] spIsNum := by
  refine F.ok sc_law_is_number (fun vs H Q E h => ?_) (fun cdv A outer s H vs Q E hr h => ?_)
  · obtain ⟨n, rfl, _⟩ := h
    rfl
  · obtain ⟨n, rfl, k⟩ := h
    refine ⟨_, (pss_one (ps_ret (pe_and (pe_callB call_isi (by rfl) T.isinstance boot_isinstance (pa_cons (pv 0) (pa_cons (pe_bltn (v := .ty "int") (by rfl) T.int boot_int rfl) pa_nil))) (pe_one (pe_not (pe_callB call_isi (by rfl) T.isinstance boot_isinstance (pa_cons (pv 0) (pa_cons (pe_bltn (v := .ty "bool") (by rfl) T.bool boot_bool rfl) pa_nil)))))))), ?_⟩
    refine ⟨_, rfl, _, _, _, _, true, rfl, ClsV.ty _, .base (.int n), kit_ty (by decide +kernel), true, rfl, ?_⟩
    refine iteT ?_
    refine ⟨_, rfl, _, _, _, _, false, rfl, ClsV.ty _, .base (.int n), kit_ty (by decide +kernel), false, rfl, ?_⟩
    exact k
end
end Sk

set_option Elab.async false
set_option linter.all false
set_option maxRecDepth 100000
set_option maxHeartbeats 4000000
namespace Sk
open PySem PySem.Spec PyProof.Rows L2
def spLaw (K : PySem.W.Frag) : Sp := fun vs H Q _ => ∃ (a : Addr) (ns : List Int), vs = [.ref a] ∧ SqL K H a (ns.map V.int) ∧ ns.length ≤ 63 ∧ ∀ H', Q (.bl true) H'
section
variable {P : Program} {w : World} {K : PySem.W.Frag} {mg : Str → Option Value} {base : Heap}
abbrev s_encode : Stmt := top 1
theorem sc_encode : FnScope ["number"] ["number"] (defScope s_encode) := ⟨rfl, rfl, rfl, by decide +kernel, rfl, by decide +kernel, by decide +kernel⟩
theorem ok_encode {f : Addr} {fd : FuncData} (F : Fun K "encode" "encode" s_encode f fd) (T : TxtA mg) : FnOk P w K mg base CX0 1 f fd ["number"] (spEnc) := by
  refine F.ok sc_encode (fun vs H Q E h => ?_) (fun cdv A outer s H vs Q E hr h => ?_)
  · obtain ⟨n, rfl, _⟩ := h
    rfl
  · obtain ⟨n, rfl, k⟩ := h
    refine ⟨_, (pss_one (ps_ret (pe_op op_xor (pv 0) (pe_op op_fdivW (pv 0) pe_int)))), ?_⟩
    refine ⟨_, rfl, _, rfl, _, _, rfl, rfl, two _, _, _, rfl, rfl, ?_⟩
    dsimp only
    rw [enc_val]
    exact k

abbrev s_decode : Stmt := top 2
theorem sc_decode : FnScope ["code", "number"] ["code"] (defScope s_decode) := ⟨rfl, rfl, rfl, by decide +kernel, rfl, by decide +kernel, by decide +kernel⟩
theorem ok_decode {f : Addr} {fd : FuncData} (F : Fun K "decode" "decode" s_decode f fd) (T : TxtA mg) : FnOk P w K mg base CX0 1 f fd ["code"] (spDec) := by
  refine F.ok sc_decode (fun vs H Q E h => ?_) (fun cdv A outer s H vs Q E hr h => ?_)
  · obtain ⟨n, rfl, _⟩ := h
    rfl
  · obtain ⟨n, rfl, k⟩ := h
    refine ⟨_, (pss_cons (ps_set (i := 1) sc_decode.nd rfl (Or.inl rfl) pe_int)
    (pss_cons (ps_while PassesOwn.never (pt_cmpR op_gt (pv 0) pe_int (nomark _))
      (pss_cons (ps_aug (i := 1) sc_decode.nd rfl (Or.inl rfl) (pv 0) iop_xor)
    (pss_one (ps_aug (i := 0) sc_decode.nd rfl (Or.inl rfl) pe_int iop_fdivW))))
    (pss_one (ps_ret (pv 1))))), ?_⟩
    refine nm ?_
    dsimp only
    refine while_by (fun σ H' => ∃ c m : Nat, σ = [some (nv c), some (nv m)] ∧ H' = H ∧ m ^^^ dec c = dec n) (fun σ _ => match σ with | some (.int z) :: _ => z.toNat | _ => 0) ⟨n, 0, rfl, rfl, Nat.zero_xor _⟩ ?_ (fun σ H Q Q' h => ?_)
    · rintro σ H' ⟨c, m, rfl, rfl, e⟩
      refine ⟨_, rfl, _, _, rfl, rfl, _, rfl, ite2 (fun e1 => ?_) (fun e1 => ?_)⟩
      · have e1 := of_decide_eq_true e1
        have hc : 0 < c := by omega
        refine ⟨_, rfl, _, rfl, _, _, rfl, rfl, ?_⟩
        refine ⟨_, rfl, _, _, rfl, rfl, two _, ?_⟩
        refine ⟨⟨c / 2, m ^^^ c, ?_, rfl, ?_⟩, ?_⟩
        · show [some (V.int (((c : Nat) : Int) / 2)), some (V.int (Builtin.bitXor ((m : Nat) : Int) ((c : Nat) : Int)))] = _
          rw [xor_cast, half_cast]
          rfl
        · rw [Nat.xor_assoc, ← dec_step]
          exact e
        · show ((c : Int) / 2).toNat < ((c : Int)).toNat
          omega
      · have hc : c = 0 := by
          have : ¬ (0 : Int) < (c : Int) := fun z => e1 (decide_eq_true z)
          omega
        subst hc
        refine ⟨_, rfl, ?_⟩
        rw [dec_zero, Nat.xor_zero] at e
        subst e
        exact k
    · rintro ⟨x, e0, i, j, e1, e2, kb, e3, q⟩
      exact ⟨x, e0, i, j, e1, e2, kb, e3, h _ _ q⟩

abbrev s_law_bits : Stmt := top 9
theorem sc_law_bits : FnScope ["number", "bits", "k"] ["number"] (defScope s_law_bits) := ⟨rfl, rfl, rfl, by decide +kernel, rfl, by decide +kernel, by decide +kernel⟩
theorem ok_law_bits {f : Addr} {fd : FuncData} (F : Fun K "_law_bits" "_law_bits" s_law_bits f fd) (T : TxtA mg) : FnOk P w K mg base CX0 1 f fd ["number"] (spBits) := by
  refine F.ok sc_law_bits (fun vs H Q E h => ?_) (fun cdv A outer s H vs Q E hr h => ?_)
  · obtain ⟨n, rfl, _⟩ := h
    rfl
  · obtain ⟨n, rfl, k⟩ := h
    refine ⟨_, (pss_cons (ps_set (i := 1) sc_law_bits.nd rfl (Or.inl rfl) (pe_lst pa_nil))
    (pss_cons (ps_for PassesOwn.never rfl (pi_range1 (by rfl) T.range (pa_cons pe_int pa_nil)) (pg_name (i := 2) sc_law_bits.nd rfl (Or.inl rfl))
      (pss_cons (ps_expr (pe_bm PySem.F.plainAttrs_list PySem.F.slot_list_append PySem.F.type_list_append mt_append (pv 1) (pa_cons (pe_op op_mod (pe_callTy call_int1 (by rfl) T.int boot_int (pa_cons (pv 0) pa_nil)) pe_int) pa_nil)))
    (pss_one (ps_set (i := 0) sc_law_bits.nd rfl (Or.inl rfl) (pe_op op_fdivW (pv 0) pe_int)))))
    (pss_one (ps_ret (pv 1))))), ?_⟩
    refine ⟨szOk rfl, fun p hp => ?_⟩
    refine nm ?_
    dsimp only
    refine ⟨17, rfl, by decide, by decide, for_range (n := 17) (fun i σ H' => ∃ v2, σ = [some (nv (n / 2 ^ i)), some (.ref p), v2] ∧ Same H H' ∧ H' p = some (.lst (bL i n))) ⟨none, by rw [Nat.pow_zero, Nat.div_one]; rfl, same_new hp, upd_same⟩ ?_ ?_⟩
    · rintro i σ H' hi ⟨v2, rfl, sm, hb⟩
      refine nm ?_
      dsimp only
      refine ⟨_, rfl, (.inl ⟨rfl, _, .inl (.inl hb)⟩), _, rfl, .inl ⟨_, rfl, _, _, rfl, rfl, (by show (0 : Int) < 2; decide), _, _, _, rfl, rfl, hb, by rw [bL_len]; exact small1000 (by omega), ?_⟩⟩
      refine ⟨_, rfl, _, _, rfl, rfl, two _, ?_⟩
      refine ⟨some (.int (0 + (i : Int))), ?_, (fun b o e => ?_), ?_⟩
      · show [some (V.int (((n / 2 ^ i : Nat) : Int) / 2)), some (V.ref p), _] = _
        rw [half_cast, half_pow]
        rfl
      · rw [upd_ne (ne_of_none e hp)]
        exact sm b o e
      · rw [upd_same, bL_snoc]
        show some (HO.lst (bL i n ++ [V.int (((n / 2 ^ i : Nat) : Int) % 2)])) = _
        rw [rem_cast]
        rfl
    · rintro σ H' ⟨v2, rfl, sm, hb⟩
      refine ⟨_, rfl, ?_⟩
      exact k p H' hp hb sm

abbrev s_law_code : Stmt := top 10
theorem sc_law_code : FnScope ["number", "bits", "code", "weight", "k"] ["number"] (defScope s_law_code) := ⟨rfl, rfl, rfl, by decide +kernel, rfl, by decide +kernel, by decide +kernel⟩
theorem ok_law_code {f : Addr} {fd : FuncData} (F : Fun K "_law_code" "_law_code" s_law_code f fd) (T : TxtA mg)
    (D_law_bits : Def P w K mg base 1 "_law_bits" ["number"] (spBits)) : FnOk P w K mg base CX0 2 f fd ["number"] (spCode) := by
  refine F.ok sc_law_code (fun vs H Q E h => ?_) (fun cdv A outer s H vs Q E hr h => ?_)
  · obtain ⟨n, rfl, _⟩ := h
    rfl
  · obtain ⟨n, rfl, k⟩ := h
    refine ⟨_, (pss_cons (ps_set (i := 1) sc_law_code.nd rfl (Or.inl rfl) (pe_def D_law_bits (hr.mono (by decide)) (by rfl) (pa_cons (pv 0) pa_nil)))
    (pss_cons (ps_set (i := 2) sc_law_code.nd rfl (Or.inl rfl) pe_int)
    (pss_cons (ps_set (i := 3) sc_law_code.nd rfl (Or.inl rfl) pe_int)
    (pss_cons (ps_for PassesOwn.never rfl (pi_range1 (by rfl) T.range (pa_cons pe_int pa_nil)) (pg_name (i := 4) sc_law_code.nd rfl (Or.inl rfl))
      (pss_cons (ps_set (i := 2) sc_law_code.nd rfl (Or.inl rfl) (pe_op op_add (pv 2) (pe_op op_mulW (pv 3) (pe_callTy call_int1 (by rfl) T.int boot_int (pa_cons (pe_cmpR op_ne (pe_ix (r := rIxL K) ix_list (pv 1) (pv 4) (fun _ _ => rfl)) (pe_ix (r := rIxL K) ix_list (pv 1) (pe_op op_add (pv 4) pe_int) (fun _ _ => rfl)) (nomark _)) pa_nil)))))
    (pss_one (ps_set (i := 3) sc_law_code.nd rfl (Or.inl rfl) (pe_op op_mulW pe_int (pv 3))))))
    (pss_one (ps_ret (pv 2))))))), ?_⟩
    refine ⟨_, rfl, n, rfl, fun p H1 hp hb sm => ?_⟩
    refine nm ?_
    dsimp only
    refine nm ?_
    dsimp only
    refine nm ?_
    dsimp only
    refine ⟨16, rfl, by decide, by decide, for_range (n := 16) (fun i σ H' => ∃ v4, σ = [some (nv n), some (.ref p), some (nv (enc n % 2 ^ i)), some (nv (2 ^ i)), v4] ∧ H' = H1) ⟨none, by rw [Nat.pow_zero, Nat.mod_one]; rfl, rfl⟩ ?_ ?_⟩
    · rintro i σ H' hi ⟨v4, rfl, rfl⟩
      refine nm ?_
      dsimp only
      have bw : ((2 ^ i : Nat) : Int).natAbs < 2 ^ 250 := by
        rw [Int.natAbs_natCast]
        exact Nat.pow_lt_pow_right (by decide) (by omega)
      refine ⟨_, rfl, _, rfl, _, rfl, _, rfl, _, _, _, _, rfl, rfl, .inl (.inl hb), atz (bL_at (i := i) (by omega)), _, rfl, _, rfl, _, _, rfl, rfl, _, _, _, _, rfl, rfl, .inl (.inl hb), atz1 (bL_at (i := i + 1) (by omega)), rfl, .inr ⟨_, rfl, _, _, rfl, rfl, wm bw (by split <;> decide), _, _, rfl, rfl, ?_⟩⟩
      refine nm ?_
      dsimp only
      refine ⟨_, rfl, _, _, rfl, rfl, wm (by decide) bw, ?_⟩
      refine ⟨some (.int (0 + (i : Int))), ?_, rfl⟩
      show [some (nv n), some (V.ref p), some (V.int (((enc n % 2 ^ i : Nat) : Int) + ((2 ^ i : Nat) : Int) * (if (!decide (nv (n / 2 ^ i % 2) = nv (n / 2 ^ (i + 1) % 2))) = true then 1 else 0))), some (V.int (2 * ((2 ^ i : Nat) : Int))), _] = _
      rw [nv_ne, code_step, pow_step]
      rfl
    · rintro σ H' ⟨v4, rfl, rfl⟩
      refine ⟨_, rfl, ?_⟩
      exact k _ sm

abbrev s_law : Stmt := top 11
theorem sc_law : FnScope ["script", "state", "number", "code", "other", "back", "first", "second", "k"] ["script"] (defScope s_law) := ⟨rfl, rfl, rfl, by decide +kernel, rfl, by decide +kernel, by decide +kernel⟩
theorem ok_law {f : Addr} {fd : FuncData} (F : Fun K "law" "law" s_law f fd) (T : TxtA mg)
    (D_law_start : Def P w K mg base 1 "_law_start" ["script"] (spStart K))
    (D_law_draw : Def P w K mg base 1 "_law_draw" ["state", "bound"] (spDraw K))
    (D_law_pick : Def P w K mg base 2 "_law_pick" ["state", "things"] (spPick K))
    (D_law_is_number : Def P w K mg base 1 "_law_is_number" ["thing"] (spIsNum))
    (D_encode : Def P w K mg base 1 "encode" ["number"] (spEnc))
    (D_decode : Def P w K mg base 1 "decode" ["code"] (spDec))
    (D_law_bits : Def P w K mg base 1 "_law_bits" ["number"] (spBits))
    (D_law_code : Def P w K mg base 2 "_law_code" ["number"] (spCode)) : FnOk P w K mg base CX0 4 f fd ["script"] (spLaw K) := by
  refine F.ok sc_law (fun vs H Q E h => ?_) (fun cdv A outer s H vs Q E hr h => ?_)
  · obtain ⟨a, ns, rfl, _⟩ := h
    rfl
  · obtain ⟨a, ns, rfl, hS, hl, k⟩ := h
    refine ⟨_, (pss_cons (ps_set (i := 1) sc_law.nd rfl (Or.inl rfl) (pe_def D_law_start (hr.mono (by decide)) (by rfl) (pa_cons (pv 0) pa_nil)))
    (pss_cons (ps_set (i := 2) sc_law.nd rfl (Or.inl rfl) (pe_def D_law_draw (hr.mono (by decide)) (by rfl) (pa_cons (pv 1) (pa_cons pe_int pa_nil))))
    (pss_cons (ps_if (pt_cmpR op_eq (pe_def D_law_draw (hr.mono (by decide)) (by rfl) (pa_cons (pv 1) (pa_cons pe_int pa_nil))) pe_int (nomark _)) (pss_one (ps_set (i := 2) sc_law.nd rfl (Or.inl rfl) (pe_callB (call_min2 rfl) (by rfl) T.min boot_min (pa_cons pe_int (pa_cons (pe_callB (call_max2 rfl) (by rfl) T.max boot_max (pa_cons pe_int (pa_cons (pe_op op_sub (pe_op op_add (pe_def D_law_pick (hr.mono (by decide)) (by rfl) (pa_cons (pv 1) (pa_cons (pe_lst (pa_cons pe_int (pa_cons pe_int (pa_cons pe_int (pa_cons pe_int (pa_cons pe_int (pa_cons pe_int (pa_cons pe_int pa_nil)))))))) pa_nil))) (pe_def D_law_draw (hr.mono (by decide)) (by rfl) (pa_cons (pv 1) (pa_cons pe_int pa_nil)))) pe_int) pa_nil))) pa_nil)))))
      pss_nil)
    (pss_cons (ps_set (i := 3) sc_law.nd rfl (Or.inl rfl) (pe_def D_encode (hr.mono (by decide)) (by rfl) (pa_cons (pv 2) pa_nil)))
    (pss_cons (ps_if (PW.pt (pw_or (pt_not (pt_val (pe_def D_law_is_number (hr.mono (by decide)) (by rfl) (pa_cons (pv 3) pa_nil)))) (pw_or (pt_cmpR op_ne (pv 3) (pe_def D_law_code (hr.mono (by decide)) (by rfl) (pa_cons (pv 2) pa_nil)) (nomark _)) (pw_or1 (pt_cmpR op_ne (pe_def D_decode (hr.mono (by decide)) (by rfl) (pa_cons (pv 3) pa_nil)) (pv 2) (nomark _)))))) (pss_one (ps_ret pe_bl))
      pss_nil)
    (pss_cons (ps_set (i := 4) sc_law.nd rfl (Or.inl rfl) (pe_def D_law_draw (hr.mono (by decide)) (by rfl) (pa_cons (pv 1) (pa_cons pe_int pa_nil))))
    (pss_cons (ps_set (i := 5) sc_law.nd rfl (Or.inl rfl) (pe_def D_decode (hr.mono (by decide)) (by rfl) (pa_cons (pv 4) pa_nil)))
    (pss_cons (ps_if (PW.pt (pw_or (pt_not (pt_val (pe_def D_law_is_number (hr.mono (by decide)) (by rfl) (pa_cons (pv 5) pa_nil)))) (pw_or (pt_not (pt_chain op_le op_le pe_int (pv 5) pe_int)) (pw_or1 (pt_cmpR op_ne (pe_def D_encode (hr.mono (by decide)) (by rfl) (pa_cons (pv 5) pa_nil)) (pv 4) (nomark _)))))) (pss_one (ps_ret pe_bl))
      pss_nil)
    (pss_cons (ps_if (pt_cmpR op_eq (pv 2) pe_int (nomark _)) (pss_one (ps_ret pe_bl))
      pss_nil)
    (pss_cons (ps_set (i := 6) sc_law.nd rfl (Or.inr rfl) (pe_def D_law_bits (hr.mono (by decide)) (by rfl) (pa_cons (pv 3) pa_nil)))
    (pss_cons (ps_set (i := 7) sc_law.nd rfl (Or.inr rfl) (pe_def D_law_bits (hr.mono (by decide)) (by rfl) (pa_cons (pe_def D_encode (hr.mono (by decide)) (by rfl) (pa_cons (pe_op op_add (pv 2) pe_int) pa_nil)) pa_nil)))
    (pss_one (ps_ret (pe_cmpR op_eq (pe_callB (r := rLenK K) call_len_seq (by rfl) T.len boot_len (pa_cons (pe_lc (own := [("k", 8)]) (g := gName 8) (by rfl) sc_law.nd (pi_range1 (by rfl) T.range (pa_cons pe_int pa_nil)) (blkOk_by (own := [("k", 8)]) (N := ["script", "state", "number", "code", "other", "back", "first", "second", "k"]) (sc := defScope s_law) (by decide +kernel)) (fun _ _ _ _ _ => (pg_name (i := 8) sc_law.nd rfl (Or.inl rfl))) (fun _ _ _ _ _ => pts_one (pt_cmpR op_ne (pe_ix (r := rIxL K) ix_list (pv 6) (pv 8) (fun _ _ => rfl)) (pe_ix (r := rIxL K) ix_list (pv 7) (pv 8) (fun _ _ => rfl)) (nomark _))) (fun _ _ _ _ _ => (pv 8))) pa_nil)) pe_int (nomark _))))))))))))))), ?_⟩
    refine ⟨_, rfl, a, ns, rfl, hS, hl, fun d c H0 hd0 hc0 S0 s0 => ?_⟩
    refine ⟨_, rfl, d, c, 65536, rfl, S0, (by decide), (by decide), fun x1 H1 x1a x1b S1 kp1 => ?_⟩
    refine nm ?_
    dsimp only
    refine cut (t := tIfS _ _ _) (fun σ' H' => ∃ n : Nat, σ' = [some (.ref a), some (.ref d), some (nv n), none, none, none, none, none, none] ∧ n < 65536 ∧ St1 K H' d c) ?_ (fun rest => ?_)
    rotate_left
    · have rest' : ∀ (v : Int) (H' : Hp), 0 ≤ v → v < 65536 → St1 K H' d c → _ := fun v H' h0 h1 S => rest [some (.ref a), some (.ref d), some (.int v), none, none, none, none, none, none] H' ⟨v.toNat, by rw [nv, Int.toNat_of_nonneg h0], by omega, S⟩
      refine ⟨_, rfl, d, c, 2, rfl, S1, (by decide), (by decide), fun x2 H2 x2a x2b S2 kp2 => ?_⟩
      refine ⟨rfl, _, rfl, ite2 (fun e => ?_) (fun e => ?_)⟩
      rotate_left
      · exact rest' x1 _ x1a x1b S2
      refine ⟨_, rfl, szOk rfl, fun p3 hp3 => ?_⟩
      refine ⟨d, c, _, _, rfl, S2.new hp3, .inl (.inl upd_same), (fun z => nomatch z), (by show 7 ≤ 1000; decide), fun v3 H3 hv3 S3 kp3 => ?_⟩
      obtain ⟨z, rfl, z0, z1⟩ : ∃ z : Int, v3 = .int z ∧ 1 ≤ z ∧ z ≤ 65536 := by
        simp only [List.mem_cons, List.not_mem_nil, or_false] at hv3
        rcases hv3 with rfl | rfl | rfl | rfl | rfl | rfl | rfl <;> exact ⟨_, rfl, by decide, by decide⟩
      refine ⟨_, rfl, d, c, 3, rfl, S3, (by decide), (by decide), fun x4 H4 x4a x4b S4 kp4 => ?_⟩
      refine ⟨_, _, rfl, rfl, _, _, rfl, rfl, _, _, rfl, _, _, rfl, ?_⟩
      refine rest' _ _ ?_ ?_ S4
      · split <;> split <;> omega
      · split <;> split <;> omega
    rintro σ' H' ⟨n, rfl, hn, Sa⟩
    have n17 : n < 2 ^ 16 := hn
    refine ⟨_, rfl, n, rfl, ?_⟩
    refine nm ?_
    dsimp only
    refine ⟨_, rfl, _, rfl, _, rfl, iteF ?_⟩
    refine ⟨_, rfl, _, rfl, n, rfl, fun Hb sb => ?_⟩
    refine ⟨rfl, _, rfl, ?_⟩
    rw [nv_ne, Nat.mod_eq_of_lt (enc_lt n17), decide_eq_true rfl]
    refine iteF ?_
    refine ⟨_, rfl, enc n, rfl, ?_⟩
    refine ⟨_, rfl, rfl, _, rfl, ?_⟩
    rw [nv_ne, dec_enc, decide_eq_true rfl]
    refine iteF ?_
    have Sb := Sa.same sb
    refine ⟨_, rfl, d, c, 65536, rfl, Sb, (by decide), (by decide), fun x5 H5 x5a x5b S5 kp5 => ?_⟩
    obtain ⟨m, rfl⟩ : ∃ m : Nat, x5 = (m : Int) := ⟨x5.toNat, by omega⟩
    have hm : m < 2 ^ 16 := by show m < 65536; omega
    refine nm ?_
    dsimp only
    refine ⟨_, rfl, m, rfl, ?_⟩
    refine nm ?_
    dsimp only
    have hd := dec_lt hm
    have hd2 : ((dec m : Nat) : Int) ≤ 65535 := by
      have : dec m < 65536 := hd
      omega
    refine ⟨_, rfl, _, rfl, _, rfl, iteF ?_⟩
    refine ⟨_, rfl, _, _, rfl, rfl, _, rfl, ?_⟩
    rw [decide_eq_true (show (0:Int) ≤ ((dec m : Nat) : Int) by omega)]
    refine iteT ?_
    refine ⟨_, _, rfl, rfl, _, rfl, ?_⟩
    rw [decide_eq_true hd2]
    refine iteF ?_
    refine ⟨_, rfl, dec m, rfl, ?_⟩
    refine ⟨_, rfl, rfl, _, rfl, ?_⟩
    refine neN (by rw [enc_dec]) ?_
    refine ⟨_, rfl, rfl, _, rfl, ite2 (fun e => ?_) (fun e => ?_)⟩
    · exact k _
    have n1 : n + 1 < 2 ^ 17 := by show n + 1 < 131072; omega
    refine ⟨_, rfl, enc n, rfl, fun p6 H6 hp6 hb6 sm6 => ?_⟩
    refine nm ?_
    dsimp only
    refine ⟨_, rfl, _, _, rfl, rfl, n + 1, rfl, enc (n + 1), rfl, fun p7 H7 hp7 hb7 sm7 => ?_⟩
    have hb67 := sm7 _ _ hb6
    refine nm ?_
    dsimp only
    refine ⟨17, rfl, by decide, by decide, fun D hD => ?_⟩
    refine lc_range (lo := 0) (n := 17) (fun i H' => ∃ ys : List V, H' D = some (.lst ys) ∧ ys.length = (diff i (enc n) (enc (n + 1))).length ∧ H' p6 = some (.lst (bL 17 (enc n))) ∧ H' p7 = some (.lst (bL 17 (enc (n + 1)))) ∧ ys.length ≤ i) ⟨[], upd_same, rfl, same_new hD _ _ hb67, same_new hD _ _ hb7, by decide⟩ ?_ ?_
    · rintro i H' hi ⟨ys, hy, hl, h6, h7, hle⟩
      refine ⟨rfl, ?_⟩
      refine ⟨_, rfl, _, rfl, _, _, _, _, rfl, rfl, .inl (.inl h6), atz (bL_at (i := i) (by omega)), _, rfl, _, rfl, _, _, _, _, rfl, rfl, .inl (.inl h7), atz (bL_at (i := i) (by omega)), rfl, _, rfl, ?_⟩
      have hD6 : p6 ≠ D := fun z => by rw [← z, hb67] at hD; cases hD
      have hD7 : p7 ≠ D := fun z => by rw [← z, hb7] at hD; cases hD
      rw [nv_ne]
      refine ite2 (fun e => ?_) (fun e => ?_)
      · refine ⟨_, rfl, ys, hy, small1000 (by omega), ys ++ [_], upd_same, ?_, by rw [upd_ne hD6]; exact h6, by rw [upd_ne hD7]; exact h7, by rw [List.length_append]; exact Nat.succ_le_succ hle⟩
        rw [diff_snoc, List.length_append, List.length_append, hl, if_pos (by simpa using e)]
        rfl
      · refine ⟨ys, hy, ?_, h6, h7, by omega⟩
        rw [diff_snoc, List.length_append, hl, if_neg (by simpa using e)]
        rfl
    · rintro H' ⟨ys, hy, hl, h6, h7, hle⟩
      refine ⟨_, _, rfl, .inl (.inl (.inl hy)), rfl, ?_⟩
      rw [hl, one_bit 17 n n1]
      exact k _

end
end Sk

set_option Elab.async false
set_option linter.all false
set_option maxRecDepth 100000
set_option maxHeartbeats 4000000
namespace Sk
open PySem PySem.Spec PyProof.Rows L2
/-! the end -/
theorem all_mk {l : PySem.W.OpenLaw} {w : World} {K : PySem.W.Frag} {h : Heap} {mg : Str → Option Value} {fa f1 f2 f3 f4 f5 f6 f7 f8 f9 : Addr} (X : K.In h) (G : h.Ns mainGlobals mg) (hfa : mg "law" = some (.ref fa))
    {od1 an1 od2 an2 od3 an3 od4 an4 od5 an5 od6 an6 od7 an7 od8 an8 od9 an9 : Option Addr} {sl1 sl2 sl3 sl4 sl5 sl6 sl7 sl8 sl9 : Array (Option Value)} {oc1 kV1 dc1 pm1 cd1 ct1 oc2 kV2 dc2 pm2 cd2 ct2 oc3 kV3 dc3 pm3 cd3 ct3 oc4 kV4 dc4 pm4 cd4 ct4 oc5 kV5 dc5 pm5 cd5 ct5 oc6 kV6 dc6 pm6 cd6 ct6 oc7 kV7 dc7 pm7 cd7 ct7 oc8 kV8 dc8 pm8 cd8 ct8 oc9 kV9 dc9 pm9 cd9 ct9 : Value}
    (a1 : PySem.W.nsIn K mainGlobals "_law_start" = some (some (.ref f1))) (l1 : K.lookup f1 = some ⟨oc1, od1, .func (PySem.W.fnOf "_law_start" "_law_start" (defArgs s_law_start) (defBody s_law_start) (defScope s_law_start) .none kV1 dc1 pm1 an1 cd1 ct1), sl1⟩) (c1 : PySem.W.codeIn K cd1 "_law_start" = true) (k1 : PySem.W.keepIn K (.ref f1) = true)
    (a2 : PySem.W.nsIn K mainGlobals "_law_draw" = some (some (.ref f2))) (l2 : K.lookup f2 = some ⟨oc2, od2, .func (PySem.W.fnOf "_law_draw" "_law_draw" (defArgs s_law_draw) (defBody s_law_draw) (defScope s_law_draw) .none kV2 dc2 pm2 an2 cd2 ct2), sl2⟩) (c2 : PySem.W.codeIn K cd2 "_law_draw" = true) (k2 : PySem.W.keepIn K (.ref f2) = true)
    (a3 : PySem.W.nsIn K mainGlobals "_law_pick" = some (some (.ref f3))) (l3 : K.lookup f3 = some ⟨oc3, od3, .func (PySem.W.fnOf "_law_pick" "_law_pick" (defArgs s_law_pick) (defBody s_law_pick) (defScope s_law_pick) .none kV3 dc3 pm3 an3 cd3 ct3), sl3⟩) (c3 : PySem.W.codeIn K cd3 "_law_pick" = true) (k3 : PySem.W.keepIn K (.ref f3) = true)
    (a4 : PySem.W.nsIn K mainGlobals "_law_is_number" = some (some (.ref f4))) (l4 : K.lookup f4 = some ⟨oc4, od4, .func (PySem.W.fnOf "_law_is_number" "_law_is_number" (defArgs s_law_is_number) (defBody s_law_is_number) (defScope s_law_is_number) .none kV4 dc4 pm4 an4 cd4 ct4), sl4⟩) (c4 : PySem.W.codeIn K cd4 "_law_is_number" = true) (k4 : PySem.W.keepIn K (.ref f4) = true)
    (a5 : PySem.W.nsIn K mainGlobals "encode" = some (some (.ref f5))) (l5 : K.lookup f5 = some ⟨oc5, od5, .func (PySem.W.fnOf "encode" "encode" (defArgs s_encode) (defBody s_encode) (defScope s_encode) .none kV5 dc5 pm5 an5 cd5 ct5), sl5⟩) (c5 : PySem.W.codeIn K cd5 "encode" = true) (k5 : PySem.W.keepIn K (.ref f5) = true)
    (a6 : PySem.W.nsIn K mainGlobals "decode" = some (some (.ref f6))) (l6 : K.lookup f6 = some ⟨oc6, od6, .func (PySem.W.fnOf "decode" "decode" (defArgs s_decode) (defBody s_decode) (defScope s_decode) .none kV6 dc6 pm6 an6 cd6 ct6), sl6⟩) (c6 : PySem.W.codeIn K cd6 "decode" = true) (k6 : PySem.W.keepIn K (.ref f6) = true)
    (a7 : PySem.W.nsIn K mainGlobals "_law_bits" = some (some (.ref f7))) (l7 : K.lookup f7 = some ⟨oc7, od7, .func (PySem.W.fnOf "_law_bits" "_law_bits" (defArgs s_law_bits) (defBody s_law_bits) (defScope s_law_bits) .none kV7 dc7 pm7 an7 cd7 ct7), sl7⟩) (c7 : PySem.W.codeIn K cd7 "_law_bits" = true) (k7 : PySem.W.keepIn K (.ref f7) = true)
    (a8 : PySem.W.nsIn K mainGlobals "_law_code" = some (some (.ref f8))) (l8 : K.lookup f8 = some ⟨oc8, od8, .func (PySem.W.fnOf "_law_code" "_law_code" (defArgs s_law_code) (defBody s_law_code) (defScope s_law_code) .none kV8 dc8 pm8 an8 cd8 ct8), sl8⟩) (c8 : PySem.W.codeIn K cd8 "_law_code" = true) (k8 : PySem.W.keepIn K (.ref f8) = true)
    (a9 : PySem.W.nsIn K mainGlobals "law" = some (some (.ref f9))) (l9 : K.lookup f9 = some ⟨oc9, od9, .func (PySem.W.fnOf "law" "law" (defArgs s_law) (defBody s_law) (defScope s_law) .none kV9 dc9 pm9 an9 cd9 ct9), sl9⟩) (c9 : PySem.W.codeIn K cd9 "law" = true) (k9 : PySem.W.keepIn K (.ref f9) = true)
    (z1 : PySem.W.nsIn K mainGlobals "abs" = some none) (z2 : PySem.W.nsIn K mainGlobals "int" = some none) (z3 : PySem.W.nsIn K mainGlobals "len" = some none) (z4 : PySem.W.nsIn K mainGlobals "bool" = some none) (z5 : PySem.W.nsIn K mainGlobals "isinstance" = some none) (z6 : PySem.W.nsIn K mainGlobals "max" = some none) (z7 : PySem.W.nsIn K mainGlobals "min" = some none) (z8 : PySem.W.nsIn K mainGlobals "range" = some none) (z9 : PySem.W.nsIn K mainGlobals "tuple" = some none) (z10 : PySem.W.nsIn K mainGlobals "list" = some none) (z11 : PySem.W.nsIn K mainGlobals "sum" = some none) (z12 : PySem.W.nsIn K mainGlobals "any" = some none) (z13 : PySem.W.nsIn K mainGlobals "all" = some none) (z14 : PySem.W.nsIn K mainGlobals "sorted" = some none) (z15 : PySem.W.nsIn K mainGlobals "dict" = some none) (z16 : PySem.W.nsIn K mainGlobals "enumerate" = some none) :
    ∃ fd : FuncData, (∀ (s : Shared) (v : Value), BindsTo s fd ⟨[v], []⟩ [("script", v)]) ∧ ∀ base : Heap, K.In base → base.Ns mainGlobals mg → FnOk l.prog w K mg base CX0 4 fa fd ["script"] (spLaw K) := by
  have e := hfa.symm.trans (PySem.W.mg_of X G a9)
  cases e
  have F1 := fun_mk (st := s_law_start) l1 c1 k1
  have F2 := fun_mk (st := s_law_draw) l2 c2 k2
  have F3 := fun_mk (st := s_law_pick) l3 c3 k3
  have F4 := fun_mk (st := s_law_is_number) l4 c4 k4
  have F5 := fun_mk (st := s_encode) l5 c5 k5
  have F6 := fun_mk (st := s_decode) l6 c6 k6
  have F7 := fun_mk (st := s_law_bits) l7 c7 k7
  have F8 := fun_mk (st := s_law_code) l8 c8 k8
  have F9 := fun_mk (st := s_law) l9 c9 k9
  have b1 := F1.binds (ps := ["script"]) fun _ _ _ _ _ _ us hl => match us, hl with | [_], _ => rfl
  have b2 := F2.binds (ps := ["state", "bound"]) fun _ _ _ _ _ _ us hl => match us, hl with | [_, _], _ => rfl
  have b3 := F3.binds (ps := ["state", "things"]) fun _ _ _ _ _ _ us hl => match us, hl with | [_, _], _ => rfl
  have b4 := F4.binds (ps := ["thing"]) fun _ _ _ _ _ _ us hl => match us, hl with | [_], _ => rfl
  have b5 := F5.binds (ps := ["number"]) fun _ _ _ _ _ _ us hl => match us, hl with | [_], _ => rfl
  have b6 := F6.binds (ps := ["code"]) fun _ _ _ _ _ _ us hl => match us, hl with | [_], _ => rfl
  have b7 := F7.binds (ps := ["number"]) fun _ _ _ _ _ _ us hl => match us, hl with | [_], _ => rfl
  have b8 := F8.binds (ps := ["number"]) fun _ _ _ _ _ _ us hl => match us, hl with | [_], _ => rfl
  have T : TxtA mg := { abs := PySem.W.mg_none_of X G z1, int := PySem.W.mg_none_of X G z2, len := PySem.W.mg_none_of X G z3, bool := PySem.W.mg_none_of X G z4, isinstance := PySem.W.mg_none_of X G z5, max := PySem.W.mg_none_of X G z6, min := PySem.W.mg_none_of X G z7, range := PySem.W.mg_none_of X G z8, tuple := PySem.W.mg_none_of X G z9, list := PySem.W.mg_none_of X G z10, sum := PySem.W.mg_none_of X G z11, any := PySem.W.mg_none_of X G z12, all := PySem.W.mg_none_of X G z13, sorted := PySem.W.mg_none_of X G z14, dict := PySem.W.mg_none_of X G z15, enumerate := PySem.W.mg_none_of X G z16 }
  refine ⟨PySem.W.fnOf "law" "law" (defArgs s_law) (defBody s_law) (defScope s_law) .none kV9 dc9 pm9 an9 cd9 ct9, fun s v => .of_eq rfl, fun base _ _ => ?_⟩
  have D1 : Def l.prog w K mg base 1 "_law_start" ["script"] (spStart K) := .mk' F1 b1 (PySem.W.mg_of X G a1) (ok_law_start F1 T.toTxt0)
  have D2 : Def l.prog w K mg base 1 "_law_draw" ["state", "bound"] (spDraw K) := .mk' F2 b2 (PySem.W.mg_of X G a2) (ok_law_draw F2 T.toTxt0)
  have D3 : Def l.prog w K mg base 2 "_law_pick" ["state", "things"] (spPick K) := .mk' F3 b3 (PySem.W.mg_of X G a3) (ok_law_pick F3 T.toTxt0 D2)
  have D4 : Def l.prog w K mg base 1 "_law_is_number" ["thing"] (spIsNum) := .mk' F4 b4 (PySem.W.mg_of X G a4) (ok_law_is_number F4 T.toTxt0)
  have D5 : Def l.prog w K mg base 1 "encode" ["number"] (spEnc) := .mk' F5 b5 (PySem.W.mg_of X G a5) (ok_encode F5 T)
  have D6 : Def l.prog w K mg base 1 "decode" ["code"] (spDec) := .mk' F6 b6 (PySem.W.mg_of X G a6) (ok_decode F6 T)
  have D7 : Def l.prog w K mg base 1 "_law_bits" ["number"] (spBits) := .mk' F7 b7 (PySem.W.mg_of X G a7) (ok_law_bits F7 T)
  have D8 : Def l.prog w K mg base 2 "_law_code" ["number"] (spCode) := .mk' F8 b8 (PySem.W.mg_of X G a8) (ok_law_code F8 T D7)
  exact ok_law F9 T D1 D2 D3 D4 D5 D6 D7 D8
theorem walk {l : PySem.W.OpenLaw} {q : Program} {loose : List Str} {XP : (Str → Option Value) → Heap → Prop} {YP : World → Heap → Prop} {d : DefRec} {K : Params → PySem.W.Frag} (hn : l.most = some 63) (hdf : d.params.defaults = [])
    (hY : ∀ (w : World) (h : Heap), YP w h → (K w.params).In h)
    (F : ∀ (w : World) (mg : Str → Option Value) (fa : Addr) (h : Heap), (K w.params).In h → h.Ns mainGlobals mg → mg d.name = some (.ref fa) →
      ∃ fd : FuncData, (∀ (s : Shared) (u : Value), BindsTo s fd ⟨[u], []⟩ [("script", u)]) ∧ ∀ base : Heap, (K w.params).In base → base.Ns mainGlobals mg → FnOk l.prog w (K w.params) mg base CX0 4 fa fd ["script"] (spLaw (K w.params))) :
    PySem.W.WalkO q loose XP YP l.row.toRowW d [] (fun f vs => PySem.call f vs) :=
  L2.walk_of (n := 63) (k := 4) (x := "script") (CX := fun _ => CX0) (sp := fun w => spLaw (K w.params)) hn (by decide) hdf ⟨rfl, by decide, by decide⟩ hY F (fun _ _ a ns hl _ hS => ⟨a, ns, rfl, hS, hl, fun _ => rfl⟩) fun _ _ _ _ _ z => z
end Sk
open PySem PySem.W PyProof.Rows
set_option maxRecDepth 100000 in
set_option maxHeartbeats 0 in
theorem PySem.Challenge.cw_skyapart_k34_reflected_codes_holds : PySem.Challenge.rw_skyapart_k34_reflected_codes.Holds := by
  w_on; o_law; k_head; (case hw => w_witness2)
  k_fill
  refine Sk.walk (l := PySem.Challenge.rw_skyapart_k34_reflected_codes) rfl rfl (fun w h Y => PySem.W.kIn_of Y) ?F
  case F =>
    intro w mg fa h KX G hmg
    refine' Sk.all_mk KX G hmg ?a1 ?l1 ?c1 ?k1 ?a2 ?l2 ?c2 ?k2 ?a3 ?l3 ?c3 ?k3 ?a4 ?l4 ?c4 ?k4 ?a5 ?l5 ?c5 ?k5 ?a6 ?l6 ?c6 ?k6 ?a7 ?l7 ?c7 ?k7 ?a8 ?l8 ?c8 ?k8 ?a9 ?l9 ?c9 ?k9 ?z1 ?z2 ?z3 ?z4 ?z5 ?z6 ?z7 ?z8 ?z9 ?z10 ?z11 ?z12 ?z13 ?z14 ?z15 ?z16
    (case a1 => k_is); (case l1 => k_is); (case c1 => k_is); (case k1 => k_is)
    (case a2 => k_is); (case l2 => k_is); (case c2 => k_is); (case k2 => k_is)
    (case a3 => k_is); (case l3 => k_is); (case c3 => k_is); (case k3 => k_is)
    (case a4 => k_is); (case l4 => k_is); (case c4 => k_is); (case k4 => k_is)
    (case a5 => k_is); (case l5 => k_is); (case c5 => k_is); (case k5 => k_is)
    (case a6 => k_is); (case l6 => k_is); (case c6 => k_is); (case k6 => k_is)
    (case a7 => k_is); (case l7 => k_is); (case c7 => k_is); (case k7 => k_is)
    (case a8 => k_is); (case l8 => k_is); (case c8 => k_is); (case k8 => k_is)
    (case a9 => k_is); (case l9 => k_is); (case c9 => k_is); (case k9 => k_is)
    (case z1 => k_is); (case z2 => k_is); (case z3 => k_is); (case z4 => k_is)
    (case z5 => k_is); (case z6 => k_is); (case z7 => k_is); (case z8 => k_is)
    (case z9 => k_is); (case z10 => k_is); (case z11 => k_is); (case z12 => k_is)
    (case z13 => k_is); (case z14 => k_is); (case z15 => k_is); (case z16 => k_is)
