import PyProof.Rows.All
import Wide.All
import OpenK.AllK
import Wide.FinOn
import HandS.Base
import HandS.Call
import HandS.List
import HandS.Comp
import HandS.Ends
import HandS.Dict
import HandS.Iter
import HandS.Words
import HandS.WordsList
import HandS.Wide
import HandS.Gcd
import HandS.IsInst
import Flt.RightSqrt
import HandS.Star
import PySem.Challenge.RW_skyapart_k09_paths
set_option Elab.async false
set_option linter.all false
set_option maxRecDepth 100000
set_option maxHeartbeats 4000000
namespace Sk
open PySem PySem.Spec PyProof.Rows L2

/-! a def of the text, ready to be called by its name -/
structure Def (P : Program) (w : World) (K : PySem.W.Frag) (mg : Str → Option Value) (base : Heap) (k : Nat) (x : Str) (ps : List Str) (sp : Sp) : Prop where
  ex : ∃ (f : Addr) (fd : FuncData), FnOk P w K mg base CX0 k f fd ps sp ∧ mg x = some (.ref f) ∧ PySem.W.keepIn K (.ref f) = true ∧ Binds K fd ps []
theorem Def.mk' {P : Program} {w : World} {K : PySem.W.Frag} {mg : Str → Option Value} {base : Heap} {k : Nat} {x qual : Str} {st : Stmt} {f : Addr} {fd : FuncData} {ps : List Str} {sp : Sp}
    (F : Fun K x qual st f fd) (b : Binds K fd ps []) (m : mg x = some (.ref f)) (G : FnOk P w K mg base CX0 k f fd ps sp) : Def P w K mg base k x ps sp := ⟨f, fd, G, m, F.kp, b⟩
theorem pe_def {X : Cx} {k : Nat} {x : Str} {ps : List Str} {sp : Sp} {p pos : Pos} {e : Expr} {es : List Expr} {t : TA} (D : Def X.prog X.w X.K X.mg X.base k x ps sp) (hr : Room k X.A) (hg : Gl X x)
    (ha : PA X (e :: es) t) (hdb : (x == ("__debug__" : Str)) = false := by decide) (he : starEach (e :: es) X.env = (false, eval e X.env) :: starEach es X.env := by rfl) (hpl : (backTo pos (starEach es X.env)).any (·.1) = false := by rfl) :
    PE X (.Call (.Name x p) (e :: es) [] pos) (tCall sp [] E0 t) := by
  obtain ⟨f, fd, F, m, kp, b⟩ := D.ex
  exact pe_call F hr hg m kp b .nil pass0 ha hdb he hpl
/-- a call's reading: the values of the arguments as they are -/
theorem sp_nil {sp : Sp} {vs : List V} {H : Hp} {Q : VK} {E : XK} (h : sp vs H Q E) : sp (vs ++ []) H Q E := by
  rw [List.append_nil]
  exact h

/-! heaps -/
/-- all but what stands at d is as it was -/
def Keep (d : Addr) (H H' : Hp) : Prop := ∀ c o, H c = some o → c ≠ d → H' c = some o
theorem Keep.refl (d : Addr) (H : Hp) : Keep d H H := fun _ _ h _ => h
theorem Keep.trans {d : Addr} {H H1 H2 : Hp} (a : Keep d H H1) (b : Keep d H1 H2) : Keep d H H2 := fun c o h n => b c o (a c o h n) n
theorem Keep.of {d : Addr} {H H1 : Hp} (a : Same H H1) : Keep d H H1 := fun c o h _ => a c o h
theorem Keep.upd (d : Addr) (H : Hp) (o : HO) : Keep d H (upd H d o) := fun c u h n => by
  rw [upd_ne n]
  exact h
theorem same_new {H : Hp} {p : Addr} {o : HO} (h : H p = none) : Same H (upd H p o) := fun b x e => by
  rw [upd_ne (ne_of_none e h)]
  exact e
theorem lst_ne {H : Hp} {a d : Addr} {xs : List V} {o : HO} (h : H d = some (.dK o')) (ha : H a = some (.lst xs)) : a ≠ d := ne_of ha h (by intro z; cases z)
/-- a list to be read stays, if it isn't the dict at d -/
theorem Keep.seq {K : PySem.W.Frag} {d : Addr} {kvs : List (Key × V)} {H H' : Hp} {a : Addr} {xs : List V} (k : Keep d H H') (hd : H d = some (.dK kvs)) (h : SqL K H a xs) : SqL K H' a xs := by
  rcases h with (h | ⟨o, h⟩) | h
  · exact .inl (.inl (k _ _ h (ne_of h hd (by intro z; cases z))))
  · exact .inl (.inr ⟨o, k _ _ h (ne_of h hd (by intro z; cases z))⟩)
  · exact .inr h
theorem Keep.tup {K : PySem.W.Frag} {d : Addr} {kvs : List (Key × V)} {H H' : Hp} {a : Addr} {xs : List V} (k : Keep d H H') (hd : H d = some (.dK kvs)) (h : SqT K H a xs) : SqT K H' a xs := by
  rcases h with (h | ⟨o, h⟩) | h
  · exact .inl (.inl (k _ _ h (ne_of h hd (by intro z; cases z))))
  · exact .inl (.inr ⟨o, k _ _ h (ne_of h hd (by intro z; cases z))⟩)
  · exact .inr h
theorem Keep.lst {d : Addr} {kvs : List (Key × V)} {H H' : Hp} {a : Addr} {xs : List V} (k : Keep d H H') (hd : H d = some (.dK kvs)) (h : H a = some (.lst xs)) : H' a = some (.lst xs) := k _ _ h (ne_of h hd (by intro z; cases z))
theorem Keep.tp {d : Addr} {kvs : List (Key × V)} {H H' : Hp} {a : Addr} {xs : List V} (k : Keep d H H') (hd : H d = some (.dK kvs)) (h : H a = some (.tup xs)) : H' a = some (.tup xs) := k _ _ h (ne_of h hd (by intro z; cases z))
theorem same_tup {K : PySem.W.Frag} {H H' : Hp} {a : Addr} {xs : List V} (e : Same H H') (h : SqT K H a xs) : SqT K H' a xs := by
  rcases h with (h | ⟨o, h⟩) | h
  · exact .inl (.inl (e _ _ h))
  · exact .inl (.inr ⟨o, e _ _ h⟩)
  · exact .inr h

/-! the state of the draws -/
theorem k01 : ¬ ("cells" : Str) = "at" := by decide +kernel
theorem k02 : ¬ ("cells" : Str) = "left" := by decide +kernel
theorem k03 : ¬ ("cells" : Str) = "mix" := by decide +kernel
theorem k10 : ¬ ("at" : Str) = "cells" := by decide +kernel
theorem k12 : ¬ ("at" : Str) = "left" := by decide +kernel
theorem k13 : ¬ ("at" : Str) = "mix" := by decide +kernel
theorem k20 : ¬ ("left" : Str) = "cells" := by decide +kernel
theorem k21 : ¬ ("left" : Str) = "at" := by decide +kernel
theorem k23 : ¬ ("left" : Str) = "mix" := by decide +kernel
theorem k30 : ¬ ("mix" : Str) = "cells" := by decide +kernel
theorem k31 : ¬ ("mix" : Str) = "at" := by decide +kernel
theorem k32 : ¬ ("mix" : Str) = "left" := by decide +kernel
theorem kr {a b : Str} (h : ¬ a = b) : ¬ (Sum.inr a : Key) = Sum.inr b := fun z => h (Sum.inr.inj z)
def stK (c : Addr) (i l m : Int) : List (Key × V) := [(.inr "cells", .ref c), (.inr "at", .int i), (.inr "left", .int l), (.inr "mix", .int m)]
theorem g_cells (c : Addr) (i l m : Int) : valV (stK c i l m) (.inr "cells") = some (.ref c) := valV_pos rfl
theorem g_at (c : Addr) (i l m : Int) : valV (stK c i l m) (.inr "at") = some (.int i) := by
  unfold stK
  rw [valV_neg (kr k01), valV_pos rfl]
theorem g_left (c : Addr) (i l m : Int) : valV (stK c i l m) (.inr "left") = some (.int l) := by
  unfold stK
  rw [valV_neg (kr k02), valV_neg (kr k12), valV_pos rfl]
theorem g_mix (c : Addr) (i l m : Int) : valV (stK c i l m) (.inr "mix") = some (.int m) := by
  unfold stK
  rw [valV_neg (kr k03), valV_neg (kr k13), valV_neg (kr k23), valV_pos rfl]
theorem put_any {kvs : List (Key × V)} {k : Key} {v y : V} (h : valV kvs k = some v) : putK kvs k y = kvs.map (fun kv => if kv.1 = k then (kv.1, y) else kv) := by
  unfold putK
  rw [valV_any, h]
  exact if_pos rfl
theorem p_at (c : Addr) (i l m j : Int) : putK (stK c i l m) (.inr "at") (.int j) = stK c j l m := by
  rw [put_any (g_at c i l m)]
  unfold stK
  simp only [List.map_cons, List.map_nil, if_neg (kr k01), if_neg (kr k21), if_neg (kr k31), if_true]
theorem p_left (c : Addr) (i l m j : Int) : putK (stK c i l m) (.inr "left") (.int j) = stK c i j m := by
  rw [put_any (g_left c i l m)]
  unfold stK
  simp only [List.map_cons, List.map_nil, if_neg (kr k02), if_neg (kr k12), if_neg (kr k32), if_true]
theorem p_mix (c : Addr) (i l m j : Int) : putK (stK c i l m) (.inr "mix") (.int j) = stK c i l j := by
  rw [put_any (g_mix c i l m)]
  unfold stK
  simp only [List.map_cons, List.map_nil, if_neg (kr k03), if_neg (kr k13), if_neg (kr k23), if_true]
theorem merge_st (c : Addr) (i l m : Int) : mergeK [] (stK c i l m) = stK c i l m := by
  have e0 : putK ([] : List (Key × V)) (.inr "cells" : Key) (.ref c) = [((.inr "cells" : Key), V.ref c)] := rfl
  have e1 : putK [((.inr "cells" : Key), V.ref c)] (.inr "at" : Key) (.int i) = [((.inr "cells" : Key), V.ref c), (.inr "at", .int i)] := by
    rw [putK_new _ (by rw [valV_neg (kr k01)]; rfl)]
    all_goals rfl
  have e2 : putK [((.inr "cells" : Key), V.ref c), (.inr "at", .int i)] (.inr "left") (.int l) = [((.inr "cells" : Key), V.ref c), (.inr "at", .int i), (.inr "left", .int l)] := by
    rw [putK_new _ (by rw [valV_neg (kr k02), valV_neg (kr k12)]; rfl)]
    all_goals rfl
  have e3 : putK [((.inr "cells" : Key), V.ref c), (.inr "at", .int i), (.inr "left", .int l)] (.inr "mix") (.int m) = stK c i l m := by
    rw [putK_new _ (by rw [valV_neg (kr k03), valV_neg (kr k13), valV_neg (kr k23)]; rfl)]
    all_goals rfl
  show putK (putK (putK (putK ([] : List (Key × V)) (.inr "cells" : Key) (.ref c)) (.inr "at" : Key) (.int i)) (.inr "left" : Key) (.int l)) (.inr "mix" : Key) (.int m) = stK c i l m
  rw [e0, e1, e2, e3]
/-- the dict of the draws stands at d -/
structure StAt (K : PySem.W.Frag) (H : Hp) (d : Addr) (c : Addr) (ns : List Int) (i l m : Int) : Prop where
  dc : H d = some (.dK (stK c i l m))
  cs : H c = some (.lst (ns.map V.int))
  nn : ∀ x ∈ ns, 0 ≤ x
  i0 : 0 ≤ i
  l0 : 0 ≤ l
  m0 : 0 ≤ m
  m1 : m < 2147483648
def St1 (K : PySem.W.Frag) (H : Hp) (d c : Addr) : Prop := ∃ ns i l m, StAt K H d c ns i l m
theorem St1.dk {K : PySem.W.Frag} {H : Hp} {d c : Addr} (S : St1 K H d c) : ∃ kvs, H d = some (.dK kvs) := let ⟨_, _, _, _, S⟩ := S; ⟨_, S.dc⟩
theorem St1.cl {K : PySem.W.Frag} {H : Hp} {d c : Addr} (S : St1 K H d c) : ∃ xs, H c = some (.lst xs) := let ⟨_, _, _, _, S⟩ := S; ⟨_, S.cs⟩
/-- the state stands on where both its objects stand -/
theorem St1.of {K : PySem.W.Frag} {H H' : Hp} {d c : Addr} (S : St1 K H d c) (e1 : H' d = H d) (e2 : H' c = H c) : St1 K H' d c := by
  obtain ⟨ns, i, l, m, S⟩ := S
  exact ⟨ns, i, l, m, e1.trans S.dc, e2.trans S.cs, S.nn, S.i0, S.l0, S.m0, S.m1⟩
theorem St1.same {K : PySem.W.Frag} {H H' : Hp} {d c : Addr} (S : St1 K H d c) (e : Same H H') : St1 K H' d c := by
  obtain ⟨ns, i, l, m, S⟩ := S
  exact ⟨ns, i, l, m, e _ _ S.dc, e _ _ S.cs, S.nn, S.i0, S.l0, S.m0, S.m1⟩
theorem St1.new {K : PySem.W.Frag} {H : Hp} {d c a : Addr} {o : HO} (S : St1 K H d c) (h : H a = none) : St1 K (upd H a o) d c := S.same (same_new h)
theorem St1.nd {K : PySem.W.Frag} {H : Hp} {d c a : Addr} (S : St1 K H d c) (h : H a = none) : a ≠ d := let ⟨_, e⟩ := S.dk; (ne_of_none e h).symm
theorem St1.nc {K : PySem.W.Frag} {H : Hp} {d c a : Addr} (S : St1 K H d c) (h : H a = none) : a ≠ c := let ⟨_, e⟩ := S.cl; (ne_of_none e h).symm
theorem St1.put {K : PySem.W.Frag} {H : Hp} {d c a : Addr} {o : HO} (S : St1 K H d c) (h1 : a ≠ d) (h2 : a ≠ c) : St1 K (upd H a o) d c := S.of (upd_ne h1.symm) (upd_ne h2.symm)
theorem StAt.put {K : PySem.W.Frag} {H : Hp} {d c : Addr} {ns : List Int} {i l m i' l' m' : Int} (S : StAt K H d c ns i l m) (h0 : 0 ≤ i') (h1 : 0 ≤ l') (h2 : 0 ≤ m') (h3 : m' < 2147483648) :
    StAt K (upd H d (.dK (stK c i' l' m'))) d c ns i' l' m' := ⟨upd_same, (Keep.upd d H _).lst S.dc S.cs, S.nn, h0, h1, h2, h3⟩
section
variable {H : Hp} {d c : Addr} {i l m j : Int}
theorem dg_cells (h : H d = some (.dK (stK c i l m))) : DGet H d (.str "cells") (some (.ref c)) := g_cells c i l m ▸ DGet.k (k := .inr "cells") h
theorem dg_at (h : H d = some (.dK (stK c i l m))) : DGet H d (.str "at") (some (.int i)) := g_at c i l m ▸ DGet.k (k := .inr "at") h
theorem dg_left (h : H d = some (.dK (stK c i l m))) : DGet H d (.str "left") (some (.int l)) := g_left c i l m ▸ DGet.k (k := .inr "left") h
theorem dg_mix (h : H d = some (.dK (stK c i l m))) : DGet H d (.str "mix") (some (.int m)) := g_mix c i l m ▸ DGet.k (k := .inr "mix") h
theorem st_few : (stK c i l m).length < sizeLine := Nat.lt_of_le_of_lt (show 4 ≤ 1000 by decide) (by decide)
theorem dp_at (h : H d = some (.dK (stK c i l m))) : DPut H d (.str "at") (.int j) (upd H d (.dK (stK c j l m))) := p_at c i l m j ▸ DPut.k (k := .inr "at") h st_few
theorem dp_left (h : H d = some (.dK (stK c i l m))) : DPut H d (.str "left") (.int j) (upd H d (.dK (stK c i j m))) := p_left c i l m j ▸ DPut.k (k := .inr "left") h st_few
theorem dp_mix (h : H d = some (.dK (stK c i l m))) : DPut H d (.str "mix") (.int j) (upd H d (.dK (stK c i l j))) := p_mix c i l m j ▸ DPut.k (k := .inr "mix") h st_few
end
/-! what follows is shown once, for both ways of an if ahead of it -/
theorem cut {t u : TS} {D : Ends} {σ : L2.St} {H : Hp} (I : L2.St → Hp → Prop) (h2 : ∀ σ' H', I σ' H' → u D σ' H') (h1 : (∀ σ' H', I σ' H' → u D σ' H') → t { D with nx := u D } σ H) : tSeq t u D σ H := h1 h2

/-! the promises of the draws -/
/-- the bound's bound -/
def big : Int := 10000000000000000000000000000000000000000000000000000000000000000000000
def spStart (K : PySem.W.Frag) : Sp := fun vs H Q _ => ∃ (a : Addr) (ns : List Int), vs = [.ref a] ∧ SqL K H a (ns.map V.int) ∧ ns.length ≤ 63 ∧ ∀ d c H', H d = none → H c = none → St1 K H' d c → Same H H' → Q (.ref d) H'
def spDraw (K : PySem.W.Frag) : Sp := fun vs H Q _ => ∃ (d c : Addr) (b : Int), vs = [.ref d, .int b] ∧ St1 K H d c ∧ 0 < b ∧ b ≤ 10000000000000000000000000000000000000000000000000000000000000000000000 ∧
  ∀ n H', 0 ≤ n → n < b → St1 K H' d c → Keep d H H' → Q (.int n) H'
def spPick (K : PySem.W.Frag) : Sp := fun vs H Q _ => ∃ (d c l : Addr) (xs : List V), vs = [.ref d, .ref l] ∧ St1 K H d c ∧ SqL K H l xs ∧ xs ≠ [] ∧ xs.length ≤ 1000 ∧
  ∀ v H', v ∈ xs → St1 K H' d c → Keep d H H' → Q v H'
/-- a value's kind -/
def isInt : V → Bool | .int _ => true | _ => false
def isBl : V → Bool | .bl _ => true | _ => false
def spIsNum : Sp := fun vs H Q _ => ∃ n : Int, vs = [.int n] ∧ Q (.bl true) H
theorem log_of {b : Int} (h0 : 0 < b) (h1 : b ≤ 10000000000000000000000000000000000000000000000000000000000000000000000) : CDivW l b := wide_div (b := 300) h0 (by
  have : (b.natAbs : Int) = b := by omega
  have e : (2 : Nat) ^ 300 = 2037035976334486086268445688409378161051468393665936250636140449354381299763336706183397376 := by decide +kernel
  rw [e]
  omega) (by decide) (by decide)
/-! tests whose answer is known -/
theorem ifN {c A B : Prop} [Decidable c] (h : ¬ c) (q : B) : if decide c = true then A else B := by
  rw [decide_eq_false h]
  exact iteF q
theorem ifY {c A B : Prop} [Decidable c] (h : c) (q : A) : if decide c = true then A else B := by
  rw [decide_eq_true h]
  exact iteT q
theorem wm {i j : Int} (hi : i.natAbs < 2 ^ 250) (hj : j.natAbs < 2 ^ 250) : CMulW i j := wide_mul hi hj (by decide) (by decide) (by decide)
theorem ltge (a b : Int) : a < b ∨ b ≤ a := by omega
theorem nm {i : Nat} {x : V} {σ : L2.St} {H : Hp} {k : L2.St → Hp → Prop} (h : k (σ.set i (some x)) H) : gName i x σ H k := h
/-! math.isqrt -/
def rIsqrt : List V → Hp → VK → Prop := fun vs H Q => ∃ n : Int, vs = [.int n] ∧ 0 ≤ n ∧ n.natAbs < 2 ^ 250 ∧ ∀ r : Int, 0 ≤ r → r * r ≤ n → n < (r + 1) * (r + 1) → Q (.int r) H
theorem cr_isqrt {X : Cx} : CallR X (.builtin "math.isqrt") rIsqrt := by
  intro pins s σ H vs us Q I r h
  obtain ⟨a, rfl, h0, h1, q⟩ := h
  obtain ⟨u, rfl, t, rfl⟩ := vals1 r
  have hl : a.toNat.log2 < 250 := by
    have e : a.toNat = a.natAbs := by omega
    rw [e]
    exact PySem.Flt.log2_lt_of (by decide) h1
  obtain ⟨z1, z2⟩ := PySem.Float64.isqrt_spec a.toNat
  refine call_function_meets PySem.W.MGF.kind_isqrt PySem.W.MGF.plain_isqrt PySem.W.MGF.entry_isqrt (PySem.W.MGF.args_isqrt _) (PySem.W.mg_run_isqrt a t (by omega) (by omega) (by omega)).meets ?_
  refine ⟨.int ((Float64.isqrt a.toNat : Nat) : Int), H, I.tok _, ⟨_, rfl⟩, q _ (Int.natCast_nonneg _) ?_ ?_⟩
  · have := Int.ofNat_le.mpr z1
    rw [Int.natCast_mul] at this
    omega
  · have := Int.ofNat_lt.mpr z2
    rw [Int.natCast_mul, Int.natCast_add] at this
    have e : ((a.toNat : Nat) : Int) = a := by omega
    rw [e] at this
    exact this
theorem szOk {xs : List V} (h : Nat.ble xs.length 1000 = true) : xs.length ≤ sizeLine := Nat.le_trans (Nat.le_of_ble_eq_true h) (by decide)
theorem eqN {a b : Int} {A B : Prop} (h : a ≠ b) (q : B) : if decide (V.int a = V.int b) = true then A else B := ifN (fun z => h (V.int.inj z)) q
theorem eqY {a b : Int} {A B : Prop} (h : a = b) (q : A) : if decide (V.int a = V.int b) = true then A else B := ifY (congrArg V.int h) q
theorem neN {a b : Int} {A B : Prop} (h : a = b) (q : B) : if (!decide (V.int a = V.int b)) = true then A else B := iteNS (congrArg V.int h) q
/-! tracked things behind a call that changes the state alone -/
section
variable {K : PySem.W.Frag} {d c : Addr} {H H' : Hp}
theorem Keep.l (k : Keep d H H') (S : St1 K H d c) {a : Addr} {xs : List V} (h : H a = some (.lst xs)) : H' a = some (.lst xs) := let ⟨_, e⟩ := S.dk; k.lst e h
theorem Keep.t (k : Keep d H H') (S : St1 K H d c) {a : Addr} {xs : List V} (h : H a = some (.tup xs)) : H' a = some (.tup xs) := let ⟨_, e⟩ := S.dk; k.tp e h
theorem Keep.sl (k : Keep d H H') (S : St1 K H d c) {a : Addr} {xs : List V} (h : SqL K H a xs) : SqL K H' a xs := let ⟨_, e⟩ := S.dk; k.seq e h
theorem Keep.st (k : Keep d H H') (S : St1 K H d c) {a : Addr} {xs : List V} (h : SqT K H a xs) : SqT K H' a xs := let ⟨_, e⟩ := S.dk; k.tup e h
end
theorem sq0 (x : Int) : 0 ≤ x * x := by
  rcases ltge x 0 with z | z
  · have := Int.mul_nonneg (show 0 ≤ -x by omega) (show 0 ≤ -x by omega)
    rw [Int.neg_mul_neg] at this
    exact this
  · exact Int.mul_nonneg z z
theorem atI0 {α : Type} {xs : List α} {j : Nat} {v : α} (h : xs[j]? = some v) : atI xs (0 + (j : Int)) = some v := by
  rw [Int.zero_add]
  exact atI_nat h
theorem atI_back {α : Type} {xs : List α} {v : α} (h : xs.getLast? = some v) : atI xs (-1) = some v := by
  obtain ⟨ys, rfl⟩ := List.getLast?_eq_some_iff.mp h
  exact atI_last ys v
theorem eqvN {d : PyData} {A B : Prop} (h : d.canLay0 = true) (q : B) : if (!PyData.eqv d d) = true then A else B := by
  rw [SeqAt.eqv_refl d h]
  exact q
theorem getInt {ns : List Int} {i : Nat} {y : V} (h : (ns.map V.int)[i]? = some y) : ∃ x, y = .int x ∧ x ∈ ns ∧ i < ns.length ∧ ns.take (i + 1) = ns.take i ++ [x] := by
  rw [List.getElem?_map] at h
  cases e : ns[i]? with
  | none => rw [e] at h; cases h
  | some x =>
    rw [e] at h
    exact ⟨x, (Option.some.inj h).symm, List.mem_of_getElem? e, (List.getElem?_eq_some_iff.mp e).1, by rw [List.take_add_one, e]; rfl⟩
/-- the built-in names that the text has not bound -/
structure Txt0 (mg : Str → Option Value) : Prop where
  abs : mg "abs" = none
  int : mg "int" = none
  len : mg "len" = none
  bool : mg "bool" = none
  isinstance : mg "isinstance" = none
structure TxtA (mg : Str → Option Value) : Prop extends Txt0 mg where
  max : mg "max" = none
  min : mg "min" = none
  range : mg "range" = none
  tuple : mg "tuple" = none
  list : mg "list" = none
  sum : mg "sum" = none
  any : mg "any" = none
  all : mg "all" = none
  sorted : mg "sorted" = none
  dict : mg "dict" = none
  enumerate : mg "enumerate" = none
theorem getMap {α : Type} {f : α → V} {ns : List α} {i : Nat} {y : V} (h : (ns.map f)[i]? = some y) : ∃ x, y = f x ∧ x ∈ ns ∧ i < ns.length ∧ ns.take (i + 1) = ns.take i ++ [x] := by
  rw [List.getElem?_map] at h
  cases e : ns[i]? with
  | none => rw [e] at h; cases h
  | some x =>
    rw [e] at h
    exact ⟨x, (Option.some.inj h).symm, List.mem_of_getElem? e, (List.getElem?_eq_some_iff.mp e).1, by rw [List.take_add_one, e]; rfl⟩
theorem sq_le {x b : Int} (h0 : -b ≤ x) (h1 : x ≤ b) : x * x ≤ b * b := by
  rcases ltge x 0 with z | z
  · have := Int.mul_le_mul (show -x ≤ b by omega) (show -x ≤ b by omega) (show 0 ≤ -x by omega) (show 0 ≤ b by omega)
    rw [Int.neg_mul_neg] at this
    exact this
  · exact Int.mul_le_mul h1 h1 z (by omega)
/-- 2 ^ (24 - i) -/
def pw (i : Nat) : Int := (2 ^ (24 - i) : Nat)
theorem pw_step {i : Nat} (h : i < 24) : pw i = 2 * pw (i + 1) := by
  unfold pw
  rw [show 24 - i = (24 - (i + 1)) + 1 by omega, Nat.pow_succ]
  omega
theorem mapAt {α : Type} {f : α → V} {ns : List α} {i : Nat} (h : i < ns.length) : (ns.map f)[i]? = some (f ns[i]) := by simp [h]
theorem at_mod {α : Type} {f : α → V} {ns : List α} {z m : Int} (hm : m = (ns.length : Int)) (h : 0 < ns.length) : ∃ x, x ∈ ns ∧ atI (ns.map f) (z % m) = some (f x) := by
  obtain ⟨j, hj⟩ : ∃ j : Nat, z % m = (j : Int) := ⟨(z % m).toNat, by have := Int.emod_nonneg z (show m ≠ 0 by omega); omega⟩
  have hj2 : j < ns.length := by have := Int.emod_lt_of_pos z (show 0 < m by omega); omega
  exact ⟨ns[j], List.getElem_mem hj2, by rw [hj]; exact atI_nat (mapAt hj2)⟩
/-- all that stood, but at d -/
theorem Keep.none {d a : Addr} {H H' : Hp} (k : Keep d H H') (n : a ≠ d) (h : H' a = none) : H a = none := by
  cases e : H a with
  | none => rfl
  | some o => rw [k _ _ e n] at h; cases h
theorem atI_lastn {α : Type} {xs : List α} {v : α} {m : Int} (hm : m = (xs.length : Int) - 1) (h : xs.getLast? = some v) : atI xs m = some v := by
  obtain ⟨ys, rfl⟩ := List.getLast?_eq_some_iff.mp h
  rw [hm, List.length_append, List.length_singleton]
  have e : ((ys.length + 1 : Nat) : Int) - 1 = ((ys.length : Nat) : Int) := by omega
  rw [e]
  exact atI_nat (by simp)
theorem sq_swap (a b : Int) : (a - b) * (a - b) = (b - a) * (b - a) := by
  have e : a - b = -(b - a) := by omega
  rw [e, Int.neg_mul_neg]
def rLenK (K : PySem.W.Frag) : List V → Hp → VK → Prop := fun xs H Q => ∃ p ys, xs = [V.ref p] ∧ (SqL K H p ys ∨ SqT K H p ys) ∧ Q (.int ys.length) H
end Sk

set_option Elab.async false
set_option linter.all false
set_option maxRecDepth 100000
set_option maxHeartbeats 4000000
namespace Sk
open PySem PySem.Spec PyProof.Rows L2
/-! a method of the text, ready to be called -/
structure MDef (P : Program) (w : World) (K : PySem.W.Frag) (mg : Str → Option Value) (base : Heap) (k : Nat) (C : Addr) (m : Str) (ps : List Str) (sp : Sp) : Prop where
  ex : ∃ (f : Addr) (fd : FuncData), FnOk P w K mg base CX0 k f fd ps sp ∧ Meth K C m f ∧ Binds K fd ps []
theorem pe_mdef {X : Cx} {k : Nat} {C : Addr} {m : Str} {ps : List Str} {sp : Sp} {pos apos : Pos} {o e : Expr} {es : List Expr} {ta : TE} {t : TA} {pl : Sem Bool} (D : MDef X.prog X.w X.K X.mg X.base k C m ps sp) (cl : Cls X.K C) (hr : Room k X.A) (ho : PE X o ta)
    (ha : PA X (e :: es) t) (he : starEach (e :: es) X.env = (false, eval e X.env) :: starEach es X.env := by rfl) (hpl : (backTo pos (starEach es X.env)).any (·.1) = false := by rfl)
    (ht : eval (.Call (.Attribute o m apos) (e :: es) [] pos) X.env = (do
      let ov ← eval o X.env
      standAt apos.atName
      let (f, first) ← holding [ov] (getMethod ov m pl)
      callWith pos f first (backTo pos (starEach (e :: es) X.env)) (backToKw pos (keywordEach [] X.env))) := by rfl) :
    PE X (.Call (.Attribute o m apos) (e :: es) [] pos) (tMeth C m sp [] E0 ta t) := by
  obtain ⟨f, fd, F, M, b⟩ := D.ex
  exact pe_meth ho cl M F hr b .nil pass0 ha he hpl ht
theorem pe_mdef0 {X : Cx} {k : Nat} {C : Addr} {m : Str} {ps : List Str} {sp : Sp} {pos apos : Pos} {o : Expr} {ta : TE} {pl : Sem Bool} (D : MDef X.prog X.w X.K X.mg X.base k C m ps sp) (cl : Cls X.K C) (hr : Room k X.A) (ho : PE X o ta)
    (ht : eval (.Call (.Attribute o m apos) [] [] pos) X.env = (do
      let ov ← eval o X.env
      standAt apos.atName
      let (f, first) ← holding [ov] (getMethod ov m pl)
      callWith pos f first (backTo pos (starEach [] X.env)) (backToKw pos (keywordEach [] X.env))) := by rfl) :
    PE X (.Call (.Attribute o m apos) [] [] pos) (tMeth C m sp [] E0 ta tNil) := by
  obtain ⟨f, fd, F, M, b⟩ := D.ex
  exact pe_meth0 ho cl M F hr b .nil pass0 ht
/-! roots -/
def rt (n : Int) : Int :=
  let q : Int := (Float64.isqrt n.toNat : Nat)
  if q * q < n then q + 1 else q
structure IsRt (n r : Int) : Prop where
  nn : 0 ≤ r
  up : n ≤ r * r
  lo : r = 0 ∨ (r - 1) * (r - 1) < n
theorem mono_sq {a b : Int} (h0 : 0 ≤ a) (h : a ≤ b) : a * a ≤ b * b := Int.mul_le_mul h h h0 (by omega)
theorem IsRt.le {n r r' : Int} (h : IsRt n r) (h' : IsRt n r') : r ≤ r' := by
  rcases h.lo with z | z
  · have := h'.nn; omega
  · rcases ltge r' r with w | w
    · have a := mono_sq h'.nn (show r' ≤ r - 1 by omega)
      have b := h'.up
      omega
    · exact w
theorem IsRt.eq {n r r' : Int} (h : IsRt n r) (h' : IsRt n r') : r = r' := by
  have a := h.le h'
  have b := h'.le h
  omega
theorem rt_is {n : Int} (hn : 0 ≤ n) : IsRt n (rt n) := by
  obtain ⟨z1, z2⟩ := PySem.Float64.isqrt_spec n.toNat
  have e : ((n.toNat : Nat) : Int) = n := by omega
  have a := Int.ofNat_le.mpr z1
  have b := Int.ofNat_lt.mpr z2
  rw [Int.natCast_mul, e] at a
  rw [Int.natCast_mul, Int.natCast_add, e] at b
  have q0 : (0 : Int) ≤ (Float64.isqrt n.toNat : Nat) := Int.natCast_nonneg _
  unfold rt
  dsimp only
  generalize ((Float64.isqrt n.toNat : Nat) : Int) = q at a b q0 ⊢
  have b' : n < (q + 1) * (q + 1) := b
  by_cases h : q * q < n
  · rw [if_pos h]
    exact ⟨by omega, by omega, .inr (by rw [show q + 1 - 1 = q by omega]; exact h)⟩
  · rw [if_neg h]
    refine ⟨q0, by omega, ?_⟩
    rcases ltge 0 q with w | w
    · right
      have : (q - 1) * (q - 1) = q * q - 2 * q + 1 := by
        rw [Int.sub_mul, Int.mul_sub, Int.mul_sub]; omega
      omega
    · left; omega
theorem rt_nn {n : Int} (hn : 0 ≤ n) : 0 ≤ rt n := (rt_is hn).nn
theorem rt_small {n b : Int} (hn : 0 ≤ n) (hb : 0 ≤ b) (h : n ≤ b * b) : rt n ≤ b := by
  rcases (rt_is hn).lo with z | z
  · omega
  · rcases ltge b (rt n) with w | w
    · have := mono_sq hb (show b ≤ rt n - 1 by omega)
      omega
    · exact w
/-! texts whose signs are signs -/
abbrev sOk (x : Str) : Prop := PySem.PyData.strOk x = true
theorem sOk_app {x y : Str} (h1 : sOk x) (h2 : sOk y) : sOk (x ++ y) := by
  unfold sOk PySem.PyData.strOk at *
  show (x.cps ++ y.cps).all (· < 0x110000) = true
  rw [Array.all_append, h1, h2]
  rfl
/-! the chart -/
structure Lg where
  a : Addr
  s : Str
  e : Str
  c : Str
  lo : Int
  hi : Int
def Lg.v (l : Lg) : List V := [.str l.s, .str l.e, .str l.c, .int l.lo, .int l.hi]
structure CD where
  fx : Addr
  lg : Addr
  fs : List (Key × V)
  pt : Str → Option (Addr × Int × Int)
  ls : List Lg
structure ChartAt (H : Hp) (ch : Addr) (D : CD) : Prop where
  ch : ∃ kvs, H ch = some (.dK kvs) ∧ valV kvs (.inr "fixes") = some (.ref D.fx) ∧ valV kvs (.inr "legs") = some (.ref D.lg)
  fx : H D.fx = some (.dK D.fs)
  lg : H D.lg = some (.lst (D.ls.map fun l => V.ref l.a))
  lt : ∀ l ∈ D.ls, H l.a = some (.tup l.v)
  pf : ∀ n a x y, D.pt n = some (a, x, y) → valV D.fs (.inr n) = some (.ref a) ∧ H a = some (.tup [.int x, .int y]) ∧ -100000 ≤ x ∧ x ≤ 100000 ∧ -100000 ≤ y ∧ y ≤ 100000
  wf : ∀ l ∈ D.ls, (∃ a x y, D.pt l.s = some (a, x, y)) ∧ ∃ a x y, D.pt l.e = some (a, x, y)
  sk : ∀ l ∈ D.ls, sOk l.s ∧ sOk l.e ∧ sOk l.c
  n : D.ls.length ≤ 100
theorem ChartAt.same {H H' : Hp} {ch : Addr} {D : CD} (C : ChartAt H ch D) (e : Same H H') : ChartAt H' ch D := by
  obtain ⟨⟨kvs, h1, h2, h3⟩, h4, h5, h6, h7, h8, h8', h9⟩ := C
  exact ⟨⟨kvs, e _ _ h1, h2, h3⟩, e _ _ h4, e _ _ h5, fun l hl => e _ _ (h6 l hl), fun n a x y hp => let ⟨p1, p2, p3⟩ := h7 n a x y hp; ⟨p1, e _ _ p2, p3⟩, h8, h8', h9⟩
theorem ChartAt.keep {K : PySem.W.Frag} {H H' : Hp} {d c ch : Addr} {D : CD} (C : ChartAt H ch D) (S : St1 K H d c) (k : Keep d H H') (n1 : ch ≠ d) (n2 : D.fx ≠ d) : ChartAt H' ch D := by
  obtain ⟨⟨kvs, h1, h2, h3⟩, h4, h5, h6, h7, h8, h8', h9⟩ := C
  exact ⟨⟨kvs, k _ _ h1 n1, h2, h3⟩, k _ _ h4 n2, k.l S h5, fun l hl => k.t S (h6 l hl), fun n a x y hp => let ⟨p1, p2, p3⟩ := h7 n a x y hp; ⟨p1, k.t S p2, p3⟩, h8, h8', h9⟩
theorem ChartAt.gf {H : Hp} {ch : Addr} {D : CD} (C : ChartAt H ch D) : DGet H ch (.str "fixes") (some (.ref D.fx)) := let ⟨_, h1, h2, _⟩ := C.ch; h2 ▸ DGet.k (k := .inr "fixes") h1
theorem ChartAt.gl {H : Hp} {ch : Addr} {D : CD} (C : ChartAt H ch D) : DGet H ch (.str "legs") (some (.ref D.lg)) := let ⟨_, h1, _, h3⟩ := C.ch; h3 ▸ DGet.k (k := .inr "legs") h1
theorem ChartAt.gp {H : Hp} {ch : Addr} {D : CD} (C : ChartAt H ch D) {n : Str} {a : Addr} {x y : Int} (h : D.pt n = some (a, x, y)) : DGet H D.fx (.str n) (some (.ref a)) := (C.pf n a x y h).1 ▸ DGet.k (k := .inr n) C.fx
/-- the length of the leg between two names -/
def CD.len (D : CD) (s e : Str) : Int := match D.pt s, D.pt e with
  | some (_, ax, ay), some (_, bx, by') => rt ((bx - ax) * (bx - ax) + (by' - ay) * (by' - ay))
  | _, _ => 0
theorem CD.len_eq {D : CD} {s e : Str} {a b : Addr} {ax ay bx by' : Int} (h1 : D.pt s = some (a, ax, ay)) (h2 : D.pt e = some (b, bx, by')) : D.len s e = rt ((bx - ax) * (bx - ax) + (by' - ay) * (by' - ay)) := by
  unfold CD.len
  rw [h1, h2]
def CD.leg (D : CD) (s e : Str) : Option Lg := D.ls.find? fun l => decide (l.s = s) && decide (l.e = e)
def optL : Option Lg → V
  | some l => .ref l.a
  | none => .non
theorem CD.leg_mem {D : CD} {s e : Str} {l : Lg} (h : D.leg s e = some l) : l ∈ D.ls ∧ l.s = s ∧ l.e = e := by
  have h1 := List.find?_some h
  simp only [Bool.and_eq_true, decide_eq_true_eq] at h1
  exact ⟨List.mem_of_find?_eq_some h, h1.1, h1.2⟩
/-! promises -/
def spUpR : Sp := fun vs H Q _ => ∃ n : Int, vs = [.int n] ∧ 0 ≤ n ∧ n.natAbs < 2 ^ 240 ∧ Q (.int (rt n)) H
def spDownR : Sp := fun vs H Q _ => ∃ n : Int, vs = [.int n] ∧ n.natAbs < 2 ^ 250 ∧ ∀ r : Int, 0 ≤ r → (n ≤ 0 → r = 0) → (0 ≤ n → r * r ≤ n ∧ n < (r + 1) * (r + 1)) → Q (.int r) H
def spRootR : Sp := fun vs H Q _ => ∃ n : Int, vs = [.int n] ∧ 0 ≤ n ∧ n ≤ 100000000000000 ∧ Q (.int (rt n)) H
def spLegLen : Sp := fun vs H Q _ => ∃ (ch : Addr) (D : CD) (s e : Str) (a b : Addr) (ax ay bx by' : Int), vs = [.ref ch, .str s, .str e] ∧ ChartAt H ch D ∧ D.pt s = some (a, ax, ay) ∧ D.pt e = some (b, bx, by') ∧ Q (.int (D.len s e)) H
def spLegBt : Sp := fun vs H Q _ => ∃ (ch : Addr) (D : CD) (s e : Str), vs = [.ref ch, .str s, .str e] ∧ ChartAt H ch D ∧ Q (optL (D.leg s e)) H
def spIs : Sp := fun vs H Q _ => ∃ a b : Bool, vs = [.bl a, .bl b] ∧ Q (.bl (decide (a = b))) H
/-- a list of texts -/
def spNames (K : PySem.W.Frag) : Sp := fun vs H Q _ => ∃ (d c : Addr) (m : Int), vs = [.ref d, .int m] ∧ St1 K H d c ∧ 0 ≤ m ∧ m ≤ 12 ∧
  ∀ (ns : List Str) p H', (ns.length : Int) = m → (∀ n ∈ ns, sOk n) → H p = none → H' p = some (.lst (ns.map V.str)) → St1 K H' d c → Keep d H H' → Q (.ref p) H'
/-- legs among the names -/
structure LegsAt (H : Hp) (l : Addr) (ns : List Str) (ls : List Lg) : Prop where
  li : H l = some (.lst (ls.map fun l => V.ref l.a))
  tu : ∀ q ∈ ls, H q.a = some (.tup q.v)
  nm : ∀ q ∈ ls, q.s ∈ ns ∧ q.e ∈ ns
  ck : ∀ q ∈ ls, sOk q.c
theorem LegsAt.same {H H' : Hp} {l : Addr} {ns : List Str} {ls : List Lg} (L : LegsAt H l ns ls) (e : Same H H') : LegsAt H' l ns ls := ⟨e _ _ L.li, fun q h => e _ _ (L.tu q h), L.nm, L.ck⟩
theorem LegsAt.keep {K : PySem.W.Frag} {H H' : Hp} {d c l : Addr} {ns : List Str} {ls : List Lg} (L : LegsAt H l ns ls) (S : St1 K H d c) (k : Keep d H H') : LegsAt H' l ns ls := ⟨k.l S L.li, fun q h => k.t S (L.tu q h), L.nm, L.ck⟩
theorem LegsAt.snoc {H : Hp} {l : Addr} {ns : List Str} {ls : List Lg} {q : Lg} (L : LegsAt H l ns ls) (hp : H q.a = some (.tup q.v)) (h1 : q.s ∈ ns) (h2 : q.e ∈ ns) (h3 : sOk q.c) : LegsAt (upd H l (.lst ((ls.map fun l => V.ref l.a) ++ [.ref q.a]))) l ns (ls ++ [q]) := by
  refine ⟨by rw [upd_same, List.map_append]; rfl, fun z hz => ?_, fun z hz => ?_, fun z hz => ?_⟩
  · have ht : H z.a = some (.tup z.v) := by
      rcases List.mem_append.mp hz with h | h
      · exact L.tu z h
      · rw [List.mem_singleton.mp h]; exact hp
    rw [upd_ne (ne_of ht L.li (by intro e; cases e))]
    exact ht
  · rcases List.mem_append.mp hz with h | h
    · exact L.nm z h
    · rw [List.mem_singleton.mp h]; exact ⟨h1, h2⟩
  · rcases List.mem_append.mp hz with h | h
    · exact L.ck z h
    · rw [List.mem_singleton.mp h]; exact h3
def spLegs (K : PySem.W.Frag) : Sp := fun vs H Q _ => ∃ (d c l : Addr) (ns : List Str), vs = [.ref d, .ref l] ∧ St1 K H d c ∧ H l = some (.lst (ns.map V.str)) ∧ 2 ≤ ns.length ∧ ns.length ≤ 12 ∧
  ∀ (ls : List Lg) p H', LegsAt H' p ns ls → ls.length ≤ 100 → H p = none → St1 K H' d c → Keep d H H' → Q (.ref p) H'
def spChart (K : PySem.W.Frag) : Sp := fun vs H Q _ => ∃ (d c : Addr) (m z : Int), vs = [.ref d, .int m, .int z] ∧ St1 K H d c ∧ 2 ≤ m ∧ m ≤ 7 ∧ 1 ≤ z ∧ z ≤ 9000 ∧
  ∀ (D : CD) ch H', ChartAt H' ch D → H ch = none → H D.fx = none → St1 K H' d c → Keep d H H' → Q (.ref ch) H'
def spLawLeg : Sp := spLegBt
/-! the parts of a chart while it is made -/
/-- all but two -/
def Keep2 (d e : Addr) (H H' : Hp) : Prop := ∀ c o, H c = some o → c ≠ d → c ≠ e → H' c = some o
theorem Keep2.refl (d e : Addr) (H : Hp) : Keep2 d e H H := fun _ _ h _ _ => h
theorem Keep2.k {d e : Addr} {H H1 H2 : Hp} (a : Keep2 d e H H1) (b : Keep d H1 H2) : Keep2 d e H H2 := fun c o h n m => b c o (a c o h n m) n
theorem Keep2.new {d e p : Addr} {o : HO} {H H1 : Hp} (a : Keep2 d e H H1) (h : H1 p = none) : Keep2 d e H (upd H1 p o) := fun c u q n m => same_new h _ _ (a c u q n m)
theorem Keep2.put {d e : Addr} {o : HO} {H H1 : Hp} (a : Keep2 d e H H1) : Keep2 d e H (upd H1 e o) := fun c u q n m => by
  rw [upd_ne m]
  exact a c u q n m
structure FixAt (H : Hp) (f : Addr) (kvs : List (Key × V)) (pt : Str → Option (Addr × Int × Int)) (ns : List Str) : Prop where
  dc : H f = some (.dK kvs)
  pf : ∀ n a x y, pt n = some (a, x, y) → valV kvs (.inr n) = some (.ref a) ∧ H a = some (.tup [.int x, .int y]) ∧ -100000 ≤ x ∧ x ≤ 100000 ∧ -100000 ≤ y ∧ y ≤ 100000
  nm : ∀ n ∈ ns, ∃ a x y, pt n = some (a, x, y)
theorem FixAt.same {H H' : Hp} {f : Addr} {kvs : List (Key × V)} {pt : Str → Option (Addr × Int × Int)} {ns : List Str} (F : FixAt H f kvs pt ns) (e : Same H H') : FixAt H' f kvs pt ns :=
  ⟨e _ _ F.dc, fun n a x y h => let ⟨h1, h2, h3⟩ := F.pf n a x y h; ⟨h1, e _ _ h2, h3⟩, F.nm⟩
theorem FixAt.keep {K : PySem.W.Frag} {H H' : Hp} {d c f : Addr} {kvs : List (Key × V)} {pt : Str → Option (Addr × Int × Int)} {ns : List Str} (F : FixAt H f kvs pt ns) (S : St1 K H d c) (k : Keep d H H') (n : f ≠ d) : FixAt H' f kvs pt ns :=
  ⟨k _ _ F.dc n, fun n a x y h => let ⟨h1, h2, h3⟩ := F.pf n a x y h; ⟨h1, k.t S h2, h3⟩, F.nm⟩
theorem FixAt.keep2 {K : PySem.W.Frag} {H H' : Hp} {d c e f : Addr} {o : List (Key × V)} {kvs : List (Key × V)} {pt : Str → Option (Addr × Int × Int)} {ns : List Str} (F : FixAt H f kvs pt ns) (S : St1 K H d c) (he : ∀ xs, H e ≠ some (.tup xs)) (k : Keep2 d e H H') (n : f ≠ d) (m : f ≠ e) : FixAt H' f kvs pt ns :=
  ⟨k _ _ F.dc n m, fun n a x y h => let ⟨h1, h2, h3⟩ := F.pf n a x y h; ⟨h1, k _ _ h2 (let ⟨_, z⟩ := S.dk; ne_of h2 z (by intro w; cases w)) (fun w => he _ (w ▸ h2)), h3⟩, F.nm⟩
theorem FixAt.put {H : Hp} {f p : Addr} {kvs : List (Key × V)} {pt : Str → Option (Addr × Int × Int)} {ns : List Str} {n : Str} {x y : Int} (F : FixAt H f kvs pt ns) (hp : H p = some (.tup [.int x, .int y])) (b : -100000 ≤ x ∧ x ≤ 100000 ∧ -100000 ≤ y ∧ y ≤ 100000) :
    FixAt (upd H f (.dK (putK kvs (.inr n) (.ref p)))) f (putK kvs (.inr n) (.ref p)) (fun m => if m = n then some (p, x, y) else pt m) (ns ++ [n]) := by
  refine ⟨upd_same, fun m a u v h => ?_, fun m hm => ?_⟩
  · rw [valV_put]
    by_cases e : m = n
    · subst e
      simp only [if_true] at h
      cases h
      rw [if_pos rfl, upd_ne (ne_of hp F.dc (by intro z; cases z))]
      exact ⟨rfl, hp, b⟩
    · simp only [if_neg e] at h
      obtain ⟨h1, h2, h3⟩ := F.pf m a u v h
      rw [if_neg (fun z => e (Sum.inr.inj z)), upd_ne (ne_of h2 F.dc (by intro z; cases z))]
      exact ⟨h1, h2, h3⟩
  · by_cases e : m = n
    · exact ⟨p, x, y, by simp [e]⟩
    · rcases List.mem_append.mp hm with h | h
      · obtain ⟨a, u, v, h⟩ := F.nm m h
        exact ⟨a, u, v, by simp only [if_neg e]; exact h⟩
      · exact absurd (List.mem_singleton.mp h) e
theorem putK_len {kvs : List (Key × V)} {k : Key} {v : V} : (putK kvs k v).length ≤ kvs.length + 1 := by
  unfold putK
  split
  · rw [List.length_map]; omega
  · rw [List.length_append]; exact Nat.le_refl _
section
variable {f l z r h u w : V}
def chK (f l z r h u w : V) : List (Key × V) := putK (putK (mergeK [] [(.inr "fixes", f), (.inr "legs", l), (.inr "zones", z), (.inr "runways", r), (.inr "holds", h)]) (.inr "hours") u) (.inr "capacities") w
theorem ch_fix : valV (chK f l z r h u w) (.inr "fixes") = some f := by
  unfold chK
  simp only [mergeK, List.foldl, valV_put]
  rw [if_neg (kr (by decide +kernel)), if_neg (kr (by decide +kernel)), if_neg (kr (by decide +kernel)), if_neg (kr (by decide +kernel)), if_neg (kr (by decide +kernel)), if_neg (kr (by decide +kernel)), if_pos trivial]
theorem ch_leg : valV (chK f l z r h u w) (.inr "legs") = some l := by
  unfold chK
  simp only [mergeK, List.foldl, valV_put]
  rw [if_neg (kr (by decide +kernel)), if_neg (kr (by decide +kernel)), if_neg (kr (by decide +kernel)), if_neg (kr (by decide +kernel)), if_neg (kr (by decide +kernel)), if_pos trivial]
theorem ch_len : (mergeK [] [((.inr "fixes" : Key), f), (.inr "legs", l), (.inr "zones", z), (.inr "runways", r), (.inr "holds", h)]).length ≤ 5 := by
  have := length_mergeK [((.inr "fixes" : Key), f), (.inr "legs", l), (.inr "zones", z), (.inr "runways", r), (.inr "holds", h)] []
  simpa using this
end
/-! routes -/
def rn (ns : List Str) (j : Nat) : Str := ns.getD j (Str.ofString "")
theorem rn_at {ns : List Str} {j : Nat} (h : j < ns.length) : (ns.map V.str)[j]? = some (V.str (rn ns j)) := by
  unfold rn
  simp [h]
def Chain (D : CD) (ns : List Str) : Prop := ∀ j, j + 1 < ns.length → ∃ l, D.leg (rn ns j) (rn ns (j + 1)) = some l
theorem rn_l {xs ys : List Str} {j : Nat} (h : j < xs.length) : rn (xs ++ ys) j = rn xs j := by
  unfold rn
  rw [List.getD_eq_getElem?_getD, List.getD_eq_getElem?_getD, List.getElem?_append_left h]
theorem rn_r (xs : List Str) (b : Str) : rn (xs ++ [b]) xs.length = b := by
  unfold rn
  rw [List.getD_eq_getElem?_getD, List.getElem?_append_right (Nat.le_refl _), Nat.sub_self]
  rfl
theorem Chain.snoc {D : CD} {ns : List Str} {a b : Str} (h : Chain D ns) (ha : ns.getLast? = some a) (hl : ∃ l, D.leg a b = some l) : Chain D (ns ++ [b]) := by
  intro j hj
  rw [List.length_append, List.length_singleton] at hj
  obtain ⟨ys, rfl⟩ := List.getLast?_eq_some_iff.mp ha
  by_cases e : j + 1 < (ys ++ [a]).length
  · rw [rn_l (show j < (ys ++ [a]).length by omega), rn_l e]
    exact h j e
  · have ej : j = ys.length := by rw [List.length_append, List.length_singleton] at e hj; omega
    subst ej
    have e2 : rn (ys ++ [a] ++ [b]) (ys.length + 1) = b := by
      have := rn_r (ys ++ [a]) b
      rw [List.length_append, List.length_singleton] at this
      exact this
    rw [rn_l (by rw [List.length_append, List.length_singleton]; omega), rn_r, e2]
    exact hl
structure Route (D : CD) (ns : List Str) : Prop where
  n2 : 2 ≤ ns.length
  n20 : ns.length ≤ 20
  ch : Chain D ns
theorem CD.leg_some {D : CD} {l : Lg} (h : l ∈ D.ls) : ∃ l', D.leg l.s l.e = some l' := by
  cases e : D.leg l.s l.e with
  | some l' => exact ⟨l', rfl⟩
  | none =>
    have := List.find?_eq_none.mp e l h
    simp at this
/-- the lengths of the legs -/
def LenAt (H : Hp) (ld : Addr) (D : CD) : Prop := ∃ kvs, H ld = some (.dT kvs) ∧ ∀ s e l, D.leg s e = some l → valV kvs [(.inr s : Key), .inr e] = some (.int (D.len s e))
theorem LenAt.same {H H' : Hp} {ld : Addr} {D : CD} (L : LenAt H ld D) (e : Same H H') : LenAt H' ld D := let ⟨kvs, h1, h2⟩ := L; ⟨kvs, e _ _ h1, h2⟩
theorem LenAt.keep {K : PySem.W.Frag} {H H' : Hp} {d c ld : Addr} {D : CD} (L : LenAt H ld D) (S : St1 K H d c) (k : Keep d H H') : LenAt H' ld D :=
  let ⟨kvs, h1, h2⟩ := L; ⟨kvs, k _ _ h1 (let ⟨_, w⟩ := S.dk; ne_of h1 w (by intro z; cases z)), h2⟩
theorem LenAt.g {H : Hp} {ld p : Addr} {D : CD} {s e : Str} (L : LenAt H ld D) (h : ∃ l, D.leg s e = some l) (hp : H p = some (.tup [.str s, .str e])) : DGet H ld (.ref p) (some (.int (D.len s e))) := by
  obtain ⟨kvs, h1, h2⟩ := L
  obtain ⟨l, h⟩ := h
  rw [← h2 s e l h]
  exact DGet.t (k := [(.inr s : Key), .inr e]) h1 hp
def spLegS : Sp := fun vs H Q _ => ∃ (ch : Addr) (D : CD) (s e : Str), vs = [.ref ch, .str s, .str e] ∧ ChartAt H ch D ∧ ∀ H', Same H H' → Q (optL (D.leg s e)) H'
def spLens : Sp := fun vs H Q _ => ∃ (ch : Addr) (D : CD), vs = [.ref ch] ∧ ChartAt H ch D ∧ ∀ ld H', H ld = none → LenAt H' ld D → Same H H' → Q (.ref ld) H'
def spWalk (K : PySem.W.Frag) : Sp := fun vs H Q _ => ∃ (d c ch : Addr) (D : CD) (m : Int), vs = [.ref d, .ref ch, .int m] ∧ St1 K H d c ∧ ChartAt H ch D ∧ ch ≠ d ∧ D.fx ≠ d ∧ D.ls ≠ [] ∧ 1 ≤ m ∧ m ≤ 15 ∧
  ∀ (ns : List Str) r H', Route D ns → H r = none → H' r = some (.tup (ns.map V.str)) → St1 K H' d c → Keep d H H' → Q (.ref r) H'
theorem head_find {α : Type} (p : α → Bool) (xs : List α) : (xs.filter p).head? = xs.find? p := by
  rw [List.head?_filter]
end Sk

set_option Elab.async false
set_option linter.all false
set_option maxRecDepth 100000
set_option maxHeartbeats 4000000
namespace Sk
open PySem PySem.Spec PyProof.Rows L2
/-! the mathematics of paths -/
theorem CD.len_nn (D : CD) (s e : Str) : 0 ≤ D.len s e := by
  unfold CD.len
  split
  · exact rt_nn (Int.add_nonneg (sq0 _) (sq0 _))
  · exact Int.le_refl 0
def bg (D : CD) (ns : List Str) : Nat → Int
  | 0 => 0
  | j + 1 => bg D ns j + D.len (rn ns j) (rn ns (j + 1))
theorem bg_step (D : CD) (ns : List Str) (j : Nat) : bg D ns j ≤ bg D ns (j + 1) := by
  have := D.len_nn (rn ns j) (rn ns (j + 1))
  show bg D ns j ≤ bg D ns j + _
  omega
theorem bg_mono (D : CD) (ns : List Str) {i j : Nat} (h : i ≤ j) : bg D ns i ≤ bg D ns j := by
  induction j with
  | zero => rw [show i = 0 by omega]; exact Int.le_refl _
  | succ j ih =>
    by_cases e : i = j + 1
    · rw [e]; exact Int.le_refl _
    · exact Int.le_trans (ih (by omega)) (bg_step D ns j)
theorem bg_nn (D : CD) (ns : List Str) (j : Nat) : 0 ≤ bg D ns j := bg_mono D ns (Nat.zero_le j)
def CD.xy (D : CD) (s : Str) : Int × Int := match D.pt s with
  | some (_, x, y) => (x, y)
  | none => (0, 0)
theorem CD.xy_eq {D : CD} {s : Str} {a : Addr} {x y : Int} (h : D.pt s = some (a, x, y)) : D.xy s = (x, y) := by
  unfold CD.xy
  rw [h]
def Bd (D : CD) : Prop := ∀ s, -100000 ≤ (D.xy s).1 ∧ (D.xy s).1 ≤ 100000 ∧ -100000 ≤ (D.xy s).2 ∧ (D.xy s).2 ≤ 100000
theorem ChartAt.bd {H : Hp} {ch : Addr} {D : CD} (C : ChartAt H ch D) : Bd D := by
  intro s
  unfold CD.xy
  split
  · rename_i a x y h
    exact (C.pf s a x y h).2.2
  · exact ⟨by decide, by decide, by decide, by decide⟩
theorem CD.len_le {D : CD} (b : Bd D) (s e : Str) : D.len s e ≤ 300000 := by
  unfold CD.len
  split
  · rename_i a ax ay a' bx by' h1 h2
    have b1 := b s
    have b2 := b e
    rw [CD.xy_eq h1] at b1
    rw [CD.xy_eq h2] at b2
    dsimp only at b1 b2
    refine rt_small (Int.add_nonneg (sq0 _) (sq0 _)) (by decide) ?_
    have e1 := sq_le (show -200000 ≤ bx - ax by omega) (show bx - ax ≤ 200000 by omega)
    have e2 := sq_le (show -200000 ≤ by' - ay by omega) (show by' - ay ≤ 200000 by omega)
    omega
  · decide
theorem bg_le {D : CD} (b : Bd D) (ns : List Str) (j : Nat) : bg D ns j ≤ 300000 * (j : Int) := by
  induction j with
  | zero => exact Int.le_refl 0
  | succ j ih =>
    have := D.len_le b (rn ns j) (rn ns (j + 1))
    show bg D ns j + _ ≤ _
    omega
/-- the leg to which p belongs, of the first m + 1 -/
def lat (D : CD) (ns : List Str) (m : Nat) (p : Int) : Nat := ((List.range m).find? fun i => decide (p < bg D ns (i + 1))).getD m
theorem find_range {q : Nat → Bool} {m k : Nat} (hk : k < m) (h1 : q k = true) (h0 : ∀ i, i < k → q i = false) : (List.range m).find? q = some k := by
  have e : List.range m = List.range k ++ (List.range (m - k)).map (k + ·) := by
    rw [← List.range_add, Nat.add_sub_cancel' (Nat.le_of_lt hk)]
  rw [e, List.find?_append]
  have a : (List.range k).find? q = none := List.find?_eq_none.mpr fun i hi => by rw [h0 i (List.mem_range.mp hi)]; simp
  rw [a]
  obtain ⟨z, hz⟩ : ∃ z, m - k = z + 1 := ⟨m - k - 1, by omega⟩
  rw [hz, List.range_succ_eq_map]
  simp [h1]
theorem find_none {q : Nat → Bool} {m : Nat} (h0 : ∀ i, i < m → q i = false) : (List.range m).find? q = none :=
  List.find?_eq_none.mpr fun i hi => by rw [h0 i (List.mem_range.mp hi)]; simp
theorem lat_cases (D : CD) (ns : List Str) (m : Nat) (p : Int) : (lat D ns m p ≤ m) ∧ (∀ i, i < lat D ns m p → bg D ns (i + 1) ≤ p) ∧ (lat D ns m p < m → p < bg D ns (lat D ns m p + 1)) := by
  unfold lat
  cases h : (List.range m).find? fun i => decide (p < bg D ns (i + 1)) with
  | none =>
    have h0 := List.find?_eq_none.mp h
    refine ⟨Nat.le_refl m, fun i hi => ?_, fun z => absurd z (Nat.lt_irrefl m)⟩
    have hi : i < m := hi
    have := h0 i (List.mem_range.mpr hi)
    simp at this
    exact this
  | some k =>
    have h1 := List.find?_some h
    have h2 := List.mem_of_find?_eq_some h
    have hk := List.mem_range.mp h2
    refine ⟨Nat.le_of_lt hk, fun i hi => ?_, fun _ => of_decide_eq_true h1⟩
    have hi : i < k := hi
    by_cases e : p < bg D ns (i + 1)
    · exfalso
      have : (List.range m).find? (fun i => decide (p < bg D ns (i + 1))) = some ((List.range (i + 1)).find? (fun i => decide (p < bg D ns (i + 1)))).get! := by
        have e2 : List.range m = List.range (i + 1) ++ (List.range (m - (i + 1))).map ((i + 1) + ·) := by rw [← List.range_add, Nat.add_sub_cancel' (show i + 1 ≤ m by omega)]
        rw [e2, List.find?_append]
        cases w : (List.range (i + 1)).find? fun i => decide (p < bg D ns (i + 1)) with
        | some z => rfl
        | none =>
          have := List.find?_eq_none.mp w i (List.mem_range.mpr (Nat.lt_succ_self i))
          simp [e] at this
      rw [h] at this
      cases w : (List.range (i + 1)).find? fun i => decide (p < bg D ns (i + 1)) with
      | none =>
        have := List.find?_eq_none.mp w i (List.mem_range.mpr (Nat.lt_succ_self i))
        simp [e] at this
      | some z =>
        rw [w] at this
        have hz := List.mem_range.mp (List.mem_of_find?_eq_some w)
        have : k = z := Option.some.inj this
        omega
    · omega
theorem lat_eq {D : CD} {ns : List Str} {m k : Nat} {p : Int} (hk : k ≤ m) (h0 : ∀ i, i < k → bg D ns (i + 1) ≤ p) (h1 : k < m → p < bg D ns (k + 1)) : lat D ns m p = k := by
  obtain ⟨a, b, c⟩ := lat_cases D ns m p
  rcases Nat.lt_trichotomy (lat D ns m p) k with h | h | h
  · have := c (by omega)
    have := h0 _ h
    omega
  · exact h
  · have := b k h
    have := h1 (by omega)
    omega
theorem lat_succ (D : CD) (ns : List Str) (m : Nat) (p : Int) : lat D ns (m + 1) p = if bg D ns (m + 1) ≤ p then m + 1 else lat D ns m p := by
  obtain ⟨a, b, c⟩ := lat_cases D ns m p
  split
  · rename_i h
    exact lat_eq (Nat.le_refl _) (fun i hi => Int.le_trans (bg_mono D ns (show i + 1 ≤ m + 1 by omega)) h) (fun z => absurd z (Nat.lt_irrefl _))
  · rename_i h
    refine lat_eq (by omega) b fun _ => ?_
    by_cases e : lat D ns m p < m
    · exact c e
    · rw [show lat D ns m p = m by omega]
      omega
/-- place on leg k -/
def plc (D : CD) (ns : List Str) (k : Nat) (p : Int) : List Int :=
  let a := D.xy (rn ns k)
  let b := D.xy (rn ns (k + 1))
  let n := D.len (rn ns k) (rn ns (k + 1))
  [a.1 * n + (b.1 - a.1) * (p - bg D ns k), a.2 * n + (b.2 - a.2) * (p - bg D ns k)]
def seg (D : CD) (ns : List Str) (k : Nat) (s e : Int) : List Int := plc D ns k s ++ (plc D ns k e ++ [D.len (rn ns k) (rn ns (k + 1))])
def segOf (D : CD) (ns : List Str) (f l : Int) (k : Nat) : Option (List Int) :=
  let s := if bg D ns k > f then bg D ns k else f
  let e := if bg D ns (k + 1) < l then bg D ns (k + 1) else l
  if s < e then some (seg D ns k s e) else none
def segsOf (D : CD) (ns : List Str) (f l : Int) (ks : List Nat) : List (List Int) := ks.filterMap (segOf D ns f l)
theorem segOf_none {D : CD} {ns : List Str} {f l : Int} {k : Nat} (h : bg D ns (k + 1) ≤ f ∨ l ≤ bg D ns k) : segOf D ns f l k = none := by
  unfold segOf
  dsimp only
  rw [if_neg]
  split <;> split <;> omega
theorem segs_eq {D : CD} {ns : List Str} {f l : Int} {m : Nat} (hfl : f ≤ l) (h : lat D ns m f ≤ lat D ns m l) : segsOf D ns f l (List.range (m + 1)) = segsOf D ns f l ((List.range (lat D ns m l + 1 - lat D ns m f)).map (lat D ns m f + ·)) := by
  obtain ⟨a1, b1, c1⟩ := lat_cases D ns m f
  obtain ⟨a2, b2, c2⟩ := lat_cases D ns m l
  generalize lat D ns m f = u at *
  generalize lat D ns m l = v at *
  have e1 : List.range (m + 1) = List.range u ++ ((List.range (v + 1 - u)).map (u + ·) ++ (List.range (m - v)).map ((v + 1) + ·)) := by
    have x1 : List.range (m + 1) = List.range (v + 1) ++ (List.range (m - v)).map ((v + 1) + ·) := by rw [← List.range_add]; congr 1; omega
    have x2 : List.range (v + 1) = List.range u ++ (List.range (v + 1 - u)).map (u + ·) := by rw [← List.range_add]; congr 1; omega
    rw [x1, x2, List.append_assoc]
  unfold segsOf
  rw [e1, List.filterMap_append, List.filterMap_append]
  have n1 : (List.range u).filterMap (segOf D ns f l) = [] := List.filterMap_eq_nil_iff.mpr fun k hk => segOf_none (.inl (b1 k (List.mem_range.mp hk)))
  have n2 : ((List.range (m - v)).map ((v + 1) + ·)).filterMap (segOf D ns f l) = [] := List.filterMap_eq_nil_iff.mpr fun k hk => by
    obtain ⟨z, hz, rfl⟩ := List.mem_map.mp hk
    have := c2 (by have := List.mem_range.mp hz; omega)
    exact segOf_none (.inr (Int.le_trans (Int.le_of_lt this) (bg_mono D ns (by omega))))
  rw [n1, n2, List.nil_append, List.append_nil]
theorem lat_mono (D : CD) (ns : List Str) (m : Nat) {p q : Int} (h : p ≤ q) : lat D ns m p ≤ lat D ns m q := by
  obtain ⟨a1, b1, c1⟩ := lat_cases D ns m p
  obtain ⟨a2, b2, c2⟩ := lat_cases D ns m q
  rcases Nat.lt_or_ge (lat D ns m q) (lat D ns m p) with w | w
  · have x := b1 _ w
    have y := c2 (by omega)
    omega
  · exact w
/-- the piece, as the document says it -/
def pcs (D : CD) (ns : List Str) (low high : Int) : List (List Int) :=
  let L := ns.length - 1
  let t := bg D ns L
  if high < 0 ∨ t ≤ low then [] else
  let f := if 0 > low then 0 else low
  let l := if t < high then t else high
  if f = l then [seg D ns (lat D ns (L - 1) f) f f] else segsOf D ns f l (List.range L)
/-! lists of tuples of ints -/
def LoT (H : Hp) (l : Addr) (xss : List (List Int)) : Prop := ∃ qs : List (Addr × List Int), H l = some (.lst (qs.map fun q => V.ref q.1)) ∧ (∀ q ∈ qs, H q.1 = some (.tup (q.2.map V.int))) ∧ qs.map (·.2) = xss
theorem LoT.same {H H' : Hp} {l : Addr} {xss : List (List Int)} (L : LoT H l xss) (e : Same H H') : LoT H' l xss := let ⟨qs, h1, h2, h3⟩ := L; ⟨qs, e _ _ h1, fun q h => e _ _ (h2 q h), h3⟩
theorem LoT.keep {K : PySem.W.Frag} {H H' : Hp} {d c l : Addr} {xss : List (List Int)} (L : LoT H l xss) (S : St1 K H d c) (k : Keep d H H') : LoT H' l xss := let ⟨qs, h1, h2, h3⟩ := L; ⟨qs, k.l S h1, fun q h => k.t S (h2 q h), h3⟩
theorem LoT.li {H : Hp} {l : Addr} {xss : List (List Int)} (L : LoT H l xss) : ∃ xs : List V, H l = some (.lst xs) ∧ xs.length = xss.length := let ⟨qs, h1, _, h3⟩ := L; ⟨_, h1, by rw [List.length_map, ← h3, List.length_map]⟩
theorem LoT.snoc {H : Hp} {l p : Addr} {xss : List (List Int)} {xs : List Int} {ys : List V} (L : LoT H l xss) (hl : H l = some (.lst ys)) (hp : H p = some (.tup (xs.map V.int))) : LoT (upd H l (.lst (ys ++ [.ref p]))) l (xss ++ [xs]) := by
  obtain ⟨qs, h1, h2, h3⟩ := L
  rw [h1] at hl
  cases hl
  refine ⟨qs ++ [(p, xs)], by rw [upd_same, List.map_append]; rfl, fun q hq => ?_, by rw [List.map_append, h3]; rfl⟩
  have ht : H q.1 = some (.tup (q.2.map V.int)) := by
    rcases List.mem_append.mp hq with h | h
    · exact h2 q h
    · rw [List.mem_singleton.mp h]; exact hp
  rw [upd_ne (ne_of ht h1 (by intro e; cases e))]
  exact ht
theorem LoT.nil {H : Hp} {l : Addr} (h : H l = some (.lst [])) : LoT H l [] := ⟨[], h, (fun _ h => nomatch h), rfl⟩
def pdT (xs : List Int) : PyData := .tuple (xs.map PyData.int)
theorem dpAll_int {K : PySem.W.Frag} {H : Hp} : ∀ xs : List Int, DpAll K H (xs.map V.int) (xs.map PyData.int)
  | [] => .nil
  | x :: xs => .cons (.int x) (dpAll_int xs)
theorem LoT.dp {K : PySem.W.Frag} {H : Hp} {l : Addr} {xss : List (List Int)} (L : LoT H l xss) : Dp K H (.ref l) (.list (xss.map pdT)) := by
  obtain ⟨qs, h1, h2, rfl⟩ := L
  refine .lst (.inl (.inl h1)) ?_
  clear h1
  induction qs with
  | nil => exact .nil
  | cons q qs ih =>
    refine .cons (.tup (.inl (.inl (h2 q List.mem_cons_self))) (dpAll_int _)) (ih fun z hz => h2 z (List.mem_cons_of_mem _ hz))
/-! a path's object -/
def pfl (r l1 l2 l3 l4 : Addr) : List (Str × V) := [("_route", .ref r), ("_legs", .ref l1), ("_starts", .ref l2), ("_vectors", .ref l3), ("_begins", .ref l4)]
section
variable {r l1 l2 l3 l4 : Addr}
theorem pf1 : (pfl r l1 l2 l3 l4).lookup ("_route" : Str) = some (.ref r) := by rfl
theorem pf2 : (pfl r l1 l2 l3 l4).lookup ("_legs" : Str) = some (.ref l1) := by rfl
theorem pf3 : (pfl r l1 l2 l3 l4).lookup ("_starts" : Str) = some (.ref l2) := by rfl
theorem pf4 : (pfl r l1 l2 l3 l4).lookup ("_vectors" : Str) = some (.ref l3) := by rfl
theorem pf5 : (pfl r l1 l2 l3 l4).lookup ("_begins" : Str) = some (.ref l4) := by rfl
end
structure PathP (C : Addr) (H : Hp) (p : Addr) (D : CD) (ns : List Str) (r : Addr) (i : Nat) (dx l1 l2 l3 l4 : Addr) (sa va : List Addr) : Prop where
  ob : H p = some (.ins C dx (pfl r l1 l2 l3 l4))
  rt : H r = some (.tup (ns.map V.str))
  lg : H l1 = some (.lst ((List.range i).map fun j => optL (D.leg (rn ns j) (rn ns (j + 1)))))
  st : H l2 = some (.lst (sa.map V.ref))
  ve : H l3 = some (.lst (va.map V.ref))
  bgn : H l4 = some (.lst ((List.range (i + 1)).map fun j => V.int (bg D ns j)))
  sl : sa.length = i
  vl : va.length = i
  sx : ∀ j (h : j < sa.length), H sa[j] = some (.tup [.int (D.xy (rn ns j)).1, .int (D.xy (rn ns j)).2])
  vx : ∀ j (h : j < va.length), H va[j] = some (.tup [.int ((D.xy (rn ns (j + 1))).1 - (D.xy (rn ns j)).1), .int ((D.xy (rn ns (j + 1))).2 - (D.xy (rn ns j)).2), .int (D.len (rn ns j) (rn ns (j + 1)))])
  d12 : l1 ≠ l2
  d13 : l1 ≠ l3
  d14 : l1 ≠ l4
  d23 : l2 ≠ l3
  d24 : l2 ≠ l4
  d34 : l3 ≠ l4
theorem PathP.same {C p r dx l1 l2 l3 l4 : Addr} {H H' : Hp} {D : CD} {ns : List Str} {i : Nat} {sa va : List Addr} (P : PathP C H p D ns r i dx l1 l2 l3 l4 sa va) (e : Same H H') : PathP C H' p D ns r i dx l1 l2 l3 l4 sa va :=
  { P with ob := e _ _ P.ob, rt := e _ _ P.rt, lg := e _ _ P.lg, st := e _ _ P.st, ve := e _ _ P.ve, bgn := e _ _ P.bgn, sx := fun j h => e _ _ (P.sx j h), vx := fun j h => e _ _ (P.vx j h) }
theorem PathP.keep {K : PySem.W.Frag} {C p r dx l1 l2 l3 l4 d c : Addr} {H H' : Hp} {D : CD} {ns : List Str} {i : Nat} {sa va : List Addr} (P : PathP C H p D ns r i dx l1 l2 l3 l4 sa va) (S : St1 K H d c) (k : Keep d H H') : PathP C H' p D ns r i dx l1 l2 l3 l4 sa va :=
  { P with ob := k _ _ P.ob (let ⟨_, w⟩ := S.dk; ne_of P.ob w (by intro z; cases z)), rt := k.t S P.rt, lg := k.l S P.lg, st := k.l S P.st, ve := k.l S P.ve, bgn := k.l S P.bgn, sx := fun j h => k.t S (P.sx j h), vx := fun j h => k.t S (P.vx j h) }
def PathAt (C : Addr) (H : Hp) (p : Addr) (D : CD) (ns : List Str) (r : Addr) : Prop := ∃ dx l1 l2 l3 l4 sa va, PathP C H p D ns r (ns.length - 1) dx l1 l2 l3 l4 sa va
theorem PathAt.same {C p r : Addr} {H H' : Hp} {D : CD} {ns : List Str} (P : PathAt C H p D ns r) (e : Same H H') : PathAt C H' p D ns r := let ⟨_, _, _, _, _, _, _, P⟩ := P; ⟨_, _, _, _, _, _, _, P.same e⟩
theorem PathAt.keep {K : PySem.W.Frag} {C p r d c : Addr} {H H' : Hp} {D : CD} {ns : List Str} (P : PathAt C H p D ns r) (S : St1 K H d c) (k : Keep d H H') : PathAt C H' p D ns r := let ⟨_, _, _, _, _, _, _, P⟩ := P; ⟨_, _, _, _, _, _, _, P.keep S k⟩
/-- what the class has -/
structure PathY (K : PySem.W.Frag) (mg : Str → Option Value) (C : Addr) : Prop where
  cl : Cls K C
  n1 : NoAttr K C "_route"
  n2 : NoAttr K C "_legs"
  n3 : NoAttr K C "_starts"
  n4 : NoAttr K C "_vectors"
  n5 : NoAttr K C "_begins"
/-! promises of the methods -/
def spTotal (C : Addr) : Sp := fun vs H Q _ => ∃ (p r dx l1 l2 l3 l4 : Addr) (D : CD) (ns : List Str) (i : Nat), vs = [.ref p] ∧ H p = some (.ins C dx (pfl r l1 l2 l3 l4)) ∧ H l4 = some (.lst ((List.range (i + 1)).map fun j => V.int (bg D ns j))) ∧ Q (.int (bg D ns i)) H
def spLegAt (C : Addr) : Sp := fun vs H Q _ => ∃ (p r : Addr) (D : CD) (ns : List Str) (x : Int), vs = [.ref p, .int x] ∧ PathAt C H p D ns r ∧ 2 ≤ ns.length ∧ ns.length ≤ 20 ∧ Q (.int (lat D ns (ns.length - 1 - 1) x : Nat)) H
def spBegin (C : Addr) : Sp := fun vs H Q _ => ∃ (p r : Addr) (D : CD) (ns : List Str) (j : Nat) (z : Int), vs = [.ref p, .int z] ∧ z = (j : Int) ∧ PathAt C H p D ns r ∧ j ≤ ns.length - 1 ∧ Q (.int (bg D ns j)) H
def spLegI (C : Addr) : Sp := fun vs H Q _ => ∃ (p r : Addr) (D : CD) (ns : List Str) (j : Nat) (z : Int), vs = [.ref p, .int z] ∧ z = (j : Int) ∧ PathAt C H p D ns r ∧ j < ns.length - 1 ∧ Q (optL (D.leg (rn ns j) (rn ns (j + 1)))) H
def spVec (C : Addr) : Sp := fun vs H Q _ => ∃ (p r : Addr) (D : CD) (ns : List Str) (j : Nat) (z : Int), vs = [.ref p, .int z] ∧ z = (j : Int) ∧ PathAt C H p D ns r ∧ j < ns.length - 1 ∧
  ∀ v, H v = some (.tup [.int ((D.xy (rn ns (j + 1))).1 - (D.xy (rn ns j)).1), .int ((D.xy (rn ns (j + 1))).2 - (D.xy (rn ns j)).2), .int (D.len (rn ns j) (rn ns (j + 1)))]) → Q (.ref v) H
def spRoute (C : Addr) : Sp := fun vs H Q _ => ∃ (p r : Addr) (D : CD) (ns : List Str), vs = [.ref p] ∧ PathAt C H p D ns r ∧ Q (.ref r) H
def spPoint (C : Addr) : Sp := fun vs H Q _ => ∃ (p r : Addr) (D : CD) (ns : List Str) (j : Nat) (z x : Int), vs = [.ref p, .int z, .int x] ∧ z = (j : Int) ∧ PathAt C H p D ns r ∧ Bd D ∧ j < ns.length - 1 ∧ ∀ q H', H q = none → Same H H' → H' q = some (.tup ((plc D ns j x).map V.int)) → Q (.ref q) H'
def spSeg (C : Addr) : Sp := fun vs H Q _ => ∃ (p r : Addr) (D : CD) (ns : List Str) (j : Nat) (z s e : Int), vs = [.ref p, .int z, .int s, .int e] ∧ z = (j : Int) ∧ PathAt C H p D ns r ∧ Bd D ∧ j < ns.length - 1 ∧ ∀ q H', H q = none → Same H H' → H' q = some (.tup ((seg D ns j s e).map V.int)) → Q (.ref q) H'
def spSegs (C : Addr) : Sp := fun vs H Q _ => ∃ (p r : Addr) (D : CD) (ns : List Str) (f l : Int), vs = [.ref p, .int f, .int l] ∧ PathAt C H p D ns r ∧ Bd D ∧ 2 ≤ ns.length ∧ ns.length ≤ 20 ∧ f ≤ l ∧
  ∀ q H', H q = none → Same H H' → LoT H' q (segsOf D ns f l (List.range (ns.length - 1))) → Q (.ref q) H'
def spPlace (C : Addr) : Sp := fun vs H Q _ => ∃ (p r : Addr) (D : CD) (ns : List Str) (x : Int), vs = [.ref p, .int x] ∧ PathAt C H p D ns r ∧ Bd D ∧ 2 ≤ ns.length ∧ ns.length ≤ 20 ∧
  ∀ q H', H q = none → Same H H' → H' q = some (.tup ((plc D ns (lat D ns (ns.length - 1 - 1) x) x ++ [D.len (rn ns (lat D ns (ns.length - 1 - 1) x)) (rn ns (lat D ns (ns.length - 1 - 1) x + 1))]).map V.int)) → Q (.ref q) H'
def spPiece (C : Addr) : Sp := fun vs H Q _ => ∃ (p r : Addr) (D : CD) (ns : List Str) (f l : Int), vs = [.ref p, .int f, .int l] ∧ PathAt C H p D ns r ∧ Bd D ∧ 2 ≤ ns.length ∧ ns.length ≤ 20 ∧ f ≤ l ∧
  ∀ q H', H q = none → Same H H' → LoT H' q (pcs D ns f l) → Q (.ref q) H'
def spJoin (C : Addr) : Sp := fun vs H Q _ => ∃ (p ch r dx l1 l2 l3 l4 : Addr) (D : CD) (ns : List Str) (i : Nat) (sa va : List Addr), vs = [.ref p, .ref ch, .str (rn ns i), .str (rn ns (i + 1))] ∧ ChartAt H ch D ∧ PathP C H p D ns r i dx l1 l2 l3 l4 sa va ∧
  (∃ l, D.leg (rn ns i) (rn ns (i + 1)) = some l) ∧ i ≤ 20 ∧ ∀ (s v : Addr) H', PathP C H' p D ns r (i + 1) dx l1 l2 l3 l4 (sa ++ [s]) (va ++ [v]) → (∀ b o, H b = some o → b ≠ l1 → b ≠ l2 → b ≠ l3 → b ≠ l4 → H' b = some o) → Q .non H'
def spPInit (C : Addr) : Sp := fun vs H Q _ => ∃ (p ch r dx : Addr) (D : CD) (ns : List Str), vs = [.ref p, .ref ch, .ref r] ∧ H p = some (.ins C dx []) ∧ ChartAt H ch D ∧ H r = some (.tup (ns.map V.str)) ∧ Route D ns ∧
  ∀ H', PathAt C H' p D ns r → (∀ b o, H b = some o → b ≠ p → H' b = some o) → Q .non H'
theorem ChartAt.fr {H H' : Hp} {ch p C dx : Addr} {fs : List (Str × V)} {D : CD} (Q : ChartAt H ch D) (hp : H p = some (.ins C dx fs)) (e : ∀ b o, H b = some o → b ≠ p → H' b = some o) : ChartAt H' ch D := by
  have e' : ∀ b o, H b = some o → (∀ C dx fs, o ≠ .ins C dx fs) → H' b = some o := fun b o h n => e b o h (ne_of h hp (n _ _ _))
  obtain ⟨⟨kvs, h1, h2, h3⟩, h4, h5, h6, h7, h8, h8', h9⟩ := Q
  exact ⟨⟨kvs, e' _ _ h1 (by intro _ _ _ z; cases z), h2, h3⟩, e' _ _ h4 (by intro _ _ _ z; cases z), e' _ _ h5 (by intro _ _ _ z; cases z), fun l hl => e' _ _ (h6 l hl) (by intro _ _ _ z; cases z),
    fun n a x y hp => let ⟨p1, p2, p3⟩ := h7 n a x y hp; ⟨p1, e' _ _ p2 (by intro _ _ _ z; cases z), p3⟩, h8, h8', h9⟩
/-! a class of the text, ready to be made -/
structure CDef (P : Program) (w : World) (K : PySem.W.Frag) (mg : Str → Option Value) (base : Heap) (k : Nat) (C : Addr) (x : Str) (ps : List Str) (sp : Sp) : Prop where
  ex : ∃ (f : Addr) (fd : FuncData), FnOk P w K mg base CX0 k f fd ps sp ∧ Mk K C f ∧ mg x = some (.ref C) ∧ Binds K fd ps []
theorem pe_cdef {X : Cx} {k : Nat} {C : Addr} {x : Str} {ps : List Str} {sp : Sp} {p pos : Pos} {e : Expr} {es : List Expr} {t : TA} (D : CDef X.prog X.w X.K X.mg X.base k C x ps sp) (hr : Room (k + 1) X.A) (hg : Gl X x)
    (ha : PA X (e :: es) t) (hdb : (x == ("__debug__" : Str)) = false := by decide) (he : starEach (e :: es) X.env = (false, eval e X.env) :: starEach es X.env := by rfl) (hpl : (backTo pos (starEach es X.env)).any (·.1) = false := by rfl) :
    PE X (.Call (.Name x p) (e :: es) [] pos) (tMake C sp [] E0 t) := by
  obtain ⟨f, fd, F, M, m, b⟩ := D.ex
  exact pe_make M F hr hg m b .nil pass0 ha hdb he hpl
/-! what the law's own defs promise -/
def bgs (D : CD) (ns : List Str) : List Int := (List.range ns.length).map (bg D ns)
theorem bgs_at {D : CD} {ns : List Str} {j : Nat} (h : j < ns.length) : ((bgs D ns).map V.int)[j]? = some (.int (bg D ns j)) := by
  unfold bgs
  rw [List.getElem?_map, List.getElem?_map, List.getElem?_range h]
  rfl
theorem bgs_len {D : CD} {ns : List Str} : ((bgs D ns).map V.int).length = ns.length := by
  unfold bgs
  rw [List.length_map, List.length_map, List.length_range]
theorem bgs_last {D : CD} {ns : List Str} (h : 0 < ns.length) : ((bgs D ns).map V.int).getLast? = some (.int (bg D ns (ns.length - 1))) := by
  rw [List.getLast?_eq_getElem?, bgs_len]
  exact bgs_at (by omega)
def spBegins : Sp := fun vs H Q _ => ∃ (ld r : Addr) (D : CD) (ns : List Str), vs = [.ref ld, .ref r] ∧ LenAt H ld D ∧ H r = some (.tup (ns.map V.str)) ∧ Route D ns ∧ ∀ b H', H b = none → Same H H' → H' b = some (.lst ((bgs D ns).map V.int)) → Q (.ref b) H'
def spLawLegAt : Sp := fun vs H Q _ => ∃ (b : Addr) (x : Int) (D : CD) (ns : List Str), vs = [.ref b, .int x] ∧ H b = some (.lst ((bgs D ns).map V.int)) ∧ 2 ≤ ns.length ∧ ns.length ≤ 20 ∧ Q (.int (lat D ns (ns.length - 1 - 1) x : Nat)) H
def spPlaceOn : Sp := fun vs H Q _ => ∃ (ch r b : Addr) (z x : Int) (D : CD) (ns : List Str) (k : Nat), vs = [.ref ch, .ref r, .ref b, .int z, .int x] ∧ z = (k : Int) ∧ ChartAt H ch D ∧ H r = some (.tup (ns.map V.str)) ∧ H b = some (.lst ((bgs D ns).map V.int)) ∧ Route D ns ∧ k + 1 < ns.length ∧
  ∀ q H', H q = none → Same H H' → H' q = some (.tup ((plc D ns k x ++ [D.len (rn ns k) (rn ns (k + 1))]).map V.int)) → Q (.ref q) H'
def spLawPiece : Sp := fun vs H Q _ => ∃ (ch r b : Addr) (f l : Int) (D : CD) (ns : List Str), vs = [.ref ch, .ref r, .ref b, .int f, .int l] ∧ ChartAt H ch D ∧ H r = some (.tup (ns.map V.str)) ∧ H b = some (.lst ((bgs D ns).map V.int)) ∧ Route D ns ∧ f ≤ l ∧
  ∀ q H', H q = none → Same H H' → LoT H' q (pcs D ns f l) → Q (.ref q) H'
def spRight (C : Addr) : Sp := fun vs H Q _ => ∃ (p ch ld r : Addr) (D : CD) (ns : List Str), vs = [.ref p, .ref ch, .ref ld, .ref r] ∧ PathAt C H p D ns r ∧ ChartAt H ch D ∧ LenAt H ld D ∧ Route D ns ∧ ∀ H', Same H H' → Q (.bl true) H'
def spProgress (K : PySem.W.Frag) : Sp := fun vs H Q _ => ∃ (d c b : Addr) (D : CD) (ns : List Str), vs = [.ref d, .ref b] ∧ St1 K H d c ∧ H b = some (.lst ((bgs D ns).map V.int)) ∧ Bd D ∧ 2 ≤ ns.length ∧ ns.length ≤ 20 ∧ ∀ z H', St1 K H' d c → Keep d H H' → Q (.int z) H'
def spAreNum : Sp := fun vs H Q _ => ∃ (l : Addr) (xss : List (List Int)), vs = [.ref l] ∧ LoT H l xss ∧ xss.length ≤ 100 ∧ (∀ xs ∈ xss, xs.length ≤ 100) ∧ ∀ H', Same H H' → Q (.bl true) H'
theorem segsOf_len (D : CD) (ns : List Str) (f l : Int) (ks : List Nat) : (segsOf D ns f l ks).length ≤ ks.length := List.length_filterMap_le _ _
theorem pcs_len (D : CD) (ns : List Str) (f l : Int) : (pcs D ns f l).length ≤ ns.length + 1 := by
  unfold pcs
  dsimp only
  generalize (if 0 > f then 0 else f) = u
  generalize (if bg D ns (ns.length - 1) < l then bg D ns (ns.length - 1) else l) = v
  split
  · exact Nat.zero_le _
  · split
    · show 1 ≤ _
      omega
    · have := segsOf_len D ns u v (List.range (ns.length - 1))
      rw [List.length_range] at this
      omega
theorem seg_len (D : CD) (ns : List Str) (k : Nat) (s e : Int) : (seg D ns k s e).length = 5 := rfl
theorem segOf_len {D : CD} {ns : List Str} {f l : Int} {k : Nat} {xs : List Int} (h : segOf D ns f l k = some xs) : xs.length = 5 := by
  unfold segOf at h
  dsimp only at h
  generalize (if bg D ns k > f then bg D ns k else f) = u at h
  generalize (if bg D ns (k + 1) < l then bg D ns (k + 1) else l) = v at h
  by_cases e : u < v
  · rw [if_pos e] at h
    rw [← Option.some.inj h, seg_len]
  · rw [if_neg e] at h
    cases h
theorem pcs_five (D : CD) (ns : List Str) (f l : Int) : ∀ xs ∈ pcs D ns f l, xs.length ≤ 100 := by
  unfold pcs
  dsimp only
  generalize (if 0 > f then 0 else f) = u
  generalize (if bg D ns (ns.length - 1) < l then bg D ns (ns.length - 1) else l) = v
  intro xs h
  split at h
  · cases h
  · split at h
    · rw [List.mem_singleton.mp h, seg_len]
      decide
    · obtain ⟨k, _, e⟩ := List.mem_filterMap.mp h
      rw [segOf_len e]
      decide
theorem Route.pt {H : Hp} {ch : Addr} {D : CD} {ns : List Str} (R : Route D ns) (C : ChartAt H ch D) {j : Nat} (h : j + 1 < ns.length) : (∃ a x y, D.pt (rn ns j) = some (a, x, y)) ∧ ∃ a x y, D.pt (rn ns (j + 1)) = some (a, x, y) := by
  obtain ⟨l, hl⟩ := R.ch j h
  obtain ⟨h1, h2, h3⟩ := CD.leg_mem hl
  have := C.wf l h1
  rw [h2, h3] at this
  exact this
/-! data that can be compared -/
theorem cla {xs : List PyData} (h : ∀ x ∈ xs, x.canLay0 = true) : PyData.canLayAll0 xs = true := by
  induction xs with
  | nil => rfl
  | cons x xs ih =>
    show (PyData.canLay0 x && PyData.canLayAll0 xs) = true
    rw [h x List.mem_cons_self, ih fun y hy => h y (List.mem_cons_of_mem _ hy)]
    rfl
theorem dpa {xs : List PyData} {n : Nat} (h : ∀ x ∈ xs, x.depth ≤ n) : PyData.depthAll xs ≤ n := by
  induction xs with
  | nil => exact Nat.zero_le _
  | cons x xs ih =>
    show max (PyData.depth x) (PyData.depthAll xs) ≤ n
    exact Nat.max_le.mpr ⟨h x List.mem_cons_self, ih fun y hy => h y (List.mem_cons_of_mem _ hy)⟩
theorem sh_of {d : PyData} (h1 : d.canLay0 = true) (h2 : d.depth ≤ 64) : SeqAt.shaped d = true := by
  unfold SeqAt.shaped
  rw [h1, decide_eq_true h2]
  rfl
theorem can_str {ns : List Str} (h : ∀ n ∈ ns, sOk n) : (PyData.tuple (ns.map PyData.str)).canLay0 = true := by
  show PyData.canLayAll0 _ = true
  refine cla fun x hx => ?_
  obtain ⟨n, hn, rfl⟩ := List.mem_map.mp hx
  exact h n hn
theorem sh_str {ns : List Str} (h : ∀ n ∈ ns, sOk n) : SeqAt.shaped (.tuple (ns.map PyData.str)) = true := by
  refine sh_of (can_str h) ?_
  show PyData.depthAll _ + 1 ≤ 64
  have : PyData.depthAll (ns.map PyData.str) ≤ 1 := dpa fun x hx => by
    obtain ⟨n, _, rfl⟩ := List.mem_map.mp hx
    exact Nat.zero_le _
  omega
theorem can_pd (xs : List Int) : (pdT xs).canLay0 = true := by
  show PyData.canLayAll0 _ = true
  refine cla fun x hx => ?_
  obtain ⟨n, hn, rfl⟩ := List.mem_map.mp hx
  rfl
theorem dep_pd (xs : List Int) : (pdT xs).depth ≤ 2 := by
  show PyData.depthAll _ + 1 ≤ 2
  have : PyData.depthAll (xs.map PyData.int) ≤ 1 := dpa fun x hx => by
    obtain ⟨n, _, rfl⟩ := List.mem_map.mp hx
    exact Nat.zero_le _
  omega
theorem sh_pd (xs : List Int) : SeqAt.shaped (pdT xs) = true := sh_of (can_pd xs) (Nat.le_trans (dep_pd xs) (by decide))
theorem can_pds (xss : List (List Int)) : (PyData.list (xss.map pdT)).canLay0 = true := by
  show PyData.canLayAll0 _ = true
  refine cla fun x hx => ?_
  obtain ⟨n, hn, rfl⟩ := List.mem_map.mp hx
  exact can_pd n
theorem sh_pds (xss : List (List Int)) : SeqAt.shaped (.list (xss.map pdT)) = true := by
  refine sh_of (can_pds xss) ?_
  show PyData.depthAll _ + 1 ≤ 64
  have : PyData.depthAll (xss.map pdT) ≤ 2 := dpa fun x hx => by
    obtain ⟨n, _, rfl⟩ := List.mem_map.mp hx
    exact dep_pd n
  omega
theorem dpAll_str {K : PySem.W.Frag} {H : Hp} : ∀ xs : List Str, DpAll K H (xs.map V.str) (xs.map PyData.str)
  | [] => .nil
  | x :: xs => .cons (.str x) (dpAll_str xs)
def pdL (l : Lg) : PyData := .tuple [.str l.s, .str l.e, .str l.c, .int l.lo, .int l.hi]
theorem can_lg {l : Lg} (h : sOk l.s ∧ sOk l.e ∧ sOk l.c) : (pdL l).canLay0 = true := by
  show (PyData.canLay0 (.str l.s) && (PyData.canLay0 (.str l.e) && (PyData.canLay0 (.str l.c) && (true && (true && true))))) = true
  have h1 : PyData.canLay0 (.str l.s) = true := h.1
  have h2 : PyData.canLay0 (.str l.e) = true := h.2.1
  have h3 : PyData.canLay0 (.str l.c) = true := h.2.2
  rw [h1, h2, h3]
  rfl
theorem dp_lg {K : PySem.W.Frag} {H : Hp} {l : Lg} (h : H l.a = some (.tup l.v)) : Dp K H (.ref l.a) (pdL l) := .tup (.inl (.inl h)) (.cons (.str _) (.cons (.str _) (.cons (.str _) (.cons (.int _) (.cons (.int _) .nil)))))
theorem sh_lg {l : Lg} (h : sOk l.s ∧ sOk l.e ∧ sOk l.c) : SeqAt.shaped (pdL l) = true := sh_of (can_lg h) (by
  show PyData.depthAll _ + 1 ≤ 64
  have : PyData.depthAll [.str l.s, .str l.e, .str l.c, .int l.lo, .int l.hi] ≤ 1 := dpa fun x hx => by
    simp only [List.mem_cons, List.not_mem_nil, or_false] at hx
    rcases hx with rfl | rfl | rfl | rfl | rfl <;> exact Nat.zero_le _
  omega)
theorem Route.sok {H : Hp} {ch : Addr} {D : CD} {ns : List Str} (R : Route D ns) (C : ChartAt H ch D) : ∀ n ∈ ns, sOk n := by
  intro n hn
  obtain ⟨j, hj, rfl⟩ := List.getElem_of_mem hn
  have e : ∀ i (h : i < ns.length), rn ns i = ns[i] := fun i h => by
    unfold rn
    rw [List.getD_eq_getElem?_getD, List.getElem?_eq_getElem h]
    rfl
  have n2 := R.n2
  by_cases h : j + 1 < ns.length
  · obtain ⟨l, hl⟩ := R.ch j h
    obtain ⟨h1, h2, _⟩ := CD.leg_mem hl
    have := (C.sk l h1).1
    rw [h2, e j hj] at this
    exact this
  · obtain ⟨i, rfl⟩ : ∃ i, j = i + 1 := ⟨j - 1, by omega⟩
    obtain ⟨l, hl⟩ := R.ch i hj
    obtain ⟨h1, _, h3⟩ := CD.leg_mem hl
    have := (C.sk l h1).2.1
    rw [h3, e (i + 1) hj] at this
    exact this
end Sk

set_option Elab.async false
set_option linter.all false
set_option maxRecDepth 100000
set_option maxHeartbeats 4000000
namespace Sk
open PySem PySem.Spec PyProof.Rows L2
def top (i : Nat) : Stmt := PySem.Challenge.pw_skyapart_k09_paths.main.body.getD i (.Pass ⟨0, 0, 0, 0⟩)
abbrev s_law_start : Stmt := top 10
abbrev s_law_draw : Stmt := top 11
abbrev s_law_pick : Stmt := top 12
abbrev s_law_is_number : Stmt := top 13
section
variable {P : Program} {w : World} {K : PySem.W.Frag} {mg : Str → Option Value} {base : Heap}
theorem sc_law_start : FnScope ["script", "cell"] ["script"] (defScope s_law_start) := ⟨rfl, rfl, rfl, by decide +kernel, rfl, by decide +kernel, by decide +kernel⟩
theorem ok_law_start {f : Addr} {fd : FuncData} (F : Fun K "_law_start" "_law_start" s_law_start f fd) (T : Txt0 mg) : FnOk P w K mg base CX0 1 f fd ["script"] (spStart K) := by
  refine F.ok sc_law_start (fun vs H Q E h => ?_) (fun cdv A outer s H vs Q E hr h => ?_)
  · obtain ⟨a, ns, rfl, _⟩ := h
    rfl
  · obtain ⟨a, ns, rfl, hS, hl, k⟩ := h
    refine ⟨_, (pss_one (ps_ret (pe_disp (pps_cons pe_str (pe_lc (own := [("cell", 1)]) (g := gName 1) (by rfl) sc_law_start.nd (pi_list (pv 0)) (blkOk_by (own := [("cell", 1)]) (N := ["script", "cell"]) (sc := defScope s_law_start) (by decide +kernel)) (fun _ _ _ _ _ => (pg_name (i := 1) sc_law_start.nd rfl (Or.inl rfl))) (fun _ _ _ _ _ => pts_nil) (fun _ _ _ _ _ => (pe_callB call_abs (by rfl) T.abs boot_abs (pa_cons (pe_callTy call_int1 (by rfl) T.int boot_int (pa_cons (pv 1) pa_nil)) pa_nil)))) (pps_cons pe_str pe_int (pps_cons pe_str pe_int (pps_cons pe_str (pe_op op_add pe_int (pe_callB call_len_seq (by rfl) T.len boot_len (pa_cons (pv 0) pa_nil))) pps_nil)))) (by rfl) (by rfl) (fun z => by cases z) (by decide)))), ?_⟩
    -- the dict
    intro d hd
    have s0 : Same H (upd H d (.dK [])) := same_new hd
    refine ⟨_, rfl, a, rfl, ⟨_, s0.seq hS⟩, fun D hD => ?_⟩
    have nDd : d ≠ D := fun z => by rw [← z, upd_same] at hD; cases hD
    refine lc_list (K := K) (a := a) (xs := ns.map V.int) (fun i H' => ∃ cs : List Int, H' D = some (.lst (cs.map V.int)) ∧ cs.length = i ∧ (∀ x ∈ cs, 0 ≤ x) ∧ Same H H' ∧ H' d = some (.dK []))
      ⟨[], upd_same, rfl, (fun _ h => nomatch h), fun b o e => (same_new hD) b o (s0 b o e), by rw [upd_ne nDd, upd_same]⟩ (fun i H' _ ⟨_, _, _, _, s2, _⟩ => s2.seq hS) ?_ ?_
    · rintro i x H' hx ⟨cs, hc, hi, hn, s2, h2⟩
      obtain ⟨z, rfl⟩ : ∃ z, x = V.int z := by
        rw [List.getElem?_map] at hx
        cases e : ns[i]? with
        | none => rw [e] at hx; cases hx
        | some z => rw [e] at hx; exact ⟨z, (Option.some.inj hx).symm⟩
      have hil : i < (ns.map V.int).length := (List.getElem?_eq_some_iff.mp hx).1
      rw [List.length_map] at hil
      refine ⟨rfl, ?_⟩
      refine ⟨_, rfl, .inl ⟨_, rfl, _, rfl, _, hc, ?_, cs ++ [if z < 0 then -z else z], ?_, ?_, ?_, ?_, ?_⟩⟩
      · rw [List.length_map]; exact small1000 (by omega)
      · rw [upd_same, List.map_append]; rfl
      · rw [List.length_append, hi]; rfl
      · intro y hy
        rcases List.mem_append.mp hy with hy | hy
        · exact hn y hy
        · rw [List.mem_singleton.mp hy]; split <;> omega
      · intro b o e
        rw [upd_ne (ne_of_none e (s0.free hD))]
        exact s2 b o e
      · rw [upd_ne nDd]; exact h2
    · rintro H' ⟨cs, hc, hi, hn, s2, h2⟩
      refine ⟨_, rfl, a, _, rfl, .inl (s2.seq hS), _, _, rfl, rfl, h2, stK D 0 0 (7 + ((ns.map V.int).length : Int)), rfl, (by show 4 ≤ 15; decide), ?_⟩
      rw [merge_st]
      have hDd : D ≠ d := fun z => nDd z.symm
      refine k d D _ hd (s0.free hD) ⟨cs, 0, 0, _, upd_same, (by rw [upd_ne hDd]; exact hc), hn, by omega, by omega, ?_, ?_⟩ fun b o e => ?_
      · omega
      · rw [List.length_map]; omega
      · rw [upd_ne (ne_of_none e hd)]
        exact s2 b o e
theorem sc_law_draw : FnScope ["state", "bound", "cell", "number"] ["state", "bound"] (defScope s_law_draw) := ⟨rfl, rfl, rfl, by decide +kernel, rfl, by decide +kernel, by decide +kernel⟩
theorem ok_law_draw {f : Addr} {fd : FuncData} (F : Fun K "_law_draw" "_law_draw" s_law_draw f fd) (T : Txt0 mg) : FnOk P w K mg base CX0 1 f fd ["state", "bound"] (spDraw K) := by
  refine F.ok sc_law_draw (fun vs H Q E h => ?_) (fun cdv A outer s H vs Q E hr h => ?_)
  · obtain ⟨d, c, b, rfl, _⟩ := h
    rfl
  · obtain ⟨d, c, b, rfl, S1, b0, b1, k⟩ := h
    have hu := hu_of hr
    have hm : ∀ x : Int, 0 ≤ x % b ∧ x % b < b := fun x => ⟨Int.emod_nonneg x (by omega), Int.emod_lt_of_pos x b0⟩
    have hmx : ∀ x : Int, 0 ≤ x % 2147483647 ∧ x % 2147483647 < 2147483648 := fun x => by omega
    refine ⟨_, (pss_cons (ps_if (PW.pt (pw_and (pt_cmpR op_eq (pe_dget hu (pv 0) pe_str (fun _ _ => rfl)) pe_int (nomark _)) (pw_and1 (pt_cmpR op_lt (pe_dget hu (pv 0) pe_str (fun _ _ => rfl)) (pe_callB call_len_seq (by rfl) T.len boot_len (pa_cons (pe_dget hu (pv 0) pe_str (fun _ _ => rfl)) pa_nil)) (nomark _))))) (pss_cons (ps_set (i := 2) sc_law_draw.nd rfl (Or.inl rfl) (pe_ix ix_list (pe_dget hu (pv 0) pe_str (fun _ _ => rfl)) (pe_dget hu (pv 0) pe_str (fun _ _ => rfl)) (fun _ _ => rfl)))
    (pss_cons (ps_dput hu (pv 0) pe_str (pe_op op_add (pe_dget hu (pv 0) pe_str (fun _ _ => rfl)) pe_int) rfl)
    (pss_cons (ps_dput hu (pv 0) pe_str (pe_op op_mod (pe_callTy call_int1 (by rfl) T.int boot_int (pa_cons (pe_op op_add (pe_op op_add (pe_op op_mul (pe_dget hu (pv 0) pe_str (fun _ _ => rfl)) pe_int) (pv 2)) pe_int) pa_nil)) pe_int) rfl)
    (pss_cons (ps_if (pt_cmpR op_lt (pv 2) (pe_op op_pow pe_int pe_int) (nomark _)) (pss_one (ps_ret (pe_op op_mod (pe_callTy call_int1 (by rfl) T.int boot_int (pa_cons (pv 2) pa_nil)) (pv 1))))
      pss_nil)
    (pss_one (ps_dput hu (pv 0) pe_str (pv 2) rfl))))))
      pss_nil)
    (pss_cons (ps_if (pt_cmpR op_gt (pe_dget hu (pv 0) pe_str (fun _ _ => rfl)) pe_int (nomark _)) (pss_cons (ps_set (i := 3) sc_law_draw.nd rfl (Or.inl rfl) (pe_op op_mod (pe_callTy call_int1 (by rfl) T.int boot_int (pa_cons (pe_dget hu (pv 0) pe_str (fun _ _ => rfl)) pa_nil)) (pv 1)))
    (pss_cons (ps_dput hu (pv 0) pe_str (pe_op op_fdivW (pe_dget hu (pv 0) pe_str (fun _ _ => rfl)) (pv 1)) rfl)
    (pss_one (ps_ret (pv 3)))))
      pss_nil)
    (pss_cons (ps_dput hu (pv 0) pe_str (pe_op op_mod (pe_callTy call_int1 (by rfl) T.int boot_int (pa_cons (pe_op op_add (pe_op op_mul (pe_dget hu (pv 0) pe_str (fun _ _ => rfl)) pe_int) pe_int) pa_nil)) pe_int) rfl)
    (pss_one (ps_ret (pe_op op_mod (pe_callTy call_int1 (by rfl) T.int boot_int (pa_cons (pe_op op_mod (pe_callTy call_int1 (by rfl) T.int boot_int (pa_cons (pe_op op_add (pe_op op_mul (pe_dget hu (pv 0) pe_str (fun _ _ => rfl)) pe_int) pe_int) pa_nil)) pe_int) pa_nil)) (pv 1))))))), ?_⟩
    refine cut (fun σ' H' => ∃ v2 v3, σ' = [some (.ref d), some (.int b), v2, v3] ∧ St1 K H' d c ∧ Keep d H H') ?_ (fun rest => ?_)
    · -- the rest: from a number that is left, or from the mix
      rintro σ' H' ⟨v2, v3, rfl, ⟨ns, i, l, m, S⟩, kp⟩
      refine ⟨_, rfl, _, _, rfl, dg_left S.dc, _, _, rfl, rfl, _, rfl, ite2 (fun e => ?_) (fun e => ?_)⟩
      · refine ⟨_, rfl, _, _, rfl, dg_left S.dc, .inl ⟨_, rfl, _, rfl, _, _, rfl, rfl, b0, ?_⟩⟩
        refine ⟨_, rfl, _, _, rfl, dg_left S.dc, _, rfl, _, _, rfl, rfl, log_of b0 b1, _, rfl, _, _, rfl, dp_left S.dc, ?_⟩
        refine ⟨_, rfl, ?_⟩
        exact k _ _ (hm l).1 (hm l).2 ⟨_, _, _, _, S.put S.i0 (Int.ediv_nonneg S.l0 (by omega)) S.m0 S.m1⟩ (kp.trans (Keep.upd _ _ _))
      · refine ⟨_, rfl, _, _, rfl, dg_mix S.dc, _, _, rfl, rfl, .inr ⟨by decide, by decide⟩, _, _, rfl, rfl, .inl ⟨_, rfl, _, _, rfl, rfl, (by show (0:Int) < 2147483647; decide), _, rfl, _, _, rfl, dp_mix S.dc, ?_⟩⟩
        have S2 := S.put (i' := i) (l' := l) S.i0 S.l0 (hmx (m * 48271 + 11)).1 (hmx (m * 48271 + 11)).2
        refine ⟨_, rfl, _, _, rfl, dg_mix S2.dc, _, _, rfl, rfl, .inr ⟨by decide, by decide⟩, _, _, rfl, rfl, .inl ⟨_, rfl, _, _, rfl, rfl, (by show (0:Int) < 2147483629; decide), .inl ⟨_, rfl, _, rfl, _, _, rfl, rfl, b0, ?_⟩⟩⟩
        exact k _ _ (hm _).1 (hm _).2 ⟨_, _, _, _, S2⟩ (kp.trans (Keep.upd _ _ _))
    · -- the first if
      obtain ⟨ns, i, l, m, S⟩ := id S1
      refine ⟨_, rfl, _, _, rfl, dg_left S.dc, rfl, _, rfl, ite2 (fun e => ?_) (fun e => ?_)⟩
      · refine ⟨_, rfl, _, _, rfl, dg_at S.dc, _, rfl, _, _, rfl, dg_cells S.dc, _, _, rfl, .inl (.inl (.inl S.cs)), _, _, rfl, rfl, _, rfl, ite2 (fun e => ?_) (fun e => ?_)⟩
        · have hi : i < (ns.length : Int) := by
            have := of_decide_eq_true e
            rw [List.length_map] at this
            exact this
          obtain ⟨j, rfl⟩ : ∃ j : Nat, i = (j : Int) := ⟨i.toNat, by have := S.i0; omega⟩
          have hj : j < ns.length := by omega
          refine ⟨_, rfl, _, _, rfl, dg_cells S.dc, _, rfl, _, _, rfl, dg_at S.dc, _, _, _, _, rfl, rfl, .inl (.inl S.cs), atI_nat (j := j) (v := .int ns[j]) (by simp [hj]), ?_⟩
          have S2 := S.put (i' := (j : Int) + 1) (l' := l) (m' := m) (by omega) S.l0 S.m0 S.m1
          refine ⟨_, rfl, _, _, rfl, dg_at S.dc, _, _, rfl, rfl, _, rfl, _, _, rfl, dp_at S.dc, ?_⟩
          refine ⟨_, rfl, _, _, rfl, dg_mix S2.dc, _, _, rfl, rfl, .inr ⟨by decide, by decide⟩, _, rfl, _, _, rfl, rfl, _, _, rfl, rfl, .inl ⟨_, rfl, _, _, rfl, rfl, (by show (0:Int) < 2147483647; decide), _, rfl, _, _, rfl, dp_mix S2.dc, ?_⟩⟩
          have S3 := S2.put (i' := (j : Int) + 1) (l' := l) S2.i0 S.l0 (hmx (m * 48271 + ns[j] + 11)).1 (hmx (m * 48271 + ns[j] + 11)).2
          refine ⟨_, rfl, _, _, rfl, rfl, ⟨by decide, by decide, by decide⟩, _, _, rfl, rfl, _, rfl, ite2 (fun e => ?_) (fun e => ?_)⟩
          · refine ⟨_, rfl, .inl ⟨_, rfl, _, rfl, _, _, rfl, rfl, b0, ?_⟩⟩
            exact k _ _ (hm _).1 (hm _).2 ⟨_, _, _, _, S3⟩ ((Keep.upd _ _ _).trans (Keep.upd _ _ _))
          · refine ⟨_, rfl, _, rfl, _, _, rfl, dp_left S3.dc, ?_⟩
            have S4 := S3.put (i' := (j : Int) + 1) (l' := ns[j]) S2.i0 (S.nn _ (List.getElem_mem hj)) S3.m0 S3.m1
            exact rest _ _ ⟨_, _, rfl, ⟨_, _, _, _, S4⟩, ((Keep.upd _ _ _).trans (Keep.upd _ _ _)).trans (Keep.upd _ _ _)⟩
        · exact rest _ _ ⟨_, _, rfl, S1, Keep.refl _ _⟩
      · refine iteF ?_
        exact rest _ _ ⟨_, _, rfl, S1, Keep.refl _ _⟩
theorem sc_law_pick : FnScope ["state", "things"] ["state", "things"] (defScope s_law_pick) := ⟨rfl, rfl, rfl, by decide +kernel, rfl, by decide +kernel, by decide +kernel⟩
theorem ok_law_pick {f : Addr} {fd : FuncData} (F : Fun K "_law_pick" "_law_pick" s_law_pick f fd) (T : Txt0 mg) (D_law_draw : Def P w K mg base 1 "_law_draw" ["state", "bound"] (spDraw K)) : FnOk P w K mg base CX0 2 f fd ["state", "things"] (spPick K) := by
  refine F.ok sc_law_pick (fun vs H Q E h => ?_) (fun cdv A outer s H vs Q E hr h => ?_)
  · obtain ⟨d, c, l, xs, rfl, _⟩ := h
    rfl
  · obtain ⟨d, c, l, xs, rfl, S, hl, hn, hz, k⟩ := h
    refine ⟨_, (pss_one (ps_ret (pe_ix ix_list (pv 1) (pe_def D_law_draw (hr.mono (by decide)) (by rfl) (pa_cons (pv 0) (pa_cons (pe_callB call_len_seq (by rfl) T.len boot_len (pa_cons (pv 1) pa_nil)) pa_nil))) (fun _ _ => rfl)))), ?_⟩
    have hp : 0 < xs.length := List.length_pos_iff.mpr hn
    refine ⟨_, rfl, _, rfl, _, rfl, _, _, rfl, .inl hl, d, c, _, rfl, S, by omega, by omega, fun n H' n0 n1 S' kp => ?_⟩
    obtain ⟨kvs, hd⟩ := S.dk
    obtain ⟨j, rfl⟩ : ∃ j : Nat, n = (j : Int) := ⟨n.toNat, by omega⟩
    have hj : j < xs.length := by omega
    refine ⟨_, _, _, _, rfl, rfl, kp.seq hd hl, atI_nat (j := j) (v := xs[j]) (by simp [hj]), ?_⟩
    exact k _ _ (List.getElem_mem hj) S' kp
theorem sc_law_is_number : FnScope ["thing"] ["thing"] (defScope s_law_is_number) := ⟨rfl, rfl, rfl, by decide +kernel, rfl, by decide +kernel, by decide +kernel⟩
theorem ok_law_is_number {f : Addr} {fd : FuncData} (F : Fun K "_law_is_number" "_law_is_number" s_law_is_number f fd) (T : Txt0 mg) : FnOk P w K mg base CX0 1 f fd ["thing"] spIsNum := by
  refine F.ok sc_law_is_number (fun vs H Q E h => ?_) (fun cdv A outer s H vs Q E hr h => ?_)
  · obtain ⟨n, rfl, _⟩ := h
    rfl
  · obtain ⟨n, rfl, k⟩ := h
    refine ⟨_, (pss_one (ps_ret (pe_and (pe_callB call_isi (by rfl) T.isinstance boot_isinstance (pa_cons (pv 0) (pa_cons (pe_bltn (v := .ty "int") (by rfl) T.int boot_int rfl) pa_nil))) (pe_one (pe_not (pe_callB call_isi (by rfl) T.isinstance boot_isinstance (pa_cons (pv 0) (pa_cons (pe_bltn (v := .ty "bool") (by rfl) T.bool boot_bool rfl) pa_nil)))))))), ?_⟩
    refine ⟨_, rfl, _, _, _, _, true, rfl, ClsV.ty _, .base (.int n), kit_ty (by decide +kernel), true, rfl, ?_⟩
    refine iteT ?_
    refine ⟨_, rfl, _, _, _, _, false, rfl, ClsV.ty _, .base (.int n), kit_ty (by decide +kernel), false, rfl, ?_⟩
    exact k
end
end Sk

set_option Elab.async false
set_option linter.all false
set_option maxRecDepth 100000
set_option maxHeartbeats 4000000
namespace Sk
open PySem PySem.Spec PyProof.Rows L2
abbrev s_root_down : Stmt := top 2
abbrev s_root_up : Stmt := top 3
abbrev s_leg_length : Stmt := top 5
abbrev s_leg_between : Stmt := top 6
abbrev s_law_is : Stmt := top 14
abbrev s_law_root_up : Stmt := top 15
abbrev s_law_names : Stmt := top 16
abbrev s_law_legs : Stmt := top 17
abbrev s_law_chart : Stmt := top 18
abbrev s_law_leg : Stmt := top 19
abbrev s_law_lengths : Stmt := top 20
abbrev s_law_walk : Stmt := top 22
local macro_rules | `(tactic| walk_at "ms") => `(tactic| first | exact .inl ⟨by decide, by decide⟩ | exact .inl ⟨by omega, by omega⟩ | exact .inr ⟨by omega, by omega⟩ | exact wm (by omega) (by omega) | exact log_of (by omega) (by omega) | (show (0:Int) < _; omega) | exact ⟨by decide, by decide, by decide⟩)
section
variable {P : Program} {w : World} {K : PySem.W.Frag} {mg : Str → Option Value} {base : Heap}
theorem sc_root_down : FnScope ["n"] ["n"] (defScope s_root_down) := ⟨rfl, rfl, rfl, by decide +kernel, rfl, by decide +kernel, by decide +kernel⟩
theorem ok_root_down {f : Addr} {fd : FuncData} (F : Fun K "root_down" "root_down" s_root_down f fd) (T : TxtA mg) (Tq : mg "isqrt" = some (.builtin "math.isqrt")) : FnOk P w K mg base CX0 1 f fd ["n"] (spDownR) := by
  refine F.ok sc_root_down (fun vs H Q E h => ?_) (fun cdv A outer s H vs Q E hr h => ?_)
  · obtain ⟨n, rfl, _⟩ := h
    rfl
  · obtain ⟨n, rfl, hn, k⟩ := h
    refine ⟨_, (pss_cons (ps_if (pt_cmpR op_le (pv 0) pe_int (nomark _)) (pss_one (ps_ret pe_int))
      pss_nil)
    (pss_one (ps_ret (pe_callBfun cr_isqrt (by rfl) Tq (pa_cons (pv 0) pa_nil))))), ?_⟩
    refine ⟨_, rfl, _, _, rfl, rfl, _, rfl, ite2 (fun e => ?_) (fun e => ?_)⟩
    · have e := of_decide_eq_true e
      exact k 0 (by omega) (fun _ => rfl) (fun h => by omega)
    · have e : ¬ n ≤ 0 := fun z => e (decide_eq_true z)
      exact ⟨_, rfl, n, rfl, by omega, hn, fun r h0 h1 h2 => k r h0 (fun z => absurd z e) (fun _ => ⟨h1, h2⟩)⟩
theorem sc_root_up : FnScope ["n", "low"] ["n"] (defScope s_root_up) := ⟨rfl, rfl, rfl, by decide +kernel, rfl, by decide +kernel, by decide +kernel⟩
theorem ok_root_up {f : Addr} {fd : FuncData} (F : Fun K "root_up" "root_up" s_root_up f fd) (T : TxtA mg)
    (D_root_down : Def P w K mg base 1 "root_down" ["n"] (spDownR)) : FnOk P w K mg base CX0 2 f fd ["n"] (spUpR) := by
  refine F.ok sc_root_up (fun vs H Q E h => ?_) (fun cdv A outer s H vs Q E hr h => ?_)
  · obtain ⟨n, rfl, _⟩ := h
    rfl
  · obtain ⟨n, rfl, hn0, hn, k⟩ := h
    refine ⟨_, (pss_cons (ps_set (i := 1) sc_root_up.nd rfl (Or.inl rfl) (pe_def D_root_down (hr.mono (by decide)) (by rfl) (pa_cons (pv 0) pa_nil)))
    (pss_cons (ps_if (pt_cmpR op_lt (pe_op op_mulW (pv 1) (pv 1)) (pv 0) (nomark _)) (pss_one (ps_ret (pe_op op_add (pv 1) pe_int)))
      pss_nil)
    (pss_one (ps_ret (pv 1))))), ?_⟩
    refine ⟨_, rfl, n, rfl, by omega, fun r h0 h1 h2 => ?_⟩
    obtain ⟨h3, h4⟩ := h2 hn0
    have hr' : r.natAbs < 2 ^ 249 := by
      rcases ltge r 1 with h3 | h3
      · have : r = 0 := by omega
        subst this; decide
      · have := Int.mul_le_mul_of_nonneg_left h3 h0
        omega
    refine ⟨_, rfl, _, rfl, _, _, rfl, rfl, wm (by omega) (by omega), _, rfl, _, _, rfl, rfl, _, rfl, ite2 (fun e => ?_) (fun e => ?_)⟩
    · have e := of_decide_eq_true e
      have hq : IsRt n (r + 1) := ⟨by omega, by omega, .inr (by rw [show r + 1 - 1 = r by omega]; exact e)⟩
      refine ⟨_, rfl, _, _, rfl, rfl, ?_⟩
      show Q (.int (r + 1)) H
      rw [hq.eq (rt_is hn0)]
      exact k
    · have e : ¬ r * r < n := fun z => e (decide_eq_true z)
      have hq : IsRt n r := by
        refine ⟨h0, by omega, ?_⟩
        rcases ltge 0 r with w | w
        · right
          have : (r - 1) * (r - 1) = r * r - 2 * r + 1 := by
            rw [Int.sub_mul, Int.mul_sub, Int.mul_sub]; omega
          omega
        · left; omega
      refine ⟨_, rfl, ?_⟩
      show Q (.int r) H
      rw [hq.eq (rt_is hn0)]
      exact k
theorem sc_leg_length : FnScope ["chart", "start", "end", "ax", "ay", "bx", "by"] ["chart", "start", "end"] (defScope s_leg_length) := ⟨rfl, rfl, rfl, by decide +kernel, rfl, by decide +kernel, by decide +kernel⟩
theorem ok_leg_length {f : Addr} {fd : FuncData} (F : Fun K "leg_length" "leg_length" s_leg_length f fd) (T : TxtA mg)
    (D_root_up : Def P w K mg base 2 "root_up" ["n"] (spUpR)) : FnOk P w K mg base CX0 3 f fd ["chart", "start", "end"] (spLegLen) := by
  refine F.ok sc_leg_length (fun vs H Q E h => ?_) (fun cdv A outer s H vs Q E hr h => ?_)
  · obtain ⟨_, _, _, _, _, _, _, _, _, _, rfl, _⟩ := h
    rfl
  · obtain ⟨ch, D, s', e', a, b, ax, ay, bx, by', rfl, C, h1, h2, k⟩ := h
    have hu := hu_of hr
    refine ⟨_, (pss_cons (ps_asg (pe_dget hu (pe_dget hu (pv 0) pe_str (fun _ _ => rfl)) (pv 1) (fun _ _ => rfl)) (pg_tup (by rfl) (pgs_cons (pg_name (i := 3) sc_leg_length.nd rfl (Or.inl rfl)) (pgs_cons (pg_name (i := 4) sc_leg_length.nd rfl (Or.inl rfl)) pgs_nil))))
    (pss_cons (ps_asg (pe_dget hu (pe_dget hu (pv 0) pe_str (fun _ _ => rfl)) (pv 2) (fun _ _ => rfl)) (pg_tup (by rfl) (pgs_cons (pg_name (i := 5) sc_leg_length.nd rfl (Or.inl rfl)) (pgs_cons (pg_name (i := 6) sc_leg_length.nd rfl (Or.inl rfl)) pgs_nil))))
    (pss_one (ps_ret (pe_def D_root_up (hr.mono (by decide)) (by rfl) (pa_cons (pe_op op_add (pe_op op_mul (pe_op op_sub (pv 5) (pv 3)) (pe_op op_sub (pv 5) (pv 3))) (pe_op op_mul (pe_op op_sub (pv 6) (pv 4)) (pe_op op_sub (pv 6) (pv 4)))) pa_nil)))))), ?_⟩
    have hz0 : 0 ≤ (bx - ax) * (bx - ax) + (by' - ay) * (by' - ay) := Int.add_nonneg (sq0 _) (sq0 _)
    obtain ⟨p1, p2, p3, p4, p5, p6⟩ := C.pf _ _ _ _ h1
    obtain ⟨q1, q2, q3, q4, q5, q6⟩ := C.pf _ _ _ _ h2
    have hz1 : ((bx - ax) * (bx - ax) + (by' - ay) * (by' - ay)).natAbs < 2 ^ 240 := by
      have e1 := sq_le (show -200000 ≤ bx - ax by omega) (show bx - ax ≤ 200000 by omega)
      have e2 := sq_le (show -200000 ≤ by' - ay by omega) (show by' - ay ≤ 200000 by omega)
      omega
    refine ⟨_, rfl, _, _, rfl, C.gf, _, rfl, _, _, rfl, C.gp h1, _, _, rfl, .inl (.inl p2), rfl, _, _, rfl, _, _, rfl, rfl, ?_⟩
    refine ⟨_, rfl, _, _, rfl, C.gf, _, rfl, _, _, rfl, C.gp h2, _, _, rfl, .inl (.inl q2), rfl, _, _, rfl, _, _, rfl, rfl, ?_⟩
    refine ⟨_, rfl, _, rfl, _, _, rfl, rfl, _, rfl, _, rfl, _, _, rfl, rfl, _, _, rfl, rfl, (by walk_at "ms"), _, rfl, _, rfl, _, _, rfl, rfl, _, rfl, _, rfl, _, _, rfl, rfl, _, _, rfl, rfl, (by walk_at "ms"), _, _, rfl, rfl, _, rfl, hz0, hz1, ?_⟩
    rw [← D.len_eq h1 h2]
    exact k
theorem sc_leg_between : FnScope ["chart", "start", "end", "leg"] ["chart", "start", "end"] (defScope s_leg_between) := ⟨rfl, rfl, rfl, by decide +kernel, rfl, by decide +kernel, by decide +kernel⟩
theorem ok_leg_between {f : Addr} {fd : FuncData} (F : Fun K "leg_between" "leg_between" s_leg_between f fd) (T : TxtA mg) : FnOk P w K mg base CX0 1 f fd ["chart", "start", "end"] (spLegBt) := by
  refine F.ok sc_leg_between (fun vs H Q E h => ?_) (fun cdv A outer s H vs Q E hr h => ?_)
  · obtain ⟨_, _, _, _, rfl, _⟩ := h
    rfl
  · obtain ⟨ch, D, s', e', rfl, C, k⟩ := h
    have hu := hu_of hr
    refine ⟨_, (pss_cons (ps_for PassesOwn.never rfl (pi_list (pe_dget hu (pv 0) pe_str (fun _ _ => rfl))) (pg_name (i := 3) sc_leg_between.nd rfl (Or.inl rfl))
      (pss_one (ps_if (PW.pt (pw_and (pt_cmpR op_eq (pe_ix (r := rIxT K) ix_tup (pv 3) pe_int (fun _ _ => rfl)) (pv 1) (nomark _)) (pw_and1 (pt_cmpR op_eq (pe_ix (r := rIxT K) ix_tup (pv 3) pe_int (fun _ _ => rfl)) (pv 2) (nomark _))))) (pss_one (ps_ret (pv 3)))
      pss_nil)))
    (pss_one (ps_ret pe_non))), ?_⟩
    refine ⟨_, rfl, _, _, rfl, C.gl, _, rfl, ⟨_, .inl (.inl C.lg)⟩, for_list (K := K) (a := D.lg) (xs := D.ls.map fun l => V.ref l.a) (fun i σ H2 => ∃ v, σ = [some (.ref ch), some (.str s'), some (.str e'), v] ∧ H2 = H ∧ (D.ls.take i).find? (fun l => decide (l.s = s') && decide (l.e = e')) = none)
      ⟨none, rfl, rfl, rfl⟩ (fun i σ H2 _ ⟨_, _, e, _⟩ => .inl (.inl (e ▸ C.lg))) ?_ ?_⟩
    · rintro i y σ H2 hi ⟨v, rfl, rfl, hf⟩
      obtain ⟨l, rfl, hl, hil, ht⟩ := getMap hi
      have hq := C.lt l hl
      refine ⟨_, rfl, _, _, _, .str l.s, rfl, rfl, .inl (.inl hq), rfl, _, rfl, rfl, _, rfl, ite2 (fun e1 => ?_) (fun e1 => ?_)⟩
      · have e1 := V.str.inj (of_decide_eq_true e1)
        refine ⟨_, rfl, _, _, _, .str l.e, rfl, rfl, .inl (.inl hq), rfl, _, rfl, rfl, _, rfl, ite2 (fun e2 => ?_) (fun e2 => ?_)⟩
        · have e2 := V.str.inj (of_decide_eq_true e2)
          refine ⟨_, rfl, ?_⟩
          have e3 : D.leg s' e' = some l := by
            unfold CD.leg
            rw [← List.take_append_drop (i + 1) D.ls, List.find?_append, ht, List.find?_append, hf]
            simp [e1, e2]
          rw [e3] at k
          exact k
        · refine ⟨_, rfl, rfl, ?_⟩
          rw [ht, List.find?_append, hf]
          have : ¬ l.e = e' := fun z => e2 (decide_eq_true (congrArg V.str z))
          simp [this]
      · refine iteF ?_
        refine ⟨_, rfl, rfl, ?_⟩
        rw [ht, List.find?_append, hf]
        have : ¬ l.s = s' := fun z => e1 (decide_eq_true (congrArg V.str z))
        simp [this]
    · rintro σ H2 ⟨v, rfl, rfl, hf⟩
      rw [List.length_map, List.take_length] at hf
      have e3 : D.leg s' e' = none := hf
      rw [e3] at k
      exact k
theorem sc_law_is : FnScope ["actual", "due"] ["actual", "due"] (defScope s_law_is) := ⟨rfl, rfl, rfl, by decide +kernel, rfl, by decide +kernel, by decide +kernel⟩
theorem ok_law_is {f : Addr} {fd : FuncData} (F : Fun K "_law_is" "_law_is" s_law_is f fd) (T : TxtA mg) : FnOk P w K mg base CX0 1 f fd ["actual", "due"] (spIs) := by
  refine F.ok sc_law_is (fun vs H Q E h => ?_) (fun cdv A outer s H vs Q E hr h => ?_)
  · obtain ⟨_, _, rfl, _⟩ := h
    rfl
  · obtain ⟨a, b, rfl, k⟩ := h
    refine ⟨_, (pss_one (ps_ret (pe_and (pe_callB call_isi (by rfl) T.isinstance boot_isinstance (pa_cons (pv 0) (pa_cons (pe_bltn (v := .ty "bool") (by rfl) T.bool boot_bool rfl) pa_nil))) (pe_one (pe_cmpR op_eq (pv 0) (pv 1) (nomark _)))))), ?_⟩
    refine ⟨_, rfl, _, _, _, _, true, rfl, ClsV.ty _, .base (.bl a), kit_ty (by decide +kernel), true, rfl, ?_⟩
    refine iteT ?_
    refine ⟨_, rfl, _, rfl, rfl, ?_⟩
    have e : decide (V.bl a = V.bl b) = decide (a = b) := by
      by_cases h : a = b
      · rw [h]; simp
      · rw [decide_eq_false h, decide_eq_false fun z => h (V.bl.inj z)]
    show Q (.bl (decide (V.bl a = V.bl b))) H
    rw [e]
    exact k
theorem sc_law_root_up : FnScope ["n", "low", "high", "k", "middle"] ["n"] (defScope s_law_root_up) := ⟨rfl, rfl, rfl, by decide +kernel, rfl, by decide +kernel, by decide +kernel⟩
theorem ok_law_root_up {f : Addr} {fd : FuncData} (F : Fun K "_law_root_up" "_law_root_up" s_law_root_up f fd) (T : TxtA mg) : FnOk P w K mg base CX0 1 f fd ["n"] (spRootR) := by
  refine F.ok sc_law_root_up (fun vs H Q E h => ?_) (fun cdv A outer s H vs Q E hr h => ?_)
  · obtain ⟨n, rfl, _⟩ := h
    rfl
  · obtain ⟨n, rfl, hn0, hn1, k⟩ := h
    refine ⟨_, (pss_cons (ps_set (i := 1) sc_law_root_up.nd rfl (Or.inl rfl) pe_int)
    (pss_cons (ps_set (i := 2) sc_law_root_up.nd rfl (Or.inl rfl) (pe_op op_pow pe_int pe_int))
    (pss_cons (ps_for PassesOwn.never rfl (pi_range1 (by rfl) T.range (pa_cons pe_int pa_nil)) (pg_name (i := 3) sc_law_root_up.nd rfl (Or.inl rfl))
      (pss_cons (ps_set (i := 4) sc_law_root_up.nd rfl (Or.inl rfl) (pe_op op_fdivW (pe_op op_add (pv 1) (pv 2)) pe_int))
    (pss_one (ps_if (pt_cmpR op_ge (pe_op op_mul (pv 4) (pv 4)) (pv 0) (nomark _)) (pss_one (ps_set (i := 2) sc_law_root_up.nd rfl (Or.inl rfl) (pv 4)))
      (pss_one (ps_set (i := 1) sc_law_root_up.nd rfl (Or.inl rfl) (pe_op op_add (pv 4) pe_int)))))))
    (pss_one (ps_ret (pv 2)))))), ?_⟩
    refine ⟨_, _, rfl, rfl, ⟨by decide, by decide, by decide⟩, ?_⟩
    refine ⟨_, rfl, by decide, by decide, for_range (n := 24) (fun i σ H2 => ∃ lw hg v3 v4, σ = [some (.int n), some (.int lw), some (.int hg), v3, v4] ∧ 0 ≤ lw ∧ lw ≤ hg ∧ hg ≤ 10000000 ∧ hg - lw < pw i ∧ n ≤ hg * hg ∧ (lw = 0 ∨ (lw - 1) * (lw - 1) < n) ∧ H2 = H) ⟨0, 10000000, none, none, rfl, by omega, by omega, by omega, by decide, by omega, .inl rfl, rfl⟩ ?_ ?_⟩
    · rintro i σ H2 hi ⟨lw, hg, v3, v4, rfl, l0, l1, h0, hw, hu', hl', rfl⟩
      have hp := pw_step hi
      refine ⟨_, rfl, _, rfl, _, _, rfl, rfl, _, _, rfl, rfl, log_of (by decide) (by decide), ?_⟩
      refine ⟨_, rfl, _, rfl, _, _, rfl, rfl, .inl ⟨by omega, by omega⟩, _, rfl, _, _, rfl, rfl, _, rfl, ite2 (fun e => ?_) (fun e => ?_)⟩
      · have e := of_decide_eq_true e
        refine ⟨_, rfl, lw, (lw + hg) / 2, _, _, rfl, by omega, by omega, by omega, by omega, e, hl', rfl⟩
      · have e : ¬ n ≤ (lw + hg) / 2 * ((lw + hg) / 2) := fun z => e (decide_eq_true z)
        have hlt : (lw + hg) / 2 < hg := by
          rcases ltge ((lw + hg) / 2) hg with w | w
          · exact w
          · have := mono_sq (show 0 ≤ hg by omega) w
            omega
        refine ⟨_, rfl, _, _, rfl, rfl, (lw + hg) / 2 + 1, hg, _, _, rfl, by omega, by omega, by omega, by omega, hu', .inr ?_, rfl⟩
        rw [show (lw + hg) / 2 + 1 - 1 = (lw + hg) / 2 by omega]
        omega
    · rintro σ H2 ⟨lw, hg, v3, v4, rfl, l0, l1, h0, hw, hu', hl', rfl⟩
      have hp : pw 24 = 1 := by decide
      have hq : IsRt n hg := ⟨by omega, hu', by rw [show hg = lw by omega]; exact hl'⟩
      refine ⟨_, rfl, ?_⟩
      show Q (.int hg) H2
      rw [hq.eq (rt_is hn0)]
      exact k
theorem sc_law_names : FnScope ["state", "many", "shift", "names", "k", "letter"] ["state", "many"] (defScope s_law_names) := ⟨rfl, rfl, rfl, by decide +kernel, rfl, by decide +kernel, by decide +kernel⟩
theorem ok_law_names {f : Addr} {fd : FuncData} (F : Fun K "_law_names" "_law_names" s_law_names f fd) (T : TxtA mg)
    (D_law_draw : Def P w K mg base 1 "_law_draw" ["state", "bound"] (spDraw K))
    (D_law_pick : Def P w K mg base 2 "_law_pick" ["state", "things"] (spPick K)) : FnOk P w K mg base CX0 3 f fd ["state", "many"] (spNames K) := by
  refine F.ok sc_law_names (fun vs H Q E h => ?_) (fun cdv A outer s H vs Q E hr h => ?_)
  · obtain ⟨_, _, _, rfl, _⟩ := h
    rfl
  · obtain ⟨d, c, m, rfl, S, m0, m1, k⟩ := h
    refine ⟨_, (pss_cons (ps_set (i := 2) sc_law_names.nd rfl (Or.inl rfl) (pe_def D_law_draw (hr.mono (by decide)) (by rfl) (pa_cons (pv 0) (pa_cons pe_int pa_nil))))
    (pss_cons (ps_set (i := 3) sc_law_names.nd rfl (Or.inl rfl) (pe_lst pa_nil))
    (pss_cons (ps_for PassesOwn.never rfl (pi_range1 (by rfl) T.range (pa_cons (pv 1) pa_nil)) (pg_name (i := 4) sc_law_names.nd rfl (Or.inl rfl))
      (pss_cons (ps_set (i := 5) sc_law_names.nd rfl (Or.inl rfl) (pe_ix ix_str pe_str (pe_op op_mod (pe_callTy call_int1 (by rfl) T.int boot_int (pa_cons (pe_op op_add (pv 4) (pv 2)) pa_nil)) pe_int) (fun _ _ => rfl)))
    (pss_one (ps_expr (pe_bm PySem.F.plainAttrs_list PySem.F.slot_list_append PySem.F.type_list_append mt_append (pv 3) (pa_cons (pe_op op_add_str (pv 5) (pe_def D_law_pick (hr.mono (by decide)) (by rfl) (pa_cons (pv 0) (pa_cons (pe_lst (pa_cons pe_str (pa_cons pe_str (pa_cons pe_str (pa_cons pe_str (pa_cons pe_str (pa_cons pe_str pa_nil))))))) pa_nil)))) pa_nil))))))
    (pss_one (ps_ret (pv 3)))))), ?_⟩
    refine ⟨_, rfl, d, c, _, rfl, S, (by omega), (by omega), fun x1 H1 x1a x1b S1 kp1 => ?_⟩
    refine ⟨szOk rfl, fun p2 hp2 => ?_⟩
    have npd : p2 ≠ d := S1.nd hp2
    have npc : p2 ≠ c := S1.nc hp2
    refine ⟨_, rfl, _, rfl, by omega, by omega, for_range (n := m.toNat) (fun i σ H2 => ∃ (ns : List Str) (v4 v5 : Option V), σ = [some (.ref d), some (.int m), some (.int x1), some (.ref p2), v4, v5] ∧ St1 K H2 d c ∧ H2 p2 = some (.lst (ns.map V.str)) ∧ ns.length = i ∧ (∀ n ∈ ns, sOk n) ∧ ∀ b o, H b = some o → b ≠ d → H2 b = some o)
      ⟨[], none, none, rfl, (S1.new hp2), upd_same, rfl, (fun _ h => nomatch h), fun b o e nb => same_new hp2 _ _ (kp1 b o e nb)⟩ ?_ ?_⟩
    · rintro i σ H2 hi ⟨ns, v4, v5, rfl, S0, hL, hlen, hok, hk⟩
      have nHp : H p2 = none := by
        cases e : H p2 with
        | none => rfl
        | some o => rw [kp1 _ _ e npd] at hp2; cases hp2
      obtain ⟨c1, hc1, hc2⟩ : ∃ c1, atI ("QXAMBZKCTDRE" : Str).cps.toList ((0 + (i : Int) + x1) % 12) = some c1 ∧ c1 < 1114112 := by
        obtain ⟨j, hj⟩ : ∃ j : Nat, (0 + (i : Int) + x1) % 12 = (j : Int) := ⟨((0 + (i : Int) + x1) % 12).toNat, by omega⟩
        rw [hj]
        have hj2 : j < 12 := by omega
        have hall : ∀ c ∈ ("QXAMBZKCTDRE" : Str).cps.toList, c < 1114112 := by decide +kernel
        exact ⟨_, atI_nat (List.getElem?_eq_getElem (by show j < 12; exact hj2)), hall _ (List.getElem_mem _)⟩
      refine ⟨_, rfl, _, rfl, _, _, rfl, rfl, .inl ⟨_, rfl, _, _, rfl, rfl, (by show (0:Int) < 12; decide), _, _, _, rfl, rfl, (by show 12 ≤ sizeLine; decide), hc1, ?_⟩⟩
      refine ⟨_, rfl, (.inl ⟨rfl, _, .inl (.inl hL)⟩), _, rfl, _, rfl, szOk rfl, fun p3 hp3 => ?_⟩
      refine ⟨d, c, _, _, rfl, (S0.new hp3), .inl (.inl upd_same), (fun z => nomatch z), (by show 6 ≤ 1000; decide), fun v4 H4 hv4 S4 kp4 => ?_⟩
      have hL := kp4.l (S0.new hp3) (same_new hp3 _ _ hL)
      obtain ⟨z4, rfl, hz4, hzk4⟩ : ∃ z : Str, v4 = .str z ∧ z.length ≤ 4 ∧ sOk z := by
        simp only [List.mem_cons, List.not_mem_nil, or_false] at hv4
        rcases hv4 with rfl | rfl | rfl | rfl | rfl | rfl <;> exact ⟨_, rfl, by decide +kernel, by decide +kernel⟩
      refine ⟨_, _, rfl, rfl, Nat.le_trans (Nat.add_le_add (show (1 : Nat) ≤ 1 from Nat.le_refl 1) hz4) (by decide), ?_⟩
      refine ⟨_, _, _, rfl, rfl, hL, (by rw [List.length_map]; exact small1000 (by omega)), ?_⟩
      refine ⟨ns ++ [⟨#[c1]⟩ ++ z4], _, _, rfl, St1.put S4 npd npc, by rw [upd_same, List.map_append]; rfl, by rw [List.length_append, hlen]; rfl, fun n hn => ?_, fun b o e nb => ?_⟩
      · rcases List.mem_append.mp hn with h | h
        · exact hok n h
        · rw [List.mem_singleton.mp h]
          exact sOk_app (by show PySem.PyData.strOk ⟨#[c1]⟩ = true; simp [PySem.PyData.strOk, hc2]) hzk4
      rw [upd_ne (fun z => by rw [z, nHp] at e; cases e)]
      exact kp4 _ _ (same_new hp3 _ _ (hk b o e nb)) nb
    · rintro σ H2 ⟨ns, v4, v5, rfl, S0, hL, hlen, hok, hk⟩
      have nHp : H p2 = none := by
        cases e : H p2 with
        | none => rfl
        | some o => rw [kp1 _ _ e npd] at hp2; cases hp2
      refine ⟨_, rfl, k ns p2 H2 (by omega) hok nHp hL S0 fun b o e nb => hk b o e nb⟩
theorem sc_law_legs : FnScope ["state", "names", "legs", "many", "k", "j", "other", "levels", "leg"] ["state", "names"] (defScope s_law_legs) := ⟨rfl, rfl, rfl, by decide +kernel, rfl, by decide +kernel, by decide +kernel⟩
theorem ok_law_legs {f : Addr} {fd : FuncData} (F : Fun K "_law_legs" "_law_legs" s_law_legs f fd) (T : TxtA mg)
    (D_law_draw : Def P w K mg base 1 "_law_draw" ["state", "bound"] (spDraw K))
    (D_law_pick : Def P w K mg base 2 "_law_pick" ["state", "things"] (spPick K)) : FnOk P w K mg base CX0 3 f fd ["state", "names"] (spLegs K) := by
  refine F.ok sc_law_legs (fun vs H Q E h => ?_) (fun cdv A outer s H vs Q E hr h => ?_)
  · obtain ⟨_, _, _, _, rfl, _⟩ := h
    rfl
  · obtain ⟨d, c, l, ns, rfl, S, hN, n2, n12, k⟩ := h
    refine ⟨_, (pss_cons (ps_set (i := 2) sc_law_legs.nd rfl (Or.inl rfl) (pe_lst pa_nil))
    (pss_cons (ps_set (i := 3) sc_law_legs.nd rfl (Or.inl rfl) (pe_callB (r := rLenK K) call_len_seq (by rfl) T.len boot_len (pa_cons (pv 1) pa_nil)))
    (pss_cons (ps_for PassesOwn.never rfl (pi_range1 (by rfl) T.range (pa_cons (pv 3) pa_nil)) (pg_name (i := 4) sc_law_legs.nd rfl (Or.inr rfl))
      (pss_one (ps_for PassesOwn.never rfl (pi_range1 (by rfl) T.range (pa_cons (pe_def D_law_pick (hr.mono (by decide)) (by rfl) (pa_cons (pv 0) (pa_cons (pe_lst (pa_cons pe_int (pa_cons pe_int (pa_cons pe_int (pa_cons pe_int (pa_cons pe_int pa_nil)))))) pa_nil))) pa_nil)) (pg_name (i := 5) sc_law_legs.nd rfl (Or.inl rfl))
      (pss_cons (ps_set (i := 6) sc_law_legs.nd rfl (Or.inr rfl) (pe_ix (r := rIxL K) ix_list (pv 1) (pe_op op_mod (pe_callTy call_int1 (by rfl) T.int boot_int (pa_cons (pe_op op_add (pe_op op_add (pv 4) pe_int) (pe_def D_law_draw (hr.mono (by decide)) (by rfl) (pa_cons (pv 0) (pa_cons (pe_op op_sub (pv 3) pe_int) pa_nil)))) pa_nil)) (pv 3)) (fun _ _ => rfl)))
    (pss_one (ps_if (pt_not (pt_val (pe_callB (cr_any rfl) (by rfl) T.any boot_any (pa_cons (pe_lc (own := [("leg", 8)]) (g := gName 8) (by rfl) sc_law_legs.nd (pi_list (pv 2)) (blkOk_by (own := [("leg", 8)]) (N := ["state", "names", "legs", "many", "k", "j", "other", "levels", "leg"]) (sc := defScope s_law_legs) (by decide +kernel)) (fun _ _ _ _ _ => (pg_name (i := 8) sc_law_legs.nd rfl (Or.inl rfl))) (fun _ _ _ _ _ => pts_nil) (fun _ _ _ _ _ => (pe_and (pe_cmpR op_eq (pe_ix (r := rIxT K) ix_tup (pv 8) pe_int (fun _ _ => rfl)) (pe_ix (r := rIxL K) ix_list (pv 1) (pv 4) (fun _ _ => rfl)) (nomark _)) (pe_one (pe_cmpR op_eq (pe_ix (r := rIxT K) ix_tup (pv 8) pe_int (fun _ _ => rfl)) (pv 6) (nomark _)))))) pa_nil)))) (pss_cons (ps_set (i := 7) sc_law_legs.nd rfl (Or.inl rfl) (pe_def D_law_pick (hr.mono (by decide)) (by rfl) (pa_cons (pv 0) (pa_cons (pe_lst (pa_cons (pe_tup (pa_cons pe_int (pa_cons pe_int pa_nil))) (pa_cons (pe_tup (pa_cons pe_int (pa_cons pe_int pa_nil))) (pa_cons (pe_tup (pa_cons pe_int (pa_cons pe_int pa_nil))) (pa_cons (pe_tup (pa_cons pe_int (pa_cons pe_int pa_nil))) (pa_cons (pe_tup (pa_cons pe_int (pa_cons pe_int pa_nil))) pa_nil)))))) pa_nil))))
    (pss_one (ps_expr (pe_bm PySem.F.plainAttrs_list PySem.F.slot_list_append PySem.F.type_list_append mt_append (pv 2) (pa_cons (pe_tup (pa_cons (pe_ix (r := rIxL K) ix_list (pv 1) (pv 4) (fun _ _ => rfl)) (pa_cons (pv 6) (pa_cons (pe_def D_law_pick (hr.mono (by decide)) (by rfl) (pa_cons (pv 0) (pa_cons (pe_lst (pa_cons pe_str (pa_cons pe_str (pa_cons pe_str pa_nil)))) pa_nil))) (pa_cons (pe_ix (r := rIxT K) ix_tup (pv 7) pe_int (fun _ _ => rfl)) (pa_cons (pe_ix (r := rIxT K) ix_tup (pv 7) pe_int (fun _ _ => rfl)) pa_nil)))))) pa_nil)))))
      pss_nil))))))
    (pss_one (ps_ret (pv 2)))))), ?_⟩
    refine ⟨szOk rfl, fun p1 hp1 => ?_⟩
    refine ⟨_, rfl, _, _, rfl, (.inl (.inl (.inl (same_new hp1 _ _ hN)))), ?_⟩
    have npd : p1 ≠ d := S.nd hp1
    have npc : p1 ≠ c := S.nc hp1
    have npl : l ≠ p1 := ne_of_none hN hp1
    have nHp : H p1 = none := hp1
    refine ⟨_, rfl, _, rfl, by rw [List.length_map]; omega, by rw [List.length_map]; omega, for_range (n := ((ns.map V.str).length : Int).toNat) (fun i σ H2 => ∃ (ls : List Lg) (v_k v_j v_other v_levels v_leg : Option V), σ = [some (.ref d), some (.ref l), some (.ref p1), some (.int (ns.length : Int)), v_k, v_j, v_other, v_levels, v_leg] ∧ St1 K H2 d c ∧ H2 l = some (.lst (ns.map V.str)) ∧ LegsAt H2 p1 ns ls ∧ ls.length ≤ 3 * i ∧ Keep d H H2)
      ⟨[], none, none, none, none, none, by rw [List.length_map]; rfl, (S.new hp1), (same_new hp1 _ _ hN), ⟨upd_same, (fun _ h => nomatch h), (fun _ h => nomatch h), fun _ h => nomatch h⟩, Nat.le_refl _, Keep.of (same_new hp1)⟩ ?_ ?_⟩
    · rintro i σ H2 hi ⟨ls, v_k, v_j, v_other, v_levels, v_leg, rfl, S0, hN, hL, hlen, hk⟩
      have hik : i < ns.length := by rw [List.length_map] at hi; omega
      refine ⟨_, rfl, szOk rfl, fun p2 hp2 => ?_⟩
      refine ⟨d, c, _, _, rfl, (S0.new hp2), .inl (.inl upd_same), (fun z => nomatch z), (by show 5 ≤ 1000; decide), fun v3 H3 hv3 S3 kp3 => ?_⟩
      have hN := kp3.l (S0.new hp2) (same_new hp2 _ _ hN)
      have hL := (hL.same (same_new hp2)).keep (S0.new hp2) kp3
      obtain ⟨x3, rfl, x3a, x3b⟩ : ∃ z : Int, v3 = .int z ∧ 0 ≤ z ∧ z ≤ 3 := by
        simp only [List.mem_cons, List.not_mem_nil, or_false] at hv3
        rcases hv3 with rfl | rfl | rfl | rfl | rfl <;> exact ⟨_, rfl, by decide, by decide⟩
      refine ⟨_, rfl, by omega, by omega, for_range (n := x3.toNat) (fun j σ H2 => ∃ (ls : List Lg) (v_j v_other v_levels v_leg : Option V), σ = [some (.ref d), some (.ref l), some (.ref p1), some (.int (ns.length : Int)), some (.int (0 + (i : Int))), v_j, v_other, v_levels, v_leg] ∧ St1 K H2 d c ∧ H2 l = some (.lst (ns.map V.str)) ∧ LegsAt H2 p1 ns ls ∧ ls.length ≤ 3 * i + j ∧ Keep d H H2)
        ⟨ls, _, _, _, _, rfl, S3, hN, hL, by omega, hk.trans ((Keep.of (same_new hp2)).trans kp3)⟩ ?_ ?_⟩
      · rintro j σ H2 hj ⟨ls, v_j, v_other, v_levels, v_leg, rfl, S0, hN, hL, hlen, hk⟩
        refine ⟨_, rfl, _, rfl, _, _, rfl, rfl, _, rfl, _, rfl, _, _, rfl, rfl, d, c, _, rfl, S0, (by omega), (by omega), fun x4 H4 x4a x4b S4 kp4 => ?_⟩
        have hN := kp4.l S0 hN
        have hL := hL.keep S0 kp4
        obtain ⟨oth, hoth, hat⟩ := at_mod (f := V.str) (ns := ns) (z := 0 + (i : Int) + 1 + x4) (m := (ns.length : Int)) rfl (by omega)
        refine ⟨_, _, rfl, rfl, .inl ⟨_, rfl, _, rfl, _, _, rfl, rfl, (by show 0 < (ns.length : Int); omega), _, _, _, _, rfl, rfl, .inl (.inl hN), hat, ?_⟩⟩
        refine ⟨_, rfl, p1, rfl, ⟨_, .inl (.inl hL.li)⟩, fun D hD => ?_⟩
        refine lc_list (K := K) (a := p1) (xs := ls.map fun l => V.ref l.a) (fun u H' => ∃ bs : List Bool, H' = upd H4 D (.lst (bs.map V.bl)) ∧ bs.length = u) ⟨[], rfl, rfl⟩ (fun u H' _ ⟨_, e, _⟩ => .inl (.inl (by rw [e, upd_ne (ne_of_none hL.li hD)]; exact hL.li))) ?_ ?_
        · rintro u y H' hu1 ⟨bs, rfl, hbs⟩
          obtain ⟨q, rfl, hq, hul, _⟩ := getMap hu1
          have ht := same_new (o := .lst (bs.map V.bl)) hD _ _ (hL.tu q hq)
          have hN2 := same_new (o := .lst (bs.map V.bl)) hD _ _ hN
          refine ⟨rfl, ?_⟩
          refine ⟨_, rfl, _, _, _, .str q.s, rfl, rfl, .inl (.inl ht), rfl, _, rfl, _, rfl, _, _, _, _, rfl, rfl, .inl (.inl hN2), atI0 (mapAt hik), rfl, _, rfl, ite2 (fun e1 => ?_) (fun e1 => ?_)⟩
          · refine ⟨_, rfl, _, _, _, .str q.e, rfl, rfl, .inl (.inl ht), rfl, _, rfl, rfl, _, upd_same, (by rw [List.length_map]; exact small1000 (by omega)), bs ++ [decide (V.str q.e = V.str oth)], ?_, by rw [List.length_append, hbs]; rfl⟩
            rw [upd_upd, List.map_append]
            rfl
          · refine ⟨_, upd_same, (by rw [List.length_map]; exact small1000 (by omega)), bs ++ [false], ?_, by rw [List.length_append, hbs]; rfl⟩
            rw [upd_upd, List.map_append]
            rfl
        rintro H' ⟨bs, rfl, hbs⟩
        refine ⟨D, bs, rfl, .inl (.inl upd_same), _, rfl, ?_⟩
        have hk1 : Keep d H (upd H4 D (.lst (bs.map V.bl))) := (hk.trans kp4).trans (Keep.of (same_new hD))
        have S1 := S4.new (o := .lst (bs.map V.bl)) hD
        have hN1 := same_new (o := .lst (bs.map V.bl)) hD _ _ hN
        have hL1 := hL.same (same_new (o := .lst (bs.map V.bl)) hD)
        generalize upd H4 D (.lst (bs.map V.bl)) = Hb at hk1 S1 hN1 hL1 ⊢
        cases hb : bs.any id with
        | true => exact ⟨ls, _, _, _, _, rfl, S1, hN1, hL1, by omega, hk1⟩
        | false =>
          refine ⟨_, rfl, szOk rfl, fun p5 hp5 => ?_⟩
          refine ⟨szOk rfl, fun p6 hp6 => ?_⟩
          refine ⟨szOk rfl, fun p7 hp7 => ?_⟩
          refine ⟨szOk rfl, fun p8 hp8 => ?_⟩
          refine ⟨szOk rfl, fun p9 hp9 => ?_⟩
          refine ⟨szOk rfl, fun p10 hp10 => ?_⟩
          refine ⟨d, c, _, _, rfl, ((((((S1.new hp5).new hp6).new hp7).new hp8).new hp9).new hp10), .inl (.inl upd_same), (fun z => nomatch z), (by show 5 ≤ 1000; decide), fun v11 H11 hv11 S11 kp11 => ?_⟩
          obtain ⟨lv, lo', hi', rfl, hlv⟩ : ∃ a lo' hi', v11 = .ref a ∧ H11 a = some (.tup [.int lo', .int hi']) := by
            simp only [List.mem_cons, List.not_mem_nil, or_false] at hv11
            rcases hv11 with rfl | rfl | rfl | rfl | rfl
            · exact ⟨_, _, _, rfl, kp11.t ((((((S1.new hp5).new hp6).new hp7).new hp8).new hp9).new hp10) (same_new hp10 _ _ (same_new hp9 _ _ (same_new hp8 _ _ (same_new hp7 _ _ (same_new hp6 _ _ upd_same)))))⟩
            · exact ⟨_, _, _, rfl, kp11.t ((((((S1.new hp5).new hp6).new hp7).new hp8).new hp9).new hp10) (same_new hp10 _ _ (same_new hp9 _ _ (same_new hp8 _ _ (same_new hp7 _ _ upd_same))))⟩
            · exact ⟨_, _, _, rfl, kp11.t ((((((S1.new hp5).new hp6).new hp7).new hp8).new hp9).new hp10) (same_new hp10 _ _ (same_new hp9 _ _ (same_new hp8 _ _ upd_same)))⟩
            · exact ⟨_, _, _, rfl, kp11.t ((((((S1.new hp5).new hp6).new hp7).new hp8).new hp9).new hp10) (same_new hp10 _ _ (same_new hp9 _ _ upd_same))⟩
            · exact ⟨_, _, _, rfl, kp11.t ((((((S1.new hp5).new hp6).new hp7).new hp8).new hp9).new hp10) (same_new hp10 _ _ upd_same)⟩
          have hN1 := kp11.l ((((((S1.new hp5).new hp6).new hp7).new hp8).new hp9).new hp10) (same_new hp10 _ _ (same_new hp9 _ _ (same_new hp8 _ _ (same_new hp7 _ _ (same_new hp6 _ _ (same_new hp5 _ _ hN1))))))
          have hL1 := ((((((hL1.same (same_new hp5)).same (same_new hp6)).same (same_new hp7)).same (same_new hp8)).same (same_new hp9)).same (same_new hp10)).keep ((((((S1.new hp5).new hp6).new hp7).new hp8).new hp9).new hp10) kp11
          have hk2 : Keep d H H11 := ((((((hk1.trans (Keep.of (same_new hp5))).trans (Keep.of (same_new hp6))).trans (Keep.of (same_new hp7))).trans (Keep.of (same_new hp8))).trans (Keep.of (same_new hp9))).trans (Keep.of (same_new hp10))).trans kp11
          refine ⟨_, rfl, (.inl ⟨rfl, _, .inl (.inl hL1.li)⟩), _, rfl, _, rfl, _, _, _, _, rfl, rfl, (.inl (.inl hN1)), (atI0 (mapAt hik)), _, rfl, _, rfl, szOk rfl, fun p12 hp12 => ?_⟩
          refine ⟨d, c, _, _, rfl, (S11.new hp12), .inl (.inl upd_same), (fun z => nomatch z), (by show 3 ≤ 1000; decide), fun v13 H13 hv13 S13 kp13 => ?_⟩
          have hN1 := kp13.l (S11.new hp12) (same_new hp12 _ _ hN1)
          have hL1 := (hL1.same (same_new hp12)).keep (S11.new hp12) kp13
          have hlv := kp13.t (S11.new hp12) (same_new hp12 _ _ hlv)
          obtain ⟨sec, rfl, hsec⟩ : ∃ z : Str, v13 = .str z ∧ sOk z := by
            simp only [List.mem_cons, List.not_mem_nil, or_false] at hv13
            rcases hv13 with rfl | rfl | rfl <;> exact ⟨_, rfl, by decide +kernel⟩
          refine ⟨_, rfl, _, _, _, _, rfl, rfl, (.inl (.inl hlv)), rfl, _, rfl, _, _, _, _, rfl, rfl, (.inl (.inl hlv)), rfl, szOk rfl, fun p14 hp14 => ?_⟩
          refine ⟨_, _, _, rfl, rfl, (hL1.same (same_new hp14)).li, (by rw [List.length_map]; exact small1000 (by omega)), ?_⟩
          have hk3 : Keep d H (upd H13 p14 (.tup (Lg.v (Lg.mk p14 ns[i] oth sec lo' hi')))) := ((hk2.trans (Keep.of (same_new hp12))).trans kp13).trans (Keep.of (same_new hp14))
          refine ⟨ls ++ [(Lg.mk p14 ns[i] oth sec lo' hi')], _, _, _, _, rfl, St1.put (S13.new hp14) npd npc, by rw [upd_ne npl]; exact (same_new hp14 _ _ hN1), LegsAt.snoc (q := (Lg.mk p14 ns[i] oth sec lo' hi')) (hL1.same (same_new hp14)) upd_same (List.getElem_mem hik) hoth hsec, by rw [List.length_append, List.length_singleton]; omega, fun b o e nb => ?_⟩
          rw [upd_ne (fun z => by rw [z, nHp] at e; cases e)]
          exact hk3 b o e nb
      · rintro σ H2 ⟨ls, v_j, v_other, v_levels, v_leg, rfl, S0, hN, hL, hlen, hk⟩
        exact ⟨ls, _, _, _, _, _, rfl, S0, hN, hL, by omega, hk⟩
    · rintro σ H2 ⟨ls, v_k, v_j, v_other, v_levels, v_leg, rfl, S0, hN, hL, hlen, hk⟩
      refine ⟨_, rfl, k ls p1 H2 hL ?_ nHp S0 hk⟩
      have : ((ns.map V.str).length : Int).toNat = ns.length := by rw [List.length_map]; omega
      omega
theorem sc_law_chart : FnScope ["state", "many", "size", "names", "fixes", "k", "legs", "holds", "leg", "back", "runways", "chart", "name", "other"] ["state", "many", "size"] (defScope s_law_chart) := ⟨rfl, rfl, rfl, by decide +kernel, rfl, by decide +kernel, by decide +kernel⟩
theorem ok_law_chart {f : Addr} {fd : FuncData} (F : Fun K "_law_chart" "_law_chart" s_law_chart f fd) (T : TxtA mg)
    (D_law_draw : Def P w K mg base 1 "_law_draw" ["state", "bound"] (spDraw K))
    (D_law_names : Def P w K mg base 3 "_law_names" ["state", "many"] (spNames K))
    (D_law_legs : Def P w K mg base 3 "_law_legs" ["state", "names"] (spLegs K)) : FnOk P w K mg base CX0 4 f fd ["state", "many", "size"] (spChart K) := by
  refine F.ok sc_law_chart (fun vs H Q E h => ?_) (fun cdv A outer s H vs Q E hr h => ?_)
  · obtain ⟨_, _, _, _, rfl, _⟩ := h
    rfl
  · obtain ⟨d, c, m, z, rfl, S, m0, m1, z0, z1, k⟩ := h
    have hu := hu_of hr
    refine ⟨_, (pss_cons (ps_set (i := 3) sc_law_chart.nd rfl (Or.inl rfl) (pe_def D_law_names (hr.mono (by decide)) (by rfl) (pa_cons (pv 0) (pa_cons (pv 1) pa_nil))))
    (pss_cons (ps_set (i := 4) sc_law_chart.nd rfl (Or.inl rfl) pe_dnewK)
    (pss_cons (ps_for PassesOwn.never rfl (pi_range1 (by rfl) T.range (pa_cons (pv 1) pa_nil)) (pg_name (i := 5) sc_law_chart.nd rfl (Or.inl rfl))
      (pss_one (ps_dput hu (pv 4) (pe_ix (r := rIxL K) ix_list (pv 3) (pv 5) (fun _ _ => rfl)) (pe_tup (pa_cons (pe_op op_sub (pe_def D_law_draw (hr.mono (by decide)) (by rfl) (pa_cons (pv 0) (pa_cons (pe_op op_add (pe_op op_mul pe_int (pv 2)) pe_int) pa_nil))) (pv 2)) (pa_cons (pe_op op_add (pe_op op_mul (pv 1) (pe_op op_sub (pe_def D_law_draw (hr.mono (by decide)) (by rfl) (pa_cons (pv 0) (pa_cons (pe_op op_add (pe_op op_mul pe_int (pv 2)) pe_int) pa_nil))) (pv 2))) (pv 5)) pa_nil))) rfl)))
    (pss_cons (ps_set (i := 6) sc_law_chart.nd rfl (Or.inl rfl) (pe_def D_law_legs (hr.mono (by decide)) (by rfl) (pa_cons (pv 0) (pa_cons (pv 3) pa_nil))))
    (pss_cons (ps_set (i := 7) sc_law_chart.nd rfl (Or.inl rfl) pe_dnewK)
    (pss_cons (ps_for PassesOwn.never rfl (pi_list (pv 6)) (pg_name (i := 8) sc_law_chart.nd rfl (Or.inr rfl))
      (pss_cons (ps_setLc (i := 9) (own := [("other", 13)]) (g := gName 13) (by rfl) sc_law_chart.nd rfl rfl (sw_true rfl rfl rfl (by decide +kernel)) (pi_list (pv 6)) (blkOk_by (own := [("other", 13)]) (N := ["state", "many", "size", "names", "fixes", "k", "legs", "holds", "leg", "back", "runways", "chart", "name", "other"]) (sc := defScope s_law_chart) (by decide +kernel)) (fun _ _ _ _ _ => (pg_name (i := 13) sc_law_chart.nd rfl (Or.inl rfl))) (fun _ _ _ _ _ => pts_one (PW.pt (pw_and (pt_cmpR op_eq (pe_ix (r := rIxT K) ix_tup (pv 13) pe_int (fun _ _ => rfl)) (pe_ix (r := rIxT K) ix_tup (pv 8) pe_int (fun _ _ => rfl)) (nomark _)) (pw_and1 (pt_cmpR op_eq (pe_ix (r := rIxT K) ix_tup (pv 13) pe_int (fun _ _ => rfl)) (pe_ix (r := rIxT K) ix_tup (pv 8) pe_int (fun _ _ => rfl)) (nomark _)))))) (fun _ _ _ _ _ => (pv 13)))
    (pss_one (ps_if (PW.pt (pw_and (pt_cmpR op_gt (pe_callB (r := rLenK K) call_len_seq (by rfl) T.len boot_len (pa_cons (pv 9) pa_nil)) pe_int (nomark _)) (pw_and1 (pt_cmpR op_eq (pe_def D_law_draw (hr.mono (by decide)) (by rfl) (pa_cons (pv 0) (pa_cons pe_int pa_nil))) pe_int (nomark _))))) (pss_one (ps_dput hu (pv 7) (pe_ix (r := rIxT K) ix_tup (pv 8) pe_int (fun _ _ => rfl)) (pe_ix (r := rIxT K) ix_tup (pv 8) pe_int (fun _ _ => rfl)) rfl))
      pss_nil))))
    (pss_cons (ps_setLc (i := 10) (own := [("name", 12)]) (g := gName 12) (by rfl) sc_law_chart.nd rfl rfl (sw_true rfl rfl rfl (by decide +kernel)) (pi_list (pv 3)) (blkOk_by (own := [("name", 12)]) (N := ["state", "many", "size", "names", "fixes", "k", "legs", "holds", "leg", "back", "runways", "chart", "name", "other"]) (sc := defScope s_law_chart) (by decide +kernel)) (fun _ _ _ _ _ => (pg_name (i := 12) sc_law_chart.nd rfl (Or.inl rfl))) (fun _ _ _ _ _ => pts_one (pt_cmpR op_eq (pe_def D_law_draw (hr.mono (by decide)) (by rfl) (pa_cons (pv 0) (pa_cons pe_int pa_nil))) pe_int (nomark _))) (fun _ _ _ _ _ => (pv 12)))
    (pss_cons (ps_set (i := 11) sc_law_chart.nd rfl (Or.inl rfl) (pe_disp (pps_cons pe_str (pv 4) (pps_cons pe_str (pv 6) (pps_cons pe_str (pe_lst pa_nil) (pps_cons pe_str (pe_slice sl_list (pv 10) po_none (po_some pe_int)) (pps_cons pe_str (pv 7) pps_nil))))) (by rfl) (by rfl) (fun z => by cases z) (by decide)))
    (pss_cons (ps_dput hu (pv 11) pe_str (pe_lst pa_nil) rfl)
    (pss_cons (ps_dput hu (pv 11) pe_str pe_dnewK rfl)
    (pss_one (ps_ret (pv 11))))))))))))), ?_⟩
    refine ⟨_, rfl, _, rfl, d, c, m, rfl, S, by omega, by omega, fun ns ln Hn hns hnok hln hN Sn kpn => ?_⟩
    have hnl : ns.length ≤ 7 ∧ 2 ≤ ns.length := by omega
    intro fd hfd
    have nfd : fd ≠ d := Sn.nd hfd
    have nfc : fd ≠ c := Sn.nc hfd
    have nfl : ln ≠ fd := ne_of_none hN hfd
    have nHf : H fd = none := kpn.none nfd hfd
    refine ⟨_, rfl, _, rfl, by omega, by omega, for_range (n := m.toNat) (fun i σ H2 => ∃ (kvs : List (Key × V)) (pt : Str → Option (Addr × Int × Int)) (v_k v_legs v_holds v_leg v_back v_runways v_chart v_name v_other : Option V), σ = [some (.ref d), some (.int m), some (.int z), some (.ref ln), some (.ref fd), v_k, v_legs, v_holds, v_leg, v_back, v_runways, v_chart, v_name, v_other] ∧ St1 K H2 d c ∧ H2 ln = some (.lst (ns.map V.str)) ∧ FixAt H2 fd kvs pt (ns.take i) ∧ kvs.length ≤ i ∧ Keep2 d fd Hn H2)
      ⟨[], fun _ => none, none, none, none, none, none, none, none, none, none, rfl, (Sn.new hfd), (same_new hfd _ _ hN), ⟨upd_same, (fun _ _ _ _ h => nomatch h), fun _ h => nomatch h⟩, Nat.le_refl _, (Keep2.refl d fd Hn).new hfd⟩ ?_ ?_⟩
    · rintro i σ H2 hi ⟨kvs, pt, v_k, v_legs, v_holds, v_leg, v_back, v_runways, v_chart, v_name, v_other, rfl, S0, hN, hF, hlen, hk⟩
      have hik : i < ns.length := by omega
      have e1 : ns.take (i + 1) = ns.take i ++ [ns[i]] := by rw [List.take_add_one, List.getElem?_eq_getElem hik]; rfl
      refine ⟨_, rfl, _, rfl, _, _, rfl, rfl, (by walk_at "ms"), _, _, rfl, rfl, d, c, _, rfl, S0, (by omega), (by omega), fun x2 H2 x2a x2b S2 kp2 => ?_⟩
      have hF := hF.keep S0 kp2 nfd
      have hN := kp2.l S0 hN
      refine ⟨_, rfl, _, _, rfl, rfl, _, rfl, _, rfl, _, rfl, _, _, rfl, rfl, (by walk_at "ms"), _, _, rfl, rfl, d, c, _, rfl, S2, (by omega), (by omega), fun x3 H3 x3a x3b S3 kp3 => ?_⟩
      have hF := hF.keep S2 kp3 nfd
      have hN := kp3.l S2 hN
      refine ⟨_, rfl, _, _, rfl, rfl, _, _, rfl, rfl, .inl ⟨by omega, by omega⟩, _, rfl, _, _, rfl, rfl, szOk rfl, fun p4 hp4 => ?_⟩
      have hb : -100000 ≤ (x2 - z) ∧ (x2 - z) ≤ 100000 ∧ -100000 ≤ (m * (x3 - z) + (0 + (i : Int))) ∧ (m * (x3 - z) + (0 + (i : Int))) ≤ 100000 := by
        have h1 : m * (x3 - z) ≤ 7 * 9000 := by
          rcases ltge (x3 - z) 0 with w | w
          · have := Int.mul_nonneg (show 0 ≤ m by omega) (show 0 ≤ -(x3 - z) by omega)
            rw [Int.mul_neg] at this
            omega
          · exact Int.mul_le_mul (by omega) (by omega) w (by decide)
        have h2 : m * -(x3 - z) ≤ 7 * 9000 := by
          rcases ltge (-(x3 - z)) 0 with w | w
          · have := Int.mul_nonneg (show 0 ≤ m by omega) (show 0 ≤ (x3 - z) by omega)
            rw [Int.mul_neg]
            omega
          · exact Int.mul_le_mul (by omega) (by omega) w (by decide)
        rw [Int.mul_neg] at h2
        omega
      refine ⟨_, rfl, _, rfl, _, rfl, _, _, _, _, rfl, rfl, .inl (.inl (same_new hp4 _ _ hN)), atI0 (mapAt hik), _, _, rfl, DPut.k (k := .inr ns[i]) (hF.same (same_new hp4)).dc (small1000 (by omega)), ?_⟩
      refine ⟨_, _, _, _, _, _, _, _, _, _, _, rfl, St1.put (S3.new hp4) nfd nfc, by rw [upd_ne nfl]; exact (same_new hp4 _ _ hN), by rw [e1]; exact FixAt.put (hF.same (same_new hp4)) upd_same hb, Nat.le_trans putK_len (by omega), (((hk.k kp2).k kp3).new hp4).put⟩
    rintro σ H2 ⟨kvs, pt, v_k, v_legs, v_holds, v_leg, v_back, v_runways, v_chart, v_name, v_other, rfl, S0, hN, hF, hlen, hk⟩
    have hm0 : ns.take m.toNat = ns := List.take_of_length_le (by omega)
    rw [hm0] at hF
    refine ⟨_, rfl, _, rfl, d, c, ln, ns, rfl, S0, hN, by omega, by omega, fun ls lg Hl hL hls nlg Sl kpl => ?_⟩
    have hF := hF.keep S0 kpl nfd
    have hN := kpl.l S0 hN
    have nlgd : lg ≠ d := let ⟨_, w⟩ := Sl.dk; ne_of hL.li w (by intro w; cases w)
    have nHl : H2 lg = none := nlg
    intro hd hhd
    have nhd : hd ≠ d := Sl.nd hhd
    have nhc : hd ≠ c := Sl.nc hhd
    have nhf : fd ≠ hd := ne_of_none hF.dc hhd
    have Sl0 := Sl
    refine ⟨_, rfl, lg, rfl, ⟨_, .inl (.inl (same_new hhd _ _ hL.li))⟩, for_list (K := K) (a := lg) (xs := ls.map fun l => V.ref l.a) (fun i σ H3 => ∃ (hv : List (Key × V)) (v_k v_leg v_back v_runways v_chart v_name v_other : Option V), σ = [some (.ref d), some (.int m), some (.int z), some (.ref ln), some (.ref fd), v_k, some (.ref lg), some (.ref hd), v_leg, v_back, v_runways, v_chart, v_name, v_other] ∧ St1 K H3 d c ∧ H3 hd = some (.dK hv) ∧ hv.length ≤ i ∧ Keep2 d hd Hl H3)
      ⟨[], _, _, _, _, _, _, _, rfl, Sl.new hhd, upd_same, Nat.le_refl _, (Keep2.refl d hd Hl).new hhd⟩ (fun i σ H3 _ ⟨hv, _, _, _, _, _, _, _, _, _, _, _, hk3⟩ => .inl (.inl (hk3 _ _ hL.li nlgd (ne_of_none hL.li hhd)))) ?_ ?_⟩
    · rintro i y σ H3 hi ⟨hv, v_k, v_leg, v_back, v_runways, v_chart, v_name, v_other, rfl, S3, hH, hvl, hk3⟩
      obtain ⟨q, rfl, hq, hil, _⟩ := getMap hi
      have hL3 : H3 lg = some (.lst (ls.map fun l => V.ref l.a)) := hk3 _ _ hL.li nlgd (ne_of_none hL.li hhd)
      have hT3 : ∀ q ∈ ls, H3 q.a = some (.tup q.v) := fun q hq => hk3 _ _ (hL.tu q hq) (let ⟨_, w⟩ := Sl.dk; ne_of (hL.tu q hq) w (by intro w; cases w)) (ne_of_none (hL.tu q hq) hhd)
      refine ⟨_, rfl, lg, rfl, ⟨_, .inl (.inl hL3)⟩, fun D hD => ?_⟩
      refine lc_list (K := K) (a := lg) (xs := ls.map fun l => V.ref l.a) (fun u H' => ∃ xs : List V, H' = upd H3 D (.lst xs) ∧ xs.length ≤ u) ⟨[], rfl, Nat.le_refl _⟩ (fun u H' _ ⟨_, e, _⟩ => .inl (.inl (by rw [e, upd_ne (ne_of_none hL3 hD)]; exact hL3))) ?_ ?_
      · rintro u y H' hu1 ⟨xs, rfl, hxs⟩
        obtain ⟨o, rfl, ho, hul, _⟩ := getMap hu1
        have ht := same_new (o := .lst xs) hD _ _ (hT3 o ho)
        have htq := same_new (o := .lst xs) hD _ _ (hT3 q hq)
        refine ⟨rfl, ?_⟩
        refine ⟨_, rfl, _, _, _, .str o.s, rfl, rfl, .inl (.inl ht), rfl, _, rfl, _, _, _, .str q.e, rfl, rfl, .inl (.inl htq), rfl, rfl, _, rfl, ite2 (fun e1 => ?_) (fun e1 => ?_)⟩
        · refine ⟨_, rfl, _, _, _, .str o.e, rfl, rfl, .inl (.inl ht), rfl, _, rfl, _, _, _, .str q.s, rfl, rfl, .inl (.inl htq), rfl, rfl, _, rfl, ite2 (fun e2 => ?_) (fun e2 => ?_)⟩
          · refine ⟨_, rfl, _, upd_same, small1000 (by omega), xs ++ [.ref o.a], by rw [upd_upd], by rw [List.length_append, List.length_singleton]; omega⟩
          · exact ⟨xs, rfl, by omega⟩
        · refine iteF ?_
          exact ⟨xs, rfl, by omega⟩
      rintro H' ⟨xs, rfl, hxs⟩
      have S4 := S3.new (o := .lst xs) hD
      have hk4 := hk3.new (o := .lst xs) hD
      have hH4 := same_new (o := .lst xs) hD _ _ hH
      refine ⟨_, rfl, _, _, rfl, .inl (.inl (.inl upd_same)), _, _, rfl, rfl, _, rfl, ite2 (fun e1 => ?_) (fun e1 => ?_)⟩
      · refine ⟨_, rfl, d, c, _, rfl, S4, by decide, by decide, fun x5 H5 _ _ S5 kp5 => ⟨rfl, _, rfl, ite2 (fun e2 => ?_) (fun e2 => ?_)⟩⟩
        · have hT5 := kp5.t S4 (same_new (o := .lst xs) hD _ _ (hT3 q hq))
          have hH5 := kp5 _ _ hH4 nhd
          refine ⟨_, rfl, _, _, _, .str q.e, rfl, rfl, .inl (.inl hT5), rfl, _, rfl, _, rfl, _, _, _, .str q.s, rfl, rfl, .inl (.inl hT5), rfl, _, _, rfl, DPut.k (k := .inr q.s) hH5 (small1000 (by omega)), ?_⟩
          exact ⟨_, _, _, _, _, _, _, _, rfl, S5.put nhd nhc, upd_same, Nat.le_trans putK_len (by omega), (hk4.k kp5).put⟩
        · exact ⟨_, _, _, _, _, _, _, _, rfl, S5, kp5 _ _ hH4 nhd, by omega, hk4.k kp5⟩
      · exact ⟨_, _, _, _, _, _, _, _, rfl, S4, hH4, by omega, hk4⟩
    rintro σ H3 ⟨hv, v_k, v_leg, v_back, v_runways, v_chart, v_name, v_other, rfl, S3, hH, hvl, hk3⟩
    have hN3 : H3 ln = some (.lst (ns.map V.str)) := hk3 _ _ hN (let ⟨_, w⟩ := Sl.dk; ne_of hN w (by intro w; cases w)) (ne_of_none hN hhd)
    refine ⟨_, rfl, ln, rfl, ⟨_, .inl (.inl hN3)⟩, fun D hD => ?_⟩
    have nDd : D ≠ d := S3.nd hD
    have nDc : D ≠ c := S3.nc hD
    have nDl : ln ≠ D := ne_of_none hN3 hD
    have nDh : hd ≠ D := ne_of_none hH hD
    refine lc_list (K := K) (a := ln) (xs := ns.map V.str) (fun u H' => ∃ xs : List V, H' D = some (.lst xs) ∧ xs.length ≤ u ∧ St1 K H' d c ∧ Keep2 d D H3 H') ⟨[], upd_same, Nat.le_refl _, S3.new hD, (Keep2.refl d D H3).new hD⟩
      (fun u H' _ ⟨_, _, _, _, e⟩ => .inl (.inl (e _ _ hN3 (let ⟨_, w⟩ := S3.dk; ne_of hN3 w (by intro w; cases w)) nDl))) ?_ ?_
    · rintro u y H' hu1 ⟨xs, hxs, hxl, S4, hk4⟩
      obtain ⟨o, rfl, ho, hul, _⟩ := getMap hu1
      refine ⟨rfl, ?_⟩
      refine ⟨_, rfl, d, c, _, rfl, S4, by decide, by decide, fun x5 H5 _ _ S5 kp5 => ⟨rfl, _, rfl, ite2 (fun e2 => ?_) (fun e2 => ?_)⟩⟩
      · refine ⟨_, rfl, _, kp5.l S4 hxs, small1000 (by omega), _, upd_same, by rw [List.length_append, List.length_singleton]; omega, S5.put nDd nDc, (hk4.k kp5).put⟩
      · exact ⟨xs, kp5.l S4 hxs, by omega, S5, hk4.k kp5⟩
    rintro H' ⟨xs, hxs, hxl, S4, hk4⟩
    -- the chart
    intro ch hch
    refine ⟨_, rfl, _, rfl, szOk rfl, fun zo hzo => ?_⟩
    refine ⟨_, rfl, _, rfl, D, xs, rfl, .inl (.inl (same_new hzo _ _ (same_new hch _ _ hxs))), fun ru hru => ?_⟩
    refine ⟨_, rfl, same_new hru _ _ (same_new hzo _ _ upd_same), [(.inr "fixes", .ref fd), (.inr "legs", .ref lg), (.inr "zones", .ref zo), (.inr "runways", .ref ru), (.inr "holds", .ref hd)], rfl, (by show 5 ≤ 15; decide), ?_⟩
    have nchd : ch ≠ d := S4.nd hch
    have nchc : ch ≠ c := S4.nc hch
    have hlen5 := ch_len (f := V.ref fd) (l := .ref lg) (z := .ref zo) (r := .ref ru) (h := .ref hd)
    have nHd : H3 hd ≠ none := by rw [hH]; intro w; cases w
    refine ⟨szOk rfl, fun ho hho => ⟨_, rfl, _, _, rfl, DPut.k (k := .inr "hours") (same_new hho _ _ upd_same) (small1000 (Nat.le_trans hlen5 (by decide))), ?_⟩⟩
    intro ca hca
    refine ⟨_, rfl, _, _, rfl, DPut.k (k := .inr "capacities") (same_new hca _ _ upd_same) (small1000 (Nat.le_trans putK_len (by omega))), ?_⟩
    refine ⟨_, rfl, ?_⟩
    have E : ∀ b o, H' b = some o → b ≠ ch → (upd (upd (upd (upd (upd (upd (upd (upd H' ch (.dK [])) zo (.lst [])) ru (.lst (cutV xs none (some 4)))) ch (.dK (mergeK [] [(.inr "fixes", V.ref fd), (.inr "legs", .ref lg), (.inr "zones", .ref zo), (.inr "runways", .ref ru), (.inr "holds", .ref hd)]))) ho (.lst [])) ch (.dK (putK (mergeK [] [(.inr "fixes", V.ref fd), (.inr "legs", .ref lg), (.inr "zones", .ref zo), (.inr "runways", .ref ru), (.inr "holds", .ref hd)]) (.inr "hours") (.ref ho)))) ca (.dK [])) ch (.dK (chK (.ref fd) (.ref lg) (.ref zo) (.ref ru) (.ref hd) (.ref ho) (.ref ca)))) b = some o := fun b o e n => by
      rw [upd_ne n]
      refine same_new hca _ _ ?_
      rw [upd_ne n]
      refine same_new hho _ _ ?_
      rw [upd_ne n]
      exact same_new hru _ _ (same_new hzo _ _ (same_new hch _ _ e))
    have tneD : ∀ (a : Addr) xs0, H3 a = some (.tup xs0) → a ≠ d := fun a xs0 e => let ⟨_, w⟩ := S3.dk; ne_of e w (by intro w; cases w)
    have A : ∀ b o, Hl b = some o → b ≠ d → H' b = some o := fun b o e n => hk4 _ _ (hk3 _ _ e n (ne_of_none e hhd)) n (fun w => by have := hk3 _ _ e n (ne_of_none e hhd); rw [w, hD] at this; cases this)
    have nlc : ∀ b o, Hl b = some o → b ≠ d → b ≠ ch := fun b o e n => ne_of_none (A b o e n) hch
    have tl : ∀ (a : Addr) xs0, Hl a = some (.tup xs0) → a ≠ d := fun a xs0 e => let ⟨_, w⟩ := Sl.dk; ne_of e w (by intro w; cases w)
    have back : ∀ b, b ≠ d → H' b = none → H b = none := fun b n e => by
      cases w : H b with
      | none => rfl
      | some o =>
        exfalso
        have w1 := kpn _ _ w n
        have w2 := hk _ _ w1 n (ne_of_none w1 hfd)
        have w3 := A _ _ (kpl _ _ w2 n) n
        rw [e] at w3
        cases w3
    refine k ⟨fd, lg, kvs, pt, ls⟩ ch _ ⟨⟨_, upd_same, ch_fix, ch_leg⟩, E _ _ (A _ _ hF.dc nfd) (nlc _ _ hF.dc nfd), E _ _ (A _ _ hL.li nlgd) (nlc _ _ hL.li nlgd), (fun l hl => E _ _ (A _ _ (hL.tu l hl) (tl _ _ (hL.tu l hl))) (nlc _ _ (hL.tu l hl) (tl _ _ (hL.tu l hl)))),
      (fun n a x y h => let ⟨h1, h2, h3⟩ := hF.pf n a x y h; ⟨h1, E _ _ (A _ _ h2 (tl _ _ h2)) (nlc _ _ h2 (tl _ _ h2)), h3⟩), (fun l hl => ⟨hF.nm _ (hL.nm l hl).1, hF.nm _ (hL.nm l hl).2⟩), (fun l hl => ⟨hnok _ (hL.nm l hl).1, hnok _ (hL.nm l hl).2, hL.ck l hl⟩), hls⟩ (back ch nchd hch) nHf ?_ ?_
    · obtain ⟨_, w1⟩ := S4.dk
      obtain ⟨_, w2⟩ := S4.cl
      exact S4.of ((E _ _ w1 nchd.symm).trans w1.symm) ((E _ _ w2 nchc.symm).trans w2.symm)
    · intro b o e n
      have w1 := kpn _ _ e n
      have w2 := hk _ _ w1 n (ne_of_none w1 hfd)
      have w3 := A _ _ (kpl _ _ w2 n) n
      exact E _ _ w3 (ne_of_none w3 hch)
theorem sc_law_leg : FnScope ["chart", "start", "end", "found", "leg"] ["chart", "start", "end"] (defScope s_law_leg) := ⟨rfl, rfl, rfl, by decide +kernel, rfl, by decide +kernel, by decide +kernel⟩
theorem ok_law_leg {f : Addr} {fd : FuncData} (F : Fun K "_law_leg" "_law_leg" s_law_leg f fd) (T : TxtA mg) : FnOk P w K mg base CX0 1 f fd ["chart", "start", "end"] (spLegS) := by
  refine F.ok sc_law_leg (fun vs H Q E h => ?_) (fun cdv A outer s H vs Q E hr h => ?_)
  · obtain ⟨_, _, _, _, rfl, _⟩ := h
    rfl
  · obtain ⟨ch, D, s', e', rfl, C, k⟩ := h
    have hu := hu_of hr
    refine ⟨_, (pss_cons (ps_setLc (i := 3) (own := [("leg", 4)]) (g := gName 4) (by rfl) sc_law_leg.nd rfl rfl (sw_true rfl rfl rfl (by decide +kernel)) (pi_list (pe_dget hu (pv 0) pe_str (fun _ _ => rfl))) (blkOk_by (own := [("leg", 4)]) (N := ["chart", "start", "end", "found", "leg"]) (sc := defScope s_law_leg) (by decide +kernel)) (fun _ _ _ _ _ => (pg_name (i := 4) sc_law_leg.nd rfl (Or.inl rfl))) (fun _ _ _ _ _ => pts_one (PW.pt (pw_and (pt_cmpR op_eq (pe_ix (r := rIxT K) ix_tup (pv 4) pe_int (fun _ _ => rfl)) (pv 1) (nomark _)) (pw_and1 (pt_cmpR op_eq (pe_ix (r := rIxT K) ix_tup (pv 4) pe_int (fun _ _ => rfl)) (pv 2) (nomark _)))))) (fun _ _ _ _ _ => (pv 4)))
    (pss_one (ps_ret (pe_ifExp (pt_cmpR op_gt (pe_callB (r := rLenK K) call_len_seq (by rfl) T.len boot_len (pa_cons (pv 3) pa_nil)) pe_int (nomark _)) (pe_ix (r := rIxL K) ix_list (pv 3) pe_int (fun _ _ => rfl)) pe_non)))), ?_⟩
    refine ⟨_, rfl, _, _, rfl, C.gl, _, rfl, ⟨_, .inl (.inl C.lg)⟩, fun B hB => ?_⟩
    refine lc_list (K := K) (a := D.lg) (xs := D.ls.map fun l => V.ref l.a) (fun u H' => H' = upd H B (.lst (((D.ls.take u).filter fun l => decide (l.s = s') && decide (l.e = e')).map fun l => V.ref l.a))) rfl (fun u H' _ e => .inl (.inl (by rw [e, upd_ne (ne_of_none C.lg hB)]; exact C.lg))) ?_ ?_
    · rintro u y H' hu1 rfl
      obtain ⟨q, rfl, hq, hul, ht⟩ := getMap hu1
      have htq := same_new (o := .lst (((D.ls.take u).filter fun l => decide (l.s = s') && decide (l.e = e')).map fun l => V.ref l.a)) hB _ _ (C.lt q hq)
      have hle : (((D.ls.take u).filter fun l => decide (l.s = s') && decide (l.e = e')).map fun l => V.ref l.a).length ≤ 100 := by
        rw [List.length_map]
        have h1 := List.length_filter_le (fun l : Lg => decide (l.s = s') && decide (l.e = e')) (D.ls.take u)
        have h2 := List.length_take_le' u D.ls
        have h3 := C.n
        omega
      refine ⟨rfl, ?_⟩
      refine ⟨_, rfl, _, _, _, .str q.s, rfl, rfl, .inl (.inl htq), rfl, _, rfl, rfl, _, rfl, ite2 (fun e1 => ?_) (fun e1 => ?_)⟩
      · have e1 := V.str.inj (of_decide_eq_true e1)
        refine ⟨_, rfl, _, _, _, .str q.e, rfl, rfl, .inl (.inl htq), rfl, _, rfl, rfl, _, rfl, ite2 (fun e2 => ?_) (fun e2 => ?_)⟩
        · have e2 := V.str.inj (of_decide_eq_true e2)
          refine ⟨_, rfl, _, upd_same, small1000 (by omega), ?_⟩
          rw [upd_upd, ht, List.filter_append, List.map_append]
          simp [e1, e2]
        · have e2 : ¬ q.e = e' := fun z => e2 (decide_eq_true (congrArg V.str z))
          show _ = _
          rw [ht, List.filter_append]
          simp [e2]
      · refine iteF ?_
        have e1 : ¬ q.s = s' := fun z => e1 (decide_eq_true (congrArg V.str z))
        show _ = _
        rw [ht, List.filter_append]
        simp [e1]
    rintro H' rfl
    rw [List.length_map, List.take_length]
    have hfd := head_find (fun l : Lg => decide (l.s = s') && decide (l.e = e')) D.ls
    have hsm := same_new (o := .lst ((D.ls.filter fun l => decide (l.s = s') && decide (l.e = e')).map fun l => V.ref l.a)) hB
    refine ⟨_, rfl, _, _, rfl, .inl (.inl (.inl upd_same)), _, _, rfl, rfl, _, rfl, ite2 (fun e1 => ?_) (fun e1 => ?_)⟩
    · have e1 := of_decide_eq_true e1
      cases hf : D.ls.filter fun l => decide (l.s = s') && decide (l.e = e') with
      | nil => rw [hf] at e1; simp at e1
      | cons l r =>
        rw [hf] at hfd hsm
        have e2 : D.leg s' e' = some l := hfd.symm
        refine ⟨_, rfl, _, _, _, .ref l.a, rfl, rfl, .inl (.inl upd_same), atI_nat (j := 0) rfl, ?_⟩
        have := k _ hsm
        rw [e2] at this
        exact this
    · have e1 : ¬ _ := fun z => e1 (decide_eq_true z)
      cases hf : D.ls.filter fun l => decide (l.s = s') && decide (l.e = e') with
      | cons l r => rw [hf] at e1; simp at e1
      | nil =>
        rw [hf] at hfd hsm
        have e2 : D.leg s' e' = none := hfd.symm
        have := k _ hsm
        rw [e2] at this
        exact this
theorem sc_law_lengths : FnScope ["chart", "lengths", "leg", "a", "b"] ["chart"] (defScope s_law_lengths) := ⟨rfl, rfl, rfl, by decide +kernel, rfl, by decide +kernel, by decide +kernel⟩
theorem ok_law_lengths {f : Addr} {fd : FuncData} (F : Fun K "_law_lengths" "_law_lengths" s_law_lengths f fd) (T : TxtA mg)
    (D_law_root_up : Def P w K mg base 1 "_law_root_up" ["n"] (spRootR)) : FnOk P w K mg base CX0 2 f fd ["chart"] (spLens) := by
  refine F.ok sc_law_lengths (fun vs H Q E h => ?_) (fun cdv A outer s H vs Q E hr h => ?_)
  · obtain ⟨_, _, rfl, _⟩ := h
    rfl
  · obtain ⟨ch, D, rfl, C, k⟩ := h
    have hu := hu_of hr
    refine ⟨_, (pss_cons (ps_set (i := 1) sc_law_lengths.nd rfl (Or.inl rfl) pe_dnewT)
    (pss_cons (ps_for PassesOwn.never rfl (pi_list (pe_dget hu (pv 0) pe_str (fun _ _ => rfl))) (pg_name (i := 2) sc_law_lengths.nd rfl (Or.inl rfl))
      (pss_cons (ps_set (i := 3) sc_law_lengths.nd rfl (Or.inl rfl) (pe_dget hu (pe_dget hu (pv 0) pe_str (fun _ _ => rfl)) (pe_ix (r := rIxT K) ix_tup (pv 2) pe_int (fun _ _ => rfl)) (fun _ _ => rfl)))
    (pss_cons (ps_set (i := 4) sc_law_lengths.nd rfl (Or.inl rfl) (pe_dget hu (pe_dget hu (pv 0) pe_str (fun _ _ => rfl)) (pe_ix (r := rIxT K) ix_tup (pv 2) pe_int (fun _ _ => rfl)) (fun _ _ => rfl)))
    (pss_one (ps_dput hu (pv 1) (pe_tup (pa_cons (pe_ix (r := rIxT K) ix_tup (pv 2) pe_int (fun _ _ => rfl)) (pa_cons (pe_ix (r := rIxT K) ix_tup (pv 2) pe_int (fun _ _ => rfl)) pa_nil))) (pe_def D_law_root_up (hr.mono (by decide)) (by rfl) (pa_cons (pe_op op_add (pe_op op_mul (pe_op op_sub (pe_ix (r := rIxT K) ix_tup (pv 3) pe_int (fun _ _ => rfl)) (pe_ix (r := rIxT K) ix_tup (pv 4) pe_int (fun _ _ => rfl))) (pe_op op_sub (pe_ix (r := rIxT K) ix_tup (pv 3) pe_int (fun _ _ => rfl)) (pe_ix (r := rIxT K) ix_tup (pv 4) pe_int (fun _ _ => rfl)))) (pe_op op_mul (pe_op op_sub (pe_ix (r := rIxT K) ix_tup (pv 3) pe_int (fun _ _ => rfl)) (pe_ix (r := rIxT K) ix_tup (pv 4) pe_int (fun _ _ => rfl))) (pe_op op_sub (pe_ix (r := rIxT K) ix_tup (pv 3) pe_int (fun _ _ => rfl)) (pe_ix (r := rIxT K) ix_tup (pv 4) pe_int (fun _ _ => rfl))))) pa_nil)) rfl)))))
    (pss_one (ps_ret (pv 1))))), ?_⟩
    intro ld hld
    refine ⟨_, rfl, _, _, rfl, (C.same (same_new hld)).gl, _, rfl, ⟨_, .inl (.inl (same_new hld _ _ C.lg))⟩, for_list (K := K) (a := D.lg) (xs := D.ls.map fun l => V.ref l.a) (fun i σ H2 => ∃ (kvs : List (List Key × V)) (v_leg v_a v_b : Option V), σ = [some (.ref ch), some (.ref ld), v_leg, v_a, v_b] ∧ H2 ld = some (.dT kvs) ∧ kvs.length ≤ i ∧ Same H H2 ∧ ∀ l ∈ D.ls.take i, valV kvs [(.inr l.s : Key), .inr l.e] = some (.int (D.len l.s l.e)))
      ⟨[], none, none, none, rfl, upd_same, Nat.le_refl _, same_new hld, fun _ h => nomatch h⟩ (fun i σ H2 _ ⟨_, _, _, _, _, _, _, e, _⟩ => .inl (.inl (e _ _ C.lg))) ?_ ?_⟩
    · rintro i y σ H2 hi ⟨kvs, v_leg, v_a, v_b, rfl, hd, hl, sm, hv⟩
      obtain ⟨q, rfl, hq, hil, ht⟩ := getMap hi
      have C2 := C.same sm
      have htq := C2.lt q hq
      obtain ⟨⟨a1, x1, y1, h1⟩, a2, x2, y2, h2⟩ := C.wf q hq
      obtain ⟨p1, p2, p3, p4, p5, p6⟩ := C2.pf _ _ _ _ h1
      obtain ⟨q1, q2, q3, q4, q5, q6⟩ := C2.pf _ _ _ _ h2
      have b1 := sq_le (show -200000 ≤ x1 - x2 by omega) (show x1 - x2 ≤ 200000 by omega)
      have b2 := sq_le (show -200000 ≤ y1 - y2 by omega) (show y1 - y2 ≤ 200000 by omega)
      refine ⟨_, rfl, _, _, rfl, C2.gf, _, rfl, _, _, _, .str q.s, rfl, rfl, .inl (.inl htq), rfl, _, _, rfl, C2.gp h1, ?_⟩
      refine ⟨_, rfl, _, _, rfl, C2.gf, _, rfl, _, _, _, .str q.e, rfl, rfl, .inl (.inl htq), rfl, _, _, rfl, C2.gp h2, ?_⟩
      refine ⟨_, rfl, _, _, _, _, rfl, rfl, (.inl (.inl p2)), rfl, _, rfl, _, _, _, _, rfl, rfl, (.inl (.inl q2)), rfl, _, _, rfl, rfl, _, rfl, _, _, _, _, rfl, rfl, (.inl (.inl p2)), rfl, _, rfl, _, _, _, _, rfl, rfl, (.inl (.inl q2)), rfl, _, _, rfl, rfl, _, _, rfl, rfl, (by walk_at "ms"), _, rfl, _, _, _, _, rfl, rfl, (.inl (.inl p2)), rfl, _, rfl, _, _, _, _, rfl, rfl, (.inl (.inl q2)), rfl, _, _, rfl, rfl, _, rfl, _, _, _, _, rfl, rfl, (.inl (.inl p2)), rfl, _, rfl, _, _, _, _, rfl, rfl, (.inl (.inl q2)), rfl, _, _, rfl, rfl, _, _, rfl, rfl, (by walk_at "ms"), _, _, rfl, rfl, _, rfl, Int.add_nonneg (sq0 _) (sq0 _), (by omega), ?_⟩
      rw [sq_swap x1, sq_swap y1, ← D.len_eq h1 h2]
      refine ⟨_, rfl, _, rfl, _, _, _, .str q.s, rfl, rfl, .inl (.inl htq), rfl, _, rfl, _, _, _, .str q.e, rfl, rfl, .inl (.inl htq), rfl, szOk rfl, fun p5 hp5 => ?_⟩
      have nld : ld ≠ p5 := ne_of_none hd hp5
      refine ⟨_, _, rfl, DPut.t (k := [(.inr q.s : Key), .inr q.e]) (same_new hp5 _ _ hd) upd_same (small1000 (by have := C.n; omega)), ?_⟩
      refine ⟨_, _, _, _, rfl, upd_same, ?_, fun b o e => ?_, fun l hl' => ?_⟩
      · unfold putK
        split
        · rw [List.length_map]; (try omega)
        · rw [List.length_append, List.length_singleton]; (try omega)
      · rw [upd_ne (ne_of_none e hld)]
        exact same_new hp5 _ _ (sm _ _ e)
      · rw [valV_put]
        by_cases e : [(Sum.inr l.s : Key), Sum.inr l.e] = [Sum.inr q.s, Sum.inr q.e]
        · rw [if_pos e]
          have e1 : l.s = q.s := Sum.inr.inj (List.cons.inj e).1
          have e2 : l.e = q.e := Sum.inr.inj (List.cons.inj (List.cons.inj e).2).1
          rw [e1, e2]
        · rw [if_neg e]
          rw [ht] at hl'
          rcases List.mem_append.mp hl' with h | h
          · exact hv l h
          · rw [List.mem_singleton.mp h] at e
            exact absurd rfl e
    · rintro σ H2 ⟨kvs, v_leg, v_a, v_b, rfl, hd, hl, sm, hv⟩
      rw [List.length_map, List.take_length] at hv
      refine ⟨_, rfl, k ld H2 hld ⟨kvs, hd, fun a b l h => ?_⟩ sm⟩
      obtain ⟨h1, h2, h3⟩ := CD.leg_mem h
      have := hv l h1
      rw [h2, h3] at this
      exact this
theorem sc_law_walk : FnScope ["state", "chart", "most", "starts", "route", "k", "ends", "leg"] ["state", "chart", "most"] (defScope s_law_walk) := ⟨rfl, rfl, rfl, by decide +kernel, rfl, by decide +kernel, by decide +kernel⟩
theorem ok_law_walk {f : Addr} {fd : FuncData} (F : Fun K "_law_walk" "_law_walk" s_law_walk f fd) (T : TxtA mg)
    (D_law_draw : Def P w K mg base 1 "_law_draw" ["state", "bound"] (spDraw K))
    (D_law_pick : Def P w K mg base 2 "_law_pick" ["state", "things"] (spPick K)) : FnOk P w K mg base CX0 3 f fd ["state", "chart", "most"] (spWalk K) := by
  refine F.ok sc_law_walk (fun vs H Q E h => ?_) (fun cdv A outer s H vs Q E hr h => ?_)
  · obtain ⟨_, _, _, _, _, rfl, _⟩ := h
    rfl
  · obtain ⟨d, c, ch, D, m, rfl, S, C, n1, n2, hls, m0, m1, k⟩ := h
    have hu := hu_of hr
    refine ⟨_, (pss_cons (ps_setLc (i := 3) (own := [("leg", 7)]) (g := gName 7) (by rfl) sc_law_walk.nd rfl rfl (sw_true rfl rfl rfl (by decide +kernel)) (pi_list (pe_dget hu (pv 1) pe_str (fun _ _ => rfl))) (blkOk_by (own := [("leg", 7)]) (N := ["state", "chart", "most", "starts", "route", "k", "ends", "leg"]) (sc := defScope s_law_walk) (by decide +kernel)) (fun _ _ _ _ _ => (pg_name (i := 7) sc_law_walk.nd rfl (Or.inl rfl))) (fun _ _ _ _ _ => pts_nil) (fun _ _ _ _ _ => (pe_ix (r := rIxT K) ix_tup (pv 7) pe_int (fun _ _ => rfl))))
    (pss_cons (ps_set (i := 4) sc_law_walk.nd rfl (Or.inr rfl) (pe_lst (pa_cons (pe_def D_law_pick (hr.mono (by decide)) (by rfl) (pa_cons (pv 0) (pa_cons (pv 3) pa_nil))) pa_nil)))
    (pss_cons (ps_for PassesOwn.never rfl (pi_range1 (by rfl) T.range (pa_cons (pe_op op_add pe_int (pe_def D_law_draw (hr.mono (by decide)) (by rfl) (pa_cons (pv 0) (pa_cons (pv 2) pa_nil)))) pa_nil)) (pg_name (i := 5) sc_law_walk.nd rfl (Or.inl rfl))
      (pss_cons (ps_setLc (i := 6) (own := [("leg", 7)]) (g := gName 7) (by rfl) sc_law_walk.nd rfl rfl (sw_true rfl rfl rfl (by decide +kernel)) (pi_list (pe_dget hu (pv 1) pe_str (fun _ _ => rfl))) (blkOk_by (own := [("leg", 7)]) (N := ["state", "chart", "most", "starts", "route", "k", "ends", "leg"]) (sc := defScope s_law_walk) (by decide +kernel)) (fun _ _ _ _ _ => (pg_name (i := 7) sc_law_walk.nd rfl (Or.inl rfl))) (fun _ _ _ _ _ => pts_one (pt_cmpR op_eq (pe_ix (r := rIxT K) ix_tup (pv 7) pe_int (fun _ _ => rfl)) (pe_ix (r := rIxL K) ix_list (pv 4) (pe_op op_sub (pe_callB (r := rLenK K) call_len_seq (by rfl) T.len boot_len (pa_cons (pv 4) pa_nil)) pe_int) (fun _ _ => rfl)) (nomark _))) (fun _ _ _ _ _ => (pe_ix (r := rIxT K) ix_tup (pv 7) pe_int (fun _ _ => rfl))))
    (pss_one (ps_if (pt_cmpR op_gt (pe_callB (r := rLenK K) call_len_seq (by rfl) T.len boot_len (pa_cons (pv 6) pa_nil)) pe_int (nomark _)) (pss_one (ps_expr (pe_bm PySem.F.plainAttrs_list PySem.F.slot_list_append PySem.F.type_list_append mt_append (pv 4) (pa_cons (pe_def D_law_pick (hr.mono (by decide)) (by rfl) (pa_cons (pv 0) (pa_cons (pv 6) pa_nil))) pa_nil))))
      pss_nil))))
    (pss_one (ps_ret (pe_callTy call_tuple_of (by rfl) T.tuple boot_tuple (pa_cons (pv 4) pa_nil))))))), ?_⟩
    refine ⟨_, rfl, _, _, rfl, C.gl, _, rfl, ⟨_, .inl (.inl C.lg)⟩, fun B hB => ?_⟩
    refine lc_list (K := K) (a := D.lg) (xs := D.ls.map fun l => V.ref l.a) (fun u H' => H' = upd H B (.lst ((D.ls.take u).map fun l => V.str l.s))) rfl (fun u H' _ e => .inl (.inl (by rw [e, upd_ne (ne_of_none C.lg hB)]; exact C.lg))) ?_ ?_
    · rintro u y H' hu1 rfl
      obtain ⟨q, rfl, hq, hul, ht⟩ := getMap hu1
      have htq := same_new (o := .lst ((D.ls.take u).map fun l => V.str l.s)) hB _ _ (C.lt q hq)
      have hn := C.n
      refine ⟨rfl, ?_⟩
      refine ⟨_, rfl, _, _, _, .str q.s, rfl, rfl, .inl (.inl htq), rfl, _, upd_same, (by rw [List.length_map]; have := List.length_take_le' u D.ls; exact small1000 (by omega)), ?_⟩
      rw [upd_upd, ht, List.map_append]
      rfl
    rintro H' rfl
    rw [List.length_map, List.take_length]
    have C1 := C.same (same_new (o := .lst (D.ls.map fun l => V.str l.s)) hB)
    refine ⟨_, rfl, _, rfl, d, c, _, _, rfl, S.new hB, .inl (.inl upd_same), (fun z => hls (List.map_eq_nil_iff.mp z)), (by rw [List.length_map]; have := C.n; omega), fun v2 H2 hv2 S2 kp2 => ?_⟩
    obtain ⟨l0, hl0, rfl⟩ := List.mem_map.mp hv2
    have C2 := C1.keep (S.new hB) kp2 n1 n2
    have k2 : Keep d H H2 := (Keep.of (same_new hB)).trans kp2
    refine ⟨szOk rfl, fun rl hrl => ?_⟩
    have nrd : rl ≠ d := S2.nd hrl
    have nrc : rl ≠ c := S2.nc hrl
    have nHr : H rl = none := k2.none nrd hrl
    refine ⟨_, rfl, _, rfl, d, c, _, rfl, (S2.new hrl), (by omega), (by omega), fun x1 H1 x1a x1b S1 kp1 => ?_⟩
    refine ⟨_, _, rfl, rfl, ?_⟩
    have hRl := kp1.l (S2.new hrl) (upd_same (H := H2) (a := rl) (o := .lst [.str l0.s]))
    refine ⟨_, rfl, by omega, by omega, for_range (n := (1 + x1).toNat) (fun i σ H3 => ∃ (ns : List Str) (v_k v_ends v_leg : Option V), σ = [some (.ref d), some (.ref ch), some (.int m), some (.ref B), some (.ref rl), v_k, v_ends, v_leg] ∧ St1 K H3 d c ∧ ChartAt H3 ch D ∧ H3 rl = some (.lst (ns.map V.str)) ∧ ns.length ≤ i + 1 ∧ Chain D ns ∧ (∃ a, ns.getLast? = some a ∧ (i = 0 → ∃ l ∈ D.ls, l.s = a)) ∧ (1 ≤ i → 2 ≤ ns.length) ∧ Keep d H H3)
      ⟨[l0.s], none, none, none, rfl, S1, (C2.same (same_new hrl)).keep (S2.new hrl) kp1 n1 n2, hRl, by simp, (fun j hj => by simp at hj), ⟨_, rfl, fun _ => ⟨l0, hl0, rfl⟩⟩, (fun h => by omega), (k2.trans (Keep.of (same_new hrl))).trans kp1⟩ ?_ ?_⟩
    · rintro i σ H3 hi ⟨ns, v_k, v_ends, v_leg, rfl, S0, C0, hR, hln, hch, hst, h2, hk⟩
      obtain ⟨a, ha, ha0⟩ := hst
      refine ⟨_, rfl, _, _, rfl, C0.gl, _, rfl, ⟨_, .inl (.inl C0.lg)⟩, fun B1 hB1 => ?_⟩
      refine lc_list (K := K) (a := D.lg) (xs := D.ls.map fun l => V.ref l.a) (fun u H' => H' = upd H3 B1 (.lst (((D.ls.take u).filter fun l => decide (l.s = a)).map fun l => V.str l.e))) rfl (fun u H' _ e => .inl (.inl (by rw [e, upd_ne (ne_of_none C0.lg hB1)]; exact C0.lg))) ?_ ?_
      · rintro u y H' hu1 rfl
        obtain ⟨q, rfl, hq, hul, ht⟩ := getMap hu1
        have htq := same_new (o := .lst (((D.ls.take u).filter fun l => decide (l.s = a)).map fun l => V.str l.e)) hB1 _ _ (C0.lt q hq)
        have hR1 := same_new (o := .lst (((D.ls.take u).filter fun l => decide (l.s = a)).map fun l => V.str l.e)) hB1 _ _ hR
        have hn := C0.n
        have h1 := List.length_filter_le (fun l : Lg => decide (l.s = a)) (D.ls.take u)
        have h3 := List.length_take_le' u D.ls
        refine ⟨rfl, ?_⟩
        refine ⟨_, rfl, _, _, _, .str q.s, rfl, rfl, .inl (.inl htq), rfl, _, rfl, _, rfl, _, _, rfl, .inl (.inl (.inl hR1)), _, _, rfl, rfl, _, _, _, .str a, rfl, rfl, .inl (.inl hR1), atI_lastn rfl (by rw [List.getLast?_map, ha]; rfl), rfl, _, rfl, ite2 (fun e1 => ?_) (fun e1 => ?_)⟩
        · have e1 := V.str.inj (of_decide_eq_true e1)
          refine ⟨_, rfl, _, _, _, .str q.e, rfl, rfl, .inl (.inl htq), rfl, _, upd_same, (by rw [List.length_map]; exact small1000 (by omega)), ?_⟩
          rw [upd_upd, ht, List.filter_append, List.map_append]
          simp [e1]
        · have e1 : ¬ q.s = a := fun z => e1 (decide_eq_true (congrArg V.str z))
          show _ = _
          rw [ht, List.filter_append]
          simp [e1]
      rintro H' rfl
      rw [List.length_map, List.take_length]
      have S4 := S0.new (o := .lst ((D.ls.filter fun l => decide (l.s = a)).map fun l => V.str l.e)) hB1
      have C4 := C0.same (same_new (o := .lst ((D.ls.filter fun l => decide (l.s = a)).map fun l => V.str l.e)) hB1)
      have hR4 := same_new (o := .lst ((D.ls.filter fun l => decide (l.s = a)).map fun l => V.str l.e)) hB1 _ _ hR
      have k4 := hk.trans (Keep.of (same_new (o := .lst ((D.ls.filter fun l => decide (l.s = a)).map fun l => V.str l.e)) hB1))
      refine ⟨_, rfl, _, _, rfl, .inl (.inl (.inl upd_same)), _, _, rfl, rfl, _, rfl, ite2 (fun e1 => ?_) (fun e1 => ?_)⟩
      · have e1 := of_decide_eq_true e1
        have hn := C0.n
        have h1 := List.length_filter_le (fun l : Lg => decide (l.s = a)) D.ls
        refine ⟨_, rfl, .inl ⟨rfl, _, .inl (.inl hR4)⟩, _, rfl, _, rfl, d, c, _, _, rfl, S4, .inl (.inl upd_same), (fun z => by rw [z] at e1; simp at e1), (by rw [List.length_map]; omega), fun v5 H5 hv5 S5 kp5 => ?_⟩
        obtain ⟨l1, hl1, rfl⟩ := List.mem_map.mp hv5
        obtain ⟨hm1, hs1⟩ := List.mem_filter.mp hl1
        have hs1 := of_decide_eq_true hs1
        have hR5 := kp5.l S4 hR4
        refine ⟨_, _, _, rfl, rfl, hR5, (by rw [List.length_map]; exact small1000 (by omega)), ?_⟩
        refine ⟨ns ++ [l1.e], _, _, _, rfl, S5.put nrd nrc, ?_, by rw [upd_same, List.map_append]; rfl, by rw [List.length_append, List.length_singleton]; omega, hch.snoc ha (hs1 ▸ CD.leg_some hm1), ⟨l1.e, by simp, fun h => by omega⟩, (fun _ => ?_), ?_⟩
        · have C5 := C4.keep S4 kp5 n1 n2
          obtain ⟨⟨kvs, q1, q2, q3⟩, q4, q5, q6, q7, q8, q8', q9⟩ := C5
          have hRx : ∀ b o, H5 b = some o → (∀ xs, o ≠ .lst xs) → (upd H5 rl (.lst (ns.map V.str ++ [.str l1.e]))) b = some o := fun b o e n => by
            rw [upd_ne (ne_of e hR5 (n _))]
            exact e
          have nlg : D.lg ≠ rl := fun w => by
            have w1 := C.lg
            rw [w, nHr] at w1
            cases w1
          exact ⟨⟨kvs, hRx _ _ q1 (by intro _ z; cases z), q2, q3⟩, hRx _ _ q4 (by intro _ z; cases z), by rw [upd_ne nlg]; exact q5, fun l hl => hRx _ _ (q6 l hl) (by intro _ z; cases z), fun n a x y h => let ⟨z1, z2, z3⟩ := q7 n a x y h; ⟨z1, hRx _ _ z2 (by intro _ z; cases z), z3⟩, q8, q8', q9⟩
        · rw [List.length_append, List.length_singleton]
          obtain ⟨ys, rfl⟩ := List.getLast?_eq_some_iff.mp ha
          simp
        · intro b o e nb
          rw [upd_ne (fun w => by rw [w, nHr] at e; cases e)]
          exact kp5 _ _ (k4 _ _ e nb) nb
      · refine ⟨ns, _, _, _, rfl, S4, C4, hR4, by omega, hch, ⟨a, ha, fun h => by omega⟩, (fun _ => ?_), k4⟩
        by_cases h0 : i = 0
        · exfalso
          obtain ⟨l, hl, e⟩ := ha0 h0
          refine e1 (decide_eq_true ?_)
          rw [List.length_map]
          have : l ∈ D.ls.filter fun l => decide (l.s = a) := List.mem_filter.mpr ⟨hl, decide_eq_true e⟩
          have := List.length_pos_of_mem this
          omega
        · exact h2 (by omega)
    · rintro σ H3 ⟨ns, v_k, v_ends, v_leg, rfl, S0, C0, hR, hln, hch, hst, h2, hk⟩
      refine ⟨_, rfl, rl, _, rfl, .inl ⟨.inl (.inl hR), fun r hr' => ?_⟩⟩
      refine k ns r _ ⟨h2 (by omega), by omega, hch⟩ ?_ upd_same (S0.new hr') (hk.trans (Keep.of (same_new hr')))
      exact hk.none (S0.nd hr') hr'
end
end Sk

set_option Elab.async false
set_option linter.all false
set_option maxRecDepth 100000
set_option maxHeartbeats 4000000
namespace Sk
open PySem PySem.Spec PyProof.Rows L2
abbrev s_Path_total : Stmt := inClass (top 8) 2
abbrev s_Path_leg_at : Stmt := inClass (top 8) 3
abbrev s_Path_begin : Stmt := inClass (top 8) 4
abbrev s_Path_leg : Stmt := inClass (top 8) 5
abbrev s_Path_vector : Stmt := inClass (top 8) 6
abbrev s_Path_route : Stmt := inClass (top 8) 9
abbrev s_Path__point : Stmt := inClass (top 8) 12
abbrev s_Path__segment : Stmt := inClass (top 8) 11
abbrev s_Path__segments : Stmt := inClass (top 8) 10
abbrev s_Path_place : Stmt := inClass (top 8) 7
abbrev s_Path_piece : Stmt := inClass (top 8) 8
abbrev s_Path__join : Stmt := inClass (top 8) 1
abbrev s_Path___init__ : Stmt := inClass (top 8) 0
section
variable {P : Program} {w : World} {K : PySem.W.Frag} {mg : Str → Option Value} {base : Heap}
theorem sc_Path_total : FnScope ["self"] ["self"] (defScope s_Path_total) := ⟨rfl, rfl, rfl, by decide +kernel, rfl, by decide +kernel, by decide +kernel⟩
theorem ok_Path_total {f : Addr} {fd : FuncData} {C : Addr} (F : Fun K "total" "Path.total" s_Path_total f fd) (T : TxtA mg) (Y : PathY K mg C) : FnOk P w K mg base CX0 1 f fd ["self"] (spTotal C) := by
  refine F.ok sc_Path_total (fun vs H Q E h => ?_) (fun cdv A outer s H vs Q E hr h => ?_)
  · obtain ⟨_, _, _, _, _, _, _, _, _, _, rfl, _⟩ := h
    rfl
  · obtain ⟨p, r, dx, l1, l2, l3, l4, D, ns, i, rfl, ho, hb, k⟩ := h
    refine ⟨_, (pss_one (ps_ret (pe_ix (r := rIxL K) ix_list (pe_fld (pv 0) rfl) (pe_un un_neg pe_int) (fun _ _ => rfl)))), ?_⟩
    refine ⟨_, rfl, _, _, _, _, _, rfl, ho, Y.cl, Y.n5, pf5, _, rfl, _, _, _, _, rfl, rfl, .inl (.inl hb), atI_back (v := .int (bg D ns i)) (by simp [List.range_succ]), ?_⟩
    exact k
theorem sc_Path_leg_at : FnScope ["self", "progress", "last", "index"] ["self", "progress"] (defScope s_Path_leg_at) := ⟨rfl, rfl, rfl, by decide +kernel, rfl, by decide +kernel, by decide +kernel⟩
theorem ok_Path_leg_at {f : Addr} {fd : FuncData} {C : Addr} (F : Fun K "leg_at" "Path.leg_at" s_Path_leg_at f fd) (T : TxtA mg) (Y : PathY K mg C) : FnOk P w K mg base CX0 1 f fd ["self", "progress"] (spLegAt C) := by
  refine F.ok sc_Path_leg_at (fun vs H Q E h => ?_) (fun cdv A outer s H vs Q E hr h => ?_)
  · obtain ⟨_, _, _, _, _, rfl, _⟩ := h
    rfl
  · obtain ⟨p, r, D, ns, x, rfl, PA, n2, n20, k⟩ := h
    refine ⟨_, (pss_cons (ps_set (i := 2) sc_Path_leg_at.nd rfl (Or.inl rfl) (pe_op op_sub (pe_callB (r := rLenK K) call_len_seq (by rfl) T.len boot_len (pa_cons (pe_fld (pv 0) rfl) pa_nil)) pe_int))
    (pss_cons (ps_for PassesOwn.never rfl (pi_range1 (by rfl) T.range (pa_cons (pv 2) pa_nil)) (pg_name (i := 3) sc_Path_leg_at.nd rfl (Or.inl rfl))
      (pss_one (ps_if (pt_cmpR op_lt (pv 1) (pe_ix (r := rIxL K) ix_list (pe_fld (pv 0) rfl) (pe_op op_add (pv 3) pe_int) (fun _ _ => rfl)) (nomark _)) (pss_one (ps_ret (pv 3)))
      pss_nil)))
    (pss_one (ps_ret (pv 2))))), ?_⟩
    obtain ⟨dx, l1, l2, l3, l4, sa, va, P⟩ := id PA
    refine ⟨_, rfl, _, _, _, _, _, rfl, P.ob, Y.cl, Y.n2, pf2, _, _, rfl, .inl (.inl (.inl P.lg)), _, _, rfl, rfl, ?_⟩
    refine nm ?_
    dsimp only
    rw [List.length_map, List.length_range]
    have e0 : ((ns.length - 1 : Nat) : Int) - 1 = ((ns.length - 1 - 1 : Nat) : Int) := by omega
    rw [e0]
    generalize hm : ns.length - 1 - 1 = m at k ⊢
    refine ⟨_, rfl, _, rfl, by omega, by omega, for_range (n := ((m : Nat) : Int).toNat) (fun i σ H2 => ∃ v3, σ = [some (.ref p), some (.int x), some (.int (m : Int)), v3] ∧ H2 = H ∧ ∀ j, j < i → bg D ns (j + 1) ≤ x)
      ⟨none, rfl, rfl, fun j hj => by omega⟩ ?_ ?_⟩
    · rintro i σ H2 hi ⟨v3, rfl, rfl, hj⟩
      have hi : i < m := by omega
      refine ⟨_, rfl, _, rfl, _, _, _, _, _, rfl, P.ob, Y.cl, Y.n5, pf5, _, rfl, _, _, rfl, rfl, _, _, _, .int (bg D ns (i + 1)), rfl, rfl, .inl (.inl P.bgn), ?_, _, _, rfl, rfl, _, rfl, ite2 (fun e => ?_) (fun e => ?_)⟩
      · have e1 : 0 + (i : Int) + 1 = ((i + 1 : Nat) : Int) := by omega
        rw [e1]
        refine atI_nat ?_
        rw [List.getElem?_map, List.getElem?_range (by omega)]
        rfl
      · have e := of_decide_eq_true e
        rw [lat_eq (Nat.le_of_lt hi) hj fun _ => e] at k
        refine ⟨_, rfl, ?_⟩
        show Q (.int (0 + (i : Int))) H2
        rw [Int.zero_add]
        exact k
      · have e : ¬ x < bg D ns (i + 1) := fun z => e (decide_eq_true z)
        refine ⟨_, rfl, rfl, fun j h => ?_⟩
        by_cases w : j = i
        · rw [w]; omega
        · exact hj j (by omega)
    · rintro σ H2 ⟨v3, rfl, rfl, hj⟩
      rw [lat_eq (Nat.le_refl m) (fun i hi => hj i (by omega)) fun z => absurd z (Nat.lt_irrefl _)] at k
      exact ⟨_, rfl, k⟩
theorem sc_Path_begin : FnScope ["self", "index"] ["self", "index"] (defScope s_Path_begin) := ⟨rfl, rfl, rfl, by decide +kernel, rfl, by decide +kernel, by decide +kernel⟩
theorem ok_Path_begin {f : Addr} {fd : FuncData} {C : Addr} (F : Fun K "begin" "Path.begin" s_Path_begin f fd) (T : TxtA mg) (Y : PathY K mg C) : FnOk P w K mg base CX0 1 f fd ["self", "index"] (spBegin C) := by
  refine F.ok sc_Path_begin (fun vs H Q E h => ?_) (fun cdv A outer s H vs Q E hr h => ?_)
  · obtain ⟨_, _, _, _, _, _, rfl, _⟩ := h
    rfl
  · obtain ⟨p, r, D, ns, j, z, rfl, rfl, PA, hj, k⟩ := h
    refine ⟨_, (pss_one (ps_ret (pe_ix (r := rIxL K) ix_list (pe_fld (pv 0) rfl) (pv 1) (fun _ _ => rfl)))), ?_⟩
    obtain ⟨dx, l1, l2, l3, l4, sa, va, P⟩ := id PA
    refine ⟨_, rfl, _, _, _, _, _, rfl, P.ob, Y.cl, Y.n5, pf5, _, rfl, _, _, _, .int (bg D ns j), rfl, rfl, .inl (.inl P.bgn), atI_nat (by rw [List.getElem?_map, List.getElem?_range (by omega)]; rfl), ?_⟩
    exact k
theorem sc_Path_leg : FnScope ["self", "index"] ["self", "index"] (defScope s_Path_leg) := ⟨rfl, rfl, rfl, by decide +kernel, rfl, by decide +kernel, by decide +kernel⟩
theorem ok_Path_leg {f : Addr} {fd : FuncData} {C : Addr} (F : Fun K "leg" "Path.leg" s_Path_leg f fd) (T : TxtA mg) (Y : PathY K mg C) : FnOk P w K mg base CX0 1 f fd ["self", "index"] (spLegI C) := by
  refine F.ok sc_Path_leg (fun vs H Q E h => ?_) (fun cdv A outer s H vs Q E hr h => ?_)
  · obtain ⟨_, _, _, _, _, _, rfl, _⟩ := h
    rfl
  · obtain ⟨p, r, D, ns, j, z, rfl, rfl, PA, hj, k⟩ := h
    refine ⟨_, (pss_one (ps_ret (pe_ix (r := rIxL K) ix_list (pe_fld (pv 0) rfl) (pv 1) (fun _ _ => rfl)))), ?_⟩
    obtain ⟨dx, l1, l2, l3, l4, sa, va, P⟩ := id PA
    refine ⟨_, rfl, _, _, _, _, _, rfl, P.ob, Y.cl, Y.n2, pf2, _, rfl, _, _, _, optL (D.leg (rn ns j) (rn ns (j + 1))), rfl, rfl, .inl (.inl P.lg), atI_nat (by rw [List.getElem?_map, List.getElem?_range hj]; rfl), ?_⟩
    exact k
theorem sc_Path_vector : FnScope ["self", "index"] ["self", "index"] (defScope s_Path_vector) := ⟨rfl, rfl, rfl, by decide +kernel, rfl, by decide +kernel, by decide +kernel⟩
theorem ok_Path_vector {f : Addr} {fd : FuncData} {C : Addr} (F : Fun K "vector" "Path.vector" s_Path_vector f fd) (T : TxtA mg) (Y : PathY K mg C) : FnOk P w K mg base CX0 1 f fd ["self", "index"] (spVec C) := by
  refine F.ok sc_Path_vector (fun vs H Q E h => ?_) (fun cdv A outer s H vs Q E hr h => ?_)
  · obtain ⟨_, _, _, _, _, _, rfl, _⟩ := h
    rfl
  · obtain ⟨p, r, D, ns, j, z, rfl, rfl, PA, hj, k⟩ := h
    refine ⟨_, (pss_one (ps_ret (pe_ix (r := rIxL K) ix_list (pe_fld (pv 0) rfl) (pv 1) (fun _ _ => rfl)))), ?_⟩
    obtain ⟨dx, l1, l2, l3, l4, sa, va, P⟩ := id PA
    have hv : j < va.length := by rw [P.vl]; exact hj
    refine ⟨_, rfl, _, _, _, _, _, rfl, P.ob, Y.cl, Y.n4, pf4, _, rfl, _, _, _, _, rfl, rfl, .inl (.inl P.ve), atI_nat (mapAt hv), ?_⟩
    exact k _ (P.vx j hv)
theorem sc_Path_route : FnScope ["self"] ["self"] (defScope s_Path_route) := ⟨rfl, rfl, rfl, by decide +kernel, rfl, by decide +kernel, by decide +kernel⟩
theorem ok_Path_route {f : Addr} {fd : FuncData} {C : Addr} (F : Fun K "route" "Path.route" s_Path_route f fd) (T : TxtA mg) (Y : PathY K mg C) : FnOk P w K mg base CX0 1 f fd ["self"] (spRoute C) := by
  refine F.ok sc_Path_route (fun vs H Q E h => ?_) (fun cdv A outer s H vs Q E hr h => ?_)
  · obtain ⟨_, _, _, _, rfl, _⟩ := h
    rfl
  · obtain ⟨p, r, D, ns, rfl, PA, k⟩ := h
    refine ⟨_, (pss_one (ps_ret (pe_fld (pv 0) rfl))), ?_⟩
    obtain ⟨dx, l1, l2, l3, l4, sa, va, P⟩ := id PA
    refine ⟨_, rfl, _, _, _, _, _, rfl, P.ob, Y.cl, Y.n1, pf1, ?_⟩
    exact k
theorem sc_Path__point : FnScope ["self", "index", "progress", "x", "y", "dx", "dy", "length", "along"] ["self", "index", "progress"] (defScope s_Path__point) := ⟨rfl, rfl, rfl, by decide +kernel, rfl, by decide +kernel, by decide +kernel⟩
theorem ok_Path__point {f : Addr} {fd : FuncData} {C : Addr} (F : Fun K "_point" "Path._point" s_Path__point f fd) (T : TxtA mg) (Y : PathY K mg C) : FnOk P w K mg base CX0 1 f fd ["self", "index", "progress"] (spPoint C) := by
  refine F.ok sc_Path__point (fun vs H Q E h => ?_) (fun cdv A outer s H vs Q E hr h => ?_)
  · obtain ⟨_, _, _, _, _, _, _, rfl, _⟩ := h
    rfl
  · obtain ⟨p, r, D, ns, j, z, x, rfl, rfl, PA, hB, hj, k⟩ := h
    refine ⟨_, (pss_cons (ps_asg (pe_ix (r := rIxL K) ix_list (pe_fld (pv 0) rfl) (pv 1) (fun _ _ => rfl)) (pg_tup (by rfl) (pgs_cons (pg_name (i := 3) sc_Path__point.nd rfl (Or.inl rfl)) (pgs_cons (pg_name (i := 4) sc_Path__point.nd rfl (Or.inl rfl)) pgs_nil))))
    (pss_cons (ps_asg (pe_ix (r := rIxL K) ix_list (pe_fld (pv 0) rfl) (pv 1) (fun _ _ => rfl)) (pg_tup (by rfl) (pgs_cons (pg_name (i := 5) sc_Path__point.nd rfl (Or.inl rfl)) (pgs_cons (pg_name (i := 6) sc_Path__point.nd rfl (Or.inl rfl)) (pgs_cons (pg_name (i := 7) sc_Path__point.nd rfl (Or.inl rfl)) pgs_nil)))))
    (pss_cons (ps_set (i := 8) sc_Path__point.nd rfl (Or.inl rfl) (pe_op op_sub (pv 2) (pe_ix (r := rIxL K) ix_list (pe_fld (pv 0) rfl) (pv 1) (fun _ _ => rfl))))
    (pss_one (ps_ret (pe_tup (pa_cons (pe_op op_add (pe_op op_mul (pv 3) (pv 7)) (pe_op op_mul (pv 5) (pv 8))) (pa_cons (pe_op op_add (pe_op op_mul (pv 4) (pv 7)) (pe_op op_mul (pv 6) (pv 8))) pa_nil)))))))), ?_⟩
    obtain ⟨dx, l1, l2, l3, l4, sa, va, P⟩ := id PA
    have hs : j < sa.length := by rw [P.sl]; exact hj
    have hv : j < va.length := by rw [P.vl]; exact hj
    have b1 := hB (rn ns j)
    have b2 := hB (rn ns (j + 1))
    refine ⟨_, rfl, _, _, _, _, _, rfl, P.ob, Y.cl, Y.n3, pf3, _, rfl, _, _, _, _, rfl, rfl, .inl (.inl P.st), atI_nat (mapAt hs), _, _, rfl, .inl (.inl (P.sx j hs)), rfl, _, _, rfl, _, _, rfl, rfl, ?_⟩
    refine ⟨_, rfl, _, _, _, _, _, rfl, P.ob, Y.cl, Y.n4, pf4, _, rfl, _, _, _, _, rfl, rfl, .inl (.inl P.ve), atI_nat (mapAt hv), _, _, rfl, .inl (.inl (P.vx j hv)), rfl, _, _, rfl, _, _, rfl, _, _, rfl, rfl, ?_⟩
    refine ⟨_, rfl, _, rfl, _, _, _, _, _, rfl, P.ob, Y.cl, Y.n5, pf5, _, rfl, _, _, _, .int (bg D ns j), rfl, rfl, .inl (.inl P.bgn), atI_nat (by rw [List.getElem?_map, List.getElem?_range (by omega)]; rfl), _, _, rfl, rfl, ?_⟩
    refine ⟨_, rfl, _, rfl, _, _, rfl, rfl, .inl ⟨by omega, by omega⟩, _, rfl, _, rfl, _, _, rfl, rfl, .inl ⟨by omega, by omega⟩, _, _, rfl, rfl, _, rfl, _, rfl, _, _, rfl, rfl, .inl ⟨by omega, by omega⟩, _, rfl, _, rfl, _, _, rfl, rfl, .inl ⟨by omega, by omega⟩, _, _, rfl, rfl, szOk rfl, fun q hq => ?_⟩
    exact k q _ hq (same_new hq) upd_same
theorem sc_Path__segment : FnScope ["self", "index", "start", "end"] ["self", "index", "start", "end"] (defScope s_Path__segment) := ⟨rfl, rfl, rfl, by decide +kernel, rfl, by decide +kernel, by decide +kernel⟩
theorem ok_Path__segment {f : Addr} {fd : FuncData} {C : Addr} (F : Fun K "_segment" "Path._segment" s_Path__segment f fd) (T : TxtA mg) (Y : PathY K mg C)
    (M_point : MDef P w K mg base 1 C "_point" ["self", "index", "progress"] (spPoint C)) : FnOk P w K mg base CX0 2 f fd ["self", "index", "start", "end"] (spSeg C) := by
  refine F.ok sc_Path__segment (fun vs H Q E h => ?_) (fun cdv A outer s H vs Q E hr h => ?_)
  · obtain ⟨_, _, _, _, _, _, _, _, rfl, _⟩ := h
    rfl
  · obtain ⟨p, r, D, ns, j, z, s1, e1, rfl, rfl, PA, hB, hj, k⟩ := h
    refine ⟨_, (pss_one (ps_ret (pe_tup (StX.pa_star (pe_mdef M_point Y.cl (hr.mono (by decide)) (pv 0) (pa_cons (pv 1) (pa_cons (pv 2) pa_nil))) (StX.pa_star (pe_mdef M_point Y.cl (hr.mono (by decide)) (pv 0) (pa_cons (pv 1) (pa_cons (pv 3) pa_nil))) (pa_cons (pe_ix (r := rIxT K) ix_tup (pe_ix (r := rIxL K) ix_list (pe_fld (pv 0) rfl) (pv 1) (fun _ _ => rfl)) pe_int (fun _ _ => rfl)) pa_nil)))))), ?_⟩
    obtain ⟨dx, l1, l2, l3, l4, sa, va, P⟩ := id PA
    refine ⟨_, rfl, _, _, _, rfl, P.ob, rfl, _, rfl, _, rfl, p, r, D, ns, j, _, _, rfl, rfl, PA, hB, hj, fun q1 H1 hq1 sm1 ht1 => ?_⟩
    refine ⟨_, _, rfl, .inl (.inl (.inl ht1)), _, rfl, _, _, _, rfl, sm1 _ _ P.ob, rfl, _, rfl, _, rfl, p, r, D, ns, j, _, _, rfl, rfl, PA.same sm1, hB, hj, fun q2 H2 hq2 sm2 ht2 => ?_⟩
    have P2 := (P.same sm1).same sm2
    have hv : j < va.length := by rw [P.vl]; exact hj
    refine ⟨_, _, rfl, .inl (.inl (.inl ht2)), _, rfl, _, _, _, _, _, rfl, P2.ob, Y.cl, Y.n4, pf4, _, rfl, _, _, _, _, rfl, rfl, .inl (.inl P2.ve), atI_nat (mapAt hv), _, _, _, .int (D.len (rn ns j) (rn ns (j + 1))), rfl, rfl, .inl (.inl (P2.vx j hv)), rfl, szOk rfl, fun q hq => ?_⟩
    refine k q _ (sm1.free (sm2.free hq)) (fun b o e => same_new hq _ _ (sm2 _ _ (sm1 _ _ e))) ?_
    exact upd_same
theorem sc_Path__segments : FnScope ["self", "first", "last", "line", "index", "start", "end"] ["self", "first", "last"] (defScope s_Path__segments) := ⟨rfl, rfl, rfl, by decide +kernel, rfl, by decide +kernel, by decide +kernel⟩
theorem ok_Path__segments {f : Addr} {fd : FuncData} {C : Addr} (F : Fun K "_segments" "Path._segments" s_Path__segments f fd) (T : TxtA mg) (Y : PathY K mg C)
    (M_leg_at : MDef P w K mg base 1 C "leg_at" ["self", "progress"] (spLegAt C))
    (M_segment : MDef P w K mg base 2 C "_segment" ["self", "index", "start", "end"] (spSeg C)) : FnOk P w K mg base CX0 3 f fd ["self", "first", "last"] (spSegs C) := by
  refine F.ok sc_Path__segments (fun vs H Q E h => ?_) (fun cdv A outer s H vs Q E hr h => ?_)
  · obtain ⟨_, _, _, _, _, _, rfl, _⟩ := h
    rfl
  · obtain ⟨p, r, D, ns, f1, l, rfl, PA, hB, n2, n20, hfl, k⟩ := h
    refine ⟨_, (pss_cons (ps_set (i := 3) sc_Path__segments.nd rfl (Or.inl rfl) (pe_lst pa_nil))
    (pss_cons (ps_for PassesOwn.never rfl (pi_range2 (by rfl) T.range (pa_cons (pe_mdef M_leg_at Y.cl (hr.mono (by decide)) (pv 0) (pa_cons (pv 1) pa_nil)) (pa_cons (pe_op op_add (pe_mdef M_leg_at Y.cl (hr.mono (by decide)) (pv 0) (pa_cons (pv 2) pa_nil)) pe_int) pa_nil))) (pg_name (i := 4) sc_Path__segments.nd rfl (Or.inl rfl))
      (pss_cons (ps_set (i := 5) sc_Path__segments.nd rfl (Or.inl rfl) (pe_callB (call_max2 rfl) (by rfl) T.max boot_max (pa_cons (pv 1) (pa_cons (pe_ix (r := rIxL K) ix_list (pe_fld (pv 0) rfl) (pv 4) (fun _ _ => rfl)) pa_nil))))
    (pss_cons (ps_set (i := 6) sc_Path__segments.nd rfl (Or.inl rfl) (pe_callB (call_min2 rfl) (by rfl) T.min boot_min (pa_cons (pv 2) (pa_cons (pe_ix (r := rIxL K) ix_list (pe_fld (pv 0) rfl) (pe_op op_add (pv 4) pe_int) (fun _ _ => rfl)) pa_nil))))
    (pss_one (ps_if (pt_cmpR op_lt (pv 5) (pv 6) (nomark _)) (pss_one (ps_expr (pe_bm PySem.F.plainAttrs_list PySem.F.slot_list_append PySem.F.type_list_append mt_append (pv 3) (pa_cons (pe_mdef M_segment Y.cl (hr.mono (by decide)) (pv 0) (pa_cons (pv 4) (pa_cons (pv 5) (pa_cons (pv 6) pa_nil)))) pa_nil))))
      pss_nil)))))
    (pss_one (ps_ret (pv 3))))), ?_⟩
    obtain ⟨dx, l1, l2, l3, l4, sa, va, P⟩ := id PA
    refine ⟨szOk rfl, fun ln hln => ?_⟩
    have sm0 : Same H (upd H ln (.lst [])) := same_new hln
    have P0 := P.same sm0
    refine ⟨_, rfl, _, _, _, rfl, P0.ob, rfl, _, rfl, p, r, D, ns, f1, rfl, PA.same sm0, n2, n20, ?_⟩
    refine ⟨_, rfl, _, _, _, rfl, P0.ob, rfl, _, rfl, p, r, D, ns, l, rfl, PA.same sm0, n2, n20, ?_⟩
    obtain ⟨a1, b1, c1⟩ := lat_cases D ns (ns.length - 1 - 1) f1
    obtain ⟨a2, b2, c2⟩ := lat_cases D ns (ns.length - 1 - 1) l
    have hm := lat_mono D ns (ns.length - 1 - 1) hfl
    have hse := segs_eq (D := D) (ns := ns) (m := ns.length - 1 - 1) hfl hm
    rw [show ns.length - 1 - 1 + 1 = ns.length - 1 by omega] at hse
    rw [hse] at k
    generalize hu : lat D ns (ns.length - 1 - 1) f1 = u at *
    generalize hv : lat D ns (ns.length - 1 - 1) l = v at *
    refine ⟨_, _, rfl, rfl, _, _, rfl, ⟨by omega, by omega, by omega, by omega⟩, for_range (lo := (u : Int)) (n := ((v : Int) + 1 - (u : Int)).toNat) (fun i σ H2 => ∃ v4 v5 v6, σ = [some (.ref p), some (.int f1), some (.int l), some (.ref ln), v4, v5, v6] ∧ Same H H2 ∧ LoT H2 ln (segsOf D ns f1 l ((List.range i).map (u + ·))))
      ⟨none, none, none, rfl, sm0, LoT.nil upd_same⟩ ?_ ?_⟩
    · rintro i σ H2 hi ⟨v4, v5, v6, rfl, sm, hL⟩
      have hi : u + i ≤ v := by omega
      have P2 := P.same sm
      have hsn : segsOf D ns f1 l ((List.range (i + 1)).map (u + ·)) = segsOf D ns f1 l ((List.range i).map (u + ·)) ++ (match segOf D ns f1 l (u + i) with | some x => [x] | none => []) := by
        unfold segsOf
        rw [List.range_succ, List.map_append, List.filterMap_append]
        congr 1
        show List.filterMap (segOf D ns f1 l) [u + i] = _
        cases e : segOf D ns f1 l (u + i) <;> simp [e]
      have eu : (u : Int) + (i : Int) = ((u + i : Nat) : Int) := by omega
      refine ⟨_, rfl, _, rfl, _, _, _, _, _, rfl, P2.ob, Y.cl, Y.n5, pf5, _, rfl, _, _, _, .int (bg D ns (u + i)), rfl, rfl, .inl (.inl P2.bgn), by rw [eu]; exact atI_nat (by rw [List.getElem?_map, List.getElem?_range (by omega)]; rfl), _, _, rfl, ?_⟩
      refine ⟨_, rfl, _, rfl, _, _, _, _, _, rfl, P2.ob, Y.cl, Y.n5, pf5, _, rfl, _, _, rfl, rfl, _, _, _, .int (bg D ns (u + i + 1)), rfl, rfl, .inl (.inl P2.bgn), by rw [eu, show ((u + i : Nat) : Int) + 1 = ((u + i + 1 : Nat) : Int) by omega]; exact atI_nat (by rw [List.getElem?_map, List.getElem?_range (by omega)]; rfl), _, _, rfl, ?_⟩
      refine ⟨_, rfl, _, rfl, _, _, rfl, rfl, _, rfl, ite2 (fun e => ?_) (fun e => ?_)⟩
      · have e := of_decide_eq_true e
        have es : segOf D ns f1 l (u + i) = some (seg D ns (u + i) (if bg D ns (u + i) > f1 then bg D ns (u + i) else f1) (if bg D ns (u + i + 1) < l then bg D ns (u + i + 1) else l)) := by
          unfold segOf
          dsimp only
          rw [if_pos e]
        obtain ⟨ys, hy, hyl⟩ := hL.li
        have hys : ys.length ≤ 100 := by
          rw [hyl]
          have := List.length_filterMap_le (segOf D ns f1 l) ((List.range i).map (u + ·))
          rw [List.length_map, List.length_range] at this
          unfold segsOf
          omega
        refine ⟨_, rfl, .inl ⟨rfl, _, .inl (.inl hy)⟩, _, rfl, _, _, _, rfl, P2.ob, rfl, _, rfl, _, rfl, _, rfl, p, r, D, ns, u + i, _, _, _, rfl, eu, PA.same sm, hB, by omega, fun q H3 hq sm3 ht => ?_⟩
        refine ⟨_, _, _, rfl, rfl, sm3 _ _ hy, small1000 (by omega), ?_⟩
        refine ⟨_, _, _, rfl, fun b o e => ?_, ?_⟩
        · rw [upd_ne (ne_of_none e hln)]
          exact sm3 _ _ (sm _ _ e)
        · rw [hsn, es]
          exact LoT.snoc (hL.same sm3) (sm3 _ _ hy) ht
      · have e : ¬ _ := fun z => e (decide_eq_true z)
        have es : segOf D ns f1 l (u + i) = none := by
          unfold segOf
          dsimp only
          rw [if_neg e]
        refine ⟨_, _, _, rfl, sm, ?_⟩
        rw [hsn, es, List.append_nil]
        exact hL
    · rintro σ H2 ⟨v4, v5, v6, rfl, sm, hL⟩
      refine ⟨_, rfl, k ln H2 hln sm ?_⟩
      rw [show ((v : Int) + 1 - (u : Int)).toNat = v + 1 - u by omega] at hL
      exact hL
theorem sc_Path_place : FnScope ["self", "progress", "index", "x", "y"] ["self", "progress"] (defScope s_Path_place) := ⟨rfl, rfl, rfl, by decide +kernel, rfl, by decide +kernel, by decide +kernel⟩
theorem ok_Path_place {f : Addr} {fd : FuncData} {C : Addr} (F : Fun K "place" "Path.place" s_Path_place f fd) (T : TxtA mg) (Y : PathY K mg C)
    (M_leg_at : MDef P w K mg base 1 C "leg_at" ["self", "progress"] (spLegAt C))
    (M_point : MDef P w K mg base 1 C "_point" ["self", "index", "progress"] (spPoint C)) : FnOk P w K mg base CX0 2 f fd ["self", "progress"] (spPlace C) := by
  refine F.ok sc_Path_place (fun vs H Q E h => ?_) (fun cdv A outer s H vs Q E hr h => ?_)
  · obtain ⟨_, _, _, _, _, rfl, _⟩ := h
    rfl
  · obtain ⟨p, r, D, ns, x, rfl, PA, hB, n2, n20, k⟩ := h
    refine ⟨_, (pss_cons (ps_set (i := 2) sc_Path_place.nd rfl (Or.inl rfl) (pe_mdef M_leg_at Y.cl (hr.mono (by decide)) (pv 0) (pa_cons (pv 1) pa_nil)))
    (pss_cons (ps_asg (pe_mdef M_point Y.cl (hr.mono (by decide)) (pv 0) (pa_cons (pv 2) (pa_cons (pv 1) pa_nil))) (pg_tup (by rfl) (pgs_cons (pg_name (i := 3) sc_Path_place.nd rfl (Or.inl rfl)) (pgs_cons (pg_name (i := 4) sc_Path_place.nd rfl (Or.inl rfl)) pgs_nil))))
    (pss_one (ps_ret (pe_tup (pa_cons (pv 3) (pa_cons (pv 4) (pa_cons (pe_ix (r := rIxT K) ix_tup (pe_ix (r := rIxL K) ix_list (pe_fld (pv 0) rfl) (pv 2) (fun _ _ => rfl)) pe_int (fun _ _ => rfl)) pa_nil)))))))), ?_⟩
    obtain ⟨dx, l1, l2, l3, l4, sa, va, P⟩ := id PA
    obtain ⟨a1, b1, c1⟩ := lat_cases D ns (ns.length - 1 - 1) x
    refine ⟨_, rfl, _, _, _, rfl, P.ob, rfl, _, rfl, p, r, D, ns, x, rfl, PA, n2, n20, ?_⟩
    generalize hu : lat D ns (ns.length - 1 - 1) x = u at *
    refine ⟨_, rfl, _, _, _, rfl, P.ob, rfl, _, rfl, _, rfl, p, r, D, ns, u, _, _, rfl, rfl, PA, hB, by omega, fun q1 H1 hq1 sm1 ht1 => ?_⟩
    have P1 := P.same sm1
    have hv : u < va.length := by rw [P.vl]; omega
    refine ⟨_, _, rfl, .inl (.inl ht1), rfl, _, _, rfl, _, _, rfl, rfl, ?_⟩
    refine ⟨_, rfl, _, rfl, _, rfl, _, _, _, _, _, rfl, P1.ob, Y.cl, Y.n4, pf4, _, rfl, _, _, _, _, rfl, rfl, .inl (.inl P1.ve), atI_nat (mapAt hv), _, _, _, .int (D.len (rn ns u) (rn ns (u + 1))), rfl, rfl, .inl (.inl (P1.vx u hv)), rfl, szOk rfl, fun q hq => ?_⟩
    exact k q _ (sm1.free hq) (fun b o e => same_new hq _ _ (sm1 _ _ e)) upd_same
theorem sc_Path_piece : FnScope ["self", "low", "high", "first", "last", "index"] ["self", "low", "high"] (defScope s_Path_piece) := ⟨rfl, rfl, rfl, by decide +kernel, rfl, by decide +kernel, by decide +kernel⟩
theorem ok_Path_piece {f : Addr} {fd : FuncData} {C : Addr} (F : Fun K "piece" "Path.piece" s_Path_piece f fd) (T : TxtA mg) (Y : PathY K mg C)
    (M_total : MDef P w K mg base 1 C "total" ["self"] (spTotal C))
    (M_leg_at : MDef P w K mg base 1 C "leg_at" ["self", "progress"] (spLegAt C))
    (M_segments : MDef P w K mg base 3 C "_segments" ["self", "first", "last"] (spSegs C))
    (M_segment : MDef P w K mg base 2 C "_segment" ["self", "index", "start", "end"] (spSeg C)) : FnOk P w K mg base CX0 4 f fd ["self", "low", "high"] (spPiece C) := by
  refine F.ok sc_Path_piece (fun vs H Q E h => ?_) (fun cdv A outer s H vs Q E hr h => ?_)
  · obtain ⟨_, _, _, _, _, _, rfl, _⟩ := h
    rfl
  · obtain ⟨p, r, D, ns, lo0, hi0, rfl, PA, hB, n2, n20, hlh, k⟩ := h
    refine ⟨_, (pss_cons (ps_if (PW.pt (pw_or (pt_cmpR op_lt (pv 2) pe_int (nomark _)) (pw_or1 (pt_cmpR op_ge (pv 1) (pe_mdef0 M_total Y.cl (hr.mono (by decide)) (pv 0)) (nomark _))))) (pss_one (ps_ret (pe_lst pa_nil)))
      pss_nil)
    (pss_cons (ps_set (i := 3) sc_Path_piece.nd rfl (Or.inl rfl) (pe_callB (call_max2 rfl) (by rfl) T.max boot_max (pa_cons (pv 1) (pa_cons pe_int pa_nil))))
    (pss_cons (ps_set (i := 4) sc_Path_piece.nd rfl (Or.inl rfl) (pe_callB (call_min2 rfl) (by rfl) T.min boot_min (pa_cons (pv 2) (pa_cons (pe_mdef0 M_total Y.cl (hr.mono (by decide)) (pv 0)) pa_nil))))
    (pss_cons (ps_if (pt_cmpR op_eq (pv 3) (pv 4) (nomark _)) (pss_cons (ps_set (i := 5) sc_Path_piece.nd rfl (Or.inl rfl) (pe_mdef M_leg_at Y.cl (hr.mono (by decide)) (pv 0) (pa_cons (pv 3) pa_nil)))
    (pss_one (ps_ret (pe_lst (pa_cons (pe_mdef M_segment Y.cl (hr.mono (by decide)) (pv 0) (pa_cons (pv 5) (pa_cons (pv 3) (pa_cons (pv 3) pa_nil)))) pa_nil)))))
      pss_nil)
    (pss_one (ps_ret (pe_mdef M_segments Y.cl (hr.mono (by decide)) (pv 0) (pa_cons (pv 3) (pa_cons (pv 4) pa_nil))))))))), ?_⟩
    obtain ⟨dx, l1, l2, l3, l4, sa, va, P⟩ := id PA
    have nl0 : ∀ H' : Hp, ∀ q, H q = none → H' = upd H q (.lst []) → (hi0 < 0 ∨ bg D ns (ns.length - 1) ≤ lo0) → Q (.ref q) H' := fun H' q hq e h => by
      subst e
      refine k q _ hq (same_new hq) ?_
      unfold pcs
      dsimp only
      rw [if_pos h]
      exact LoT.nil upd_same
    refine ⟨_, rfl, _, _, rfl, rfl, _, rfl, ite2 (fun e => ?_) (fun e => ?_)⟩
    · have e := of_decide_eq_true e
      exact ⟨szOk rfl, fun q hq => nl0 _ q hq rfl (.inl e)⟩
    · have e : ¬ hi0 < 0 := fun z => e (decide_eq_true z)
      refine ⟨_, rfl, _, rfl, _, _, _, rfl, P.ob, rfl, p, r, dx, l1, l2, l3, l4, D, ns, _, rfl, P.ob, P.bgn, _, _, rfl, rfl, _, rfl, ite2 (fun e2 => ?_) (fun e2 => ?_)⟩
      · have e2 := of_decide_eq_true e2
        exact ⟨szOk rfl, fun q hq => nl0 _ q hq rfl (.inr e2)⟩
      · have e2 : ¬ bg D ns (ns.length - 1) ≤ lo0 := fun z => e2 (decide_eq_true z)
        have hpc : pcs D ns lo0 hi0 = if (if 0 > lo0 then 0 else lo0) = (if bg D ns (ns.length - 1) < hi0 then bg D ns (ns.length - 1) else hi0) then [seg D ns (lat D ns (ns.length - 1 - 1) (if 0 > lo0 then 0 else lo0)) (if 0 > lo0 then 0 else lo0) (if 0 > lo0 then 0 else lo0)] else segsOf D ns (if 0 > lo0 then 0 else lo0) (if bg D ns (ns.length - 1) < hi0 then bg D ns (ns.length - 1) else hi0) (List.range (ns.length - 1)) := by
          unfold pcs
          dsimp only
          rw [if_neg (by omega)]
        rw [hpc] at k
        refine ⟨_, rfl, _, _, rfl, ?_⟩
        refine ⟨_, rfl, _, rfl, _, _, _, rfl, P.ob, rfl, p, r, dx, l1, l2, l3, l4, D, ns, _, rfl, P.ob, P.bgn, _, _, rfl, ?_⟩
        have hfl : (if 0 > lo0 then 0 else lo0) ≤ (if bg D ns (ns.length - 1) < hi0 then bg D ns (ns.length - 1) else hi0) := by
          have := bg_nn D ns (ns.length - 1)
          split <;> split <;> omega
        refine nm ?_
        dsimp only
        generalize (if 0 > lo0 then 0 else lo0) = f1 at *
        generalize (if bg D ns (ns.length - 1) < hi0 then bg D ns (ns.length - 1) else hi0) = l at *
        obtain ⟨a1, b1, c1⟩ := lat_cases D ns (ns.length - 1 - 1) f1
        refine ⟨_, rfl, _, rfl, rfl, _, rfl, ite2 (fun e3 => ?_) (fun e3 => ?_)⟩
        · have e3 := V.int.inj (of_decide_eq_true e3)
          rw [if_pos e3] at k
          refine ⟨_, rfl, _, _, _, rfl, P.ob, rfl, _, rfl, p, r, D, ns, f1, rfl, PA, n2, n20, ?_⟩
          generalize hu : lat D ns (ns.length - 1 - 1) f1 = u at *
          refine ⟨_, rfl, _, _, _, rfl, P.ob, rfl, _, rfl, _, rfl, _, rfl, p, r, D, ns, u, _, _, _, rfl, rfl, PA, hB, by omega, fun q1 H1 hq1 sm1 ht1 => ?_⟩
          refine ⟨szOk rfl, fun q hq => ?_⟩
          refine k q _ (sm1.free hq) (fun b o e => same_new hq _ _ (sm1 _ _ e)) ?_
          exact ⟨[(q1, _)], upd_same, fun z hz => by rw [List.mem_singleton.mp hz]; exact same_new hq _ _ ht1, rfl⟩
        · have e3 : ¬ f1 = l := fun z => e3 (decide_eq_true (congrArg V.int z))
          rw [if_neg e3] at k
          exact ⟨_, rfl, _, _, _, rfl, P.ob, rfl, _, rfl, _, rfl, p, r, D, ns, f1, l, rfl, PA, hB, n2, n20, hfl, k⟩
theorem sc_Path__join : FnScope ["self", "chart", "start", "end", "ax", "ay", "bx", "by", "length"] ["self", "chart", "start", "end"] (defScope s_Path__join) := ⟨rfl, rfl, rfl, by decide +kernel, rfl, by decide +kernel, by decide +kernel⟩
theorem ok_Path__join {f : Addr} {fd : FuncData} {C : Addr} (F : Fun K "_join" "Path._join" s_Path__join f fd) (T : TxtA mg) (Y : PathY K mg C)
    (D_leg_length : Def P w K mg base 3 "leg_length" ["chart", "start", "end"] (spLegLen))
    (D_leg_between : Def P w K mg base 1 "leg_between" ["chart", "start", "end"] (spLegBt))
    (M_total : MDef P w K mg base 1 C "total" ["self"] (spTotal C)) : FnOk P w K mg base CX0 4 f fd ["self", "chart", "start", "end"] (spJoin C) := by
  refine F.ok sc_Path__join (fun vs H Q E h => ?_) (fun cdv A outer s H vs Q E hr h => ?_)
  · obtain ⟨_, _, _, _, _, _, _, _, _, _, _, _, _, rfl, _⟩ := h
    rfl
  · obtain ⟨p, ch, r, dx, l1, l2, l3, l4, D, ns, i, sa, va, rfl, C0, P, hlg, hi, k⟩ := h
    have hu := hu_of hr
    refine ⟨_, (pss_cons (ps_asg (pe_dget hu (pe_dget hu (pv 1) pe_str (fun _ _ => rfl)) (pv 2) (fun _ _ => rfl)) (pg_tup (by rfl) (pgs_cons (pg_name (i := 4) sc_Path__join.nd rfl (Or.inl rfl)) (pgs_cons (pg_name (i := 5) sc_Path__join.nd rfl (Or.inl rfl)) pgs_nil))))
    (pss_cons (ps_asg (pe_dget hu (pe_dget hu (pv 1) pe_str (fun _ _ => rfl)) (pv 3) (fun _ _ => rfl)) (pg_tup (by rfl) (pgs_cons (pg_name (i := 6) sc_Path__join.nd rfl (Or.inl rfl)) (pgs_cons (pg_name (i := 7) sc_Path__join.nd rfl (Or.inl rfl)) pgs_nil))))
    (pss_cons (ps_set (i := 8) sc_Path__join.nd rfl (Or.inl rfl) (pe_def D_leg_length (hr.mono (by decide)) (by rfl) (pa_cons (pv 1) (pa_cons (pv 2) (pa_cons (pv 3) pa_nil)))))
    (pss_cons (ps_expr (pe_bm PySem.F.plainAttrs_list PySem.F.slot_list_append PySem.F.type_list_append mt_append (pe_fld (pv 0) rfl) (pa_cons (pe_def D_leg_between (hr.mono (by decide)) (by rfl) (pa_cons (pv 1) (pa_cons (pv 2) (pa_cons (pv 3) pa_nil)))) pa_nil)))
    (pss_cons (ps_expr (pe_bm PySem.F.plainAttrs_list PySem.F.slot_list_append PySem.F.type_list_append mt_append (pe_fld (pv 0) rfl) (pa_cons (pe_tup (pa_cons (pv 4) (pa_cons (pv 5) pa_nil))) pa_nil)))
    (pss_cons (ps_expr (pe_bm PySem.F.plainAttrs_list PySem.F.slot_list_append PySem.F.type_list_append mt_append (pe_fld (pv 0) rfl) (pa_cons (pe_tup (pa_cons (pe_op op_sub (pv 6) (pv 4)) (pa_cons (pe_op op_sub (pv 7) (pv 5)) (pa_cons (pv 8) pa_nil)))) pa_nil)))
    (pss_one (ps_expr (pe_bm PySem.F.plainAttrs_list PySem.F.slot_list_append PySem.F.type_list_append mt_append (pe_fld (pv 0) rfl) (pa_cons (pe_op op_add (pe_mdef0 M_total Y.cl (hr.mono (by decide)) (pv 0)) (pv 8)) pa_nil)))))))))), ?_⟩
    obtain ⟨lg, hlg'⟩ := hlg
    obtain ⟨hm, hs, he⟩ := CD.leg_mem hlg'
    obtain ⟨⟨a1, x1, y1, h1⟩, a2, x2, y2, h2⟩ := C0.wf lg hm
    rw [hs] at h1
    rw [he] at h2
    obtain ⟨p1, p2, _⟩ := C0.pf _ _ _ _ h1
    obtain ⟨q1, q2, _⟩ := C0.pf _ _ _ _ h2
    refine ⟨_, rfl, _, _, rfl, C0.gf, _, rfl, _, _, rfl, C0.gp h1, _, _, rfl, .inl (.inl p2), rfl, _, _, rfl, _, _, rfl, rfl, ?_⟩
    refine ⟨_, rfl, _, _, rfl, C0.gf, _, rfl, _, _, rfl, C0.gp h2, _, _, rfl, .inl (.inl q2), rfl, _, _, rfl, _, _, rfl, rfl, ?_⟩
    refine ⟨_, rfl, _, rfl, _, rfl, ch, D, rn ns i, rn ns (i + 1), _, _, _, _, _, _, rfl, C0, h1, h2, ?_⟩
    have npl : ∀ l xs, H l = some (.lst xs) → p ≠ l := fun l xs e => ne_of P.ob e (by intro z; cases z)
    refine ⟨_, rfl, _, _, _, _, _, rfl, P.ob, Y.cl, Y.n2, pf2, .inl ⟨rfl, _, .inl (.inl P.lg)⟩, _, rfl, _, rfl, _, rfl, ch, D, rn ns i, rn ns (i + 1), rfl, C0, ?_⟩
    refine ⟨_, _, _, rfl, rfl, P.lg, small1000 (by rw [List.length_map, List.length_range]; omega), ?_⟩
    -- starts
    have ob1 : ∀ o, (upd H l1 o) p = some (.ins C dx (pfl r l1 l2 l3 l4)) := fun o => by rw [upd_ne (npl _ _ P.lg)]; exact P.ob
    have st1 : ∀ o, (upd H l1 o) l2 = some (.lst (sa.map V.ref)) := fun o => by rw [upd_ne P.d12.symm]; exact P.st
    refine ⟨_, rfl, _, _, _, _, _, rfl, ob1 _, Y.cl, Y.n3, pf3, .inl ⟨rfl, _, .inl (.inl (st1 _))⟩, _, rfl, _, rfl, szOk rfl, fun t1 ht1 => ?_⟩
    have hH1 : ∀ b, (upd H l1 (.lst ((List.range i).map (fun j => optL (D.leg (rn ns j) (rn ns (j + 1)))) ++ [optL (D.leg (rn ns i) (rn ns (i + 1)))]))) b = none → H b = none := fun b e => by
      by_cases w : b = l1
      · rw [w, upd_same] at e; cases e
      · rw [upd_ne w] at e; exact e
    have n1H : H t1 = none := hH1 _ ht1
    refine ⟨_, _, _, rfl, rfl, same_new ht1 _ _ (st1 _), small1000 (by rw [List.length_map, P.sl]; omega), ?_⟩
    generalize hA : upd H l1 (.lst ((List.range i).map (fun j => optL (D.leg (rn ns j) (rn ns (j + 1)))) ++ [optL (D.leg (rn ns i) (rn ns (i + 1)))])) = HA at ht1 ⊢
    generalize hB : upd (upd HA t1 (.tup [.int x1, .int y1])) l2 (.lst (sa.map V.ref ++ [.ref t1])) = HB
    have fB : ∀ b o, H b = some o → b ≠ l1 → b ≠ l2 → HB b = some o := fun b o e m1 m2 => by
      rw [← hB, upd_ne m2]
      refine same_new ht1 _ _ ?_
      rw [← hA, upd_ne m1]
      exact e
    have B1 : HB l1 = some (.lst ((List.range (i + 1)).map fun j => optL (D.leg (rn ns j) (rn ns (j + 1))))) := by
      rw [← hB, upd_ne P.d12]
      refine same_new ht1 _ _ ?_
      rw [← hA, upd_same, List.range_succ, List.map_append]
      rfl
    have B2 : HB l2 = some (.lst ((sa ++ [t1]).map V.ref)) := by rw [← hB, upd_same, List.map_append]; rfl
    have Bt : HB t1 = some (.tup [.int x1, .int y1]) := by
      rw [← hB, upd_ne (fun w => by rw [w, P.st] at n1H; cases n1H), upd_same]
    -- vectors
    have obB := fB _ _ P.ob (npl _ _ P.lg) (npl _ _ P.st)
    have veB := fB _ _ P.ve P.d13.symm P.d23.symm
    have bgB := fB _ _ P.bgn P.d14.symm P.d24.symm
    refine ⟨_, rfl, _, _, _, _, _, rfl, obB, Y.cl, Y.n4, pf4, .inl ⟨rfl, _, .inl (.inl veB)⟩, _, rfl, _, rfl, _, _, rfl, rfl, _, rfl, _, rfl, _, _, rfl, rfl, _, rfl, szOk rfl, fun t2 ht2 => ?_⟩
    refine ⟨_, _, _, rfl, rfl, same_new ht2 _ _ veB, small1000 (by rw [List.length_map, P.vl]; omega), ?_⟩
    generalize hE : upd (upd HB t2 (.tup [.int (x2 - x1), .int (y2 - y1), .int (D.len (rn ns i) (rn ns (i + 1)))])) l3 (.lst (va.map V.ref ++ [.ref t2])) = HE
    have fE : ∀ b o, HB b = some o → b ≠ l3 → HE b = some o := fun b o e m => by
      rw [← hE, upd_ne m]
      exact same_new ht2 _ _ e
    have E3 : HE l3 = some (.lst ((va ++ [t2]).map V.ref)) := by rw [← hE, upd_same, List.map_append]; rfl
    have Et : HE t2 = some (.tup [.int (x2 - x1), .int (y2 - y1), .int (D.len (rn ns i) (rn ns (i + 1)))]) := by
      rw [← hE, upd_ne (fun w => by rw [w, veB] at ht2; cases ht2), upd_same]
    have obE := fE _ _ obB (npl _ _ P.ve)
    have bgE := fE _ _ bgB P.d34.symm
    -- begins
    refine ⟨_, rfl, _, _, _, _, _, rfl, obE, Y.cl, Y.n5, pf5, .inl ⟨rfl, _, .inl (.inl bgE)⟩, _, rfl, _, _, _, rfl, obE, rfl, p, r, dx, l1, l2, l3, l4, D, ns, i, rfl, obE, bgE, _, rfl, _, _, rfl, rfl, ?_⟩
    refine ⟨_, _, _, rfl, rfl, bgE, small1000 (by rw [List.length_map, List.length_range]; omega), ?_⟩
    generalize hG : upd HE l4 (.lst ((List.range (i + 1)).map (fun j => V.int (bg D ns j)) ++ [.int (bg D ns i + D.len (rn ns i) (rn ns (i + 1)))])) = HG
    have fG : ∀ b o, HE b = some o → b ≠ l4 → HG b = some o := fun b o e m => by
      rw [← hG, upd_ne m]
      exact e
    have G4 : HG l4 = some (.lst ((List.range (i + 1 + 1)).map fun j => V.int (bg D ns j))) := by
      rw [← hG, upd_same, List.range_succ (n := i + 1), List.map_append]
      rfl
    have tup3 : ∀ b xs, HB b = some (.tup xs) → HG b = some (.tup xs) := fun b xs e => fG _ _ (fE _ _ e (ne_of e veB (by intro z; cases z))) (ne_of e bgB (by intro z; cases z))
    have tup0 : ∀ b xs, H b = some (.tup xs) → HG b = some (.tup xs) := fun b xs e => tup3 _ _ (fB _ _ e (ne_of e P.lg (by intro z; cases z)) (ne_of e P.st (by intro z; cases z)))
    refine k t1 t2 HG ⟨fG _ _ obE (npl _ _ P.bgn), tup0 _ _ P.rt, fG _ _ (fE _ _ B1 P.d13) P.d14, fG _ _ (fE _ _ B2 P.d23) P.d24, fG _ _ E3 P.d34, G4, by rw [List.length_append, P.sl]; rfl, by rw [List.length_append, P.vl]; rfl, fun j hj => ?_, fun j hj => ?_, P.d12, P.d13, P.d14, P.d23, P.d24, P.d34⟩ fun b o e m1 m2 m3 m4 => fG _ _ (fE _ _ (fB _ _ e m1 m2) m3) m4
    · by_cases w : j < sa.length
      · rw [List.getElem_append_left w]
        exact tup0 _ _ (P.sx j w)
      · rw [List.length_append, List.length_singleton] at hj
        have ej : j = sa.length := by omega
        subst ej
        have e : (sa ++ [t1])[sa.length] = t1 := by simp
        rw [e, P.sl, CD.xy_eq h1]
        exact tup3 _ _ Bt
    · by_cases w : j < va.length
      · rw [List.getElem_append_left w]
        exact tup0 _ _ (P.vx j w)
      · rw [List.length_append, List.length_singleton] at hj
        have ej : j = va.length := by omega
        subst ej
        have e : (va ++ [t2])[va.length] = t2 := by simp
        rw [e, P.vl, CD.xy_eq h1, CD.xy_eq h2]
        exact fG _ _ Et (ne_of Et bgE (by intro z; cases z))
theorem sc_Path___init__ : FnScope ["self", "chart", "route", "index"] ["self", "chart", "route"] (defScope s_Path___init__) := ⟨rfl, rfl, rfl, by decide +kernel, rfl, by decide +kernel, by decide +kernel⟩
theorem ok_Path___init__ {f : Addr} {fd : FuncData} {C : Addr} (F : Fun K "__init__" "Path.__init__" s_Path___init__ f fd) (T : TxtA mg) (Y : PathY K mg C)
    (M_join : MDef P w K mg base 4 C "_join" ["self", "chart", "start", "end"] (spJoin C)) : FnOk P w K mg base CX0 5 f fd ["self", "chart", "route"] (spPInit C) := by
  refine F.ok sc_Path___init__ (fun vs H Q E h => ?_) (fun cdv A outer s H vs Q E hr h => ?_)
  · obtain ⟨_, _, _, _, _, _, rfl, _⟩ := h
    rfl
  · obtain ⟨p, ch, r, dx, D, ns, rfl, hp, C0, hr0, R, k⟩ := h
    refine ⟨_, (pss_cons (ps_fld (pv 0) (pv 2) rfl)
    (pss_cons (ps_fld (pv 0) (pe_lst pa_nil) rfl)
    (pss_cons (ps_fld (pv 0) (pe_lst pa_nil) rfl)
    (pss_cons (ps_fld (pv 0) (pe_lst pa_nil) rfl)
    (pss_cons (ps_fld (pv 0) (pe_lst (pa_cons pe_int pa_nil)) rfl)
    (pss_one (ps_for PassesOwn.never rfl (pi_range1 (by rfl) T.range (pa_cons (pe_op op_sub (pe_callB (r := rLenK K) call_len_seq (by rfl) T.len boot_len (pa_cons (pv 2) pa_nil)) pe_int) pa_nil)) (pg_name (i := 3) sc_Path___init__.nd rfl (Or.inl rfl))
      (pss_one (ps_expr (pe_mdef M_join Y.cl (hr.mono (by decide)) (pv 0) (pa_cons (pv 1) (pa_cons (pe_ix (r := rIxT K) ix_tup (pv 2) (pv 3) (fun _ _ => rfl)) (pa_cons (pe_ix (r := rIxT K) ix_tup (pv 2) (pe_op op_add (pv 3) pe_int) (fun _ _ => rfl)) pa_nil))))))))))))), ?_⟩
    have pr : p ≠ r := ne_of hp hr0 (by intro z; cases z)
    refine ⟨_, rfl, _, rfl, p, C, dx, [], rfl, hp, Y.cl, Y.n1, (by show 0 < 1000; decide), ?_⟩
    refine ⟨szOk rfl, fun l1 hl1 => ⟨_, rfl, p, C, dx, _, rfl, same_new hl1 _ _ upd_same, Y.cl, Y.n2, (by show 1 < 1000; decide), ?_⟩⟩
    refine ⟨szOk rfl, fun l2 hl2 => ⟨_, rfl, p, C, dx, _, rfl, same_new hl2 _ _ upd_same, Y.cl, Y.n3, (by show 2 < 1000; decide), ?_⟩⟩
    refine ⟨szOk rfl, fun l3 hl3 => ⟨_, rfl, p, C, dx, _, rfl, same_new hl3 _ _ upd_same, Y.cl, Y.n4, (by show 3 < 1000; decide), ?_⟩⟩
    refine ⟨szOk rfl, fun l4 hl4 => ⟨_, rfl, p, C, dx, _, rfl, same_new hl4 _ _ upd_same, Y.cl, Y.n5, (by show 4 < 1000; decide), ?_⟩⟩
    have np : ∀ (Hx : Hp) l o, (upd Hx p o) l = none → p ≠ l ∧ Hx l = none := fun Hx l o e => by
      have w : p ≠ l := fun w => by rw [← w, upd_same] at e; cases e
      exact ⟨w, by rw [upd_ne w.symm] at e; exact e⟩
    obtain ⟨m1, e1⟩ := np _ _ _ hl1
    obtain ⟨m2, e2⟩ := np _ _ _ hl2
    obtain ⟨m3, e3⟩ := np _ _ _ hl3
    obtain ⟨m4, e4⟩ := np _ _ _ hl4
    have nn : ∀ (Hx : Hp) l o b, (upd Hx l o) b = none → b ≠ l ∧ Hx b = none := fun Hx l o b e => by
      have w : b ≠ l := fun w => by rw [w, upd_same] at e; cases e
      exact ⟨w, by rw [upd_ne w] at e; exact e⟩
    obtain ⟨d12, e2a⟩ := nn _ _ _ _ e2
    obtain ⟨d23, e3a⟩ := nn _ _ _ _ e3
    obtain ⟨_, e3b⟩ := np _ _ _ e3a
    obtain ⟨d13, e3c⟩ := nn _ _ _ _ e3b
    obtain ⟨d34, e4a⟩ := nn _ _ _ _ e4
    obtain ⟨_, e4b⟩ := np _ _ _ e4a
    obtain ⟨d24, e4c⟩ := nn _ _ _ _ e4b
    obtain ⟨_, e4d⟩ := np _ _ _ e4c
    obtain ⟨d14, e4e⟩ := nn _ _ _ _ e4d
    obtain ⟨_, f2⟩ := np _ _ _ e2a
    obtain ⟨_, f3⟩ := np _ _ _ e3c
    obtain ⟨_, f4⟩ := np _ _ _ e4e
    generalize hG : upd (upd (upd (upd (upd (upd (upd (upd (upd H p _) l1 _) p _) l2 _) p _) l3 _) p _) l4 _) p _ = HG
    have fr : ∀ b o, H b = some o → b ≠ p → HG b = some o := fun b o e n => by
      rw [← hG, upd_ne n, upd_ne (ne_of_none e f4), upd_ne n, upd_ne (ne_of_none e f3), upd_ne n, upd_ne (ne_of_none e f2), upd_ne n, upd_ne (ne_of_none e e1), upd_ne n]
      exact e
    have g1 : HG l1 = some (.lst []) := by rw [← hG, upd_ne m1.symm, upd_ne d14.symm, upd_ne m1.symm, upd_ne d13.symm, upd_ne m1.symm, upd_ne d12.symm, upd_ne m1.symm, upd_same]
    have g2 : HG l2 = some (.lst []) := by rw [← hG, upd_ne m2.symm, upd_ne d24.symm, upd_ne m2.symm, upd_ne d23.symm, upd_ne m2.symm, upd_same]
    have g3 : HG l3 = some (.lst []) := by rw [← hG, upd_ne m3.symm, upd_ne d34.symm, upd_ne m3.symm, upd_same]
    have g4 : HG l4 = some (.lst [.int 0]) := by rw [← hG, upd_ne m4.symm, upd_same]
    have gp : HG p = some (.ins C dx (pfl r l1 l2 l3 l4)) := by rw [← hG, upd_same]; rfl
    have P0 : PathP C HG p D ns r 0 dx l1 l2 l3 l4 [] [] := ⟨gp, fr _ _ hr0 pr.symm, g1, g2, g3, g4, rfl, rfl, (fun j h => by simp at h), (fun j h => by simp at h), d12.symm, d13.symm, d14.symm, d23.symm, d24.symm, d34.symm⟩
    refine ⟨_, rfl, _, _, rfl, .inr (.inl (.inl P0.rt)), _, _, rfl, rfl, ?_⟩
    refine ⟨_, rfl, by rw [List.length_map]; have := R.n2; omega, by rw [List.length_map]; have := R.n20; omega, for_range (n := (((ns.map V.str).length : Int) - 1).toNat) (fun i σ H2 => ∃ sa va v3, σ = [some (.ref p), some (.ref ch), some (.ref r), v3] ∧ PathP C H2 p D ns r i dx l1 l2 l3 l4 sa va ∧ ∀ b o, H b = some o → b ≠ p → H2 b = some o)
      ⟨[], [], none, rfl, P0, fr⟩ ?_ ?_⟩
    · rintro i σ H2 hi ⟨sa, va, v3, rfl, P, hk⟩
      have hi : i + 1 < ns.length := by rw [List.length_map] at hi; omega
      have eu : 0 + (i : Int) + 1 = ((i + 1 : Nat) : Int) := by omega
      refine ⟨_, rfl, _, _, _, rfl, P.ob, rfl, _, rfl, _, rfl, _, rfl, _, _, _, _, rfl, rfl, .inl (.inl P.rt), atI0 (rn_at (by omega)), _, rfl, _, rfl, _, _, rfl, rfl, _, _, _, .str (rn ns (i + 1)), rfl, rfl, .inl (.inl P.rt), by rw [eu]; exact atI_nat (rn_at hi), p, ch, r, dx, l1, l2, l3, l4, D, ns, i, sa, va, rfl, C0.fr hp hk, P, R.ch i hi, by have := R.n20; omega, fun s v H' P' fr' => ?_⟩
      exact ⟨_, _, _, rfl, P', fun b o e n => fr' _ _ (hk _ _ e n) (ne_of_none e e1) (ne_of_none e f2) (ne_of_none e f3) (ne_of_none e f4)⟩
    · rintro σ H2 ⟨sa, va, v3, rfl, P, hk⟩
      rw [List.length_map] at P
      rw [show ((ns.length : Int) - 1).toNat = ns.length - 1 by omega] at P
      exact k H2 ⟨_, _, _, _, _, _, _, P⟩ hk
end
end Sk

set_option Elab.async false
set_option linter.all false
set_option maxRecDepth 100000
set_option maxHeartbeats 4000000
namespace Sk
open PySem PySem.Spec PyProof.Rows L2
local macro_rules | `(tactic| walk_at "ms") => `(tactic| first | exact .inl ⟨by decide, by decide⟩ | exact .inl ⟨by omega, by omega⟩ | exact .inr ⟨by omega, by omega⟩ | exact wm (by omega) (by omega) | exact log_of (by omega) (by omega) | (show (0:Int) < _; omega) | exact ⟨by decide, by decide, by decide⟩)
abbrev s_law_begins : Stmt := top 23
abbrev s_law_leg_at : Stmt := top 24
abbrev s_law_place_on : Stmt := top 25
abbrev s_law_piece : Stmt := top 26
abbrev s_law_right : Stmt := top 27
abbrev s_law_progress : Stmt := top 28
abbrev s_law_are_numbers : Stmt := top 29
abbrev s_law : Stmt := top 30
def scLine : Scope := match defBody s_law_are_numbers with
  | [.Return (some (.Call _ [.ListComp _ _ sc _] _ _)) _] => sc
  | _ => { kind := .function, names := [], isGenerator := false, isCoroutine := false }
def spLaw (K : PySem.W.Frag) : Sp := fun vs H Q _ => ∃ (a : Addr) (ns : List Int), vs = [.ref a] ∧ SqL K H a (ns.map V.int) ∧ ns.length ≤ 63 ∧ ∀ H', Q (.bl true) H'
structure LA (K : PySem.W.Frag) (C : Addr) (H : Hp) (d c ch ld rl pl : Addr) (D : CD) (nf : Nat → List Str) (rf pf : Nat → Addr) : Prop where
  S : St1 K H d c
  C0 : ChartAt H ch D
  L : LenAt H ld D
  R : ∀ j, j < 2 → Route D (nf j)
  hrl : H rl = some (.lst [.ref (rf 0), .ref (rf 1)])
  hpl : H pl = some (.lst [.ref (pf 0), .ref (pf 1)])
  P : ∀ j, j < 2 → PathAt C H (pf j) D (nf j) (rf j)
  n1 : ch ≠ d
  n2 : D.fx ≠ d
theorem LA.same {K : PySem.W.Frag} {C d c ch ld rl pl : Addr} {H H' : Hp} {D : CD} {nf : Nat → List Str} {rf pf : Nat → Addr} (A : LA K C H d c ch ld rl pl D nf rf pf) (e : Same H H') : LA K C H' d c ch ld rl pl D nf rf pf :=
  { A with S := A.S.same e, C0 := A.C0.same e, L := A.L.same e, hrl := e _ _ A.hrl, hpl := e _ _ A.hpl, P := fun j h => (A.P j h).same e }
theorem LA.keep {K : PySem.W.Frag} {C d c ch ld rl pl : Addr} {H H' : Hp} {D : CD} {nf : Nat → List Str} {rf pf : Nat → Addr} (A : LA K C H d c ch ld rl pl D nf rf pf) (S' : St1 K H' d c) (k : Keep d H H') : LA K C H' d c ch ld rl pl D nf rf pf :=
  { A with S := S', C0 := A.C0.keep A.S k A.n1 A.n2, L := A.L.keep A.S k, hrl := k.l A.S A.hrl, hpl := k.l A.S A.hpl, P := fun j h => (A.P j h).keep A.S k }
theorem two_at (f : Nat → Addr) {j : Nat} (h : j < 2) : atI [V.ref (f 0), V.ref (f 1)] (j : Int) = some (.ref (f j)) := by
  match j, h with
  | 0, _ => rfl
  | 1, _ => rfl
theorem LoT.off {H : Hp} {l p : Addr} {o : HO} {xss : List (List Int)} {ys : List V} (L : LoT H l xss) (hp : H p = some (.lst ys)) (n : l ≠ p) : LoT (upd H p o) l xss := by
  obtain ⟨qs, h1, h2, h3⟩ := L
  exact ⟨qs, by rw [upd_ne n]; exact h1, fun q hq => by rw [upd_ne (ne_of (h2 q hq) hp (by intro z; cases z))]; exact h2 q hq, h3⟩
theorem PathAt.off {C H p D ns r ch E o} (P : PathAt C H p D ns r) (R : Route D ns) (C0 : ChartAt H ch D) {ps : List Addr} (hE : H E = some (.lst (ps.map V.ref))) (hp : ∀ q ∈ ps, ∃ dx fs, H q = some (.ins C dx fs)) : PathAt C (upd H E o) p D ns r := by
  obtain ⟨dx, l1, l2, l3, l4, sa, va, P⟩ := P
  have n2 := R.n2
  have nt : ∀ q xs, H q = some (.tup xs) → q ∉ ps := fun q xs e hq => by
    obtain ⟨_, _, z⟩ := hp q hq
    rw [z] at e
    cases e
  have hd : ∀ l (ys : List V), H l = some (.lst ys) → (∃ y, y ∈ ys ∧ ∀ q, y = .ref q → ∃ xs, H q = some (.tup xs)) → l ≠ E := fun l ys hl ⟨y, hy, z⟩ w => by
    rw [w, hE] at hl
    cases hl
    obtain ⟨q, hq, rfl⟩ := List.mem_map.mp hy
    obtain ⟨xs, hx⟩ := z q rfl
    exact nt q xs hx hq
  have e1 : l1 ≠ E := hd l1 _ P.lg ⟨_, List.mem_map.mpr ⟨0, List.mem_range.mpr (by omega), rfl⟩, fun q hq => by
    obtain ⟨g, hg⟩ := R.ch 0 (by omega)
    rw [hg] at hq
    cases hq
    exact ⟨_, C0.lt g (CD.leg_mem hg).1⟩⟩
  have e2 : l2 ≠ E := hd l2 _ P.st ⟨V.ref (sa[0]'(by have := P.sl; omega)), List.mem_map.mpr ⟨_, List.getElem_mem _, rfl⟩, fun q hq => by cases hq; exact ⟨_, P.sx 0 (by have := P.sl; omega)⟩⟩
  have e3 : l3 ≠ E := hd l3 _ P.ve ⟨V.ref (va[0]'(by have := P.vl; omega)), List.mem_map.mpr ⟨_, List.getElem_mem _, rfl⟩, fun q hq => by cases hq; exact ⟨_, P.vx 0 (by have := P.vl; omega)⟩⟩
  have e4 : l4 ≠ E := hd l4 _ P.bgn ⟨_, List.mem_map.mpr ⟨0, List.mem_range.mpr (by omega), rfl⟩, fun q hq => by cases hq⟩
  have et : ∀ q xs, H q = some (.tup xs) → upd H E o q = some (.tup xs) := fun q xs e => by
    rw [upd_ne (ne_of e hE (by intro z; cases z))]
    exact e
  exact ⟨dx, l1, l2, l3, l4, sa, va, { P with
    ob := by rw [upd_ne (ne_of P.ob hE (by intro z; cases z))]; exact P.ob
    rt := et _ _ P.rt
    lg := by rw [upd_ne e1]; exact P.lg
    st := by rw [upd_ne e2]; exact P.st
    ve := by rw [upd_ne e3]; exact P.ve
    bgn := by rw [upd_ne e4]; exact P.bgn
    sx := fun j h => et _ _ (P.sx j h)
    vx := fun j h => et _ _ (P.vx j h) }⟩
theorem nx_ {D : Ends} {σ : L2.St} {H : Hp} (h : D.nx σ H) : tNext D σ H := h
theorem same_app {H H1 : Hp} {a : Addr} {o : HO} (h : H a = none) (s : Same H H1) : Same H (upd H1 a o) := fun b x e => by
  rw [upd_ne (ne_of_none e h)]
  exact s _ _ e
section
variable {P : Program} {w : World} {K : PySem.W.Frag} {mg : Str → Option Value} {base : Heap}
theorem sc_law_begins : FnScope ["lengths", "route", "begins", "k"] ["lengths", "route"] (defScope s_law_begins) := ⟨rfl, rfl, rfl, by decide +kernel, rfl, by decide +kernel, by decide +kernel⟩
theorem ok_law_begins {f : Addr} {fd : FuncData} (F : Fun K "_law_begins" "_law_begins" s_law_begins f fd) (T : TxtA mg) : FnOk P w K mg base CX0 1 f fd ["lengths", "route"] (spBegins) := by
  refine F.ok sc_law_begins (fun vs H Q E h => ?_) (fun cdv A outer s H vs Q E hr h => ?_)
  · obtain ⟨_, _, _, _, rfl, _⟩ := h
    rfl
  · obtain ⟨ld, r, D, ns, rfl, L, hr0, R, k⟩ := h
    have hu := hu_of hr
    refine ⟨_, (pss_cons (ps_set (i := 2) sc_law_begins.nd rfl (Or.inl rfl) (pe_lst (pa_cons pe_int pa_nil)))
    (pss_cons (ps_for PassesOwn.never rfl (pi_range1 (by rfl) T.range (pa_cons (pe_op op_sub (pe_callB (r := rLenK K) call_len_seq (by rfl) T.len boot_len (pa_cons (pv 1) pa_nil)) pe_int) pa_nil)) (pg_name (i := 3) sc_law_begins.nd rfl (Or.inl rfl))
      (pss_one (ps_expr (pe_bm PySem.F.plainAttrs_list PySem.F.slot_list_append PySem.F.type_list_append mt_append (pv 2) (pa_cons (pe_op op_add (pe_ix (r := rIxL K) ix_list (pv 2) (pv 3) (fun _ _ => rfl)) (pe_dget hu (pv 0) (pe_tup (pa_cons (pe_ix (r := rIxT K) ix_tup (pv 1) (pv 3) (fun _ _ => rfl)) (pa_cons (pe_ix (r := rIxT K) ix_tup (pv 1) (pe_op op_add (pv 3) pe_int) (fun _ _ => rfl)) pa_nil))) (fun _ _ => rfl))) pa_nil)))))
    (pss_one (ps_ret (pv 2))))), ?_⟩
    refine ⟨szOk rfl, fun b hb => ?_⟩
    have sm0 : Same H (upd H b (.lst [.int 0])) := same_new hb
    have n2 := R.n2
    have n20 := R.n20
    refine ⟨_, rfl, _, _, rfl, .inr (.inl (.inl (sm0 _ _ hr0))), _, _, rfl, rfl, ?_⟩
    refine ⟨_, rfl, by rw [List.length_map]; omega, by rw [List.length_map]; omega, for_range (n := (((ns.map V.str).length : Int) - 1).toNat) (fun i σ H2 => ∃ v3, σ = [some (.ref ld), some (.ref r), some (.ref b), v3] ∧ Same H H2 ∧ H2 b = some (.lst (((List.range (i + 1)).map (bg D ns)).map V.int)))
      ⟨none, rfl, sm0, upd_same⟩ ?_ ?_⟩
    · rintro i σ H2 hi ⟨v3, rfl, sm, hB⟩
      have hi : i + 1 < ns.length := by rw [List.length_map] at hi; omega
      have eu : 0 + (i : Int) + 1 = ((i + 1 : Nat) : Int) := by omega
      have hr2 := sm _ _ hr0
      refine ⟨_, rfl, .inl ⟨rfl, _, .inl (.inl hB)⟩, _, rfl, _, rfl, _, _, _, .int (bg D ns i), rfl, rfl, .inl (.inl hB), atI0 (by rw [List.getElem?_map, List.getElem?_map, List.getElem?_range (by omega)]; rfl), _, rfl, _, rfl, _, rfl, _, _, _, _, rfl, rfl, .inl (.inl hr2), atI0 (rn_at (by omega)), _, rfl, _, rfl, _, _, rfl, rfl, _, _, _, .str (rn ns (i + 1)), rfl, rfl, .inl (.inl hr2), by rw [eu]; exact atI_nat (rn_at hi), szOk rfl, fun q hq => ?_⟩
      have L2' := (L.same sm).same (same_new (o := .tup [.str (rn ns i), .str (rn ns (i + 1))]) hq)
      refine ⟨_, _, rfl, L2'.g (R.ch i hi) upd_same, _, _, rfl, rfl, ?_⟩
      refine ⟨_, _, _, rfl, rfl, same_new hq _ _ hB, small1000 (by rw [List.length_map, List.length_map, List.length_range]; omega), ?_⟩
      refine ⟨_, rfl, fun c o e => ?_, ?_⟩
      · rw [upd_ne (ne_of_none e hb)]
        exact same_new hq _ _ (sm _ _ e)
      · rw [upd_same, List.range_succ (n := i + 1), List.map_append, List.map_append]
        rfl
    · rintro σ H2 ⟨v3, rfl, sm, hB⟩
      rw [List.length_map, show ((ns.length : Int) - 1).toNat + 1 = ns.length by omega] at hB
      exact ⟨_, rfl, k b H2 hb sm hB⟩
theorem sc_law_leg_at : FnScope ["begins", "progress", "found", "k"] ["begins", "progress"] (defScope s_law_leg_at) := ⟨rfl, rfl, rfl, by decide +kernel, rfl, by decide +kernel, by decide +kernel⟩
theorem ok_law_leg_at {f : Addr} {fd : FuncData} (F : Fun K "_law_leg_at" "_law_leg_at" s_law_leg_at f fd) (T : TxtA mg) : FnOk P w K mg base CX0 1 f fd ["begins", "progress"] (spLawLegAt) := by
  refine F.ok sc_law_leg_at (fun vs H Q E h => ?_) (fun cdv A outer s H vs Q E hr h => ?_)
  · obtain ⟨_, _, _, _, rfl, _⟩ := h
    rfl
  · obtain ⟨b, x, D, ns, rfl, hb, n2, n20, k⟩ := h
    refine ⟨_, (pss_cons (ps_set (i := 2) sc_law_leg_at.nd rfl (Or.inl rfl) pe_int)
    (pss_cons (ps_for PassesOwn.never rfl (pi_range2 (by rfl) T.range (pa_cons pe_int (pa_cons (pe_op op_sub (pe_callB (r := rLenK K) call_len_seq (by rfl) T.len boot_len (pa_cons (pv 0) pa_nil)) pe_int) pa_nil))) (pg_name (i := 3) sc_law_leg_at.nd rfl (Or.inl rfl))
      (pss_one (ps_if (pt_cmpR op_le (pe_ix (r := rIxL K) ix_list (pv 0) (pv 3) (fun _ _ => rfl)) (pv 1) (nomark _)) (pss_one (ps_set (i := 2) sc_law_leg_at.nd rfl (Or.inl rfl) (pv 3)))
      pss_nil)))
    (pss_one (ps_ret (pv 2))))), ?_⟩
    refine ⟨_, rfl, _, _, rfl, .inl (.inl (.inl hb)), _, _, rfl, rfl, ?_⟩
    rw [bgs_len]
    refine ⟨_, _, rfl, ⟨by omega, by omega, by omega, by omega⟩, for_range (lo := 1) (n := ((ns.length : Int) - 1 - 1).toNat) (fun i σ H2 => ∃ v3, σ = [some (.ref b), some (.int x), some (.int (lat D ns i x : Nat)), v3] ∧ H2 = H)
      ⟨none, rfl, rfl⟩ ?_ ?_⟩
    · rintro i σ H2 hi ⟨v3, rfl, rfl⟩
      have e1 : (1 : Int) + (i : Int) = ((i + 1 : Nat) : Int) := by omega
      refine ⟨_, rfl, _, rfl, _, _, _, .int (bg D ns (i + 1)), rfl, rfl, .inl (.inl hb), by rw [e1]; exact atI_nat (bgs_at (by omega)), _, rfl, _, _, rfl, rfl, _, rfl, ite2 (fun e => ?_) (fun e => ?_)⟩
      · have e := of_decide_eq_true e
        refine ⟨_, rfl, some (.int (1 + (i : Int))), ?_, rfl⟩
        rw [lat_succ, if_pos e, e1]
        rfl
      · have e : ¬ bg D ns (i + 1) ≤ x := fun z => e (decide_eq_true z)
        refine ⟨some (.int (1 + (i : Int))), ?_, rfl⟩
        rw [lat_succ, if_neg e]
        rfl
    · rintro σ H2 ⟨v3, rfl, rfl⟩
      rw [show ((ns.length : Int) - 1 - 1).toNat = ns.length - 1 - 1 by omega]
      exact ⟨_, rfl, k⟩
theorem sc_law_place_on : FnScope ["chart", "route", "begins", "k", "progress", "a", "b", "length", "way"] ["chart", "route", "begins", "k", "progress"] (defScope s_law_place_on) := ⟨rfl, rfl, rfl, by decide +kernel, rfl, by decide +kernel, by decide +kernel⟩
theorem ok_law_place_on {f : Addr} {fd : FuncData} (F : Fun K "_law_place_on" "_law_place_on" s_law_place_on f fd) (T : TxtA mg) : FnOk P w K mg base CX0 1 f fd ["chart", "route", "begins", "k", "progress"] (spPlaceOn) := by
  refine F.ok sc_law_place_on (fun vs H Q E h => ?_) (fun cdv A outer s H vs Q E hr h => ?_)
  · obtain ⟨_, _, _, _, _, _, _, _, rfl, _⟩ := h
    rfl
  · obtain ⟨ch, r, b, z, x, D, ns, j, rfl, rfl, C0, hr0, hb, R, hj, k⟩ := h
    have hu := hu_of hr
    refine ⟨_, (pss_cons (ps_set (i := 5) sc_law_place_on.nd rfl (Or.inl rfl) (pe_dget hu (pe_dget hu (pv 0) pe_str (fun _ _ => rfl)) (pe_ix (r := rIxT K) ix_tup (pv 1) (pv 3) (fun _ _ => rfl)) (fun _ _ => rfl)))
    (pss_cons (ps_set (i := 6) sc_law_place_on.nd rfl (Or.inl rfl) (pe_dget hu (pe_dget hu (pv 0) pe_str (fun _ _ => rfl)) (pe_ix (r := rIxT K) ix_tup (pv 1) (pe_op op_add (pv 3) pe_int) (fun _ _ => rfl)) (fun _ _ => rfl)))
    (pss_cons (ps_set (i := 7) sc_law_place_on.nd rfl (Or.inl rfl) (pe_op op_sub (pe_ix (r := rIxL K) ix_list (pv 2) (pe_op op_add (pv 3) pe_int) (fun _ _ => rfl)) (pe_ix (r := rIxL K) ix_list (pv 2) (pv 3) (fun _ _ => rfl))))
    (pss_cons (ps_set (i := 8) sc_law_place_on.nd rfl (Or.inl rfl) (pe_op op_sub (pv 4) (pe_ix (r := rIxL K) ix_list (pv 2) (pv 3) (fun _ _ => rfl))))
    (pss_one (ps_ret (pe_tup (pa_cons (pe_op op_add (pe_op op_mul (pe_ix (r := rIxT K) ix_tup (pv 5) pe_int (fun _ _ => rfl)) (pv 7)) (pe_op op_mul (pe_op op_sub (pe_ix (r := rIxT K) ix_tup (pv 6) pe_int (fun _ _ => rfl)) (pe_ix (r := rIxT K) ix_tup (pv 5) pe_int (fun _ _ => rfl))) (pv 8))) (pa_cons (pe_op op_add (pe_op op_mul (pe_ix (r := rIxT K) ix_tup (pv 5) pe_int (fun _ _ => rfl)) (pv 7)) (pe_op op_mul (pe_op op_sub (pe_ix (r := rIxT K) ix_tup (pv 6) pe_int (fun _ _ => rfl)) (pe_ix (r := rIxT K) ix_tup (pv 5) pe_int (fun _ _ => rfl))) (pv 8))) (pa_cons (pv 7) pa_nil)))))))))), ?_⟩
    obtain ⟨⟨a1, x1, y1, h1⟩, a2, x2, y2, h2⟩ := R.pt C0 hj
    obtain ⟨p1, p2, p3, p4, p5, p6⟩ := C0.pf _ _ _ _ h1
    obtain ⟨q1, q2, q3, q4, q5, q6⟩ := C0.pf _ _ _ _ h2
    have eu : (j : Int) + 1 = ((j + 1 : Nat) : Int) := by omega
    refine ⟨_, rfl, _, _, rfl, C0.gf, _, rfl, _, rfl, _, _, _, _, rfl, rfl, .inl (.inl hr0), atI_nat (rn_at (by omega)), _, _, rfl, C0.gp h1, ?_⟩
    refine ⟨_, rfl, _, _, rfl, C0.gf, _, rfl, _, rfl, _, _, rfl, rfl, _, _, _, .str (rn ns (j + 1)), rfl, rfl, .inl (.inl hr0), by rw [eu]; exact atI_nat (rn_at hj), _, _, rfl, C0.gp h2, ?_⟩
    refine ⟨_, rfl, _, rfl, _, _, rfl, rfl, _, _, _, .int (bg D ns (j + 1)), rfl, rfl, .inl (.inl hb), by rw [eu]; exact atI_nat (bgs_at hj), _, rfl, _, rfl, _, _, _, .int (bg D ns j), rfl, rfl, .inl (.inl hb), atI_nat (bgs_at (by omega)), _, _, rfl, rfl, ?_⟩
    refine ⟨_, rfl, _, rfl, _, rfl, _, _, _, .int (bg D ns j), rfl, rfl, .inl (.inl hb), atI_nat (bgs_at (by omega)), _, _, rfl, rfl, ?_⟩
    refine nm ?_
    dsimp only
    have el : bg D ns (j + 1) - bg D ns j = D.len (rn ns j) (rn ns (j + 1)) := by
      show bg D ns j + D.len (rn ns j) (rn ns (j + 1)) - bg D ns j = _
      omega
    rw [el]
    refine ⟨_, rfl, _, _, _, _, rfl, rfl, (.inl (.inl p2)), rfl, _, rfl, _, _, rfl, rfl, (by walk_at "ms"), _, rfl, _, _, _, _, rfl, rfl, (.inl (.inl q2)), rfl, _, rfl, _, _, _, _, rfl, rfl, (.inl (.inl p2)), rfl, _, _, rfl, rfl, _, rfl, _, _, rfl, rfl, (by walk_at "ms"), _, _, rfl, rfl, _, rfl, _, _, _, _, rfl, rfl, (.inl (.inl p2)), rfl, _, rfl, _, _, rfl, rfl, (by walk_at "ms"), _, rfl, _, _, _, _, rfl, rfl, (.inl (.inl q2)), rfl, _, rfl, _, _, _, _, rfl, rfl, (.inl (.inl p2)), rfl, _, _, rfl, rfl, _, rfl, _, _, rfl, rfl, (by walk_at "ms"), _, _, rfl, rfl, _, rfl, ?_⟩
    refine ⟨szOk rfl, fun q hq => k q _ hq (same_new hq) ?_⟩
    rw [upd_same]
    unfold plc
    rw [CD.xy_eq h1, CD.xy_eq h2]
    rfl
theorem sc_law_piece : FnScope ["chart", "route", "begins", "low", "high", "total", "first", "last", "place", "line", "k", "start", "end", "a", "b"] ["chart", "route", "begins", "low", "high"] (defScope s_law_piece) := ⟨rfl, rfl, rfl, by decide +kernel, rfl, by decide +kernel, by decide +kernel⟩
theorem ok_law_piece {f : Addr} {fd : FuncData} (F : Fun K "_law_piece" "_law_piece" s_law_piece f fd) (T : TxtA mg)
    (D_law_place_on : Def P w K mg base 1 "_law_place_on" ["chart", "route", "begins", "k", "progress"] (spPlaceOn))
    (D_law_leg_at : Def P w K mg base 1 "_law_leg_at" ["begins", "progress"] (spLawLegAt)) : FnOk P w K mg base CX0 2 f fd ["chart", "route", "begins", "low", "high"] (spLawPiece) := by
  refine F.ok sc_law_piece (fun vs H Q E h => ?_) (fun cdv A outer s H vs Q E hr h => ?_)
  · obtain ⟨_, _, _, _, _, _, _, rfl, _⟩ := h
    rfl
  · obtain ⟨ch, r, b, lo0, hi0, D, ns, rfl, C0, hr0, hb, R, hlh, k⟩ := h
    refine ⟨_, (pss_cons (ps_set (i := 5) sc_law_piece.nd rfl (Or.inl rfl) (pe_ix (r := rIxL K) ix_list (pv 2) (pe_op op_sub (pe_callB (r := rLenK K) call_len_seq (by rfl) T.len boot_len (pa_cons (pv 2) pa_nil)) pe_int) (fun _ _ => rfl)))
    (pss_cons (ps_if (PW.pt (pw_or (pt_cmpR op_lt (pv 4) pe_int (nomark _)) (pw_or1 (pt_cmpR op_ge (pv 3) (pv 5) (nomark _))))) (pss_one (ps_ret (pe_lst pa_nil)))
      pss_nil)
    (pss_cons (ps_set (i := 6) sc_law_piece.nd rfl (Or.inl rfl) (pe_callB (call_max2 rfl) (by rfl) T.max boot_max (pa_cons (pv 3) (pa_cons pe_int pa_nil))))
    (pss_cons (ps_set (i := 7) sc_law_piece.nd rfl (Or.inl rfl) (pe_callB (call_min2 rfl) (by rfl) T.min boot_min (pa_cons (pv 4) (pa_cons (pv 5) pa_nil))))
    (pss_cons (ps_if (pt_cmpR op_eq (pv 6) (pv 7) (nomark _)) (pss_cons (ps_set (i := 8) sc_law_piece.nd rfl (Or.inl rfl) (pe_def D_law_place_on (hr.mono (by decide)) (by rfl) (pa_cons (pv 0) (pa_cons (pv 1) (pa_cons (pv 2) (pa_cons (pe_def D_law_leg_at (hr.mono (by decide)) (by rfl) (pa_cons (pv 2) (pa_cons (pv 6) pa_nil))) (pa_cons (pv 6) pa_nil)))))))
    (pss_one (ps_ret (pe_lst (pa_cons (pe_tup (pa_cons (pe_ix (r := rIxT K) ix_tup (pv 8) pe_int (fun _ _ => rfl)) (pa_cons (pe_ix (r := rIxT K) ix_tup (pv 8) pe_int (fun _ _ => rfl)) (pa_cons (pe_ix (r := rIxT K) ix_tup (pv 8) pe_int (fun _ _ => rfl)) (pa_cons (pe_ix (r := rIxT K) ix_tup (pv 8) pe_int (fun _ _ => rfl)) (pa_cons (pe_ix (r := rIxT K) ix_tup (pv 8) pe_int (fun _ _ => rfl)) pa_nil)))))) pa_nil)))))
      pss_nil)
    (pss_cons (ps_set (i := 9) sc_law_piece.nd rfl (Or.inl rfl) (pe_lst pa_nil))
    (pss_cons (ps_for PassesOwn.never rfl (pi_range1 (by rfl) T.range (pa_cons (pe_op op_sub (pe_callB (r := rLenK K) call_len_seq (by rfl) T.len boot_len (pa_cons (pv 1) pa_nil)) pe_int) pa_nil)) (pg_name (i := 10) sc_law_piece.nd rfl (Or.inl rfl))
      (pss_cons (ps_set (i := 11) sc_law_piece.nd rfl (Or.inl rfl) (pe_callB (call_max2 rfl) (by rfl) T.max boot_max (pa_cons (pv 6) (pa_cons (pe_ix (r := rIxL K) ix_list (pv 2) (pv 10) (fun _ _ => rfl)) pa_nil))))
    (pss_cons (ps_set (i := 12) sc_law_piece.nd rfl (Or.inl rfl) (pe_callB (call_min2 rfl) (by rfl) T.min boot_min (pa_cons (pv 7) (pa_cons (pe_ix (r := rIxL K) ix_list (pv 2) (pe_op op_add (pv 10) pe_int) (fun _ _ => rfl)) pa_nil))))
    (pss_one (ps_if (pt_cmpR op_lt (pv 11) (pv 12) (nomark _)) (pss_cons (ps_set (i := 13) sc_law_piece.nd rfl (Or.inl rfl) (pe_def D_law_place_on (hr.mono (by decide)) (by rfl) (pa_cons (pv 0) (pa_cons (pv 1) (pa_cons (pv 2) (pa_cons (pv 10) (pa_cons (pv 11) pa_nil)))))))
    (pss_cons (ps_set (i := 14) sc_law_piece.nd rfl (Or.inl rfl) (pe_def D_law_place_on (hr.mono (by decide)) (by rfl) (pa_cons (pv 0) (pa_cons (pv 1) (pa_cons (pv 2) (pa_cons (pv 10) (pa_cons (pv 12) pa_nil)))))))
    (pss_one (ps_expr (pe_bm PySem.F.plainAttrs_list PySem.F.slot_list_append PySem.F.type_list_append mt_append (pv 9) (pa_cons (pe_tup (pa_cons (pe_ix (r := rIxT K) ix_tup (pv 13) pe_int (fun _ _ => rfl)) (pa_cons (pe_ix (r := rIxT K) ix_tup (pv 13) pe_int (fun _ _ => rfl)) (pa_cons (pe_ix (r := rIxT K) ix_tup (pv 14) pe_int (fun _ _ => rfl)) (pa_cons (pe_ix (r := rIxT K) ix_tup (pv 14) pe_int (fun _ _ => rfl)) (pa_cons (pe_ix (r := rIxT K) ix_tup (pv 13) pe_int (fun _ _ => rfl)) pa_nil)))))) pa_nil))))))
      pss_nil)))))
    (pss_one (ps_ret (pv 9)))))))))), ?_⟩
    have n2 := R.n2
    have n20 := R.n20
    refine ⟨_, rfl, _, rfl, _, _, rfl, .inl (.inl (.inl hb)), _, _, rfl, rfl, _, _, _, .int (bg D ns (ns.length - 1)), rfl, rfl, .inl (.inl hb), atI_lastn rfl (bgs_last (by omega)), ?_⟩
    have nl0 : ∀ H' : Hp, ∀ q, H q = none → H' = upd H q (.lst []) → (hi0 < 0 ∨ bg D ns (ns.length - 1) ≤ lo0) → Q (.ref q) H' := fun H' q hq e h => by
      subst e
      refine k q _ hq (same_new hq) ?_
      unfold pcs
      dsimp only
      rw [if_pos h]
      exact LoT.nil upd_same
    refine ⟨_, rfl, _, _, rfl, rfl, _, rfl, ite2 (fun e => ?_) (fun e => ?_)⟩
    · have e := of_decide_eq_true e
      exact ⟨szOk rfl, fun q hq => nl0 _ q hq rfl (.inl e)⟩
    have e : ¬ hi0 < 0 := fun z => e (decide_eq_true z)
    refine ⟨_, rfl, _, rfl, _, _, rfl, rfl, _, rfl, ite2 (fun e2 => ?_) (fun e2 => ?_)⟩
    · have e2 := of_decide_eq_true e2
      exact ⟨szOk rfl, fun q hq => nl0 _ q hq rfl (.inr e2)⟩
    have e2 : ¬ bg D ns (ns.length - 1) ≤ lo0 := fun z => e2 (decide_eq_true z)
    have hpc : pcs D ns lo0 hi0 = if (if 0 > lo0 then 0 else lo0) = (if bg D ns (ns.length - 1) < hi0 then bg D ns (ns.length - 1) else hi0) then [seg D ns (lat D ns (ns.length - 1 - 1) (if 0 > lo0 then 0 else lo0)) (if 0 > lo0 then 0 else lo0) (if 0 > lo0 then 0 else lo0)] else segsOf D ns (if 0 > lo0 then 0 else lo0) (if bg D ns (ns.length - 1) < hi0 then bg D ns (ns.length - 1) else hi0) (List.range (ns.length - 1)) := by
      unfold pcs
      dsimp only
      rw [if_neg (by omega)]
    rw [hpc] at k
    refine ⟨_, rfl, _, _, rfl, ?_⟩
    refine ⟨_, rfl, _, rfl, _, _, rfl, ?_⟩
    refine nm ?_
    dsimp only
    generalize (if 0 > lo0 then 0 else lo0) = f1 at *
    generalize (if bg D ns (ns.length - 1) < hi0 then bg D ns (ns.length - 1) else hi0) = l at *
    refine ⟨_, rfl, _, rfl, rfl, _, rfl, ite2 (fun e3 => ?_) (fun e3 => ?_)⟩
    · have e3 := V.int.inj (of_decide_eq_true e3)
      rw [if_pos e3] at k
      obtain ⟨a1, b1, c1⟩ := lat_cases D ns (ns.length - 1 - 1) f1
      refine ⟨_, rfl, _, rfl, _, rfl, _, rfl, _, rfl, b, f1, D, ns, rfl, hb, n2, n20, ?_⟩
      refine ⟨_, rfl, ch, r, b, _, f1, D, ns, lat D ns (ns.length - 1 - 1) f1, rfl, rfl, C0, hr0, hb, R, by omega, fun q1 H1 hq1 sm1 ht1 => ?_⟩
      refine ⟨_, rfl, _, _, _, _, rfl, rfl, .inl (.inl ht1), rfl, _, rfl, _, _, _, _, rfl, rfl, .inl (.inl ht1), rfl, _, rfl, _, _, _, _, rfl, rfl, .inl (.inl ht1), rfl, _, rfl, _, _, _, _, rfl, rfl, .inl (.inl ht1), rfl, _, rfl, _, _, _, _, rfl, rfl, .inl (.inl ht1), rfl, szOk rfl, fun q2 hq2 => ⟨szOk rfl, fun q hq => ?_⟩⟩
      refine k q _ (sm1.free ((same_new hq2).free hq)) (fun b o e => same_new hq _ _ (same_new hq2 _ _ (sm1 _ _ e))) ?_
      exact ⟨[(q2, _)], upd_same, fun z hz => by rw [List.mem_singleton.mp hz]; exact same_new hq _ _ upd_same, rfl⟩
    have e3 : ¬ f1 = l := fun z => e3 (decide_eq_true (congrArg V.int z))
    rw [if_neg e3] at k
    refine ⟨szOk rfl, fun ln hln => ?_⟩
    have sm0 : Same H (upd H ln (.lst [])) := same_new hln
    refine ⟨_, rfl, _, _, rfl, .inr (.inl (.inl (sm0 _ _ hr0))), _, _, rfl, rfl, ?_⟩
    refine ⟨_, rfl, by rw [List.length_map]; omega, by rw [List.length_map]; omega, for_range (n := (((ns.map V.str).length : Int) - 1).toNat) (fun i σ H2 => ∃ v8 v10 v11 v12 v13 v14, σ = [some (.ref ch), some (.ref r), some (.ref b), some (.int lo0), some (.int hi0), some (.int (bg D ns (ns.length - 1))), some (.int f1), some (.int l), v8, some (.ref ln), v10, v11, v12, v13, v14] ∧ Same H H2 ∧ LoT H2 ln (segsOf D ns f1 l (List.range i)))
      ⟨none, none, none, none, none, none, rfl, sm0, LoT.nil upd_same⟩ ?_ ?_⟩
    · rintro i σ H2 hi ⟨v8, v10, v11, v12, v13, v14, rfl, sm, hL⟩
      have hi : i + 1 < ns.length := by rw [List.length_map] at hi; omega
      have eu : 0 + (i : Int) + 1 = ((i + 1 : Nat) : Int) := by omega
      have hb2 := sm _ _ hb
      have hsn : segsOf D ns f1 l (List.range (i + 1)) = segsOf D ns f1 l (List.range i) ++ (match segOf D ns f1 l i with | some x => [x] | none => []) := by
        unfold segsOf
        rw [List.range_succ, List.filterMap_append]
        congr 1
        show List.filterMap (segOf D ns f1 l) [i] = _
        cases e : segOf D ns f1 l i <;> simp [e]
      refine ⟨_, rfl, _, rfl, _, rfl, _, _, _, .int (bg D ns i), rfl, rfl, .inl (.inl hb2), atI0 (bgs_at (by omega)), _, _, rfl, ?_⟩
      refine ⟨_, rfl, _, rfl, _, rfl, _, _, rfl, rfl, _, _, _, .int (bg D ns (i + 1)), rfl, rfl, .inl (.inl hb2), by rw [eu]; exact atI_nat (bgs_at hi), _, _, rfl, ?_⟩
      refine ⟨_, rfl, _, rfl, _, _, rfl, rfl, _, rfl, ite2 (fun e => ?_) (fun e => ?_)⟩
      · have e := of_decide_eq_true e
        have es : segOf D ns f1 l i = some (seg D ns i (if bg D ns i > f1 then bg D ns i else f1) (if bg D ns (i + 1) < l then bg D ns (i + 1) else l)) := by
          unfold segOf
          dsimp only
          rw [if_pos e]
        obtain ⟨ys, hy, hyl⟩ := hL.li
        have hys : ys.length ≤ 100 := by
          rw [hyl]
          have := segsOf_len D ns f1 l (List.range i)
          rw [List.length_range] at this
          omega
        refine ⟨_, rfl, _, rfl, _, rfl, _, rfl, _, rfl, ch, r, b, _, _, D, ns, i, rfl, Int.zero_add _, C0.same sm, sm _ _ hr0, hb2, R, hi, fun q1 H3 hq1 sm1 ht1 => ?_⟩
        have sm3 : Same H H3 := fun b o e => sm1 _ _ (sm _ _ e)
        refine ⟨_, rfl, _, rfl, _, rfl, _, rfl, _, rfl, ch, r, b, _, _, D, ns, i, rfl, Int.zero_add _, C0.same sm3, sm3 _ _ hr0, sm1 _ _ hb2, R, hi, fun q2 H4 hq2 sm2 ht2 => ?_⟩
        have ht1' := sm2 _ _ ht1
        have hy4 := sm2 _ _ (sm1 _ _ hy)
        refine ⟨_, rfl, .inl ⟨rfl, _, .inl (.inl hy4)⟩, _, rfl, _, _, _, _, rfl, rfl, .inl (.inl ht1'), rfl, _, rfl, _, _, _, _, rfl, rfl, .inl (.inl ht1'), rfl, _, rfl, _, _, _, _, rfl, rfl, .inl (.inl ht2), rfl, _, rfl, _, _, _, _, rfl, rfl, .inl (.inl ht2), rfl, _, rfl, _, _, _, _, rfl, rfl, .inl (.inl ht1'), rfl, szOk rfl, fun q3 hq3 => ?_⟩
        refine ⟨_, _, _, rfl, rfl, same_new hq3 _ _ hy4, small1000 (by omega), ?_⟩
        refine ⟨_, _, _, _, _, _, rfl, fun b o e => ?_, ?_⟩
        · rw [upd_ne (ne_of_none e hln)]
          exact same_new hq3 _ _ (sm2 _ _ (sm3 _ _ e))
        · rw [hsn, es]
          exact LoT.snoc (((hL.same sm1).same sm2).same (same_new hq3)) (same_new hq3 _ _ hy4) upd_same
      · have e : ¬ _ := fun z => e (decide_eq_true z)
        have es : segOf D ns f1 l i = none := by
          unfold segOf
          dsimp only
          rw [if_neg e]
        refine ⟨_, _, _, _, _, _, rfl, sm, ?_⟩
        rw [hsn, es, List.append_nil]
        exact hL
    · rintro σ H2 ⟨v8, v10, v11, v12, v13, v14, rfl, sm, hL⟩
      refine ⟨_, rfl, k ln H2 hln sm ?_⟩
      rw [List.length_map, show ((ns.length : Int) - 1).toNat = ns.length - 1 by omega] at hL
      exact hL
theorem sc_law_right : FnScope ["path", "chart", "lengths", "route", "begins", "k", "a", "b"] ["path", "chart", "lengths", "route"] (defScope s_law_right) := ⟨rfl, rfl, rfl, by decide +kernel, rfl, by decide +kernel, by decide +kernel⟩
theorem ok_law_right {f : Addr} {fd : FuncData} {C : Addr} (F : Fun K "_law_right" "_law_right" s_law_right f fd) (T : TxtA mg) (Y : PathY K mg C)
    (D_law_begins : Def P w K mg base 1 "_law_begins" ["lengths", "route"] (spBegins))
    (D_law_leg : Def P w K mg base 1 "_law_leg" ["chart", "start", "end"] (spLegS))
    (M_total : MDef P w K mg base 1 C "total" ["self"] (spTotal C))
    (M_route : MDef P w K mg base 1 C "route" ["self"] (spRoute C))
    (M_begin : MDef P w K mg base 1 C "begin" ["self", "index"] (spBegin C))
    (M_leg : MDef P w K mg base 1 C "leg" ["self", "index"] (spLegI C))
    (M_vector : MDef P w K mg base 1 C "vector" ["self", "index"] (spVec C)) : FnOk P w K mg base CX0 2 f fd ["path", "chart", "lengths", "route"] (spRight C) := by
  refine F.ok sc_law_right (fun vs H Q E h => ?_) (fun cdv A outer s H vs Q E hr h => ?_)
  · obtain ⟨_, _, _, _, _, _, rfl, _⟩ := h
    rfl
  · obtain ⟨p, ch, ld, r, D, ns, rfl, PA, C0, L, R, k⟩ := h
    have hu := hu_of hr
    refine ⟨_, (pss_cons (ps_set (i := 4) sc_law_right.nd rfl (Or.inl rfl) (pe_def D_law_begins (hr.mono (by decide)) (by rfl) (pa_cons (pv 2) (pa_cons (pv 3) pa_nil))))
    (pss_cons (ps_if (PW.pt (pw_or (pt_cmpR op_ne (pe_mdef0 M_total Y.cl (hr.mono (by decide)) (pv 0)) (pe_ix (r := rIxL K) ix_list (pv 4) (pe_op op_sub (pe_callB (r := rLenK K) call_len_seq (by rfl) T.len boot_len (pa_cons (pv 4) pa_nil)) pe_int) (fun _ _ => rfl)) (nomark _)) (pw_or1 (pt_cmpR (op_neD hr.units) (pe_mdef0 M_route Y.cl (hr.mono (by decide)) (pv 0)) (pv 3) (nomark _))))) (pss_one (ps_ret pe_bl))
      pss_nil)
    (pss_cons (ps_for PassesOwn.never rfl (pi_range1 (by rfl) T.range (pa_cons (pe_callB (r := rLenK K) call_len_seq (by rfl) T.len boot_len (pa_cons (pv 4) pa_nil)) pa_nil)) (pg_name (i := 5) sc_law_right.nd rfl (Or.inl rfl))
      (pss_one (ps_if (pt_cmpR op_ne (pe_mdef M_begin Y.cl (hr.mono (by decide)) (pv 0) (pa_cons (pv 5) pa_nil)) (pe_ix (r := rIxL K) ix_list (pv 4) (pv 5) (fun _ _ => rfl)) (nomark _)) (pss_one (ps_ret pe_bl))
      pss_nil)))
    (pss_cons (ps_for PassesOwn.never rfl (pi_range1 (by rfl) T.range (pa_cons (pe_op op_sub (pe_callB (r := rLenK K) call_len_seq (by rfl) T.len boot_len (pa_cons (pv 3) pa_nil)) pe_int) pa_nil)) (pg_name (i := 5) sc_law_right.nd rfl (Or.inl rfl))
      (pss_cons (ps_set (i := 6) sc_law_right.nd rfl (Or.inl rfl) (pe_dget hu (pe_dget hu (pv 1) pe_str (fun _ _ => rfl)) (pe_ix (r := rIxT K) ix_tup (pv 3) (pv 5) (fun _ _ => rfl)) (fun _ _ => rfl)))
    (pss_cons (ps_set (i := 7) sc_law_right.nd rfl (Or.inl rfl) (pe_dget hu (pe_dget hu (pv 1) pe_str (fun _ _ => rfl)) (pe_ix (r := rIxT K) ix_tup (pv 3) (pe_op op_add (pv 5) pe_int) (fun _ _ => rfl)) (fun _ _ => rfl)))
    (pss_cons (ps_if (pt_cmpR (op_neD hr.units) (pe_mdef M_leg Y.cl (hr.mono (by decide)) (pv 0) (pa_cons (pv 5) pa_nil)) (pe_def D_law_leg (hr.mono (by decide)) (by rfl) (pa_cons (pv 1) (pa_cons (pe_ix (r := rIxT K) ix_tup (pv 3) (pv 5) (fun _ _ => rfl)) (pa_cons (pe_ix (r := rIxT K) ix_tup (pv 3) (pe_op op_add (pv 5) pe_int) (fun _ _ => rfl)) pa_nil)))) (nomark _)) (pss_one (ps_ret pe_bl))
      pss_nil)
    (pss_one (ps_if (pt_cmpR (op_neD hr.units) (pe_mdef M_vector Y.cl (hr.mono (by decide)) (pv 0) (pa_cons (pv 5) pa_nil)) (pe_tup (pa_cons (pe_op op_sub (pe_ix (r := rIxT K) ix_tup (pv 7) pe_int (fun _ _ => rfl)) (pe_ix (r := rIxT K) ix_tup (pv 6) pe_int (fun _ _ => rfl))) (pa_cons (pe_op op_sub (pe_ix (r := rIxT K) ix_tup (pv 7) pe_int (fun _ _ => rfl)) (pe_ix (r := rIxT K) ix_tup (pv 6) pe_int (fun _ _ => rfl))) (pa_cons (pe_dget hu (pv 2) (pe_tup (pa_cons (pe_ix (r := rIxT K) ix_tup (pv 3) (pv 5) (fun _ _ => rfl)) (pa_cons (pe_ix (r := rIxT K) ix_tup (pv 3) (pe_op op_add (pv 5) pe_int) (fun _ _ => rfl)) pa_nil))) (fun _ _ => rfl)) pa_nil)))) (nomark _)) (pss_one (ps_ret pe_bl))
      pss_nil))))))
    (pss_one (ps_ret pe_bl)))))), ?_⟩
    obtain ⟨dx, l1, l2, l3, l4, sa, va, P⟩ := id PA
    have n2 := R.n2
    have n20 := R.n20
    refine ⟨_, rfl, _, rfl, ld, r, D, ns, rfl, L, P.rt, R, fun b H1 hb sm1 hB => ?_⟩
    have P1 := P.same sm1
    have PA1 := PA.same sm1
    refine ⟨_, rfl, _, _, _, rfl, P1.ob, rfl, p, r, dx, l1, l2, l3, l4, D, ns, _, rfl, P1.ob, P1.bgn, _, rfl, _, rfl, _, _, rfl, .inl (.inl (.inl hB)), _, _, rfl, rfl, _, _, _, .int (bg D ns (ns.length - 1)), rfl, rfl, .inl (.inl hB), atI_lastn rfl (bgs_last (by omega)), rfl, _, rfl, neN rfl ?_⟩
    refine ⟨_, rfl, _, _, _, rfl, P1.ob, rfl, p, r, D, ns, rfl, PA1, _, rfl, _, _, Dp.tup (.inl (.inl P1.rt)) (dpAll_str ns), Dp.tup (.inl (.inl P1.rt)) (dpAll_str ns), sh_str (R.sok C0), sh_str (R.sok C0), _, rfl, eqvN (can_str (R.sok C0)) ?_⟩
    refine ⟨_, rfl, _, _, rfl, .inl (.inl (.inl hB)), ?_⟩
    rw [bgs_len]
    refine ⟨_, rfl, by omega, by omega, for_range (n := ((ns.length : Nat) : Int).toNat) (fun i σ H2 => ∃ v5, σ = [some (.ref p), some (.ref ch), some (.ref ld), some (.ref r), some (.ref b), v5, none, none] ∧ H2 = H1) ⟨none, rfl, rfl⟩ ?_ ?_⟩
    · rintro i σ H2 hi ⟨v5, rfl, rfl⟩
      have hi : i < ns.length := by omega
      refine ⟨_, rfl, _, _, _, rfl, P1.ob, rfl, _, rfl, p, r, D, ns, i, _, rfl, Int.zero_add _, PA1, by omega, _, rfl, _, rfl, _, _, _, .int (bg D ns i), rfl, rfl, .inl (.inl hB), atI0 (bgs_at hi), rfl, _, rfl, neN rfl ?_⟩
      exact ⟨_, rfl, rfl⟩
    rintro σ H2 ⟨v5, rfl, rfl⟩
    refine ⟨_, rfl, _, _, rfl, .inr (.inl (.inl P1.rt)), _, _, rfl, rfl, ?_⟩
    refine ⟨_, rfl, by rw [List.length_map]; omega, by rw [List.length_map]; omega, for_range (n := (((ns.map V.str).length : Int) - 1).toNat) (fun i σ H3 => ∃ v5 v6 v7, σ = [some (.ref p), some (.ref ch), some (.ref ld), some (.ref r), some (.ref b), v5, v6, v7] ∧ Same H2 H3) ⟨_, _, _, rfl, Same.refl _⟩ ?_ ?_⟩
    · rintro i σ H3 hi ⟨v5, v6, v7, rfl, sm⟩
      have hi : i + 1 < ns.length := by rw [List.length_map] at hi; omega
      have eu : 0 + (i : Int) + 1 = ((i + 1 : Nat) : Int) := by omega
      have C3 := (C0.same sm1).same sm
      have P3 := P1.same sm
      have PA3 := PA1.same sm
      have L3 := (L.same sm1).same sm
      obtain ⟨⟨a1, x1, y1, h1⟩, a2, x2, y2, h2⟩ := R.pt C3 hi
      obtain ⟨p1, p2, p3, p4, p5, p6⟩ := C3.pf _ _ _ _ h1
      obtain ⟨q1, q2, q3, q4, q5, q6⟩ := C3.pf _ _ _ _ h2
      obtain ⟨lg, hlg⟩ := R.ch i hi
      obtain ⟨hlm, _, _⟩ := CD.leg_mem hlg
      have hlt := C3.lt lg hlm
      refine ⟨_, rfl, _, _, rfl, C3.gf, _, rfl, _, rfl, _, _, _, _, rfl, rfl, .inl (.inl P3.rt), atI0 (rn_at (by omega)), _, _, rfl, C3.gp h1, ?_⟩
      refine ⟨_, rfl, _, _, rfl, C3.gf, _, rfl, _, rfl, _, _, rfl, rfl, _, _, _, .str (rn ns (i + 1)), rfl, rfl, .inl (.inl P3.rt), by rw [eu]; exact atI_nat (rn_at hi), _, _, rfl, C3.gp h2, ?_⟩
      refine ⟨_, rfl, _, _, _, rfl, P3.ob, rfl, _, rfl, p, r, D, ns, i, _, rfl, Int.zero_add _, PA3, by omega, ?_⟩
      refine ⟨_, rfl, _, rfl, _, rfl, _, _, _, _, rfl, rfl, .inl (.inl P3.rt), atI0 (rn_at (by omega)), _, rfl, _, rfl, _, _, rfl, rfl, _, _, _, .str (rn ns (i + 1)), rfl, rfl, .inl (.inl P3.rt), by rw [eu]; exact atI_nat (rn_at hi), ch, D, rn ns i, rn ns (i + 1), rfl, C3, fun H4 sm4 => ?_⟩
      rw [hlg]
      have hlt4 := sm4 _ _ hlt
      have sk := C0.sk lg hlm
      refine ⟨pdL lg, pdL lg, dp_lg hlt4, dp_lg hlt4, sh_lg sk, sh_lg sk, _, rfl, eqvN (can_lg sk) ?_⟩
      have P4 := P3.same sm4
      have PA4 := PA3.same sm4
      have L4 := L3.same sm4
      have p24 := sm4 _ _ p2
      have q24 := sm4 _ _ q2
      refine ⟨_, rfl, _, _, _, rfl, P4.ob, rfl, _, rfl, p, r, D, ns, i, _, rfl, Int.zero_add _, PA4, by omega, fun vv hvv => ?_⟩
      refine ⟨_, rfl, _, _, _, _, rfl, rfl, .inl (.inl q24), rfl, _, rfl, _, _, _, _, rfl, rfl, .inl (.inl p24), rfl, _, _, rfl, rfl, _, rfl, _, _, _, _, rfl, rfl, .inl (.inl q24), rfl, _, rfl, _, _, _, _, rfl, rfl, .inl (.inl p24), rfl, _, _, rfl, rfl, _, rfl, _, rfl, _, rfl, _, _, _, _, rfl, rfl, .inl (.inl P4.rt), atI0 (rn_at (by omega)), _, rfl, _, rfl, _, _, rfl, rfl, _, _, _, .str (rn ns (i + 1)), rfl, rfl, .inl (.inl P4.rt), by rw [eu]; exact atI_nat (rn_at hi), szOk rfl, fun q5 hq5 => ?_⟩
      have L5 := L4.same (same_new (o := .tup [.str (rn ns i), .str (rn ns (i + 1))]) hq5)
      have hvv5 := same_new (o := .tup [.str (rn ns i), .str (rn ns (i + 1))]) hq5 _ _ hvv
      have sm5 : Same H2 (upd H4 q5 (.tup [.str (rn ns i), .str (rn ns (i + 1))])) := fun b o e => same_new hq5 _ _ (sm4 _ _ (sm _ _ e))
      refine ⟨_, _, rfl, L5.g (R.ch i hi) upd_same, szOk rfl, fun q6 hq6 => ?_⟩
      have hvv6 := same_new (o := .tup [.int (x2 - x1), .int (y2 - y1), .int (D.len (rn ns i) (rn ns (i + 1)))]) hq6 _ _ hvv5
      rw [CD.xy_eq h1, CD.xy_eq h2] at hvv6
      refine ⟨_, _, Dp.tup (.inl (.inl hvv6)) (dpAll_int [x2 - x1, y2 - y1, D.len (rn ns i) (rn ns (i + 1))]), Dp.tup (.inl (.inl upd_same)) (dpAll_int [x2 - x1, y2 - y1, D.len (rn ns i) (rn ns (i + 1))]), rfl, rfl, _, rfl, eqvN rfl ?_⟩
      exact ⟨_, _, _, rfl, fun b o e => same_new hq6 _ _ (sm5 _ _ e)⟩
    rintro σ H3 ⟨v5, v6, v7, rfl, sm⟩
    exact k H3 fun b o e => sm _ _ (sm1 _ _ e)
theorem sc_law_progress : FnScope ["state", "begins", "total", "kind"] ["state", "begins"] (defScope s_law_progress) := ⟨rfl, rfl, rfl, by decide +kernel, rfl, by decide +kernel, by decide +kernel⟩
theorem ok_law_progress {f : Addr} {fd : FuncData} (F : Fun K "_law_progress" "_law_progress" s_law_progress f fd) (T : TxtA mg)
    (D_law_draw : Def P w K mg base 1 "_law_draw" ["state", "bound"] (spDraw K))
    (D_law_pick : Def P w K mg base 2 "_law_pick" ["state", "things"] (spPick K)) : FnOk P w K mg base CX0 3 f fd ["state", "begins"] (spProgress K) := by
  refine F.ok sc_law_progress (fun vs H Q E h => ?_) (fun cdv A outer s H vs Q E hr h => ?_)
  · obtain ⟨_, _, _, _, _, rfl, _⟩ := h
    rfl
  · obtain ⟨d, c, b, D, ns, rfl, S, hb, hB, n2, n20, k⟩ := h
    refine ⟨_, (pss_cons (ps_set (i := 2) sc_law_progress.nd rfl (Or.inl rfl) (pe_ix (r := rIxL K) ix_list (pv 1) (pe_op op_sub (pe_callB (r := rLenK K) call_len_seq (by rfl) T.len boot_len (pa_cons (pv 1) pa_nil)) pe_int) (fun _ _ => rfl)))
    (pss_cons (ps_set (i := 3) sc_law_progress.nd rfl (Or.inl rfl) (pe_def D_law_draw (hr.mono (by decide)) (by rfl) (pa_cons (pv 0) (pa_cons pe_int pa_nil))))
    (pss_cons (ps_if (pt_cmpR op_eq (pv 3) pe_int (nomark _)) (pss_one (ps_ret (pe_op op_sub (pe_def D_law_draw (hr.mono (by decide)) (by rfl) (pa_cons (pv 0) (pa_cons (pe_op op_add (pv 2) pe_int) pa_nil))) pe_int)))
      pss_nil)
    (pss_one (ps_ret (pe_op op_sub (pe_op op_add (pe_def D_law_pick (hr.mono (by decide)) (by rfl) (pa_cons (pv 0) (pa_cons (pv 1) pa_nil))) (pe_def D_law_draw (hr.mono (by decide)) (by rfl) (pa_cons (pv 0) (pa_cons pe_int pa_nil)))) pe_int)))))), ?_⟩
    refine ⟨_, rfl, _, rfl, _, _, rfl, .inl (.inl (.inl hb)), _, _, rfl, rfl, _, _, _, .int (bg D ns (ns.length - 1)), rfl, rfl, .inl (.inl hb), atI_lastn rfl (bgs_last (by omega)), ?_⟩
    have b0 := bg_nn D ns (ns.length - 1)
    have b1 := bg_le hB ns (ns.length - 1)
    refine ⟨_, rfl, d, c, _, rfl, S, by decide, by decide, fun x1 H1 x1a x1b S1 kp1 => ?_⟩
    have hb1 := kp1.l S hb
    refine ⟨_, rfl, rfl, _, rfl, ite2 (fun e => ?_) (fun e => ?_)⟩
    · refine ⟨_, rfl, _, rfl, _, _, rfl, rfl, d, c, _, rfl, S1, by omega, by omega, fun x2 H2 x2a x2b S2 kp2 => ?_⟩
      exact ⟨_, _, rfl, rfl, k _ _ S2 (kp1.trans kp2)⟩
    · refine ⟨_, rfl, _, rfl, d, c, _, _, rfl, S1, .inl (.inl hb1), (fun z => by have e := congrArg List.length z; rw [bgs_len] at e; exact absurd (show ns.length = 0 from e) (by omega)), (by rw [bgs_len]; omega), fun v2 H2 hv2 S2 kp2 => ?_⟩
      obtain ⟨z, _, rfl⟩ := List.mem_map.mp hv2
      refine ⟨_, rfl, d, c, _, rfl, S2, by decide, by decide, fun x3 H3 x3a x3b S3 kp3 => ?_⟩
      exact ⟨_, _, rfl, rfl, _, _, rfl, rfl, k _ _ S3 ((kp1.trans kp2).trans kp3)⟩
theorem sc_law_are_numbers : FnScope ["line", "segment", "number"] ["line"] (defScope s_law_are_numbers) := ⟨rfl, rfl, rfl, by decide +kernel, rfl, by decide +kernel, by decide +kernel⟩
theorem ok_law_are_numbers {f : Addr} {fd : FuncData} (F : Fun K "_law_are_numbers" "_law_are_numbers" s_law_are_numbers f fd) (T : TxtA mg)
    (D_law_is_number : Def P w K mg base 1 "_law_is_number" ["thing"] (spIsNum)) : FnOk P w K mg base CX0 2 f fd ["line"] (spAreNum) := by
  refine F.ok sc_law_are_numbers (fun vs H Q E h => ?_) (fun cdv A outer s H vs Q E hr h => ?_)
  · obtain ⟨_, _, rfl, _⟩ := h
    rfl
  · obtain ⟨l, xss, rfl, L, hn, h5, k⟩ := h
    refine ⟨_, (pss_one (ps_ret (pe_callB (cr_all rfl) (by rfl) T.all boot_all (pa_cons (pe_lc (own := [("segment", 1)]) (g := gName 1) (by rfl) sc_law_are_numbers.nd (pi_list (pv 0)) (blkOk_by (own := [("segment", 1)]) (N := ["line", "segment", "number"]) (sc := defScope s_law_are_numbers) (by decide +kernel)) (fun _ _ _ _ _ => (pg_name (i := 1) sc_law_are_numbers.nd rfl (Or.inl rfl))) (fun _ _ _ _ _ => pts_nil) (fun _ _ _ _ _ => (pe_callB (r := rAll K) (cr_all rfl) (by rfl) T.all boot_all (pa_cons (pe_lc (own := [("number", 2)]) (wi := iTup K (tVar 1)) (g := gName 2) (by rfl) sc_law_are_numbers.nd (pi_tup (pv 1)) (blkOk_by (own := [("number", 2)]) (N := ["line", "segment", "number"]) (sc := scLine) (by decide +kernel)) (fun _ _ _ _ _ => (pg_name (i := 2) sc_law_are_numbers.nd rfl (Or.inl rfl))) (fun _ _ _ _ _ => pts_nil) (fun _ _ _ _ _ => (pe_def D_law_is_number (hr.mono (by decide)) (by rfl) (pa_cons (pv 2) pa_nil)))) pa_nil)))) pa_nil)))), ?_⟩
    obtain ⟨qs, h1, h2, rfl⟩ := L
    rw [List.length_map] at hn
    refine ⟨_, rfl, l, rfl, ⟨_, .inl (.inl h1)⟩, fun E1 hE1 => ?_⟩
    refine lc_list (K := K) (a := l) (xs := qs.map fun q => V.ref q.1) (fun i H' => H' E1 = some (.lst ((List.replicate i true).map V.bl)) ∧ Same H H') ⟨upd_same, same_new hE1⟩ (fun i H' _ ⟨_, e⟩ => .inl (.inl (e _ _ h1))) ?_ ?_
    · rintro i y H' hi ⟨hA, sm⟩
      obtain ⟨q, rfl, hq, hil, _⟩ := getMap hi
      have ht := sm _ _ (h2 q hq)
      have hq5 := h5 q.2 (List.mem_map.mpr ⟨q, hq, rfl⟩)
      refine ⟨rfl, ?_⟩
      refine ⟨_, rfl, q.1, rfl, ⟨_, .inl (.inl ht)⟩, fun E2 hE2 => ?_⟩
      have nE : E1 ≠ E2 := ne_of_none hA hE2
      refine lc_tup (K := K) (a := q.1) (xs := q.2.map V.int) (fun j H3 => H3 = upd H' E2 (.lst ((List.replicate j true).map V.bl))) rfl (fun j H3 _ e => .inl (.inl (by rw [e, upd_ne (ne_of_none ht hE2)]; exact ht))) ?_ ?_
      · rintro j y H3 hj rfl
        obtain ⟨x, rfl, _, hjl, _⟩ := getInt hj
        refine ⟨rfl, ?_⟩
        refine ⟨_, rfl, x, rfl, _, upd_same, (by rw [List.length_map, List.length_replicate]; exact small1000 (by omega)), ?_⟩
        rw [upd_upd, List.replicate_succ', List.map_append]
        rfl
      rintro H3 rfl
      rw [List.length_map]
      refine ⟨E2, _, rfl, .inl (.inl upd_same), ?_⟩
      have er : ∀ n, (List.replicate n true).all id = true := fun n => List.all_eq_true.mpr fun b hb => (List.eq_of_mem_replicate hb)
      rw [er]
      refine ⟨_, by rw [upd_ne nE]; exact hA, (by rw [List.length_map, List.length_replicate]; exact small1000 (by omega)), ?_, fun b o e => ?_⟩
      · rw [upd_same, List.replicate_succ', List.map_append]
        rfl
      · rw [upd_ne (ne_of_none e hE1), upd_ne (fun w => by have := sm _ _ e; rw [w, hE2] at this; cases this)]
        exact sm _ _ e
    rintro H' ⟨hA, sm⟩
    rw [List.length_map] at hA
    refine ⟨E1, _, rfl, .inl (.inl hA), ?_⟩
    have er : ∀ n, (List.replicate n true).all id = true := fun n => List.all_eq_true.mpr fun b hb => (List.eq_of_mem_replicate hb)
    rw [er]
    exact k H' sm
theorem sc_law : FnScope ["script", "state", "chart", "lengths", "routes", "paths", "k", "at", "route", "begins", "one", "other", "low", "high", "leg", "piece", "due"] ["script"] (defScope s_law) := ⟨rfl, rfl, rfl, by decide +kernel, rfl, by decide +kernel, by decide +kernel⟩
theorem ok_law {f : Addr} {fd : FuncData} {C : Addr} (F : Fun K "law" "law" s_law f fd) (T : TxtA mg) (Y : PathY K mg C)
    (D_Path : CDef P w K mg base 5 C "Path" ["self", "chart", "route"] (spPInit C))
    (D_law_start : Def P w K mg base 1 "_law_start" ["script"] (spStart K))
    (D_law_draw : Def P w K mg base 1 "_law_draw" ["state", "bound"] (spDraw K))
    (D_law_pick : Def P w K mg base 2 "_law_pick" ["state", "things"] (spPick K))
    (D_law_chart : Def P w K mg base 4 "_law_chart" ["state", "many", "size"] (spChart K))
    (D_law_lengths : Def P w K mg base 2 "_law_lengths" ["chart"] (spLens))
    (D_law_walk : Def P w K mg base 3 "_law_walk" ["state", "chart", "most"] (spWalk K))
    (D_law_begins : Def P w K mg base 1 "_law_begins" ["lengths", "route"] (spBegins))
    (D_law_leg_at : Def P w K mg base 1 "_law_leg_at" ["begins", "progress"] (spLawLegAt))
    (D_law_place_on : Def P w K mg base 1 "_law_place_on" ["chart", "route", "begins", "k", "progress"] (spPlaceOn))
    (D_law_piece : Def P w K mg base 2 "_law_piece" ["chart", "route", "begins", "low", "high"] (spLawPiece))
    (D_law_right : Def P w K mg base 2 "_law_right" ["path", "chart", "lengths", "route"] (spRight C))
    (D_law_progress : Def P w K mg base 3 "_law_progress" ["state", "begins"] (spProgress K))
    (D_law_are_numbers : Def P w K mg base 2 "_law_are_numbers" ["line"] (spAreNum))
    (M_leg_at : MDef P w K mg base 1 C "leg_at" ["self", "progress"] (spLegAt C))
    (M_place : MDef P w K mg base 2 C "place" ["self", "progress"] (spPlace C))
    (M_piece : MDef P w K mg base 4 C "piece" ["self", "low", "high"] (spPiece C)) : FnOk P w K mg base CX0 8 f fd ["script"] (spLaw K) := by
  refine F.ok sc_law (fun vs H Q E h => ?_) (fun cdv A outer s H vs Q E hr h => ?_)
  · obtain ⟨_, _, rfl, _⟩ := h
    rfl
  · obtain ⟨a, ns0, rfl, hS, hl0, k⟩ := h
    have hu := hu_of hr
    refine ⟨_, (pss_cons (ps_set (i := 1) sc_law.nd rfl (Or.inl rfl) (pe_def D_law_start (hr.mono (by decide)) (by rfl) (pa_cons (pv 0) pa_nil)))
    (pss_cons (ps_set (i := 2) sc_law.nd rfl (Or.inr rfl) (pe_def D_law_chart (hr.mono (by decide)) (by rfl) (pa_cons (pv 1) (pa_cons (pe_op op_add pe_int (pe_def D_law_draw (hr.mono (by decide)) (by rfl) (pa_cons (pv 1) (pa_cons pe_int pa_nil)))) (pa_cons (pe_def D_law_pick (hr.mono (by decide)) (by rfl) (pa_cons (pv 1) (pa_cons (pe_lst (pa_cons pe_int (pa_cons pe_int (pa_cons pe_int pa_nil)))) pa_nil))) pa_nil)))))
    (pss_cons (ps_if (pt_cmpR op_eq (pe_callB (r := rLenK K) call_len_seq (by rfl) T.len boot_len (pa_cons (pe_dget hu (pv 2) pe_str (fun _ _ => rfl)) pa_nil)) pe_int (nomark _)) (pss_one (ps_ret pe_bl))
      pss_nil)
    (pss_cons (ps_set (i := 3) sc_law.nd rfl (Or.inl rfl) (pe_def D_law_lengths (hr.mono (by decide)) (by rfl) (pa_cons (pv 2) pa_nil)))
    (pss_cons (ps_set (i := 4) sc_law.nd rfl (Or.inl rfl) (pe_lst (pa_cons (pe_def D_law_walk (hr.mono (by decide)) (by rfl) (pa_cons (pv 1) (pa_cons (pv 2) (pa_cons pe_int pa_nil)))) (pa_cons (pe_def D_law_walk (hr.mono (by decide)) (by rfl) (pa_cons (pv 1) (pa_cons (pv 2) (pa_cons pe_int pa_nil)))) pa_nil))))
    (pss_cons (ps_setLc (i := 5) (own := [("route", 8)]) (g := gName 8) (by rfl) sc_law.nd rfl rfl (sw_true rfl rfl rfl (by decide +kernel)) (pi_list (pv 4)) (blkOk_by (own := [("route", 8)]) (N := ["script", "state", "chart", "lengths", "routes", "paths", "k", "at", "route", "begins", "one", "other", "low", "high", "leg", "piece", "due"]) (sc := defScope s_law) (by decide +kernel)) (fun _ _ _ _ _ => (pg_name (i := 8) sc_law.nd rfl (Or.inl rfl))) (fun _ _ _ _ _ => pts_nil) (fun _ _ _ _ _ => (pe_cdef D_Path (hr.mono (by decide)) (by rfl) (pa_cons (pv 2) (pa_cons (pv 8) pa_nil)))))
    (pss_cons (ps_for PassesOwn.never rfl (pi_range1 (by rfl) T.range (pa_cons pe_int pa_nil)) (pg_name (i := 6) sc_law.nd rfl (Or.inl rfl))
      (pss_cons (ps_set (i := 7) sc_law.nd rfl (Or.inl rfl) (pe_op op_mod (pe_callTy call_int1 (by rfl) T.int boot_int (pa_cons (pv 6) pa_nil)) pe_int))
    (pss_cons (ps_set (i := 8) sc_law.nd rfl (Or.inl rfl) (pe_ix (r := rIxL K) ix_list (pv 4) (pv 7) (fun _ _ => rfl)))
    (pss_cons (ps_set (i := 9) sc_law.nd rfl (Or.inl rfl) (pe_def D_law_begins (hr.mono (by decide)) (by rfl) (pa_cons (pv 3) (pa_cons (pv 8) pa_nil))))
    (pss_cons (ps_if (pt_not (pt_val (pe_def D_law_right (hr.mono (by decide)) (by rfl) (pa_cons (pe_ix (r := rIxL K) ix_list (pv 5) (pv 7) (fun _ _ => rfl)) (pa_cons (pv 2) (pa_cons (pv 3) (pa_cons (pv 8) pa_nil))))))) (pss_one (ps_ret pe_bl))
      pss_nil)
    (pss_cons (ps_set (i := 10) sc_law.nd rfl (Or.inl rfl) (pe_def D_law_progress (hr.mono (by decide)) (by rfl) (pa_cons (pv 1) (pa_cons (pv 9) pa_nil))))
    (pss_cons (ps_set (i := 11) sc_law.nd rfl (Or.inl rfl) (pe_def D_law_progress (hr.mono (by decide)) (by rfl) (pa_cons (pv 1) (pa_cons (pv 9) pa_nil))))
    (pss_cons (ps_set (i := 12) sc_law.nd rfl (Or.inl rfl) (pe_callB (call_min2 rfl) (by rfl) T.min boot_min (pa_cons (pv 10) (pa_cons (pv 11) pa_nil))))
    (pss_cons (ps_set (i := 13) sc_law.nd rfl (Or.inl rfl) (pe_callB (call_max2 rfl) (by rfl) T.max boot_max (pa_cons (pv 10) (pa_cons (pv 11) pa_nil))))
    (pss_cons (ps_set (i := 14) sc_law.nd rfl (Or.inl rfl) (pe_def D_law_leg_at (hr.mono (by decide)) (by rfl) (pa_cons (pv 9) (pa_cons (pv 10) pa_nil))))
    (pss_cons (ps_if (pt_cmpR op_ne (pe_mdef M_leg_at Y.cl (hr.mono (by decide)) (pe_ix (r := rIxL K) ix_list (pv 5) (pv 7) (fun _ _ => rfl)) (pa_cons (pv 10) pa_nil)) (pv 14) (nomark _)) (pss_one (ps_ret pe_bl))
      pss_nil)
    (pss_cons (ps_if (pt_chain op_le op_le pe_int (pv 10) (pe_ix (r := rIxL K) ix_list (pv 9) (pe_op op_sub (pe_callB (r := rLenK K) call_len_seq (by rfl) T.len boot_len (pa_cons (pv 9) pa_nil)) pe_int) (fun _ _ => rfl))) (pss_one (ps_if (pt_cmpR (op_neD hr.units) (pe_mdef M_place Y.cl (hr.mono (by decide)) (pe_ix (r := rIxL K) ix_list (pv 5) (pv 7) (fun _ _ => rfl)) (pa_cons (pv 10) pa_nil)) (pe_def D_law_place_on (hr.mono (by decide)) (by rfl) (pa_cons (pv 2) (pa_cons (pv 8) (pa_cons (pv 9) (pa_cons (pv 14) (pa_cons (pv 10) pa_nil)))))) (nomark _)) (pss_one (ps_ret pe_bl))
      pss_nil))
      pss_nil)
    (pss_cons (ps_set (i := 15) sc_law.nd rfl (Or.inl rfl) (pe_mdef M_piece Y.cl (hr.mono (by decide)) (pe_ix (r := rIxL K) ix_list (pv 5) (pv 7) (fun _ _ => rfl)) (pa_cons (pv 12) (pa_cons (pv 13) pa_nil))))
    (pss_cons (ps_set (i := 16) sc_law.nd rfl (Or.inl rfl) (pe_def D_law_piece (hr.mono (by decide)) (by rfl) (pa_cons (pv 2) (pa_cons (pv 8) (pa_cons (pv 9) (pa_cons (pv 12) (pa_cons (pv 13) pa_nil)))))))
    (pss_cons (ps_if (PW.pt (pw_or (pt_not (pt_val (pe_callB call_isi (by rfl) T.isinstance boot_isinstance (pa_cons (pv 15) (pa_cons (pe_bltn (v := .ty "list") (by rfl) T.list boot_list rfl) pa_nil))))) (pw_or (pt_cmpR (op_neD hr.units) (pv 15) (pv 16) (nomark _)) (pw_or1 (pt_not (pt_val (pe_def D_law_are_numbers (hr.mono (by decide)) (by rfl) (pa_cons (pv 15) pa_nil)))))))) (pss_one (ps_ret pe_bl))
      pss_nil)
    (pss_cons (ps_expr (pe_bm PySem.F.plainAttrs_list PySem.F.slot_list_append PySem.F.type_list_append mt_append (pv 15) (pa_cons (pe_tup (pa_cons pe_int (pa_cons pe_int (pa_cons pe_int (pa_cons pe_int (pa_cons pe_int pa_nil)))))) pa_nil)))
    (pss_one (ps_if (PW.pt (pw_or (pt_cmpR (op_neD hr.units) (pe_mdef M_piece Y.cl (hr.mono (by decide)) (pe_ix (r := rIxL K) ix_list (pv 5) (pv 7) (fun _ _ => rfl)) (pa_cons (pv 12) (pa_cons (pv 13) pa_nil))) (pv 16) (nomark _)) (pw_or1 (pt_cmpR (op_neD hr.units) (pe_mdef M_piece Y.cl (hr.mono (by decide)) (pe_ix (r := rIxL K) ix_list (pv 5) (pv 7) (fun _ _ => rfl)) (pa_cons (pv 12) (pa_cons (pv 12) pa_nil))) (pe_def D_law_piece (hr.mono (by decide)) (by rfl) (pa_cons (pv 2) (pa_cons (pv 8) (pa_cons (pv 9) (pa_cons (pv 12) (pa_cons (pv 12) pa_nil)))))) (nomark _))))) (pss_one (ps_ret pe_bl))
      pss_nil))))))))))))))))))
    (pss_one (ps_ret pe_bl))))))))), ?_⟩
    refine ⟨_, rfl, a, ns0, rfl, hS, hl0, fun d c H0 hd0 hc0 S0 sm0 => ?_⟩
    refine ⟨_, rfl, _, rfl, d, c, _, rfl, S0, by decide, by decide, fun x1 H1 x1a x1b S1 kp1 => ?_⟩
    refine ⟨_, _, rfl, rfl, _, rfl, szOk rfl, fun p2 hp2 => ?_⟩
    refine ⟨d, c, _, _, rfl, S1.new hp2, .inl (.inl upd_same), (fun z => nomatch z), (by show 3 ≤ 1000; decide), fun v3 H3 hv3 S3 kp3 => ?_⟩
    obtain ⟨x3, rfl, x3a, x3b⟩ : ∃ z : Int, v3 = .int z ∧ 1 ≤ z ∧ z ≤ 9000 := by
      simp only [List.mem_cons, List.not_mem_nil, or_false] at hv3
      rcases hv3 with rfl | rfl | rfl <;> exact ⟨_, rfl, by decide, by decide⟩
    refine ⟨d, c, _, _, rfl, S3, by omega, by omega, by omega, by omega, fun D ch H4 C4 hch hfx S4 kp4 => ?_⟩
    have n1 : ch ≠ d := S3.nd hch
    have n2 : D.fx ≠ d := S3.nd hfx
    refine ⟨_, rfl, _, _, rfl, C4.gl, _, _, rfl, .inl (.inl (.inl C4.lg)), rfl, _, rfl, ite2 (fun e => ?_) (fun e => ?_)⟩
    · exact k H4
    have hne : D.ls ≠ [] := fun z => e (decide_eq_true (by rw [z]; rfl))
    refine ⟨_, rfl, ch, D, rfl, C4, fun ld H5 hld L5 sm5 => ?_⟩
    have S5 := S4.same sm5
    have C5 := C4.same sm5
    refine ⟨_, rfl, _, rfl, d, c, ch, D, _, rfl, S5, C5, n1, n2, hne, by decide, by decide, fun ns1 r1 H6 R1 hr1 hr1' S6 kp6 => ?_⟩
    have C6 := C5.keep S5 kp6 n1 n2
    have L6 := L5.keep S5 kp6
    refine ⟨_, rfl, _, rfl, d, c, ch, D, _, rfl, S6, C6, n1, n2, hne, by decide, by decide, fun ns2 r2 H7 R2 hr2 hr2' S7 kp7 => ?_⟩
    have C7 := C6.keep S6 kp7 n1 n2
    have L7 := L6.keep S6 kp7
    have hq1 := kp7.t S6 hr1'
    refine ⟨szOk rfl, fun rl hrl => ?_⟩
    have S8 := S7.new (o := .lst [.ref r1, .ref r2]) hrl
    have C8 := C7.same (same_new (o := .lst [.ref r1, .ref r2]) hrl)
    have L8 := L7.same (same_new (o := .lst [.ref r1, .ref r2]) hrl)
    have hw1 := same_new (o := .lst [.ref r1, .ref r2]) hrl _ _ hq1
    have hw2 := same_new (o := .lst [.ref r1, .ref r2]) hrl _ _ hr2'
    have hwl : upd H7 rl (.lst [.ref r1, .ref r2]) rl = some (.lst [.ref r1, .ref r2]) := upd_same
    generalize upd H7 rl (.lst [.ref r1, .ref r2]) = H8 at *
    generalize enf : (fun j => if j = 0 then ns1 else ns2 : Nat → List Str) = nf
    generalize erf : (fun j => if j = 0 then r1 else r2 : Nat → Addr) = rf
    have hR : ∀ j, j < 2 → Route D (nf j) := fun j hj => by
      subst enf
      match j, hj with
      | 0, _ => exact R1
      | 1, _ => exact R2
    have hrt : ∀ j, j < 2 → H8 (rf j) = some (.tup ((nf j).map V.str)) := fun j hj => by
      subst enf erf
      match j, hj with
      | 0, _ => exact hw1
      | 1, _ => exact hw2
    have hwl : H8 rl = some (.lst [.ref (rf 0), .ref (rf 1)]) := by subst erf; exact hwl
    clear enf erf hw1 hw2
    refine ⟨_, rfl, rl, rfl, ⟨_, .inl (.inl hwl)⟩, fun E hE => ?_⟩
    refine lc_list (K := K) (a := rl) (xs := [.ref (rf 0), .ref (rf 1)]) (fun i H' => ∃ pf : Nat → Addr, H' E = some (.lst (((List.range i).map pf).map V.ref)) ∧ Same H8 H' ∧ ∀ j, j < i → PathAt C H' (pf j) D (nf j) (rf j)) ⟨rf, upd_same, same_new hE, fun j hj => absurd hj (Nat.not_lt_zero j)⟩ (fun i H' _ ⟨_, _, e, _⟩ => .inl (.inl (e _ _ hwl))) ?_ ?_
    · rintro i y H' hi ⟨pf, hA, sm, hP⟩
      obtain ⟨hi2, rfl⟩ : i < 2 ∧ y = .ref (rf i) := by
        match i, hi with
        | 0, h => exact ⟨by decide, (Option.some.inj h).symm⟩
        | 1, h => exact ⟨by decide, (Option.some.inj h).symm⟩
        | i + 2, h => cases h
      refine ⟨rfl, ?_⟩
      refine ⟨_, rfl, _, rfl, fun q dx hq hdx hqd => ?_⟩
      have smx : Same H' (upd (upd H' dx (.own q)) q (.ins C dx [])) := fun b o e => by
        rw [upd_ne (ne_of_none e hq), upd_ne (ne_of_none e hdx)]
        exact e
      refine ⟨q, ch, rf i, dx, D, nf i, rfl, upd_same, (C8.same sm).same smx, smx _ _ (sm _ _ (hrt i hi2)), hR i hi2, fun H2 PA fr => ⟨rfl, ?_⟩⟩
      have sm2 : Same H' H2 := fun b o e => fr b o (smx _ _ e) (ne_of_none e hq)
      have hA2 := sm2 _ _ hA
      refine ⟨_, hA2, (by rw [List.length_map, List.length_map, List.length_range]; exact small1000 (by omega)), fun j => if j = i then q else pf j, ?_, ?_, ?_⟩
      · rw [upd_same, List.range_succ, List.map_append, List.map_append]
        refine congrArg some (congrArg HO.lst ?_)
        refine congr (congrArg _ ?_) ?_
        · refine congrArg _ (List.map_congr_left fun j hj => ?_)
          have := List.mem_range.mp hj
          rw [if_neg (by omega)]
        · show [V.ref q] = [V.ref (if i = i then q else pf i)]
          rw [if_pos rfl]
      · exact same_app hE fun b o e => sm2 _ _ (sm _ _ e)
      · intro j hj
        have C2 := (C8.same sm).same sm2
        have ins : ∀ z ∈ (List.range i).map pf, ∃ dx fs, H2 z = some (.ins C dx fs) := fun z hz => by
          obtain ⟨u, hu, rfl⟩ := List.mem_map.mp hz
          obtain ⟨_, _, _, _, _, _, _, Z⟩ := hP u (List.mem_range.mp hu)
          exact ⟨_, _, sm2 _ _ Z.ob⟩
        by_cases e : j = i
        · subst e
          simp only [if_true]
          exact PA.off (hR j hi2) C2 hA2 ins
        · simp only [if_neg e]
          exact ((hP j (by omega)).same sm2).off (hR j (by omega)) C2 hA2 ins
    rintro H9 ⟨pf, hpl, sm9, hP⟩
    have A9 : LA K C H9 d c ch ld rl E D nf rf pf := ⟨S8.same sm9, C8.same sm9, L8.same sm9, hR, sm9 _ _ hwl, hpl, hP, n1, n2⟩
    generalize E = pl at A9 ⊢
    clear hpl hP sm9 hwl hrt hE
    refine ⟨_, rfl, by decide, by decide, for_range (n := (6 : Int).toNat) (fun i σ H => ∃ v6 v7 v8 v9 v10 v11 v12 v13 v14 v15 v16, σ = [some (.ref a), some (.ref d), some (.ref ch), some (.ref ld), some (.ref rl), some (.ref pl), v6, v7, v8, v9, v10, v11, v12, v13, v14, v15, v16] ∧ LA K C H d c ch ld rl pl D nf rf pf) ⟨none, none, none, none, none, none, none, none, none, none, none, rfl, A9⟩ ?_ ?_⟩
    rotate_left
    · rintro σ H ⟨v6, v7, v8, v9, v10, v11, v12, v13, v14, v15, v16, rfl, A⟩
      exact k H
    rintro i σ Ha hi ⟨v6, v7, v8, v9, v10, v11, v12, v13, v14, v15, v16, rfl, A⟩
    refine ⟨_, rfl, .inl ⟨_, rfl, _, _, rfl, rfl, (by walk_at "ms"), ?_⟩⟩
    refine nm ?_
    dsimp only
    obtain ⟨j, ej, hj2⟩ : ∃ j : Nat, ((0 : Int) + (i : Int)) % 2 = (j : Int) ∧ j < 2 := ⟨i % 2, by omega, by omega⟩
    rw [ej]
    have Rj := hR j hj2
    have n2' := Rj.n2
    have n20 := Rj.n20
    refine ⟨_, rfl, _, rfl, _, _, _, _, rfl, rfl, .inl (.inl A.hrl), two_at rf hj2, ?_⟩
    have hra : Ha (rf j) = some (.tup ((nf j).map V.str)) := let ⟨_, _, _, _, _, _, _, Z⟩ := A.P j hj2; Z.rt
    refine ⟨_, rfl, _, rfl, ld, rf j, D, nf j, rfl, A.L, hra, Rj, fun b Hb hb smb hB => ?_⟩
    have Ab := A.same smb
    refine ⟨_, rfl, _, rfl, _, _, _, _, rfl, rfl, .inl (.inl Ab.hpl), two_at pf hj2, _, rfl, _, rfl, _, rfl, pf j, ch, ld, rf j, D, nf j, rfl, Ab.P j hj2, Ab.C0, Ab.L, Rj, fun Hc smc => ?_⟩
    have Ac := Ab.same smc
    have hBc := smc _ _ hB
    refine ⟨_, rfl, iteF ?_⟩
    refine ⟨_, rfl, _, rfl, d, c, b, D, nf j, rfl, Ac.S, hBc, Ac.C0.bd, n2', n20, fun one Hd Sd kpd => ?_⟩
    have Ad := Ac.keep Sd kpd
    have hBd := kpd.l Ac.S hBc
    refine ⟨_, rfl, _, rfl, d, c, b, D, nf j, rfl, Ad.S, hBd, Ad.C0.bd, n2', n20, fun other He Se kpe => ?_⟩
    have Ae := Ad.keep Se kpe
    have hBe := kpe.l Ad.S hBd
    have hre : He (rf j) = some (.tup ((nf j).map V.str)) := let ⟨_, _, _, _, _, _, _, Z⟩ := Ae.P j hj2; Z.rt
    refine ⟨_, rfl, _, rfl, _, _, rfl, ?_⟩
    refine ⟨_, rfl, _, rfl, _, _, rfl, ?_⟩
    refine nm ?_
    dsimp only
    have hlh : (if other < one then other else one) ≤ (if other > one then other else one) := by split <;> split <;> omega
    generalize (if other < one then other else one) = lo at *
    generalize (if other > one then other else one) = hi' at *
    refine ⟨_, rfl, _, rfl, b, one, D, nf j, rfl, hBe, n2', n20, ?_⟩
    obtain ⟨dx, l1, l2, l3, l4, sa, va, P⟩ := id (Ae.P j hj2)
    refine ⟨_, rfl, _, rfl, _, _, _, _, rfl, rfl, .inl (.inl Ae.hpl), two_at pf hj2, _, _, _, rfl, P.ob, rfl, _, rfl, pf j, rf j, D, nf j, one, rfl, Ae.P j hj2, n2', n20, _, rfl, rfl, _, rfl, neN rfl ?_⟩
    refine nx_ ?_
    dsimp only
    refine cut (t := tIfS _ _ _) (fun σ' H' => σ' = [some (.ref a), some (.ref d), some (.ref ch), some (.ref ld), some (.ref rl), some (.ref pl), some (.int (0 + (i : Int))), some (.int (j : Int)), some (.ref (rf j)), some (.ref b), some (.int one), some (.int other), some (.int lo), some (.int hi'), some (.int (lat D (nf j) ((nf j).length - 1 - 1) one : Nat)), v15, v16] ∧ Same He H') ?_ ?_
    rotate_left
    · intro nxk
      refine ⟨_, rfl, _, _, rfl, rfl, _, rfl, ite2 (fun e => ?_) (fun e => ?_)⟩
      rotate_left
      · exact ⟨_, rfl, iteF (nxk _ _ ⟨rfl, Same.refl _⟩)⟩
      refine ⟨_, rfl, _, rfl, _, _, rfl, .inl (.inl (.inl hBe)), _, _, rfl, rfl, _, _, _, .int (bg D (nf j) ((nf j).length - 1)), rfl, rfl, .inl (.inl hBe), atI_lastn rfl (bgs_last (by omega)), _, _, rfl, rfl, _, rfl, ite2 (fun e2 => ?_) (fun e2 => ?_)⟩
      rotate_left
      · exact nxk _ _ ⟨rfl, Same.refl _⟩
      refine ⟨_, rfl, _, rfl, _, _, _, _, rfl, rfl, .inl (.inl Ae.hpl), two_at pf hj2, _, _, _, rfl, P.ob, rfl, _, rfl, pf j, rf j, D, nf j, one, rfl, Ae.P j hj2, Ae.C0.bd, n2', n20, fun q5 Hf hq5 smf hf5 => ?_⟩
      have Af := Ae.same smf
      refine ⟨_, rfl, _, rfl, _, rfl, _, rfl, _, rfl, ch, rf j, b, _, one, D, nf j, lat D (nf j) ((nf j).length - 1 - 1) one, rfl, rfl, Af.C0, smf _ _ hre, smf _ _ hBe, Rj, (by have := (lat_cases D (nf j) ((nf j).length - 1 - 1) one).1; omega), fun q6 Hg hq6 smg hg6 => ?_⟩
      refine ⟨_, _, Dp.tup (.inl (.inl (smg _ _ hf5))) (dpAll_int _), Dp.tup (.inl (.inl hg6)) (dpAll_int _), sh_pd _, sh_pd _, _, rfl, eqvN (can_pd _) ?_⟩
      exact nxk _ _ ⟨rfl, fun b o e => smg _ _ (smf _ _ e)⟩
    rintro σ' Hf ⟨rfl, smf⟩
    have Af := Ae.same smf
    have Pf := P.same smf
    have hBf := smf _ _ hBe
    have hrf := smf _ _ hre
    refine ⟨_, rfl, _, rfl, _, _, _, _, rfl, rfl, .inl (.inl Af.hpl), two_at pf hj2, _, _, _, rfl, Pf.ob, rfl, _, rfl, _, rfl, pf j, rf j, D, nf j, lo, hi', rfl, Af.P j hj2, Af.C0.bd, n2', n20, hlh, fun q Hg hq smg Lg => ?_⟩
    have Ag := Af.same smg
    refine ⟨_, rfl, _, rfl, _, rfl, _, rfl, _, rfl, ch, rf j, b, lo, hi', D, nf j, rfl, Ag.C0, smg _ _ hrf, smg _ _ hBf, Rj, hlh, fun q2 Hh hq2 smh Lh => ?_⟩
    have Lg2 := Lg.same smh
    obtain ⟨ys, hys, hyl⟩ := Lg2.li
    have hlen := pcs_len D (nf j) lo hi'
    refine ⟨_, rfl, _, _, _, _, true, rfl, ClsV.ty "list", TyX.base (TyOf.lst hys), kit_ty (by decide +kernel), ?_⟩
    refine ⟨_, rfl, iteF ?_⟩
    refine ⟨_, rfl, _, rfl, _, _, Lg2.dp, Lh.dp, sh_pds _, sh_pds _, _, rfl, eqvN (can_pds _) ?_⟩
    refine ⟨_, rfl, q, pcs D (nf j) lo hi', rfl, Lg2, (by omega), pcs_five D (nf j) lo hi', fun Hi smi => ?_⟩
    refine ⟨_, rfl, iteF ?_⟩
    have hyi := smi _ _ hys
    refine ⟨_, rfl, .inl ⟨rfl, _, .inl (.inl hyi)⟩, szOk rfl, fun t ht => ?_⟩
    refine ⟨_, _, _, rfl, rfl, same_new ht _ _ hyi, small1000 (by omega), ?_⟩
    have nq2 : q2 ≠ q := fun z => by
      obtain ⟨u, hu, _⟩ := Lg.li
      rw [z, hu] at hq2
      cases hq2
    have Lj := ((Lh.same smi).same (same_new (o := .tup [.int 0, .int 0, .int 0, .int 0, .int 1]) ht)).off (o := .lst (ys ++ [.ref t])) (same_new ht _ _ hyi) nq2
    have smj : Same Hf (upd (upd Hi t (.tup [.int 0, .int 0, .int 0, .int 0, .int 1])) q (.lst (ys ++ [.ref t]))) := same_app hq fun b o e => same_new ht _ _ (smi _ _ (smh _ _ (smg _ _ e)))
    generalize upd (upd Hi t (.tup [.int 0, .int 0, .int 0, .int 0, .int 1])) q (.lst (ys ++ [.ref t])) = Hj at *
    have Aj := Af.same smj
    have Pj := Pf.same smj
    refine ⟨_, rfl, _, rfl, _, _, _, _, rfl, rfl, .inl (.inl Aj.hpl), two_at pf hj2, _, _, _, rfl, Pj.ob, rfl, _, rfl, _, rfl, pf j, rf j, D, nf j, lo, hi', rfl, Aj.P j hj2, Aj.C0.bd, n2', n20, hlh, fun q3 Hk hq3 smk Lk => ?_⟩
    have Ak := Aj.same smk
    have Pk := Pj.same smk
    refine ⟨_, rfl, _, _, Lk.dp, (Lj.same smk).dp, sh_pds _, sh_pds _, _, rfl, eqvN (can_pds _) ?_⟩
    refine ⟨_, rfl, _, rfl, _, _, _, _, rfl, rfl, .inl (.inl Ak.hpl), two_at pf hj2, _, _, _, rfl, Pk.ob, rfl, _, rfl, _, rfl, pf j, rf j, D, nf j, lo, lo, rfl, Ak.P j hj2, Ak.C0.bd, n2', n20, Int.le_refl _, fun q4 Hl hq4 sml Ll => ?_⟩
    have Al := Ak.same sml
    refine ⟨_, rfl, _, rfl, _, rfl, _, rfl, _, rfl, ch, rf j, b, lo, lo, D, nf j, rfl, Al.C0, sml _ _ (smk _ _ (smj _ _ hrf)), sml _ _ (smk _ _ (smj _ _ hBf)), Rj, Int.le_refl _, fun q7 Hm hq7 smm Lm => ?_⟩
    refine ⟨_, _, (Ll.same smm).dp, Lm.dp, sh_pds _, sh_pds _, _, rfl, eqvN (can_pds _) ?_⟩
    exact ⟨_, _, _, _, _, _, _, _, _, _, _, rfl, Al.same smm⟩
end
end Sk

set_option Elab.async false
set_option linter.all false
set_option maxRecDepth 100000
set_option maxHeartbeats 4000000
namespace Sk
open PySem PySem.Spec PyProof.Rows L2
/-! the end -/
theorem all_mk {l : PySem.W.OpenLaw} {w : World} {K : PySem.W.Frag} {h : Heap} {mg : Str → Option Value} {fa C f1 f2 f3 f4 f5 f6 f7 f8 f9 f10 f11 f12 f13 f14 f15 f16 f17 f18 f19 f20 f21 f22 f23 f24 f25 f26 f27 f28 f29 f30 f31 f32 f33 f34 f35 f36 : Addr} (X : K.In h) (G : h.Ns mainGlobals mg) (hfa : mg "law" = some (.ref fa))
    {od1 an1 od2 an2 od3 an3 od4 an4 od5 an5 od6 an6 od7 an7 od8 an8 od9 an9 od10 an10 od11 an11 od12 an12 od13 an13 od14 an14 od15 an15 od16 an16 od17 an17 od18 an18 od19 an19 od20 an20 od21 an21 od22 an22 od23 an23 od24 an24 od25 an25 od26 an26 od27 an27 od28 an28 od29 an29 od30 an30 od31 an31 od32 an32 od33 an33 od34 an34 od35 an35 od36 an36 : Option Addr} {sl1 sl2 sl3 sl4 sl5 sl6 sl7 sl8 sl9 sl10 sl11 sl12 sl13 sl14 sl15 sl16 sl17 sl18 sl19 sl20 sl21 sl22 sl23 sl24 sl25 sl26 sl27 sl28 sl29 sl30 sl31 sl32 sl33 sl34 sl35 sl36 : Array (Option Value)} {oc1 kV1 dc1 pm1 cd1 ct1 oc2 kV2 dc2 pm2 cd2 ct2 oc3 kV3 dc3 pm3 cd3 ct3 oc4 kV4 dc4 pm4 cd4 ct4 oc5 kV5 dc5 pm5 cd5 ct5 oc6 kV6 dc6 pm6 cd6 ct6 oc7 kV7 dc7 pm7 cd7 ct7 oc8 kV8 dc8 pm8 cd8 ct8 oc9 kV9 dc9 pm9 cd9 ct9 oc10 kV10 dc10 pm10 cd10 ct10 oc11 kV11 dc11 pm11 cd11 ct11 oc12 kV12 dc12 pm12 cd12 ct12 oc13 kV13 dc13 pm13 cd13 ct13 oc14 kV14 dc14 pm14 cd14 ct14 oc15 kV15 dc15 pm15 cd15 ct15 oc16 kV16 dc16 pm16 cd16 ct16 oc17 kV17 dc17 pm17 cd17 ct17 oc18 kV18 dc18 pm18 cd18 ct18 oc19 kV19 dc19 pm19 cd19 ct19 oc20 kV20 dc20 pm20 cd20 ct20 oc21 kV21 dc21 pm21 cd21 ct21 oc22 kV22 dc22 pm22 cd22 ct22 oc23 kV23 dc23 pm23 cd23 ct23 oc24 kV24 dc24 pm24 cd24 ct24 oc25 kV25 dc25 pm25 cd25 ct25 oc26 kV26 dc26 pm26 cd26 ct26 oc27 kV27 dc27 pm27 cd27 ct27 oc28 kV28 dc28 pm28 cd28 ct28 oc29 kV29 dc29 pm29 cd29 ct29 oc30 kV30 dc30 pm30 cd30 ct30 oc31 kV31 dc31 pm31 cd31 ct31 oc32 kV32 dc32 pm32 cd32 ct32 oc33 kV33 dc33 pm33 cd33 ct33 oc34 kV34 dc34 pm34 cd34 ct34 oc35 kV35 dc35 pm35 cd35 ct35 oc36 kV36 dc36 pm36 cd36 ct36 : Value}
    (aC : PySem.W.nsIn K mainGlobals "Path" = some (some (.ref C))) (pg : PySem.W.plainGet K C Str.empty = true) (hd : PySem.W.hasDictIn K C = true) (po : PySem.W.plainOver K C = true) (sa : PySem.W.findIn K (.ref C) "__setattr__" = some (some (.builtin "object.__setattr__"))) (mk : PySem.W.makesIn K C = true) (kc : PySem.W.keepIn K (.ref C) = true)
    (nA1 : PySem.W.findIn K (.ref C) "_route" = some none) (nA2 : PySem.W.findIn K (.ref C) "_legs" = some none) (nA3 : PySem.W.findIn K (.ref C) "_starts" = some none) (nA4 : PySem.W.findIn K (.ref C) "_vectors" = some none) (nA5 : PySem.W.findIn K (.ref C) "_begins" = some none)
    (a1 : PySem.W.nsIn K mainGlobals "_law_start" = some (some (.ref f1))) (l1 : K.lookup f1 = some ⟨oc1, od1, .func (PySem.W.fnOf "_law_start" "_law_start" (defArgs s_law_start) (defBody s_law_start) (defScope s_law_start) .none kV1 dc1 pm1 an1 cd1 ct1), sl1⟩) (c1 : PySem.W.codeIn K cd1 "_law_start" = true) (k1 : PySem.W.keepIn K (.ref f1) = true)
    (a2 : PySem.W.nsIn K mainGlobals "_law_draw" = some (some (.ref f2))) (l2 : K.lookup f2 = some ⟨oc2, od2, .func (PySem.W.fnOf "_law_draw" "_law_draw" (defArgs s_law_draw) (defBody s_law_draw) (defScope s_law_draw) .none kV2 dc2 pm2 an2 cd2 ct2), sl2⟩) (c2 : PySem.W.codeIn K cd2 "_law_draw" = true) (k2 : PySem.W.keepIn K (.ref f2) = true)
    (a3 : PySem.W.nsIn K mainGlobals "_law_pick" = some (some (.ref f3))) (l3 : K.lookup f3 = some ⟨oc3, od3, .func (PySem.W.fnOf "_law_pick" "_law_pick" (defArgs s_law_pick) (defBody s_law_pick) (defScope s_law_pick) .none kV3 dc3 pm3 an3 cd3 ct3), sl3⟩) (c3 : PySem.W.codeIn K cd3 "_law_pick" = true) (k3 : PySem.W.keepIn K (.ref f3) = true)
    (a4 : PySem.W.nsIn K mainGlobals "_law_is_number" = some (some (.ref f4))) (l4 : K.lookup f4 = some ⟨oc4, od4, .func (PySem.W.fnOf "_law_is_number" "_law_is_number" (defArgs s_law_is_number) (defBody s_law_is_number) (defScope s_law_is_number) .none kV4 dc4 pm4 an4 cd4 ct4), sl4⟩) (c4 : PySem.W.codeIn K cd4 "_law_is_number" = true) (k4 : PySem.W.keepIn K (.ref f4) = true)
    (a5 : PySem.W.nsIn K mainGlobals "root_down" = some (some (.ref f5))) (l5 : K.lookup f5 = some ⟨oc5, od5, .func (PySem.W.fnOf "root_down" "root_down" (defArgs s_root_down) (defBody s_root_down) (defScope s_root_down) .none kV5 dc5 pm5 an5 cd5 ct5), sl5⟩) (c5 : PySem.W.codeIn K cd5 "root_down" = true) (k5 : PySem.W.keepIn K (.ref f5) = true)
    (a6 : PySem.W.nsIn K mainGlobals "root_up" = some (some (.ref f6))) (l6 : K.lookup f6 = some ⟨oc6, od6, .func (PySem.W.fnOf "root_up" "root_up" (defArgs s_root_up) (defBody s_root_up) (defScope s_root_up) .none kV6 dc6 pm6 an6 cd6 ct6), sl6⟩) (c6 : PySem.W.codeIn K cd6 "root_up" = true) (k6 : PySem.W.keepIn K (.ref f6) = true)
    (a7 : PySem.W.nsIn K mainGlobals "leg_length" = some (some (.ref f7))) (l7 : K.lookup f7 = some ⟨oc7, od7, .func (PySem.W.fnOf "leg_length" "leg_length" (defArgs s_leg_length) (defBody s_leg_length) (defScope s_leg_length) .none kV7 dc7 pm7 an7 cd7 ct7), sl7⟩) (c7 : PySem.W.codeIn K cd7 "leg_length" = true) (k7 : PySem.W.keepIn K (.ref f7) = true)
    (a8 : PySem.W.nsIn K mainGlobals "leg_between" = some (some (.ref f8))) (l8 : K.lookup f8 = some ⟨oc8, od8, .func (PySem.W.fnOf "leg_between" "leg_between" (defArgs s_leg_between) (defBody s_leg_between) (defScope s_leg_between) .none kV8 dc8 pm8 an8 cd8 ct8), sl8⟩) (c8 : PySem.W.codeIn K cd8 "leg_between" = true) (k8 : PySem.W.keepIn K (.ref f8) = true)
    (a9 : PySem.W.nsIn K mainGlobals "_law_root_up" = some (some (.ref f9))) (l9 : K.lookup f9 = some ⟨oc9, od9, .func (PySem.W.fnOf "_law_root_up" "_law_root_up" (defArgs s_law_root_up) (defBody s_law_root_up) (defScope s_law_root_up) .none kV9 dc9 pm9 an9 cd9 ct9), sl9⟩) (c9 : PySem.W.codeIn K cd9 "_law_root_up" = true) (k9 : PySem.W.keepIn K (.ref f9) = true)
    (a10 : PySem.W.nsIn K mainGlobals "_law_names" = some (some (.ref f10))) (l10 : K.lookup f10 = some ⟨oc10, od10, .func (PySem.W.fnOf "_law_names" "_law_names" (defArgs s_law_names) (defBody s_law_names) (defScope s_law_names) .none kV10 dc10 pm10 an10 cd10 ct10), sl10⟩) (c10 : PySem.W.codeIn K cd10 "_law_names" = true) (k10 : PySem.W.keepIn K (.ref f10) = true)
    (a11 : PySem.W.nsIn K mainGlobals "_law_legs" = some (some (.ref f11))) (l11 : K.lookup f11 = some ⟨oc11, od11, .func (PySem.W.fnOf "_law_legs" "_law_legs" (defArgs s_law_legs) (defBody s_law_legs) (defScope s_law_legs) .none kV11 dc11 pm11 an11 cd11 ct11), sl11⟩) (c11 : PySem.W.codeIn K cd11 "_law_legs" = true) (k11 : PySem.W.keepIn K (.ref f11) = true)
    (a12 : PySem.W.nsIn K mainGlobals "_law_chart" = some (some (.ref f12))) (l12 : K.lookup f12 = some ⟨oc12, od12, .func (PySem.W.fnOf "_law_chart" "_law_chart" (defArgs s_law_chart) (defBody s_law_chart) (defScope s_law_chart) .none kV12 dc12 pm12 an12 cd12 ct12), sl12⟩) (c12 : PySem.W.codeIn K cd12 "_law_chart" = true) (k12 : PySem.W.keepIn K (.ref f12) = true)
    (a13 : PySem.W.nsIn K mainGlobals "_law_leg" = some (some (.ref f13))) (l13 : K.lookup f13 = some ⟨oc13, od13, .func (PySem.W.fnOf "_law_leg" "_law_leg" (defArgs s_law_leg) (defBody s_law_leg) (defScope s_law_leg) .none kV13 dc13 pm13 an13 cd13 ct13), sl13⟩) (c13 : PySem.W.codeIn K cd13 "_law_leg" = true) (k13 : PySem.W.keepIn K (.ref f13) = true)
    (a14 : PySem.W.nsIn K mainGlobals "_law_lengths" = some (some (.ref f14))) (l14 : K.lookup f14 = some ⟨oc14, od14, .func (PySem.W.fnOf "_law_lengths" "_law_lengths" (defArgs s_law_lengths) (defBody s_law_lengths) (defScope s_law_lengths) .none kV14 dc14 pm14 an14 cd14 ct14), sl14⟩) (c14 : PySem.W.codeIn K cd14 "_law_lengths" = true) (k14 : PySem.W.keepIn K (.ref f14) = true)
    (a15 : PySem.W.nsIn K mainGlobals "_law_walk" = some (some (.ref f15))) (l15 : K.lookup f15 = some ⟨oc15, od15, .func (PySem.W.fnOf "_law_walk" "_law_walk" (defArgs s_law_walk) (defBody s_law_walk) (defScope s_law_walk) .none kV15 dc15 pm15 an15 cd15 ct15), sl15⟩) (c15 : PySem.W.codeIn K cd15 "_law_walk" = true) (k15 : PySem.W.keepIn K (.ref f15) = true)
    (a16 : PySem.W.findIn K (.ref C) "total" = some (some (.ref f16))) (i16 : PySem.W.isFn K (.ref f16) = true) (l16 : K.lookup f16 = some ⟨oc16, od16, .func (PySem.W.fnOf "total" "Path.total" (defArgs s_Path_total) (defBody s_Path_total) (defScope s_Path_total) .none kV16 dc16 pm16 an16 cd16 ct16), sl16⟩) (c16 : PySem.W.codeIn K cd16 "Path.total" = true) (k16 : PySem.W.keepIn K (.ref f16) = true)
    (a17 : PySem.W.findIn K (.ref C) "leg_at" = some (some (.ref f17))) (i17 : PySem.W.isFn K (.ref f17) = true) (l17 : K.lookup f17 = some ⟨oc17, od17, .func (PySem.W.fnOf "leg_at" "Path.leg_at" (defArgs s_Path_leg_at) (defBody s_Path_leg_at) (defScope s_Path_leg_at) .none kV17 dc17 pm17 an17 cd17 ct17), sl17⟩) (c17 : PySem.W.codeIn K cd17 "Path.leg_at" = true) (k17 : PySem.W.keepIn K (.ref f17) = true)
    (a18 : PySem.W.findIn K (.ref C) "begin" = some (some (.ref f18))) (i18 : PySem.W.isFn K (.ref f18) = true) (l18 : K.lookup f18 = some ⟨oc18, od18, .func (PySem.W.fnOf "begin" "Path.begin" (defArgs s_Path_begin) (defBody s_Path_begin) (defScope s_Path_begin) .none kV18 dc18 pm18 an18 cd18 ct18), sl18⟩) (c18 : PySem.W.codeIn K cd18 "Path.begin" = true) (k18 : PySem.W.keepIn K (.ref f18) = true)
    (a19 : PySem.W.findIn K (.ref C) "leg" = some (some (.ref f19))) (i19 : PySem.W.isFn K (.ref f19) = true) (l19 : K.lookup f19 = some ⟨oc19, od19, .func (PySem.W.fnOf "leg" "Path.leg" (defArgs s_Path_leg) (defBody s_Path_leg) (defScope s_Path_leg) .none kV19 dc19 pm19 an19 cd19 ct19), sl19⟩) (c19 : PySem.W.codeIn K cd19 "Path.leg" = true) (k19 : PySem.W.keepIn K (.ref f19) = true)
    (a20 : PySem.W.findIn K (.ref C) "vector" = some (some (.ref f20))) (i20 : PySem.W.isFn K (.ref f20) = true) (l20 : K.lookup f20 = some ⟨oc20, od20, .func (PySem.W.fnOf "vector" "Path.vector" (defArgs s_Path_vector) (defBody s_Path_vector) (defScope s_Path_vector) .none kV20 dc20 pm20 an20 cd20 ct20), sl20⟩) (c20 : PySem.W.codeIn K cd20 "Path.vector" = true) (k20 : PySem.W.keepIn K (.ref f20) = true)
    (a21 : PySem.W.findIn K (.ref C) "route" = some (some (.ref f21))) (i21 : PySem.W.isFn K (.ref f21) = true) (l21 : K.lookup f21 = some ⟨oc21, od21, .func (PySem.W.fnOf "route" "Path.route" (defArgs s_Path_route) (defBody s_Path_route) (defScope s_Path_route) .none kV21 dc21 pm21 an21 cd21 ct21), sl21⟩) (c21 : PySem.W.codeIn K cd21 "Path.route" = true) (k21 : PySem.W.keepIn K (.ref f21) = true)
    (a22 : PySem.W.findIn K (.ref C) "_point" = some (some (.ref f22))) (i22 : PySem.W.isFn K (.ref f22) = true) (l22 : K.lookup f22 = some ⟨oc22, od22, .func (PySem.W.fnOf "_point" "Path._point" (defArgs s_Path__point) (defBody s_Path__point) (defScope s_Path__point) .none kV22 dc22 pm22 an22 cd22 ct22), sl22⟩) (c22 : PySem.W.codeIn K cd22 "Path._point" = true) (k22 : PySem.W.keepIn K (.ref f22) = true)
    (a23 : PySem.W.findIn K (.ref C) "_segment" = some (some (.ref f23))) (i23 : PySem.W.isFn K (.ref f23) = true) (l23 : K.lookup f23 = some ⟨oc23, od23, .func (PySem.W.fnOf "_segment" "Path._segment" (defArgs s_Path__segment) (defBody s_Path__segment) (defScope s_Path__segment) .none kV23 dc23 pm23 an23 cd23 ct23), sl23⟩) (c23 : PySem.W.codeIn K cd23 "Path._segment" = true) (k23 : PySem.W.keepIn K (.ref f23) = true)
    (a24 : PySem.W.findIn K (.ref C) "_segments" = some (some (.ref f24))) (i24 : PySem.W.isFn K (.ref f24) = true) (l24 : K.lookup f24 = some ⟨oc24, od24, .func (PySem.W.fnOf "_segments" "Path._segments" (defArgs s_Path__segments) (defBody s_Path__segments) (defScope s_Path__segments) .none kV24 dc24 pm24 an24 cd24 ct24), sl24⟩) (c24 : PySem.W.codeIn K cd24 "Path._segments" = true) (k24 : PySem.W.keepIn K (.ref f24) = true)
    (a25 : PySem.W.findIn K (.ref C) "place" = some (some (.ref f25))) (i25 : PySem.W.isFn K (.ref f25) = true) (l25 : K.lookup f25 = some ⟨oc25, od25, .func (PySem.W.fnOf "place" "Path.place" (defArgs s_Path_place) (defBody s_Path_place) (defScope s_Path_place) .none kV25 dc25 pm25 an25 cd25 ct25), sl25⟩) (c25 : PySem.W.codeIn K cd25 "Path.place" = true) (k25 : PySem.W.keepIn K (.ref f25) = true)
    (a26 : PySem.W.findIn K (.ref C) "piece" = some (some (.ref f26))) (i26 : PySem.W.isFn K (.ref f26) = true) (l26 : K.lookup f26 = some ⟨oc26, od26, .func (PySem.W.fnOf "piece" "Path.piece" (defArgs s_Path_piece) (defBody s_Path_piece) (defScope s_Path_piece) .none kV26 dc26 pm26 an26 cd26 ct26), sl26⟩) (c26 : PySem.W.codeIn K cd26 "Path.piece" = true) (k26 : PySem.W.keepIn K (.ref f26) = true)
    (a27 : PySem.W.findIn K (.ref C) "_join" = some (some (.ref f27))) (i27 : PySem.W.isFn K (.ref f27) = true) (l27 : K.lookup f27 = some ⟨oc27, od27, .func (PySem.W.fnOf "_join" "Path._join" (defArgs s_Path__join) (defBody s_Path__join) (defScope s_Path__join) .none kV27 dc27 pm27 an27 cd27 ct27), sl27⟩) (c27 : PySem.W.codeIn K cd27 "Path._join" = true) (k27 : PySem.W.keepIn K (.ref f27) = true)
    (a28 : PySem.W.findIn K (.ref C) "__init__" = some (some (.ref f28))) (i28 : PySem.W.isFn K (.ref f28) = true) (l28 : K.lookup f28 = some ⟨oc28, od28, .func (PySem.W.fnOf "__init__" "Path.__init__" (defArgs s_Path___init__) (defBody s_Path___init__) (defScope s_Path___init__) .none kV28 dc28 pm28 an28 cd28 ct28), sl28⟩) (c28 : PySem.W.codeIn K cd28 "Path.__init__" = true) (k28 : PySem.W.keepIn K (.ref f28) = true)
    (a29 : PySem.W.nsIn K mainGlobals "_law_begins" = some (some (.ref f29))) (l29 : K.lookup f29 = some ⟨oc29, od29, .func (PySem.W.fnOf "_law_begins" "_law_begins" (defArgs s_law_begins) (defBody s_law_begins) (defScope s_law_begins) .none kV29 dc29 pm29 an29 cd29 ct29), sl29⟩) (c29 : PySem.W.codeIn K cd29 "_law_begins" = true) (k29 : PySem.W.keepIn K (.ref f29) = true)
    (a30 : PySem.W.nsIn K mainGlobals "_law_leg_at" = some (some (.ref f30))) (l30 : K.lookup f30 = some ⟨oc30, od30, .func (PySem.W.fnOf "_law_leg_at" "_law_leg_at" (defArgs s_law_leg_at) (defBody s_law_leg_at) (defScope s_law_leg_at) .none kV30 dc30 pm30 an30 cd30 ct30), sl30⟩) (c30 : PySem.W.codeIn K cd30 "_law_leg_at" = true) (k30 : PySem.W.keepIn K (.ref f30) = true)
    (a31 : PySem.W.nsIn K mainGlobals "_law_place_on" = some (some (.ref f31))) (l31 : K.lookup f31 = some ⟨oc31, od31, .func (PySem.W.fnOf "_law_place_on" "_law_place_on" (defArgs s_law_place_on) (defBody s_law_place_on) (defScope s_law_place_on) .none kV31 dc31 pm31 an31 cd31 ct31), sl31⟩) (c31 : PySem.W.codeIn K cd31 "_law_place_on" = true) (k31 : PySem.W.keepIn K (.ref f31) = true)
    (a32 : PySem.W.nsIn K mainGlobals "_law_piece" = some (some (.ref f32))) (l32 : K.lookup f32 = some ⟨oc32, od32, .func (PySem.W.fnOf "_law_piece" "_law_piece" (defArgs s_law_piece) (defBody s_law_piece) (defScope s_law_piece) .none kV32 dc32 pm32 an32 cd32 ct32), sl32⟩) (c32 : PySem.W.codeIn K cd32 "_law_piece" = true) (k32 : PySem.W.keepIn K (.ref f32) = true)
    (a33 : PySem.W.nsIn K mainGlobals "_law_right" = some (some (.ref f33))) (l33 : K.lookup f33 = some ⟨oc33, od33, .func (PySem.W.fnOf "_law_right" "_law_right" (defArgs s_law_right) (defBody s_law_right) (defScope s_law_right) .none kV33 dc33 pm33 an33 cd33 ct33), sl33⟩) (c33 : PySem.W.codeIn K cd33 "_law_right" = true) (k33 : PySem.W.keepIn K (.ref f33) = true)
    (a34 : PySem.W.nsIn K mainGlobals "_law_progress" = some (some (.ref f34))) (l34 : K.lookup f34 = some ⟨oc34, od34, .func (PySem.W.fnOf "_law_progress" "_law_progress" (defArgs s_law_progress) (defBody s_law_progress) (defScope s_law_progress) .none kV34 dc34 pm34 an34 cd34 ct34), sl34⟩) (c34 : PySem.W.codeIn K cd34 "_law_progress" = true) (k34 : PySem.W.keepIn K (.ref f34) = true)
    (a35 : PySem.W.nsIn K mainGlobals "_law_are_numbers" = some (some (.ref f35))) (l35 : K.lookup f35 = some ⟨oc35, od35, .func (PySem.W.fnOf "_law_are_numbers" "_law_are_numbers" (defArgs s_law_are_numbers) (defBody s_law_are_numbers) (defScope s_law_are_numbers) .none kV35 dc35 pm35 an35 cd35 ct35), sl35⟩) (c35 : PySem.W.codeIn K cd35 "_law_are_numbers" = true) (k35 : PySem.W.keepIn K (.ref f35) = true)
    (a36 : PySem.W.nsIn K mainGlobals "law" = some (some (.ref f36))) (l36 : K.lookup f36 = some ⟨oc36, od36, .func (PySem.W.fnOf "law" "law" (defArgs s_law) (defBody s_law) (defScope s_law) .none kV36 dc36 pm36 an36 cd36 ct36), sl36⟩) (c36 : PySem.W.codeIn K cd36 "law" = true) (k36 : PySem.W.keepIn K (.ref f36) = true)
    (z1 : PySem.W.nsIn K mainGlobals "abs" = some none) (z2 : PySem.W.nsIn K mainGlobals "int" = some none) (z3 : PySem.W.nsIn K mainGlobals "len" = some none) (z4 : PySem.W.nsIn K mainGlobals "bool" = some none) (z5 : PySem.W.nsIn K mainGlobals "isinstance" = some none) (z6 : PySem.W.nsIn K mainGlobals "max" = some none) (z7 : PySem.W.nsIn K mainGlobals "min" = some none) (z8 : PySem.W.nsIn K mainGlobals "range" = some none) (z9 : PySem.W.nsIn K mainGlobals "tuple" = some none) (z10 : PySem.W.nsIn K mainGlobals "list" = some none) (z11 : PySem.W.nsIn K mainGlobals "sum" = some none) (z12 : PySem.W.nsIn K mainGlobals "any" = some none) (z13 : PySem.W.nsIn K mainGlobals "all" = some none) (z14 : PySem.W.nsIn K mainGlobals "sorted" = some none) (z15 : PySem.W.nsIn K mainGlobals "dict" = some none) (z16 : PySem.W.nsIn K mainGlobals "enumerate" = some none) (yq : PySem.W.nsIn K mainGlobals "isqrt" = some (some (.builtin "math.isqrt"))) :
    ∃ fd : FuncData, (∀ (s : Shared) (v : Value), BindsTo s fd ⟨[v], []⟩ [("script", v)]) ∧ ∀ base : Heap, K.In base → base.Ns mainGlobals mg → FnOk l.prog w K mg base CX0 8 fa fd ["script"] (spLaw K) := by
  have e := hfa.symm.trans (PySem.W.mg_of X G a36)
  cases e
  have F1 := fun_mk (st := s_law_start) l1 c1 k1
  have F2 := fun_mk (st := s_law_draw) l2 c2 k2
  have F3 := fun_mk (st := s_law_pick) l3 c3 k3
  have F4 := fun_mk (st := s_law_is_number) l4 c4 k4
  have F5 := fun_mk (st := s_root_down) l5 c5 k5
  have F6 := fun_mk (st := s_root_up) l6 c6 k6
  have F7 := fun_mk (st := s_leg_length) l7 c7 k7
  have F8 := fun_mk (st := s_leg_between) l8 c8 k8
  have F9 := fun_mk (st := s_law_root_up) l9 c9 k9
  have F10 := fun_mk (st := s_law_names) l10 c10 k10
  have F11 := fun_mk (st := s_law_legs) l11 c11 k11
  have F12 := fun_mk (st := s_law_chart) l12 c12 k12
  have F13 := fun_mk (st := s_law_leg) l13 c13 k13
  have F14 := fun_mk (st := s_law_lengths) l14 c14 k14
  have F15 := fun_mk (st := s_law_walk) l15 c15 k15
  have F16 := fun_mk (st := s_Path_total) l16 c16 k16
  have F17 := fun_mk (st := s_Path_leg_at) l17 c17 k17
  have F18 := fun_mk (st := s_Path_begin) l18 c18 k18
  have F19 := fun_mk (st := s_Path_leg) l19 c19 k19
  have F20 := fun_mk (st := s_Path_vector) l20 c20 k20
  have F21 := fun_mk (st := s_Path_route) l21 c21 k21
  have F22 := fun_mk (st := s_Path__point) l22 c22 k22
  have F23 := fun_mk (st := s_Path__segment) l23 c23 k23
  have F24 := fun_mk (st := s_Path__segments) l24 c24 k24
  have F25 := fun_mk (st := s_Path_place) l25 c25 k25
  have F26 := fun_mk (st := s_Path_piece) l26 c26 k26
  have F27 := fun_mk (st := s_Path__join) l27 c27 k27
  have F28 := fun_mk (st := s_Path___init__) l28 c28 k28
  have F29 := fun_mk (st := s_law_begins) l29 c29 k29
  have F30 := fun_mk (st := s_law_leg_at) l30 c30 k30
  have F31 := fun_mk (st := s_law_place_on) l31 c31 k31
  have F32 := fun_mk (st := s_law_piece) l32 c32 k32
  have F33 := fun_mk (st := s_law_right) l33 c33 k33
  have F34 := fun_mk (st := s_law_progress) l34 c34 k34
  have F35 := fun_mk (st := s_law_are_numbers) l35 c35 k35
  have F36 := fun_mk (st := s_law) l36 c36 k36
  have b1 := F1.binds (ps := ["script"]) fun _ _ _ _ _ _ us hl => match us, hl with | [_], _ => rfl
  have b2 := F2.binds (ps := ["state", "bound"]) fun _ _ _ _ _ _ us hl => match us, hl with | [_, _], _ => rfl
  have b3 := F3.binds (ps := ["state", "things"]) fun _ _ _ _ _ _ us hl => match us, hl with | [_, _], _ => rfl
  have b4 := F4.binds (ps := ["thing"]) fun _ _ _ _ _ _ us hl => match us, hl with | [_], _ => rfl
  have b5 := F5.binds (ps := ["n"]) fun _ _ _ _ _ _ us hl => match us, hl with | [_], _ => rfl
  have b6 := F6.binds (ps := ["n"]) fun _ _ _ _ _ _ us hl => match us, hl with | [_], _ => rfl
  have b7 := F7.binds (ps := ["chart", "start", "end"]) fun _ _ _ _ _ _ us hl => match us, hl with | [_, _, _], _ => rfl
  have b8 := F8.binds (ps := ["chart", "start", "end"]) fun _ _ _ _ _ _ us hl => match us, hl with | [_, _, _], _ => rfl
  have b9 := F9.binds (ps := ["n"]) fun _ _ _ _ _ _ us hl => match us, hl with | [_], _ => rfl
  have b10 := F10.binds (ps := ["state", "many"]) fun _ _ _ _ _ _ us hl => match us, hl with | [_, _], _ => rfl
  have b11 := F11.binds (ps := ["state", "names"]) fun _ _ _ _ _ _ us hl => match us, hl with | [_, _], _ => rfl
  have b12 := F12.binds (ps := ["state", "many", "size"]) fun _ _ _ _ _ _ us hl => match us, hl with | [_, _, _], _ => rfl
  have b13 := F13.binds (ps := ["chart", "start", "end"]) fun _ _ _ _ _ _ us hl => match us, hl with | [_, _, _], _ => rfl
  have b14 := F14.binds (ps := ["chart"]) fun _ _ _ _ _ _ us hl => match us, hl with | [_], _ => rfl
  have b15 := F15.binds (ps := ["state", "chart", "most"]) fun _ _ _ _ _ _ us hl => match us, hl with | [_, _, _], _ => rfl
  have b16 := F16.binds (ps := ["self"]) fun _ _ _ _ _ _ us hl => match us, hl with | [_], _ => rfl
  have b17 := F17.binds (ps := ["self", "progress"]) fun _ _ _ _ _ _ us hl => match us, hl with | [_, _], _ => rfl
  have b18 := F18.binds (ps := ["self", "index"]) fun _ _ _ _ _ _ us hl => match us, hl with | [_, _], _ => rfl
  have b19 := F19.binds (ps := ["self", "index"]) fun _ _ _ _ _ _ us hl => match us, hl with | [_, _], _ => rfl
  have b20 := F20.binds (ps := ["self", "index"]) fun _ _ _ _ _ _ us hl => match us, hl with | [_, _], _ => rfl
  have b21 := F21.binds (ps := ["self"]) fun _ _ _ _ _ _ us hl => match us, hl with | [_], _ => rfl
  have b22 := F22.binds (ps := ["self", "index", "progress"]) fun _ _ _ _ _ _ us hl => match us, hl with | [_, _, _], _ => rfl
  have b23 := F23.binds (ps := ["self", "index", "start", "end"]) fun _ _ _ _ _ _ us hl => match us, hl with | [_, _, _, _], _ => rfl
  have b24 := F24.binds (ps := ["self", "first", "last"]) fun _ _ _ _ _ _ us hl => match us, hl with | [_, _, _], _ => rfl
  have b25 := F25.binds (ps := ["self", "progress"]) fun _ _ _ _ _ _ us hl => match us, hl with | [_, _], _ => rfl
  have b26 := F26.binds (ps := ["self", "low", "high"]) fun _ _ _ _ _ _ us hl => match us, hl with | [_, _, _], _ => rfl
  have b27 := F27.binds (ps := ["self", "chart", "start", "end"]) fun _ _ _ _ _ _ us hl => match us, hl with | [_, _, _, _], _ => rfl
  have b28 := F28.binds (ps := ["self", "chart", "route"]) fun _ _ _ _ _ _ us hl => match us, hl with | [_, _, _], _ => rfl
  have b29 := F29.binds (ps := ["lengths", "route"]) fun _ _ _ _ _ _ us hl => match us, hl with | [_, _], _ => rfl
  have b30 := F30.binds (ps := ["begins", "progress"]) fun _ _ _ _ _ _ us hl => match us, hl with | [_, _], _ => rfl
  have b31 := F31.binds (ps := ["chart", "route", "begins", "k", "progress"]) fun _ _ _ _ _ _ us hl => match us, hl with | [_, _, _, _, _], _ => rfl
  have b32 := F32.binds (ps := ["chart", "route", "begins", "low", "high"]) fun _ _ _ _ _ _ us hl => match us, hl with | [_, _, _, _, _], _ => rfl
  have b33 := F33.binds (ps := ["path", "chart", "lengths", "route"]) fun _ _ _ _ _ _ us hl => match us, hl with | [_, _, _, _], _ => rfl
  have b34 := F34.binds (ps := ["state", "begins"]) fun _ _ _ _ _ _ us hl => match us, hl with | [_, _], _ => rfl
  have b35 := F35.binds (ps := ["line"]) fun _ _ _ _ _ _ us hl => match us, hl with | [_], _ => rfl
  have T : TxtA mg := { abs := PySem.W.mg_none_of X G z1, int := PySem.W.mg_none_of X G z2, len := PySem.W.mg_none_of X G z3, bool := PySem.W.mg_none_of X G z4, isinstance := PySem.W.mg_none_of X G z5, max := PySem.W.mg_none_of X G z6, min := PySem.W.mg_none_of X G z7, range := PySem.W.mg_none_of X G z8, tuple := PySem.W.mg_none_of X G z9, list := PySem.W.mg_none_of X G z10, sum := PySem.W.mg_none_of X G z11, any := PySem.W.mg_none_of X G z12, all := PySem.W.mg_none_of X G z13, sorted := PySem.W.mg_none_of X G z14, dict := PySem.W.mg_none_of X G z15, enumerate := PySem.W.mg_none_of X G z16 }
  have Tq : mg "isqrt" = some (.builtin "math.isqrt") := PySem.W.mg_of X G yq
  have Y : PathY K mg C := ⟨⟨pg, hd, po, sa⟩, nA1, nA2, nA3, nA4, nA5⟩
  refine ⟨PySem.W.fnOf "law" "law" (defArgs s_law) (defBody s_law) (defScope s_law) .none kV36 dc36 pm36 an36 cd36 ct36, fun s v => .of_eq rfl, fun base _ _ => ?_⟩
  have D1 : Def l.prog w K mg base 1 "_law_start" ["script"] (spStart K) := .mk' F1 b1 (PySem.W.mg_of X G a1) (ok_law_start F1 T.toTxt0)
  have D2 : Def l.prog w K mg base 1 "_law_draw" ["state", "bound"] (spDraw K) := .mk' F2 b2 (PySem.W.mg_of X G a2) (ok_law_draw F2 T.toTxt0)
  have D3 : Def l.prog w K mg base 2 "_law_pick" ["state", "things"] (spPick K) := .mk' F3 b3 (PySem.W.mg_of X G a3) (ok_law_pick F3 T.toTxt0 D2)
  have D4 : Def l.prog w K mg base 1 "_law_is_number" ["thing"] (spIsNum) := .mk' F4 b4 (PySem.W.mg_of X G a4) (ok_law_is_number F4 T.toTxt0)
  have D5 : Def l.prog w K mg base 1 "root_down" ["n"] (spDownR) := .mk' F5 b5 (PySem.W.mg_of X G a5) (ok_root_down F5 T Tq)
  have D6 : Def l.prog w K mg base 2 "root_up" ["n"] (spUpR) := .mk' F6 b6 (PySem.W.mg_of X G a6) (ok_root_up F6 T D5)
  have D7 : Def l.prog w K mg base 3 "leg_length" ["chart", "start", "end"] (spLegLen) := .mk' F7 b7 (PySem.W.mg_of X G a7) (ok_leg_length F7 T D6)
  have D8 : Def l.prog w K mg base 1 "leg_between" ["chart", "start", "end"] (spLegBt) := .mk' F8 b8 (PySem.W.mg_of X G a8) (ok_leg_between F8 T)
  have D9 : Def l.prog w K mg base 1 "_law_root_up" ["n"] (spRootR) := .mk' F9 b9 (PySem.W.mg_of X G a9) (ok_law_root_up F9 T)
  have D10 : Def l.prog w K mg base 3 "_law_names" ["state", "many"] (spNames K) := .mk' F10 b10 (PySem.W.mg_of X G a10) (ok_law_names F10 T D2 D3)
  have D11 : Def l.prog w K mg base 3 "_law_legs" ["state", "names"] (spLegs K) := .mk' F11 b11 (PySem.W.mg_of X G a11) (ok_law_legs F11 T D2 D3)
  have D12 : Def l.prog w K mg base 4 "_law_chart" ["state", "many", "size"] (spChart K) := .mk' F12 b12 (PySem.W.mg_of X G a12) (ok_law_chart F12 T D2 D10 D11)
  have D13 : Def l.prog w K mg base 1 "_law_leg" ["chart", "start", "end"] (spLegS) := .mk' F13 b13 (PySem.W.mg_of X G a13) (ok_law_leg F13 T)
  have D14 : Def l.prog w K mg base 2 "_law_lengths" ["chart"] (spLens) := .mk' F14 b14 (PySem.W.mg_of X G a14) (ok_law_lengths F14 T D9)
  have D15 : Def l.prog w K mg base 3 "_law_walk" ["state", "chart", "most"] (spWalk K) := .mk' F15 b15 (PySem.W.mg_of X G a15) (ok_law_walk F15 T D2 D3)
  have D16 : MDef l.prog w K mg base 1 C "total" ["self"] (spTotal C) := ⟨_, _, ok_Path_total F16 T Y, ⟨a16, i16, k16⟩, b16⟩
  have D17 : MDef l.prog w K mg base 1 C "leg_at" ["self", "progress"] (spLegAt C) := ⟨_, _, ok_Path_leg_at F17 T Y, ⟨a17, i17, k17⟩, b17⟩
  have D18 : MDef l.prog w K mg base 1 C "begin" ["self", "index"] (spBegin C) := ⟨_, _, ok_Path_begin F18 T Y, ⟨a18, i18, k18⟩, b18⟩
  have D19 : MDef l.prog w K mg base 1 C "leg" ["self", "index"] (spLegI C) := ⟨_, _, ok_Path_leg F19 T Y, ⟨a19, i19, k19⟩, b19⟩
  have D20 : MDef l.prog w K mg base 1 C "vector" ["self", "index"] (spVec C) := ⟨_, _, ok_Path_vector F20 T Y, ⟨a20, i20, k20⟩, b20⟩
  have D21 : MDef l.prog w K mg base 1 C "route" ["self"] (spRoute C) := ⟨_, _, ok_Path_route F21 T Y, ⟨a21, i21, k21⟩, b21⟩
  have D22 : MDef l.prog w K mg base 1 C "_point" ["self", "index", "progress"] (spPoint C) := ⟨_, _, ok_Path__point F22 T Y, ⟨a22, i22, k22⟩, b22⟩
  have D23 : MDef l.prog w K mg base 2 C "_segment" ["self", "index", "start", "end"] (spSeg C) := ⟨_, _, ok_Path__segment F23 T Y D22, ⟨a23, i23, k23⟩, b23⟩
  have D24 : MDef l.prog w K mg base 3 C "_segments" ["self", "first", "last"] (spSegs C) := ⟨_, _, ok_Path__segments F24 T Y D17 D23, ⟨a24, i24, k24⟩, b24⟩
  have D25 : MDef l.prog w K mg base 2 C "place" ["self", "progress"] (spPlace C) := ⟨_, _, ok_Path_place F25 T Y D17 D22, ⟨a25, i25, k25⟩, b25⟩
  have D26 : MDef l.prog w K mg base 4 C "piece" ["self", "low", "high"] (spPiece C) := ⟨_, _, ok_Path_piece F26 T Y D16 D17 D24 D23, ⟨a26, i26, k26⟩, b26⟩
  have D27 : MDef l.prog w K mg base 4 C "_join" ["self", "chart", "start", "end"] (spJoin C) := ⟨_, _, ok_Path__join F27 T Y D7 D8 D16, ⟨a27, i27, k27⟩, b27⟩
  have DC : CDef l.prog w K mg base 5 C "Path" ["self", "chart", "route"] (spPInit C) := ⟨_, _, ok_Path___init__ F28 T Y D27, ⟨mk, a28, i28, kc⟩, PySem.W.mg_of X G aC, b28⟩
  have D29 : Def l.prog w K mg base 1 "_law_begins" ["lengths", "route"] (spBegins) := .mk' F29 b29 (PySem.W.mg_of X G a29) (ok_law_begins F29 T)
  have D30 : Def l.prog w K mg base 1 "_law_leg_at" ["begins", "progress"] (spLawLegAt) := .mk' F30 b30 (PySem.W.mg_of X G a30) (ok_law_leg_at F30 T)
  have D31 : Def l.prog w K mg base 1 "_law_place_on" ["chart", "route", "begins", "k", "progress"] (spPlaceOn) := .mk' F31 b31 (PySem.W.mg_of X G a31) (ok_law_place_on F31 T)
  have D32 : Def l.prog w K mg base 2 "_law_piece" ["chart", "route", "begins", "low", "high"] (spLawPiece) := .mk' F32 b32 (PySem.W.mg_of X G a32) (ok_law_piece F32 T D31 D30)
  have D33 : Def l.prog w K mg base 2 "_law_right" ["path", "chart", "lengths", "route"] (spRight C) := .mk' F33 b33 (PySem.W.mg_of X G a33) (ok_law_right F33 T Y D29 D13 D16 D21 D18 D19 D20)
  have D34 : Def l.prog w K mg base 3 "_law_progress" ["state", "begins"] (spProgress K) := .mk' F34 b34 (PySem.W.mg_of X G a34) (ok_law_progress F34 T D2 D3)
  have D35 : Def l.prog w K mg base 2 "_law_are_numbers" ["line"] (spAreNum) := .mk' F35 b35 (PySem.W.mg_of X G a35) (ok_law_are_numbers F35 T D4)
  exact ok_law F36 T Y DC D1 D2 D3 D12 D14 D15 D29 D30 D31 D32 D33 D34 D35 D17 D25 D26
theorem walk {l : PySem.W.OpenLaw} {q : Program} {loose : List Str} {XP : (Str → Option Value) → Heap → Prop} {YP : World → Heap → Prop} {d : DefRec} {K : Params → PySem.W.Frag} (hn : l.most = some 63) (hdf : d.params.defaults = [])
    (hY : ∀ (w : World) (h : Heap), YP w h → (K w.params).In h)
    (F : ∀ (w : World) (mg : Str → Option Value) (fa : Addr) (h : Heap), (K w.params).In h → h.Ns mainGlobals mg → mg d.name = some (.ref fa) →
      ∃ fd : FuncData, (∀ (s : Shared) (u : Value), BindsTo s fd ⟨[u], []⟩ [("script", u)]) ∧ ∀ base : Heap, (K w.params).In base → base.Ns mainGlobals mg → FnOk l.prog w (K w.params) mg base CX0 8 fa fd ["script"] (spLaw (K w.params))) :
    PySem.W.WalkO q loose XP YP l.row.toRowW d [] (fun f vs => PySem.call f vs) :=
  L2.walk_of (n := 63) (k := 8) (x := "script") (CX := fun _ => CX0) (sp := fun w => spLaw (K w.params)) hn (by decide) hdf ⟨rfl, by decide, by decide⟩ hY F (fun _ _ a ns hl _ hS => ⟨a, ns, rfl, hS, hl, fun _ => rfl⟩) fun _ _ _ _ _ z => z
end Sk
open PySem PySem.W PyProof.Rows
set_option maxRecDepth 100000 in
set_option maxHeartbeats 0 in
theorem PySem.Challenge.cw_skyapart_k09_paths_holds : PySem.Challenge.rw_skyapart_k09_paths.Holds := by
  w_on; o_law; k_head; (case hw => w_witness2)
  k_fill
  refine Sk.walk (l := PySem.Challenge.rw_skyapart_k09_paths) rfl rfl (fun w h Y => PySem.W.kIn_of Y) ?F
  case F =>
    intro w mg fa h KX G hmg
    refine' Sk.all_mk KX G hmg ?aC ?pg ?hd ?po ?sa ?mk ?kc ?nA1 ?nA2 ?nA3 ?nA4 ?nA5 ?a1 ?l1 ?c1 ?k1 ?a2 ?l2 ?c2 ?k2 ?a3 ?l3 ?c3 ?k3 ?a4 ?l4 ?c4 ?k4 ?a5 ?l5 ?c5 ?k5 ?a6 ?l6 ?c6 ?k6 ?a7 ?l7 ?c7 ?k7 ?a8 ?l8 ?c8 ?k8 ?a9 ?l9 ?c9 ?k9 ?a10 ?l10 ?c10 ?k10 ?a11 ?l11 ?c11 ?k11 ?a12 ?l12 ?c12 ?k12 ?a13 ?l13 ?c13 ?k13 ?a14 ?l14 ?c14 ?k14 ?a15 ?l15 ?c15 ?k15 ?a16 ?i16 ?l16 ?c16 ?k16 ?a17 ?i17 ?l17 ?c17 ?k17 ?a18 ?i18 ?l18 ?c18 ?k18 ?a19 ?i19 ?l19 ?c19 ?k19 ?a20 ?i20 ?l20 ?c20 ?k20 ?a21 ?i21 ?l21 ?c21 ?k21 ?a22 ?i22 ?l22 ?c22 ?k22 ?a23 ?i23 ?l23 ?c23 ?k23 ?a24 ?i24 ?l24 ?c24 ?k24 ?a25 ?i25 ?l25 ?c25 ?k25 ?a26 ?i26 ?l26 ?c26 ?k26 ?a27 ?i27 ?l27 ?c27 ?k27 ?a28 ?i28 ?l28 ?c28 ?k28 ?a29 ?l29 ?c29 ?k29 ?a30 ?l30 ?c30 ?k30 ?a31 ?l31 ?c31 ?k31 ?a32 ?l32 ?c32 ?k32 ?a33 ?l33 ?c33 ?k33 ?a34 ?l34 ?c34 ?k34 ?a35 ?l35 ?c35 ?k35 ?a36 ?l36 ?c36 ?k36 ?z1 ?z2 ?z3 ?z4 ?z5 ?z6 ?z7 ?z8 ?z9 ?z10 ?z11 ?z12 ?z13 ?z14 ?z15 ?z16 ?yq
    (case aC => k_is); (case pg => k_is); (case hd => k_is); (case po => k_is)
    (case sa => k_is); (case mk => k_is); (case kc => k_is); (case nA1 => k_is)
    (case nA2 => k_is); (case nA3 => k_is); (case nA4 => k_is); (case nA5 => k_is)
    (case a1 => k_is); (case l1 => k_is); (case c1 => k_is); (case k1 => k_is)
    (case a2 => k_is); (case l2 => k_is); (case c2 => k_is); (case k2 => k_is)
    (case a3 => k_is); (case l3 => k_is); (case c3 => k_is); (case k3 => k_is)
    (case a4 => k_is); (case l4 => k_is); (case c4 => k_is); (case k4 => k_is)
    (case a5 => k_is); (case l5 => k_is); (case c5 => k_is); (case k5 => k_is)
    (case a6 => k_is); (case l6 => k_is); (case c6 => k_is); (case k6 => k_is)
    (case a7 => k_is); (case l7 => k_is); (case c7 => k_is); (case k7 => k_is)
    (case a8 => k_is); (case l8 => k_is); (case c8 => k_is); (case k8 => k_is)
    (case a9 => k_is); (case l9 => k_is); (case c9 => k_is); (case k9 => k_is)
    (case a10 => k_is); (case l10 => k_is); (case c10 => k_is); (case k10 => k_is)
    (case a11 => k_is); (case l11 => k_is); (case c11 => k_is); (case k11 => k_is)
    (case a12 => k_is); (case l12 => k_is); (case c12 => k_is); (case k12 => k_is)
    (case a13 => k_is); (case l13 => k_is); (case c13 => k_is); (case k13 => k_is)
    (case a14 => k_is); (case l14 => k_is); (case c14 => k_is); (case k14 => k_is)
    (case a15 => k_is); (case l15 => k_is); (case c15 => k_is); (case k15 => k_is)
    (case a16 => k_is); (case i16 => k_is); (case l16 => k_is); (case c16 => k_is)
    (case k16 => k_is); (case a17 => k_is); (case i17 => k_is); (case l17 => k_is)
    (case c17 => k_is); (case k17 => k_is); (case a18 => k_is); (case i18 => k_is)
    (case l18 => k_is); (case c18 => k_is); (case k18 => k_is); (case a19 => k_is)
    (case i19 => k_is); (case l19 => k_is); (case c19 => k_is); (case k19 => k_is)
    (case a20 => k_is); (case i20 => k_is); (case l20 => k_is); (case c20 => k_is)
    (case k20 => k_is); (case a21 => k_is); (case i21 => k_is); (case l21 => k_is)
    (case c21 => k_is); (case k21 => k_is); (case a22 => k_is); (case i22 => k_is)
    (case l22 => k_is); (case c22 => k_is); (case k22 => k_is); (case a23 => k_is)
    (case i23 => k_is); (case l23 => k_is); (case c23 => k_is); (case k23 => k_is)
    (case a24 => k_is); (case i24 => k_is); (case l24 => k_is); (case c24 => k_is)
    (case k24 => k_is); (case a25 => k_is); (case i25 => k_is); (case l25 => k_is)
    (case c25 => k_is); (case k25 => k_is); (case a26 => k_is); (case i26 => k_is)
    (case l26 => k_is); (case c26 => k_is); (case k26 => k_is); (case a27 => k_is)
    (case i27 => k_is); (case l27 => k_is); (case c27 => k_is); (case k27 => k_is)
    (case a28 => k_is); (case i28 => k_is); (case l28 => k_is); (case c28 => k_is)
    (case k28 => k_is); (case a29 => k_is); (case l29 => k_is); (case c29 => k_is)
    (case k29 => k_is); (case a30 => k_is); (case l30 => k_is); (case c30 => k_is)
    (case k30 => k_is); (case a31 => k_is); (case l31 => k_is); (case c31 => k_is)
    (case k31 => k_is); (case a32 => k_is); (case l32 => k_is); (case c32 => k_is)
    (case k32 => k_is); (case a33 => k_is); (case l33 => k_is); (case c33 => k_is)
    (case k33 => k_is); (case a34 => k_is); (case l34 => k_is); (case c34 => k_is)
    (case k34 => k_is); (case a35 => k_is); (case l35 => k_is); (case c35 => k_is)
    (case k35 => k_is); (case a36 => k_is); (case l36 => k_is); (case c36 => k_is)
    (case k36 => k_is); (case z1 => k_is); (case z2 => k_is); (case z3 => k_is)
    (case z4 => k_is); (case z5 => k_is); (case z6 => k_is); (case z7 => k_is)
    (case z8 => k_is); (case z9 => k_is); (case z10 => k_is); (case z11 => k_is)
    (case z12 => k_is); (case z13 => k_is); (case z14 => k_is); (case z15 => k_is)
    (case z16 => k_is); (case yq => k_is)
