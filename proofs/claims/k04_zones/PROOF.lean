import PyProof.Rows.All
import Wide.All
import OpenK.AllK
import Wide.FinOn
import HandS.Base
import HandS.Call
import HandS.List
import HandS.Comp
import HandS.Ends
import HandS.Dict
import HandS.Iter
import HandS.Words
import HandS.WordsList
import HandS.Wide
import HandS.Gcd
import HandS.IsInst
import Flt.RightSqrt
import HandS.GenList
import HandS.AnyAll
import HandS.EndTab
import HandS.Zip
import HandS.Nested
import HandS.Flow
import HandS.EndOwn
import KE.KNest
import HandS.Star
import PySem.Challenge.RW_skyapart_k04_zones
set_option Elab.async false
set_option linter.all false
set_option maxRecDepth 100000
set_option maxHeartbeats 4000000
namespace Sk
open PySem PySem.Spec PyProof.Rows L2

/-! a def of the text, ready to be called by its name -/
structure Def (P : Program) (w : World) (K : PySem.W.Frag) (mg : Str → Option Value) (base : Heap) (k : Nat) (x : Str) (ps : List Str) (sp : Sp) : Prop where
  ex : ∃ (f : Addr) (fd : FuncData), FnOk P w K mg base CX0 k f fd ps sp ∧ mg x = some (.ref f) ∧ PySem.W.keepIn K (.ref f) = true ∧ Binds K fd ps []
theorem Def.mk' {P : Program} {w : World} {K : PySem.W.Frag} {mg : Str → Option Value} {base : Heap} {k : Nat} {x qual : Str} {st : Stmt} {f : Addr} {fd : FuncData} {ps : List Str} {sp : Sp}
    (F : Fun K x qual st f fd) (b : Binds K fd ps []) (m : mg x = some (.ref f)) (G : FnOk P w K mg base CX0 k f fd ps sp) : Def P w K mg base k x ps sp := ⟨f, fd, G, m, F.kp, b⟩
theorem pe_def {X : Cx} {k : Nat} {x : Str} {ps : List Str} {sp : Sp} {p pos : Pos} {e : Expr} {es : List Expr} {t : TA} (D : Def X.prog X.w X.K X.mg X.base k x ps sp) (hr : Room k X.A) (hg : Gl X x)
    (ha : PA X (e :: es) t) (hdb : (x == ("__debug__" : Str)) = false := by decide) (he : starEach (e :: es) X.env = (false, eval e X.env) :: starEach es X.env := by rfl) (hpl : (backTo pos (starEach es X.env)).any (·.1) = false := by rfl) :
    PE X (.Call (.Name x p) (e :: es) [] pos) (tCall sp [] E0 t) := by
  obtain ⟨f, fd, F, m, kp, b⟩ := D.ex
  exact pe_call F hr hg m kp b .nil pass0 ha hdb he hpl
/-- a call's reading: the values of the arguments as they are -/
theorem sp_nil {sp : Sp} {vs : List V} {H : Hp} {Q : VK} {E : XK} (h : sp vs H Q E) : sp (vs ++ []) H Q E := by
  rw [List.append_nil]
  exact h

/-! heaps -/
/-- all but what stands at d is as it was -/
def Keep (d : Addr) (H H' : Hp) : Prop := ∀ c o, H c = some o → c ≠ d → H' c = some o
theorem Keep.refl (d : Addr) (H : Hp) : Keep d H H := fun _ _ h _ => h
theorem Keep.trans {d : Addr} {H H1 H2 : Hp} (a : Keep d H H1) (b : Keep d H1 H2) : Keep d H H2 := fun c o h n => b c o (a c o h n) n
theorem Keep.of {d : Addr} {H H1 : Hp} (a : Same H H1) : Keep d H H1 := fun c o h _ => a c o h
theorem Keep.upd (d : Addr) (H : Hp) (o : HO) : Keep d H (upd H d o) := fun c u h n => by
  rw [upd_ne n]
  exact h
theorem same_new {H : Hp} {p : Addr} {o : HO} (h : H p = none) : Same H (upd H p o) := fun b x e => by
  rw [upd_ne (ne_of_none e h)]
  exact e
theorem lst_ne {H : Hp} {a d : Addr} {xs : List V} {o : HO} (h : H d = some (.dK o')) (ha : H a = some (.lst xs)) : a ≠ d := ne_of ha h (by intro z; cases z)
/-- a list to be read stays, if it isn't the dict at d -/
theorem Keep.seq {K : PySem.W.Frag} {d : Addr} {kvs : List (Key × V)} {H H' : Hp} {a : Addr} {xs : List V} (k : Keep d H H') (hd : H d = some (.dK kvs)) (h : SqL K H a xs) : SqL K H' a xs := by
  rcases h with (h | ⟨o, h⟩) | h
  · exact .inl (.inl (k _ _ h (ne_of h hd (by intro z; cases z))))
  · exact .inl (.inr ⟨o, k _ _ h (ne_of h hd (by intro z; cases z))⟩)
  · exact .inr h
theorem Keep.tup {K : PySem.W.Frag} {d : Addr} {kvs : List (Key × V)} {H H' : Hp} {a : Addr} {xs : List V} (k : Keep d H H') (hd : H d = some (.dK kvs)) (h : SqT K H a xs) : SqT K H' a xs := by
  rcases h with (h | ⟨o, h⟩) | h
  · exact .inl (.inl (k _ _ h (ne_of h hd (by intro z; cases z))))
  · exact .inl (.inr ⟨o, k _ _ h (ne_of h hd (by intro z; cases z))⟩)
  · exact .inr h
theorem Keep.lst {d : Addr} {kvs : List (Key × V)} {H H' : Hp} {a : Addr} {xs : List V} (k : Keep d H H') (hd : H d = some (.dK kvs)) (h : H a = some (.lst xs)) : H' a = some (.lst xs) := k _ _ h (ne_of h hd (by intro z; cases z))
theorem Keep.tp {d : Addr} {kvs : List (Key × V)} {H H' : Hp} {a : Addr} {xs : List V} (k : Keep d H H') (hd : H d = some (.dK kvs)) (h : H a = some (.tup xs)) : H' a = some (.tup xs) := k _ _ h (ne_of h hd (by intro z; cases z))
theorem same_tup {K : PySem.W.Frag} {H H' : Hp} {a : Addr} {xs : List V} (e : Same H H') (h : SqT K H a xs) : SqT K H' a xs := by
  rcases h with (h | ⟨o, h⟩) | h
  · exact .inl (.inl (e _ _ h))
  · exact .inl (.inr ⟨o, e _ _ h⟩)
  · exact .inr h

/-! the state of the draws -/
theorem k01 : ¬ ("cells" : Str) = "at" := by decide +kernel
theorem k02 : ¬ ("cells" : Str) = "left" := by decide +kernel
theorem k03 : ¬ ("cells" : Str) = "mix" := by decide +kernel
theorem k10 : ¬ ("at" : Str) = "cells" := by decide +kernel
theorem k12 : ¬ ("at" : Str) = "left" := by decide +kernel
theorem k13 : ¬ ("at" : Str) = "mix" := by decide +kernel
theorem k20 : ¬ ("left" : Str) = "cells" := by decide +kernel
theorem k21 : ¬ ("left" : Str) = "at" := by decide +kernel
theorem k23 : ¬ ("left" : Str) = "mix" := by decide +kernel
theorem k30 : ¬ ("mix" : Str) = "cells" := by decide +kernel
theorem k31 : ¬ ("mix" : Str) = "at" := by decide +kernel
theorem k32 : ¬ ("mix" : Str) = "left" := by decide +kernel
theorem kr {a b : Str} (h : ¬ a = b) : ¬ (Sum.inr a : Key) = Sum.inr b := fun z => h (Sum.inr.inj z)
def stK (c : Addr) (i l m : Int) : List (Key × V) := [(.inr "cells", .ref c), (.inr "at", .int i), (.inr "left", .int l), (.inr "mix", .int m)]
theorem g_cells (c : Addr) (i l m : Int) : valV (stK c i l m) (.inr "cells") = some (.ref c) := valV_pos rfl
theorem g_at (c : Addr) (i l m : Int) : valV (stK c i l m) (.inr "at") = some (.int i) := by
  unfold stK
  rw [valV_neg (kr k01), valV_pos rfl]
theorem g_left (c : Addr) (i l m : Int) : valV (stK c i l m) (.inr "left") = some (.int l) := by
  unfold stK
  rw [valV_neg (kr k02), valV_neg (kr k12), valV_pos rfl]
theorem g_mix (c : Addr) (i l m : Int) : valV (stK c i l m) (.inr "mix") = some (.int m) := by
  unfold stK
  rw [valV_neg (kr k03), valV_neg (kr k13), valV_neg (kr k23), valV_pos rfl]
theorem put_any {kvs : List (Key × V)} {k : Key} {v y : V} (h : valV kvs k = some v) : putK kvs k y = kvs.map (fun kv => if kv.1 = k then (kv.1, y) else kv) := by
  unfold putK
  rw [valV_any, h]
  exact if_pos rfl
theorem p_at (c : Addr) (i l m j : Int) : putK (stK c i l m) (.inr "at") (.int j) = stK c j l m := by
  rw [put_any (g_at c i l m)]
  unfold stK
  simp only [List.map_cons, List.map_nil, if_neg (kr k01), if_neg (kr k21), if_neg (kr k31), if_true]
theorem p_left (c : Addr) (i l m j : Int) : putK (stK c i l m) (.inr "left") (.int j) = stK c i j m := by
  rw [put_any (g_left c i l m)]
  unfold stK
  simp only [List.map_cons, List.map_nil, if_neg (kr k02), if_neg (kr k12), if_neg (kr k32), if_true]
theorem p_mix (c : Addr) (i l m j : Int) : putK (stK c i l m) (.inr "mix") (.int j) = stK c i l j := by
  rw [put_any (g_mix c i l m)]
  unfold stK
  simp only [List.map_cons, List.map_nil, if_neg (kr k03), if_neg (kr k13), if_neg (kr k23), if_true]
theorem merge_st (c : Addr) (i l m : Int) : mergeK [] (stK c i l m) = stK c i l m := by
  have e0 : putK ([] : List (Key × V)) (.inr "cells" : Key) (.ref c) = [((.inr "cells" : Key), V.ref c)] := rfl
  have e1 : putK [((.inr "cells" : Key), V.ref c)] (.inr "at" : Key) (.int i) = [((.inr "cells" : Key), V.ref c), (.inr "at", .int i)] := by
    rw [putK_new _ (by rw [valV_neg (kr k01)]; rfl)]
    all_goals rfl
  have e2 : putK [((.inr "cells" : Key), V.ref c), (.inr "at", .int i)] (.inr "left") (.int l) = [((.inr "cells" : Key), V.ref c), (.inr "at", .int i), (.inr "left", .int l)] := by
    rw [putK_new _ (by rw [valV_neg (kr k02), valV_neg (kr k12)]; rfl)]
    all_goals rfl
  have e3 : putK [((.inr "cells" : Key), V.ref c), (.inr "at", .int i), (.inr "left", .int l)] (.inr "mix") (.int m) = stK c i l m := by
    rw [putK_new _ (by rw [valV_neg (kr k03), valV_neg (kr k13), valV_neg (kr k23)]; rfl)]
    all_goals rfl
  show putK (putK (putK (putK ([] : List (Key × V)) (.inr "cells" : Key) (.ref c)) (.inr "at" : Key) (.int i)) (.inr "left" : Key) (.int l)) (.inr "mix" : Key) (.int m) = stK c i l m
  rw [e0, e1, e2, e3]
/-- the dict of the draws stands at d -/
structure StAt (K : PySem.W.Frag) (H : Hp) (d : Addr) (c : Addr) (ns : List Int) (i l m : Int) : Prop where
  dc : H d = some (.dK (stK c i l m))
  cs : H c = some (.lst (ns.map V.int))
  nn : ∀ x ∈ ns, 0 ≤ x
  i0 : 0 ≤ i
  l0 : 0 ≤ l
  m0 : 0 ≤ m
  m1 : m < 2147483648
def St1 (K : PySem.W.Frag) (H : Hp) (d c : Addr) : Prop := ∃ ns i l m, StAt K H d c ns i l m
theorem St1.dk {K : PySem.W.Frag} {H : Hp} {d c : Addr} (S : St1 K H d c) : ∃ kvs, H d = some (.dK kvs) := let ⟨_, _, _, _, S⟩ := S; ⟨_, S.dc⟩
theorem St1.cl {K : PySem.W.Frag} {H : Hp} {d c : Addr} (S : St1 K H d c) : ∃ xs, H c = some (.lst xs) := let ⟨_, _, _, _, S⟩ := S; ⟨_, S.cs⟩
/-- the state stands on where both its objects stand -/
theorem St1.of {K : PySem.W.Frag} {H H' : Hp} {d c : Addr} (S : St1 K H d c) (e1 : H' d = H d) (e2 : H' c = H c) : St1 K H' d c := by
  obtain ⟨ns, i, l, m, S⟩ := S
  exact ⟨ns, i, l, m, e1.trans S.dc, e2.trans S.cs, S.nn, S.i0, S.l0, S.m0, S.m1⟩
theorem St1.same {K : PySem.W.Frag} {H H' : Hp} {d c : Addr} (S : St1 K H d c) (e : Same H H') : St1 K H' d c := by
  obtain ⟨ns, i, l, m, S⟩ := S
  exact ⟨ns, i, l, m, e _ _ S.dc, e _ _ S.cs, S.nn, S.i0, S.l0, S.m0, S.m1⟩
theorem St1.new {K : PySem.W.Frag} {H : Hp} {d c a : Addr} {o : HO} (S : St1 K H d c) (h : H a = none) : St1 K (upd H a o) d c := S.same (same_new h)
theorem St1.nd {K : PySem.W.Frag} {H : Hp} {d c a : Addr} (S : St1 K H d c) (h : H a = none) : a ≠ d := let ⟨_, e⟩ := S.dk; (ne_of_none e h).symm
theorem St1.nc {K : PySem.W.Frag} {H : Hp} {d c a : Addr} (S : St1 K H d c) (h : H a = none) : a ≠ c := let ⟨_, e⟩ := S.cl; (ne_of_none e h).symm
theorem St1.put {K : PySem.W.Frag} {H : Hp} {d c a : Addr} {o : HO} (S : St1 K H d c) (h1 : a ≠ d) (h2 : a ≠ c) : St1 K (upd H a o) d c := S.of (upd_ne h1.symm) (upd_ne h2.symm)
theorem StAt.put {K : PySem.W.Frag} {H : Hp} {d c : Addr} {ns : List Int} {i l m i' l' m' : Int} (S : StAt K H d c ns i l m) (h0 : 0 ≤ i') (h1 : 0 ≤ l') (h2 : 0 ≤ m') (h3 : m' < 2147483648) :
    StAt K (upd H d (.dK (stK c i' l' m'))) d c ns i' l' m' := ⟨upd_same, (Keep.upd d H _).lst S.dc S.cs, S.nn, h0, h1, h2, h3⟩
section
variable {H : Hp} {d c : Addr} {i l m j : Int}
theorem dg_cells (h : H d = some (.dK (stK c i l m))) : DGet H d (.str "cells") (some (.ref c)) := g_cells c i l m ▸ DGet.k (k := .inr "cells") h
theorem dg_at (h : H d = some (.dK (stK c i l m))) : DGet H d (.str "at") (some (.int i)) := g_at c i l m ▸ DGet.k (k := .inr "at") h
theorem dg_left (h : H d = some (.dK (stK c i l m))) : DGet H d (.str "left") (some (.int l)) := g_left c i l m ▸ DGet.k (k := .inr "left") h
theorem dg_mix (h : H d = some (.dK (stK c i l m))) : DGet H d (.str "mix") (some (.int m)) := g_mix c i l m ▸ DGet.k (k := .inr "mix") h
theorem st_few : (stK c i l m).length < sizeLine := Nat.lt_of_le_of_lt (show 4 ≤ 1000 by decide) (by decide)
theorem dp_at (h : H d = some (.dK (stK c i l m))) : DPut H d (.str "at") (.int j) (upd H d (.dK (stK c j l m))) := p_at c i l m j ▸ DPut.k (k := .inr "at") h st_few
theorem dp_left (h : H d = some (.dK (stK c i l m))) : DPut H d (.str "left") (.int j) (upd H d (.dK (stK c i j m))) := p_left c i l m j ▸ DPut.k (k := .inr "left") h st_few
theorem dp_mix (h : H d = some (.dK (stK c i l m))) : DPut H d (.str "mix") (.int j) (upd H d (.dK (stK c i l j))) := p_mix c i l m j ▸ DPut.k (k := .inr "mix") h st_few
end
/-! what follows is shown once, for both ways of an if ahead of it -/
theorem cut {t u : TS} {D : Ends} {σ : L2.St} {H : Hp} (I : L2.St → Hp → Prop) (h2 : ∀ σ' H', I σ' H' → u D σ' H') (h1 : (∀ σ' H', I σ' H' → u D σ' H') → t { D with nx := u D } σ H) : tSeq t u D σ H := h1 h2

/-! the promises of the draws -/
/-- the bound's bound -/
def big : Int := 10000000000000000000000000000000000000000000000000000000000000000000000
def spStart (K : PySem.W.Frag) : Sp := fun vs H Q _ => ∃ (a : Addr) (ns : List Int), vs = [.ref a] ∧ SqL K H a (ns.map V.int) ∧ ns.length ≤ 63 ∧ ∀ d c H', H d = none → H c = none → St1 K H' d c → Same H H' → Q (.ref d) H'
def spDraw (K : PySem.W.Frag) : Sp := fun vs H Q _ => ∃ (d c : Addr) (b : Int), vs = [.ref d, .int b] ∧ St1 K H d c ∧ 0 < b ∧ b ≤ 10000000000000000000000000000000000000000000000000000000000000000000000 ∧
  ∀ n H', 0 ≤ n → n < b → St1 K H' d c → Keep d H H' → Q (.int n) H'
def spPick (K : PySem.W.Frag) : Sp := fun vs H Q _ => ∃ (d c l : Addr) (xs : List V), vs = [.ref d, .ref l] ∧ St1 K H d c ∧ SqL K H l xs ∧ xs ≠ [] ∧ xs.length ≤ 1000 ∧
  ∀ v H', v ∈ xs → St1 K H' d c → Keep d H H' → Q v H'
/-- a value's kind -/
def isInt : V → Bool | .int _ => true | _ => false
def isBl : V → Bool | .bl _ => true | _ => false
def spIsNum : Sp := fun vs H Q _ => ∃ n : Int, vs = [.int n] ∧ Q (.bl true) H
theorem log_of {b : Int} (h0 : 0 < b) (h1 : b ≤ 10000000000000000000000000000000000000000000000000000000000000000000000) : CDivW l b := wide_div (b := 300) h0 (by
  have : (b.natAbs : Int) = b := by omega
  have e : (2 : Nat) ^ 300 = 2037035976334486086268445688409378161051468393665936250636140449354381299763336706183397376 := by decide +kernel
  rw [e]
  omega) (by decide) (by decide)
/-! tests whose answer is known -/
theorem ifN {c A B : Prop} [Decidable c] (h : ¬ c) (q : B) : if decide c = true then A else B := by
  rw [decide_eq_false h]
  exact iteF q
theorem ifY {c A B : Prop} [Decidable c] (h : c) (q : A) : if decide c = true then A else B := by
  rw [decide_eq_true h]
  exact iteT q
theorem wm {i j : Int} (hi : i.natAbs < 2 ^ 250) (hj : j.natAbs < 2 ^ 250) : CMulW i j := wide_mul hi hj (by decide) (by decide) (by decide)
theorem ltge (a b : Int) : a < b ∨ b ≤ a := by omega
theorem nm {i : Nat} {x : V} {σ : L2.St} {H : Hp} {k : L2.St → Hp → Prop} (h : k (σ.set i (some x)) H) : gName i x σ H k := h
/-! math.isqrt -/
def rIsqrt : List V → Hp → VK → Prop := fun vs H Q => ∃ n : Int, vs = [.int n] ∧ 0 ≤ n ∧ n.natAbs < 2 ^ 250 ∧ ∀ r : Int, 0 ≤ r → r * r ≤ n → n < (r + 1) * (r + 1) → Q (.int r) H
theorem cr_isqrt {X : Cx} : CallR X (.builtin "math.isqrt") rIsqrt := by
  intro pins s σ H vs us Q I r h
  obtain ⟨a, rfl, h0, h1, q⟩ := h
  obtain ⟨u, rfl, t, rfl⟩ := vals1 r
  have hl : a.toNat.log2 < 250 := by
    have e : a.toNat = a.natAbs := by omega
    rw [e]
    exact PySem.Flt.log2_lt_of (by decide) h1
  obtain ⟨z1, z2⟩ := PySem.Float64.isqrt_spec a.toNat
  refine call_function_meets PySem.W.MGF.kind_isqrt PySem.W.MGF.plain_isqrt PySem.W.MGF.entry_isqrt (PySem.W.MGF.args_isqrt _) (PySem.W.mg_run_isqrt a t (by omega) (by omega) (by omega)).meets ?_
  refine ⟨.int ((Float64.isqrt a.toNat : Nat) : Int), H, I.tok _, ⟨_, rfl⟩, q _ (Int.natCast_nonneg _) ?_ ?_⟩
  · have := Int.ofNat_le.mpr z1
    rw [Int.natCast_mul] at this
    omega
  · have := Int.ofNat_lt.mpr z2
    rw [Int.natCast_mul, Int.natCast_add] at this
    have e : ((a.toNat : Nat) : Int) = a := by omega
    rw [e] at this
    exact this
theorem szOk {xs : List V} (h : Nat.ble xs.length 1000 = true) : xs.length ≤ sizeLine := Nat.le_trans (Nat.le_of_ble_eq_true h) (by decide)
theorem eqN {a b : Int} {A B : Prop} (h : a ≠ b) (q : B) : if decide (V.int a = V.int b) = true then A else B := ifN (fun z => h (V.int.inj z)) q
theorem eqY {a b : Int} {A B : Prop} (h : a = b) (q : A) : if decide (V.int a = V.int b) = true then A else B := ifY (congrArg V.int h) q
theorem neN {a b : Int} {A B : Prop} (h : a = b) (q : B) : if (!decide (V.int a = V.int b)) = true then A else B := iteNS (congrArg V.int h) q
/-! tracked things behind a call that changes the state alone -/
section
variable {K : PySem.W.Frag} {d c : Addr} {H H' : Hp}
theorem Keep.l (k : Keep d H H') (S : St1 K H d c) {a : Addr} {xs : List V} (h : H a = some (.lst xs)) : H' a = some (.lst xs) := let ⟨_, e⟩ := S.dk; k.lst e h
theorem Keep.t (k : Keep d H H') (S : St1 K H d c) {a : Addr} {xs : List V} (h : H a = some (.tup xs)) : H' a = some (.tup xs) := let ⟨_, e⟩ := S.dk; k.tp e h
theorem Keep.sl (k : Keep d H H') (S : St1 K H d c) {a : Addr} {xs : List V} (h : SqL K H a xs) : SqL K H' a xs := let ⟨_, e⟩ := S.dk; k.seq e h
theorem Keep.st (k : Keep d H H') (S : St1 K H d c) {a : Addr} {xs : List V} (h : SqT K H a xs) : SqT K H' a xs := let ⟨_, e⟩ := S.dk; k.tup e h
end
theorem sq0 (x : Int) : 0 ≤ x * x := by
  rcases ltge x 0 with z | z
  · have := Int.mul_nonneg (show 0 ≤ -x by omega) (show 0 ≤ -x by omega)
    rw [Int.neg_mul_neg] at this
    exact this
  · exact Int.mul_nonneg z z
theorem atI0 {α : Type} {xs : List α} {j : Nat} {v : α} (h : xs[j]? = some v) : atI xs (0 + (j : Int)) = some v := by
  rw [Int.zero_add]
  exact atI_nat h
theorem atI_back {α : Type} {xs : List α} {v : α} (h : xs.getLast? = some v) : atI xs (-1) = some v := by
  obtain ⟨ys, rfl⟩ := List.getLast?_eq_some_iff.mp h
  exact atI_last ys v
theorem eqvN {d : PyData} {A B : Prop} (h : d.canLay0 = true) (q : B) : if (!PyData.eqv d d) = true then A else B := by
  rw [SeqAt.eqv_refl d h]
  exact q
theorem getInt {ns : List Int} {i : Nat} {y : V} (h : (ns.map V.int)[i]? = some y) : ∃ x, y = .int x ∧ x ∈ ns ∧ i < ns.length ∧ ns.take (i + 1) = ns.take i ++ [x] := by
  rw [List.getElem?_map] at h
  cases e : ns[i]? with
  | none => rw [e] at h; cases h
  | some x =>
    rw [e] at h
    exact ⟨x, (Option.some.inj h).symm, List.mem_of_getElem? e, (List.getElem?_eq_some_iff.mp e).1, by rw [List.take_add_one, e]; rfl⟩
/-- the built-in names that the text has not bound -/
structure Txt0 (mg : Str → Option Value) : Prop where
  abs : mg "abs" = none
  int : mg "int" = none
  len : mg "len" = none
  bool : mg "bool" = none
  isinstance : mg "isinstance" = none
structure TxtA (mg : Str → Option Value) : Prop extends Txt0 mg where
  max : mg "max" = none
  min : mg "min" = none
  range : mg "range" = none
  tuple : mg "tuple" = none
  list : mg "list" = none
  sum : mg "sum" = none
  any : mg "any" = none
  all : mg "all" = none
  sorted : mg "sorted" = none
  dict : mg "dict" = none
  enumerate : mg "enumerate" = none
theorem getMap {α : Type} {f : α → V} {ns : List α} {i : Nat} {y : V} (h : (ns.map f)[i]? = some y) : ∃ x, y = f x ∧ x ∈ ns ∧ i < ns.length ∧ ns.take (i + 1) = ns.take i ++ [x] := by
  rw [List.getElem?_map] at h
  cases e : ns[i]? with
  | none => rw [e] at h; cases h
  | some x =>
    rw [e] at h
    exact ⟨x, (Option.some.inj h).symm, List.mem_of_getElem? e, (List.getElem?_eq_some_iff.mp e).1, by rw [List.take_add_one, e]; rfl⟩
theorem sq_le {x b : Int} (h0 : -b ≤ x) (h1 : x ≤ b) : x * x ≤ b * b := by
  rcases ltge x 0 with z | z
  · have := Int.mul_le_mul (show -x ≤ b by omega) (show -x ≤ b by omega) (show 0 ≤ -x by omega) (show 0 ≤ b by omega)
    rw [Int.neg_mul_neg] at this
    exact this
  · exact Int.mul_le_mul h1 h1 z (by omega)
/-- 2 ^ (24 - i) -/
def pw (i : Nat) : Int := (2 ^ (24 - i) : Nat)
theorem pw_step {i : Nat} (h : i < 24) : pw i = 2 * pw (i + 1) := by
  unfold pw
  rw [show 24 - i = (24 - (i + 1)) + 1 by omega, Nat.pow_succ]
  omega
theorem mapAt {α : Type} {f : α → V} {ns : List α} {i : Nat} (h : i < ns.length) : (ns.map f)[i]? = some (f ns[i]) := by simp [h]
theorem at_mod {α : Type} {f : α → V} {ns : List α} {z m : Int} (hm : m = (ns.length : Int)) (h : 0 < ns.length) : ∃ x, x ∈ ns ∧ atI (ns.map f) (z % m) = some (f x) := by
  obtain ⟨j, hj⟩ : ∃ j : Nat, z % m = (j : Int) := ⟨(z % m).toNat, by have := Int.emod_nonneg z (show m ≠ 0 by omega); omega⟩
  have hj2 : j < ns.length := by have := Int.emod_lt_of_pos z (show 0 < m by omega); omega
  exact ⟨ns[j], List.getElem_mem hj2, by rw [hj]; exact atI_nat (mapAt hj2)⟩
/-- all that stood, but at d -/
theorem Keep.none {d a : Addr} {H H' : Hp} (k : Keep d H H') (n : a ≠ d) (h : H' a = none) : H a = none := by
  cases e : H a with
  | none => rfl
  | some o => rw [k _ _ e n] at h; cases h
theorem atI_lastn {α : Type} {xs : List α} {v : α} {m : Int} (hm : m = (xs.length : Int) - 1) (h : xs.getLast? = some v) : atI xs m = some v := by
  obtain ⟨ys, rfl⟩ := List.getLast?_eq_some_iff.mp h
  rw [hm, List.length_append, List.length_singleton]
  have e : ((ys.length + 1 : Nat) : Int) - 1 = ((ys.length : Nat) : Int) := by omega
  rw [e]
  exact atI_nat (by simp)
theorem sq_swap (a b : Int) : (a - b) * (a - b) = (b - a) * (b - a) := by
  have e : a - b = -(b - a) := by omega
  rw [e, Int.neg_mul_neg]
def rLenK (K : PySem.W.Frag) : List V → Hp → VK → Prop := fun xs H Q => ∃ p ys, xs = [V.ref p] ∧ (SqL K H p ys ∨ SqT K H p ys) ∧ Q (.int ys.length) H
end Sk

set_option Elab.async false
set_option linter.all false
set_option maxRecDepth 100000
set_option maxHeartbeats 4000000
namespace Sk
open PySem PySem.Spec PyProof.Rows L2 GenW GxR
/-! generator expressions whose elements may call own defs -/
/-! ### one run of a generator's code -/
def Run1 (M : Model) (A : Around) (Z : End → Shared → Prop) (c : Code) (t : Sem PySem.Fin) (fs : List Frame) (s : Shared) : Prop :=
  ∀ (Γ : PySem.Ctx) (p : Pos), Γ.code = c → Γ.Woken A → ∃ e s', Runs M Γ p t fs s e s' ∧ Z e s'
section
variable {M : Model} {A : Around} {Z : End → Shared → Prop} {c : Code} {fs : List Frame} {s : Shared}
theorem run1_wrap {α : Type} {m : Sem α} {K : α → Sem PySem.Fin} {J : Value → Sem PySem.Fin} {gd lv}
    (h : wpAny M (A.over c fs) m (fun a s' => Run1 M A Z c (K a) fs s') (fun x s' => Run1 M A Z c (J x) fs s') s) : Run1 M A Z c (m.wrap K J gd lv) fs s := by
  intro Γ p e w
  subst e
  exact runs_wrap_of_wp K J gd lv m (h (Γ.over fs) p (w.over fs)) (fun a p' s' q => q Γ p' rfl w) fun x p' s' q => q Γ p' rfl w
theorem run1_bind {α β : Type} {m : Sem α} {K : α → Sem β} {K' : β → Sem PySem.Fin} {J' : Value → Sem PySem.Fin} {gd lv}
    (h : wpAny M (A.over c fs) m (fun a s' => Run1 M A Z c ((K a).wrap K' J' gd lv) fs s') (fun x s' => Run1 M A Z c (J' x) fs s') s) : Run1 M A Z c ((m >>= K).wrap K' J' gd lv) fs s := by
  rw [Sem.bind_eq_wrap', Sem.wrap_wrap]
  exact run1_wrap h
theorem run1_at {p' : Pos} {k : Unit → Sem PySem.Fin} (h : Run1 M A Z c (k ()) fs s) : Run1 M A Z c (.at p' k) fs s :=
  run1_wrap (m := standAt p') (K := k) (J := .raise) (gd := id) (lv := id) (wpAny_standAt h)
theorem run1_again {c' : Code} (q : c'.quiet = true) (h : Run1 M A Z c' (M.den c') fs s) : Run1 M A Z c (.pure (.again c')) fs s := by
  intro Γ p e w
  subst e
  obtain ⟨e, s', r, z⟩ := h (Γ.goto c') p rfl (w.goto c')
  exact ⟨e, s', Runs.head (c₁ := c') (fun _ _ x => .again q x) r, z⟩
theorem run1_end (r : Result) (h : Z (.ret r) s) : Run1 M A Z c (leafOf r) [] s := by
  intro Γ p e w
  exact ⟨.ret r, s, Runs.leaf r, h⟩
theorem run1_yield {v g l} {k : Resume → Sem PySem.Fin} (hfs : splitAtGen fs = none) (h : ∀ p, Z (.susp v g l k c p fs) s) : Run1 M A Z c (.yield v g l k) fs s := by
  intro Γ p e w
  subst e
  exact ⟨_, s, Runs.yield' fs hfs, h p⟩
end
/-- a generator's state, woken by None -/
def Goes1 (M : Model) (A : Around) (Z : End → Shared → Prop) (gs : GenState) (s : Shared) : Prop :=
  match gs with
  | .fresh c => Run1 M A Z c (M.den c) [] s
  | .suspended k _ c _ fs _ => Run1 M A Z c (k (.send .none)) fs s
  | _ => False
theorem bare_of {e : End} (h : e.quiet = true) : e.genState.bare = true := End.bare_of_quiet h
theorem wp_resume1 {M : Model} {A : Around} {Z : End → Shared → Prop} {E : Value → Shared → Prop} {s : Shared} {g : Nat} {gs : GenState} {l : List Value} {α : Type} {k : GenResult → Sem α} {Q : α → Shared → Prop} (hg : s.gens[g]? = some gs)
    (go : Goes1 M A Z gs (s.setGen g .running)) (hZ : ∀ e s1, Z e s1 → s.gens.size ≤ s1.gens.size → e.quiet = true ∧ wpAny M A (k e.result) Q E (s1.setGen g e.genState)) : wpAny M A (.resume g (.send .none) l k) Q E s := by
  intro Γ p hΓ
  rw [Sem.wp_resume]
  have wk : ∀ c, (Γ.wake c p).Woken A := fun c => hΓ.wake c p
  have sz : (s.setGen g .running).gens.size = s.gens.size := setGen_size s g .running
  cases gs with
  | fresh c =>
    obtain ⟨e, s1, r, z⟩ := go (Γ.wake c p) p rfl (wk c)
    obtain ⟨q1, q2⟩ := hZ e s1 z (by have := runs_gsz r; rw [sz] at this; exact this)
    exact ⟨_, _, by unfold Wakes; rw [hg]; exact ⟨e, s1, r, q1, rfl, rfl⟩, q2 Γ p hΓ⟩
  | suspended k0 l0 c p0 fs cl =>
    obtain ⟨e, s1, r, z⟩ := go (Γ.wake c p) p0 rfl (wk c)
    obtain ⟨q1, q2⟩ := hZ e s1 z (by have := runs_gsz r; rw [sz] at this; exact this)
    exact ⟨_, _, by unfold Wakes; rw [hg]; exact ⟨e, s1, r, q1, rfl, rfl⟩, q2 Γ p hΓ⟩
  | running => exact go.elim
  | finished => exact go.elim
/-- next(g): what the code's run comes to -/
theorem next1 {P : Program} {w : World} {A : Around} {E : Value → Shared → Prop} {s : Shared} {a : Addr} {g : Nat} {gs : GenState} {Z : End → Shared → Prop} {Q : Option Value → Shared → Prop} (hh : A.handled = none) (hl : s.heap.NoLimit) (hroom : A.depth < recursionLimit)
    (hg : s.heap.IsGen a g) (hgs : s.gens[g]? = some gs) (go : Goes1 (model P w) A.in1 Z gs (s.setGen g .running))
    (hY : ∀ e s1, Z e s1 → s.gens.size ≤ s1.gens.size → (e = .ret (.ok .next) ∧ ∀ h', (∀ b o, s1.heap.get? b = some o → h'.get? b = some o) → Q none { s1.setGen g .finished with heap := h' }) ∨
      (∃ v l k c p fs, e = .susp v false l k c p fs ∧ e.quiet = true ∧ Q (some v) (s1.setGen g e.genState))) : wpAny (model P w) A (pyNext (.ref a)) Q E s := by
  unfold pyNext
  refine wpAny_bind (wpAny_attempt (wpAny_callSpecial?_slot (name := Str.ofString "__next__") hg.typeIs slot_gen_next (wpAny_call_entry slot_gen_next hg.typeIs entry_gen_next ?_ (args_gen_next _))))
  show wpAny _ A.in1 (Builtin.Generator.genWake (.ref a) (.send .none)) _ _ s
  unfold Builtin.Generator.genWake
  refine wpAny_bind (wpAny_holding (wpAny_genNumber hg (wpAny_bind (wpAny_genState hgs ?_))))
  cases gs with
  | running => exact go.elim
  | finished => exact go.elim
  | _ =>
    refine wpAny_bind (wpAny_roomToWake hl hroom ?_)
    show wpAny _ A.in1 (.resume g (.send .none) [] _) _ _ s
    refine wp_resume1 hgs go fun e s1 z hsz => ?_
    rcases hY e s1 z hsz with ⟨rfl, q⟩ | ⟨v, l, k, c, p, fs, rfl, q1, q⟩
    · refine ⟨rfl, ?_⟩
      show wpAny _ A.in1 (newExc (.type "StopIteration") [] >>= _) _ _ _
      refine wpAny_bind ?_
      simp only [newExc, newTuple]
      refine wpAny_bind (wpAny_newObj_type ?_ (by size_fits))
      refine wpAny_bind (m := firstArgMember _ _) (wpAny_of_eq (a := Value.none) (by first | rfl | (simp only [firstArgMember]; rfl)) ?_)
      refine wpAny_newObj_type ?_ (by size_fits)
      simp only [raiseNew]
      refine wpAny_bind (wpAny_bind (wpAny_handled ?_))
      first | rw [show A.in1.handled = none from hh] | rw [hh]
      refine wpAny_throw ?_
      refine wpAny_bind (wpAny_isInstance (T := "StopIteration") (b := true) ⟨_, Heap.get?_push_size _ rfl, rfl⟩ isSubtype_stop ?_)
      exact wpAny_pure (q _ fun b o hb => Heap.get?_push_of_some _ (Heap.get?_push_of_some _ hb))
    · exact ⟨q1, wpAny_pure ⟨v, rfl, wpAny_pure q⟩⟩

/-! ### the generator's frame -/
abbrev gcx (X : Cx) (s : Shared) (H : Hp) (cenv : Env) (fp : List Addr) (A : Around) : Cx :=
  { X with A := A, s_0 := s, H_0 := H, env := cenv, outer := X.stack, stack := cenv :: X.stack, ex := fp, fn := fun _ => false, calm := true, pn := [], xe := fun _ _ => False }
/-- its scope: no cells of its own -/
structure GScp (scope : Scope) : Prop where
  co : scope.isCoroutine = false
  kind : scope.kind = .function
  nocell : ∀ y ∈ scope.names, y.2 ≠ .cell
  dot : scope.names.lookup (".0" : Str) = some NameKind.local
section
variable {X : Cx} {pins : List (Addr × Obj)} {σ : L2.St} {H : Hp} {s : Shared}
theorem blk_free {N : List Str} {scope : Scope} {own : List (Str × Nat)} (ok : BlkOk N X.env.scope scope own) (o : X.Ok) : ∀ y ∈ scope.names, y.2 = .free → ∃ c, X.env.cells.lookup y.1 = some c := fun y hy e =>
  (ok.free y hy e).elim (fun z => o.has _ (.inl z)) fun z => o.has _ (.inr z)
theorem gen_start {scope : Scope} {own : List (Str × Nat)} {fp : List Addr} {code : Value} {A : Around} {h' : Heap} {g' : Array GenState} {d' : Drawn} {t' : Nat} {m : Str → Option Value} (I : Inv X pins σ H s) (ok : BlkOk X.N X.env.scope scope own) (G : GScp scope) (hN : X.N.Nodup)
    (hfp : ∀ b ∈ fp, FpOk X pins H b ∧ b < s.heap.objs.size) (hd : A.handled = none) (hfr : A.frames = some (genEnv scope (cloFrom X.env.cells scope.names []) s.heap.objs.size code builtinsNs X.env :: X.stack))
    (hns : h'.Ns s.heap.objs.size m) (kp : ∀ b o, s.heap.get? b = some o → h'.get? b = some o) (hg : AllBare g') :
    Inv (gcx X s H (genEnv scope (cloFrom X.env.cells scope.names []) s.heap.objs.size code builtinsNs X.env) fp A) [] (wipe σ (own.map (·.2))) H { s with heap := h', gens := g', drawn := d', toks := t' } := by
  have hfree := blk_free ok I.ok
  have cm : ∀ {y c}, (cloFrom X.env.cells scope.names []).lookup y = some c → X.env.cells.lookup y = some c := fun e => NdefX.clo_cm hfree e
  have frk : ∀ y, scope.names.lookup y = some .free → ∃ c, (cloFrom X.env.cells scope.names []).lookup y = some c ∧ X.env.cells.lookup y = some c := fun y e => by
    have hy : (y, NameKind.free) ∈ scope.names := PySem.mem_of_lookup e
    obtain ⟨c, hc⟩ := hfree _ hy rfl
    exact ⟨c, NdefX.clo_has hfree hy hc, hc⟩
  have okG : (gcx X s H (genEnv scope (cloFrom X.env.cells scope.names []) s.heap.objs.size code builtinsNs X.env) fp A).Ok :=
    { mod := I.ok.mod, kind := G.kind, glob := I.ok.glob, blt := rfl, above := Nat.le_refl _
      inj := fun y z c e1 e2 => I.ok.inj y z c (cm e1) (cm e2)
      has := fun y hy => by
        have hy : scope.names.lookup y = some .cell ∨ scope.names.lookup y = some .free := hy
        rcases hy with hy | hy
        · exact absurd rfl (G.nocell _ (PySem.mem_of_lookup hy))
        · obtain ⟨c, e, _⟩ := frk y hy
          exact ⟨c, e⟩
      cab := fun y c z _ => by cases z
      hd := fun _ => hd
      frames := hfr
      stk := .inr ⟨rfl, rfl⟩
      exf := fun b hb => ⟨Nat.ne_of_lt (hfp b hb).2, fun y c e => (hfp b hb).1.2.2.2.2.1 y c (cm e)⟩
      bs := I.bs
      bsz := Nat.le_trans I.ok.bsz I.sz
      noex := fun b o e hb => by
        rcases (hfp b hb).1.2.2.2.1 with z | z
        · exact I.ok.noex b o e z
        · exact Nat.lt_irrefl _ (Nat.lt_of_lt_of_le (Heap.lt_size e) (Nat.le_trans I.ok.bsz z))
      exfs := fun b hb z => by
        rcases List.mem_cons.mp (I.stkSub b z) with z | z
        · exact (hfp b hb).1.2.1 z
        · exact (hfp b hb).1.2.2.1 z
      funs := I.stack
      frf := I.stkFree }
  refine ⟨okG, rfl, hg, Un.kept kp, ⟨m, hns, fun i y v e1 e2 e3 => ?_⟩, fun y c e => ?_, I.hok.fresh (Nat.le_refl _), fun y c e => I.freeC y c (cm e), fun p hp => absurd (show p ∈ ([] : List (Addr × Obj)) ++ [] from hp) (by simp), I.hok.kept kp, by rw [wipe_length]; exact I.len⟩
  · obtain ⟨e2, hne⟩ := wipe_some e2
    have no : ∀ k, scope.names.lookup y = some k → k = .local ∨ k = .cell → False := fun k hk hh => by
      rcases ok.own _ (PySem.mem_of_lookup hk) hh with z | z
      · obtain ⟨p, hp, hpy⟩ := List.mem_map.mp z
        have q := ok.ix p hp
        have hpy : p.1 = y := hpy
        rw [hpy] at q
        exact hne (List.mem_map.mpr ⟨p, hp, nodup_ix hN q e1⟩)
      · exact z (List.mem_of_getElem? e1)
    have e3 : scope.names.lookup y = some .local ∨ scope.names.lookup y = some .cell ∨ scope.names.lookup y = some .free := e3
    have hfr2 : scope.names.lookup y = some .free := by
      rcases e3 with z | z | z
      · exact (no _ z (.inl rfl)).elim
      · exact (no _ z (.inr rfl)).elim
      · exact z
    obtain ⟨c, c1, c2⟩ := frk y hfr2
    obtain ⟨m0, hn0, hl⟩ := I.loc
    have k := ok.free _ (PySem.mem_of_lookup hfr2) rfl
    obtain ⟨u, r, q⟩ := hl i y v e1 e2 (k.elim (fun z => .inr (.inl z)) fun z => .inr (.inr z))
    refine ⟨u, r, .inr ⟨.inr hfr2, c, c1, ?_⟩⟩
    rcases q with ⟨z, _⟩ | ⟨_, c', e', z⟩
    · have z : X.env.scope.names.lookup y = some .local := z
      rcases k with k | k <;> rw [show X.env.scope.names.lookup y = _ from k] at z <;> cases z
    · rw [c2] at e'
      cases e'
      exact z.keeps kp
  · obtain ⟨v, z⟩ := I.cell y c (cm e)
    exact ⟨v, z.keeps kp⟩
end

/-! ### asleep and awake -/
/-- what the consumer may do while the generator sleeps: its own objects at Sx, new objects -/
structure Aft (Sx : List Addr) (s s' : Shared) : Prop where
  os : s'.os = s.os
  bare : AllBare s'.gens
  keep : ∀ b o, b ∉ Sx → s.heap.get? b = some o → s'.heap.get? b = some o
  own : ∀ b ∈ Sx, ∃ o, s'.heap.get? b = some o ∧ ∀ v, o.data ≠ .cell v
/-- the consumer's word: what is out so far, the next value, the heap, going on -/
abbrev Eats := List V → V → Hp → Prop → Prop
structure GEx where
  X : Cx
  s4 : Shared
  H1 : Hp
  cenv : Env
  fp : List Addr
  B : Around
  σ0 : L2.St
  ge : Expr
  it : Addr
  a : Addr
  g : Nat
  Sx : List Addr
  C : Eats
  F : List V → Hp → Prop
abbrev GEx.loop (Y : GEx) : Code := .compLoop Y.ge 0 (.ref Y.it) .none Y.cenv
abbrev GEx.Xg (Y : GEx) : Cx := gcx Y.X Y.s4 Y.H1 Y.cenv Y.fp (Y.B.over Y.loop [])
abbrev GEx.pn (Y : GEx) (s : Shared) : List (Addr × Obj) := pinsAt (Y.a :: Y.Sx) s.heap
abbrev GEx.M (Y : GEx) : Model := model Y.X.prog Y.X.w
/-- a run's end: over, or a value is handed out and R holds of what sleeps -/
def GEx.Z (Y : GEx) (R : List V → Hp → GenState → Shared → Prop) (ys : List V) (s0 : Shared) (e : End) (s1 : Shared) : Prop :=
  (e = .ret (.ok .next) ∧ ∃ σ' H', Inv Y.Xg (Y.pn s0) σ' H' s1 ∧ Y.F ys H') ∨
  ∃ v l k c p fs y σ' H', e = .susp v false l k c p fs ∧ e.quiet = true ∧ Inv Y.Xg (Y.pn s0) σ' H' s1 ∧ RelV y v ∧ Y.C ys y H' (R (ys ++ [y]) H' e.genState s1)
/-- asleep: at most n more values -/
def GEx.Rdy (Y : GEx) : Nat → List V → Hp → GenState → Shared → Prop
  | 0 => fun ys H gs s => ∀ s', Aft Y.Sx s s' → Goes1 Y.M Y.B (Y.Z (fun _ _ _ _ => False) ys s') gs (s'.setGen Y.g .running)
  | n + 1 => fun ys H gs s => ∀ s', Aft Y.Sx s s' → Goes1 Y.M Y.B (Y.Z (Y.Rdy n) ys s') gs (s'.setGen Y.g .running)
def GEx.Rp (Y : GEx) : Nat → List V → Hp → GenState → Shared → Prop
  | 0 => fun _ _ _ _ => False
  | n + 1 => Y.Rdy n
theorem GEx.rdy_iff (Y : GEx) (n : Nat) (ys : List V) (H : Hp) (gs : GenState) (s : Shared) : Y.Rdy n ys H gs s ↔ ∀ s', Aft Y.Sx s s' → Goes1 Y.M Y.B (Y.Z (Y.Rp n) ys s') gs (s'.setGen Y.g .running) := by
  cases n <;> rfl
/-- the addresses are new -/
structure GEx.Ok (Y : GEx) : Prop where
  new : ∀ b ∈ Y.a :: Y.Sx, Y.s4.heap.objs.size < b
  loc : Y.cenv.locals = Y.s4.heap.objs.size
  cel : ∀ y c, Y.cenv.cells.lookup y = some c → c < Y.s4.heap.objs.size
  fps : ∀ b ∈ Y.fp, b < Y.s4.heap.objs.size
  aS : Y.a ∉ Y.Sx
  co : Y.cenv.scope.isCoroutine = false
theorem setGen_os (s : Shared) (g : Nat) (x : GenState) : (s.setGen g x).os = s.os := rfl
theorem setGen_heap (s : Shared) (g : Nat) (x : GenState) : (s.setGen g x).heap = s.heap := rfl
section
variable {Y : GEx} {σ σ' : L2.St} {H : Hp} {s s0 s1 : Shared} {pins : List (Addr × Obj)}
theorem GEx.Ok.fpOk (O : Y.Ok) (I : Inv Y.Xg (Y.pn s0) σ H s) (hn : ∀ b ∈ Y.fp, H b = none) : ∀ b ∈ Y.fp, FpOk Y.Xg (Y.pn s0) H b := fun b hb =>
  ⟨hn b hb, (I.ok.exf b hb).1, I.ok.exfs b hb, .inl hb, fun x c e => (I.ok.exf b hb).2 x c e, fun p hp => by
    have hp : p ∈ Y.pn s0 := by
      rcases List.mem_append.mp hp with z | z
      · cases z
      · exact z
    have h1 := O.new p.1 (of_pinsAt hp).1
    have h2 := O.fps b hb
    exact fun z => Nat.lt_irrefl _ (Nat.lt_trans h2 (z ▸ h1))⟩
/-- what is pinned while it runs -/
theorem GEx.Ok.pinned (O : Y.Ok) (I : Inv Y.Xg (Y.pn s0) σ H s) {b : Addr} {o : Obj} (hb : b ∈ Y.a :: Y.Sx) (e : s0.heap.get? b = some o) : s.heap.get? b = some o ∧ H b = none :=
  let z := I.pin (b, o) (List.mem_append_right _ (mem_pinsAt hb e))
  ⟨z.1, z.2.1⟩
/-- woken again -/
theorem GEx.Ok.woken (O : Y.Ok) (I : Inv Y.Xg (Y.pn s0) σ H s) (there : ∀ b ∈ Y.a :: Y.Sx, ∃ o, s0.heap.get? b = some o) (ag : ∃ o, s0.heap.get? Y.a = some o ∧ ∀ v, o.data ≠ .cell v) (A : Aft Y.Sx s s1) (x : GenState) (hx : x.bare = true) :
    Inv Y.Xg (Y.pn s1) σ H (s1.setGen Y.g x) := by
  have hT : ∀ b ∈ Y.a :: Y.Sx, H b = none := fun b hb => by
    obtain ⟨o, e⟩ := there b hb
    exact (O.pinned I hb e).2
  have I0 : Inv Y.Xg [] σ H s := I.pins_of fun p hp => absurd (show p ∈ ([] : List (Addr × Obj)) ++ [] from hp) (by simp)
  have nt : ∀ b u, H b = some u → b ∉ Y.Sx := fun b u q hb => by rw [hT b (List.mem_cons_of_mem _ hb)] at q; cases q
  obtain ⟨z1, z2, z3, z4⟩ := A
  obtain ⟨hh, g', d, t, o⟩ := s1
  have ho : o = s.os := z1
  subst ho
  have J : Inv Y.Xg [] σ H { s with heap := hh, gens := (({ heap := hh, gens := g', drawn := d, toks := t, os := s.os } : Shared).setGen Y.g x).gens, drawn := d, toks := t } := by
    refine I0.step (h' := hh) (g' := (({ heap := hh, gens := g', drawn := d, toks := t, os := s.os } : Shared).setGen Y.g x).gens) (t' := t) (d' := d) (ch := Y.Sx) (fun b hb => ?_) (fun b ob _ _ hc q _ => z3 b ob hc q) (fun b ob _ _ hc q _ => ⟨ob.slots, z3 b ob hc q⟩)
      (fun _ _ _ _ n => n) (fun b ob hc q => ⟨ob, z3 b ob hc q⟩) (fun _ _ q => q) (fun _ _ _ q => q) (fun b ps q => ⟨#[], by rw [q]; simp⟩) (fun m hm => ?_) (fun b u q => ?_) (allBare_setGen z2 hx)
    · have h1 := O.new b (List.mem_cons_of_mem _ hb)
      refine ⟨.inr (Nat.le_of_lt h1), fun z => ?_, fun y c e z => ?_, fun p hp => absurd (show p ∈ ([] : List (Addr × Obj)) ++ [] from hp) (by simp)⟩
      · have z : b = Y.cenv.locals := z
        rw [z, O.loc] at h1
        exact Nat.lt_irrefl _ h1
      · have h2 := O.cel y c e
        rw [z] at h2
        exact Nat.lt_irrefl _ (Nat.lt_trans h1 h2)
    · obtain ⟨ob, es, ep, ho, r⟩ := hm
      refine ⟨ob, es, ep, z3 _ ob (fun hb => ?_) ho, r⟩
      have h1 := O.new _ (List.mem_cons_of_mem _ hb)
      have h1 : Y.s4.heap.objs.size < Y.cenv.locals := h1
      rw [O.loc] at h1
      exact Nat.lt_irrefl _ h1
    · refine (I0.hok b u q).stay (fun c v hc y => z3 c v ?_ y) (fun _ y => y) fun _ _ y => y
      rcases hc with y | y
      · rw [y]; exact nt b u q
      · exact nt c _ y
  refine J.pins_of fun p hp => ?_
  have hp : p ∈ pinsAt (Y.a :: Y.Sx) hh := hp
  obtain ⟨hb, e⟩ := of_pinsAt hp
  have h1 := O.new _ hb
  refine ⟨e, hT _ hb, fun z => ?_, fun z => ?_, ?_⟩
  · have z : p.1 = Y.cenv.locals := z
    rw [z, O.loc] at h1
    exact Nat.lt_irrefl _ h1
  · obtain ⟨_, ob, hob, _⟩ := J.ok.funs.mem z
    exact absurd (Nat.lt_trans h1 (Heap.lt_size hob)) (Nat.lt_irrefl _)
  · rcases List.mem_cons.mp hb with z | z
    · obtain ⟨oa, ea, da⟩ := ag
      have q := (O.pinned I List.mem_cons_self ea).1
      have q2 := z3 _ oa O.aS q
      rw [z] at e
      rw [e] at q2
      cases q2
      exact da
    · obtain ⟨ob, eb, db⟩ := z4 _ z
      have eb : hh.get? p.1 = some ob := eb
      rw [e] at eb
      cases eb
      exact db
end

/-! ### the turns -/
def GStep (W : Nat → Nat → List V → Hp → Prop) (J : It) (g : TG) (tt : TT) (te : TE) (vs : List Nat) (σ0 : L2.St) (C : Eats) (F : List V → Hp → Prop) : Prop :=
  ∀ i m ys H, W i m ys H → (J.stop i H ∧ F ys H) ∨ (J.go i H ∧ ∃ Nx : List V → Hp → Prop, (∀ ys' H', Nx ys' H' → ∃ m', m' < m ∧ W (i + 1) m' ys' H') ∧
    ∀ x H', J.yld i H x H' → g x σ0 H' fun σ2 H2 => wipe σ2 vs = σ0 ∧ tt σ2 H2 fun b H3 => if b = true then te σ2 H3 fun y H4 => C ys y H4 (Nx (ys ++ [y]) H4) else Nx ys H3)
def EatsMono (C : Eats) : Prop := ∀ ys y H (p q : Prop), (p → q) → C ys y H p → C ys y H q
section
variable {ge elt iter tg : Expr} {cs : List Comprehension} {ifs : List Expr} {scope : Scope} {gpos : Pos}
theorem turn_one {it acc : Value} {env : Env} (h : ge = .GeneratorExp elt cs scope gpos) : compTurn ge 0 it acc env = compTurn (.GeneratorExp elt cs scope gpos) 0 it acc env := by rw [h]
theorem den_one {P : Program} {w : World} {it acc : Value} {env : Env} (h : ge = .GeneratorExp elt cs scope gpos) : (model P w).den (.compLoop ge 0 it acc env) = (compTurn ge 0 it acc env).onRaise (leaving env) := by subst h; rfl
theorem den_start {P : Program} {w : World} {it acc : Value} {env : Env} (h : ge = .GeneratorExp elt cs scope gpos) : (model P w).den (.compStart ge 0 it acc env) = (compStart ge 0 it acc env).onRaise (leaving env) := by subst h; rfl
theorem quiet_loop {d : Nat} {it acc : Value} {env : Env} : (Code.compLoop ge d it acc env).quiet = true := by rfl
end
theorem gen_turns {Y : GEx} {elt tg iter : Expr} {ifs : List Expr} {scope : Scope} {gpos : Pos} (hge : Y.ge = .GeneratorExp elt [⟨tg, iter, ifs, 0⟩] scope gpos) {J : It} {tn : Nat → Heap → Prop} {g : TG} {tt : TT} {te : TE} {vs : List Nat} {W : Nat → Nat → List V → Hp → Prop} (O : Y.Ok) (T : Turn Y.X.prog Y.X.w Y.X.K tg J Y.fp Y.it tn) (hg : PG Y.Xg tg g) (ht : PTs Y.Xg ifs tt) (he : PE Y.Xg elt te)
    (hC : EatsMono Y.C) (st : GStep W J g tt te vs Y.σ0 Y.C Y.F) : ∀ (m n : Nat) (i : Nat) (ys : List V) (H : Hp) (s0 s : Shared), m ≤ n → (∀ b ∈ Y.a :: Y.Sx, ∃ o, s0.heap.get? b = some o) → (∃ o, s0.heap.get? Y.a = some o ∧ ∀ v, o.data ≠ .cell v) → Inv Y.Xg (Y.pn s0) Y.σ0 H s → tn i s.heap → (∀ b ∈ Y.fp, H b = none) → W i m ys H →
      Run1 Y.M Y.B (Y.Z (Y.Rp n) ys s0) Y.loop (Y.M.den Y.loop) [] s := by
  intro m
  induction m using Nat.strongRecOn with
  | ind m ih =>
    intro n i ys H s0 s hmn there ag I stt fr w
    have hco := O.co
    rw [den_one hge, turn_one hge, compTurn_gen, ← hge, Sem.onRaise_eq_wrap]
    refine run1_bind (wpAny_standAt ?_)
    rcases st i m ys H w with ⟨stop, fin⟩ | ⟨go, Nx, hN, step⟩
    · refine run1_bind (wpAny_mono (T.done Y.Xg rfl rfl rfl rfl i (Y.pn s0) s Y.σ0 H (fun _ _ => False) I (O.fpOk I fr) stt stop) (fun r s1 ⟨hr, I1⟩ => ?_) fun _ _ z => z.elim)
      subst hr
      exact run1_end (.ok .next) (.inl ⟨rfl, Y.σ0, H, I1, fin⟩)
    · refine run1_bind (wpAny_mono (T.item Y.Xg rfl rfl rfl rfl i (Y.pn s0) s Y.σ0 H (fun _ _ => False) I (O.fpOk I fr) stt go) (fun r s1 ⟨u, hr, h1⟩ => ?_) fun _ _ z => z.elim)
      subst hr
      refine run1_bind (wpAny_mono h1 (fun _ s2 ⟨x, H2, I2, r2, y2, st2, fr2⟩ => ?_) fun _ _ z => z.elim)
      have I2' := I2.pinned (O.fpOk I2 fr2) (T.obj _ _ st2)
      refine run1_bind (wpAny_mono (hg.run _ s2 Y.σ0 H2 x u _ I2' r2 (step x H2 y2)) (fun _ s3 ⟨σ3, H3, I3, hw3, q3⟩ => ?_) fun _ _ z => z.elim)
      refine run1_bind (wpAny_mono (ht.run _ s3 σ3 H3 _ I3 q3) (fun b s4 ⟨H4, I4, q4⟩ => ?_) fun _ _ z => z.elim)
      have fpin : ∀ {s' : Shared} {H' : Hp}, Inv Y.Xg (Y.pn s0 ++ pinsAt Y.fp s2.heap) σ3 H' s' → tn (i + 1) s'.heap ∧ ∀ b ∈ Y.fp, H' b = none := fun {s' H'} I' => by
        have pin' : ∀ b ∈ Y.fp, ∀ o, s2.heap.get? b = some o → s'.heap.get? b = some o ∧ H' b = none := fun b hb o e =>
          let z := I'.pin (b, o) (List.mem_append_right _ (List.mem_append_right _ (mem_pinsAt hb e)))
          ⟨z.1, z.2.1⟩
        refine ⟨T.keep _ _ _ st2 fun b hb o e => (pin' b hb o e).1, fun b hb => ?_⟩
        obtain ⟨o, e, _⟩ := T.obj _ _ st2 b hb
        exact (pin' b hb o e).2
      have wk : ∀ {s' : Shared} {H' : Hp} {pins : List (Addr × Obj)}, Inv Y.Xg pins σ3 H' s' → Inv Y.Xg pins Y.σ0 H' s' := fun {s' H' pins} I' => by
        have hl : Y.σ0.length = σ3.length := by rw [← hw3, wipe_length]
        refine I'.weak hl fun j v e => ?_
        rw [← hw3] at e
        exact (wipe_some e).1
      cases b with
      | false =>
        simp only [Bool.false_eq_true, if_false] at q4 ⊢
        obtain ⟨m', hm, w'⟩ := hN ys H4 q4
        exact run1_again rfl (ih m' hm n (i + 1) ys H4 s0 s4 (by omega) there ag (wk I4.unpinned) (fpin I4).1 (fpin I4).2 w')
      | true =>
        simp only [if_true] at q4 ⊢
        have hy : ∀ v, yieldOut Y.cenv v = yieldValue v := fun v => by simp only [yieldOut, hco, Bool.false_eq_true, if_false]
        simp only [hy]
        rw [Sem.bind_eq_wrap', Sem.bind_eq_wrap', Sem.wrap_wrap, Sem.wrap_wrap]
        refine run1_wrap (wpAny_mono (he.run _ s4 σ3 H4 _ I4 q4) (fun v s5 ⟨y, H5, I5, r5, c5⟩ => ?_) fun _ _ z => z.elim)
        refine run1_at (run1_yield rfl fun p => .inr ⟨v, _, _, _, p, _, y, σ3, H5, rfl, rfl, I5.unpinned, r5, hC _ _ _ _ _ (fun nx => ?_) c5⟩)
        obtain ⟨m', hm, w'⟩ := hN _ H5 nx
        obtain ⟨n', rfl⟩ : ∃ k, n = k + 1 := ⟨n - 1, by omega⟩
        refine (Y.rdy_iff n' _ _ _ _).mpr fun s6 A6 => ?_
        have there6 : ∀ b ∈ Y.a :: Y.Sx, ∃ o, s6.heap.get? b = some o := fun b hb => by
          rcases List.mem_cons.mp hb with z | z
          · obtain ⟨o, e⟩ := there b hb
            exact ⟨o, A6.keep b o (by rw [z]; exact O.aS) (O.pinned I5.unpinned hb e).1⟩
          · obtain ⟨o, e, _⟩ := A6.own b z
            exact ⟨o, e⟩
        have ag6 : ∃ o, s6.heap.get? Y.a = some o ∧ ∀ v, o.data ≠ .cell v := by
          obtain ⟨o, e, d⟩ := ag
          exact ⟨o, A6.keep _ o O.aS (O.pinned I5.unpinned List.mem_cons_self e).1, d⟩
        have I6 := O.woken (wk I5.unpinned) there ag A6 .running rfl
        show Run1 _ _ _ _ _ [] _
        have st6 : tn (i + 1) s6.heap := T.keep _ _ _ (fpin I5).1 fun b hb o e => A6.keep b o (fun z => Nat.lt_irrefl _ (Nat.lt_trans (O.fps b hb) (O.new b (List.mem_cons_of_mem _ z)))) e
        exact run1_again rfl (ih m' hm n' (i + 1) _ H5 s6 (s6.setGen Y.g .running) (by omega) there6 ag6 I6 st6 (fpin I5).2 w')
/-! ### two clauses -/
theorem run1_call {M : Model} {A : Around} {Z : End → Shared → Prop} {c c' : Code} {fs : List Frame} {s : Shared} {h g l} {k : Result → Sem PySem.Fin} (hc : ∀ p, Run1 M A Z c' (M.den c') (.ret k h g l c p [] :: fs) s) : Run1 M A Z c (.call c' h g l k) fs s := by
  intro Γ p e w
  subst e
  obtain ⟨e, s', r, z⟩ := hc p (Γ.goto c') p rfl (w.goto c')
  exact ⟨e, s', runs_call_seg r, z⟩
theorem run1_leaf {M : Model} {A : Around} {Z : End → Shared → Prop} {c c1 : Code} {fs : List Frame} {s : Shared} {k h g l p1 kp} (r : Result) (hk : Run1 M A Z c1 (k r) fs s) : Run1 M A Z c (leafOf r) (.ret k h g l c1 p1 kp :: fs) s := by
  intro Γ p e w
  subst e
  obtain ⟨e, s', hr, z⟩ := hk (Γ.goto c1) p1 rfl (w.goto c1)
  exact ⟨e, s', Runs.pop r hr, z⟩
section
variable {ge elt : Expr} {cs : List Comprehension} {scope : Scope} {gpos : Pos}
theorem den_in {P : Program} {w : World} {it acc : Value} {env : Env} (h : ge = .GeneratorExp elt cs scope gpos) : (model P w).den (.compLoop ge 1 it acc env) = (compTurn ge 1 it acc env).onRaise (fun x => do noteFrame x env; theTreesLotGoes x) := by subst h; rfl
theorem den_in0 {P : Program} {w : World} {it acc : Value} {env : Env} (h : ge = .GeneratorExp elt cs scope gpos) : (model P w).den (.compStart ge 1 it acc env) = (compStart ge 1 it acc env).onRaise (fun x => do noteFrame x env; standAt theWindowsPlace) := by subst h; rfl
theorem over_in {B : Around} {it it1 acc acc1 : Value} {env : Env} {fs : List Frame} {k : Result → Sem PySem.Fin} {g : Bool} {l kp : List Value} {p : Pos} (h : ge = .GeneratorExp elt cs scope gpos) :
    B.over (.compLoop ge 1 it1 acc1 env) (.ret k none g l (.compLoop ge 0 it acc env) p kp :: fs) = B.over (.compLoop ge 0 it acc env) fs ∧ B.over (.compStart ge 1 it1 acc1 env) (.ret k none g l (.compLoop ge 0 it acc env) p kp :: fs) = B.over (.compLoop ge 0 it acc env) fs := by
  subst h
  exact ⟨over_loop rfl rfl, over_loop rfl rfl⟩
end
def GStep2 (W : Nat → Nat → List V → Hp → Prop) (J : It) (g : TG) (tt : TT) (wi1 : TI) (g1 : TG) (tt1 : TT) (te : TE) (vs vs1 : List Nat) (σ0 : L2.St) (C : Eats) (F : List V → Hp → Prop) : Prop :=
  ∀ i m ys H, W i m ys H → (J.stop i H ∧ F ys H) ∨ (J.go i H ∧ ∀ x H', J.yld i H x H' → g x σ0 H' fun σ2 H2 => wipe σ2 vs = σ0 ∧ tt σ2 H2 fun b H3 => if b = true then wi1 σ2 H3 fun J1 H4 =>
      ∃ W1 : Nat → Nat → List V → Hp → Prop, (∃ m1, m1 < m ∧ W1 0 m1 ys H4) ∧ ∀ i1 m1 ys H, W1 i1 m1 ys H → (J1.stop i1 H ∧ ∃ m', m' ≤ m1 ∧ m' < m ∧ W (i + 1) m' ys H) ∨ (J1.go i1 H ∧ ∃ N1 : List V → Hp → Prop, (∀ ys' H', N1 ys' H' → ∃ m', m' < m1 ∧ W1 (i1 + 1) m' ys' H') ∧
        ∀ x1 H', J1.yld i1 H x1 H' → g1 x1 (wipe σ2 vs1) H' fun σ3 H5 => wipe σ3 vs1 = wipe σ2 vs1 ∧ tt1 σ3 H5 fun b1 H6 => if b1 = true then te σ3 H6 fun y H7 => C ys y H7 (N1 (ys ++ [y]) H7) else N1 ys H6)
    else ∃ m', m' < m ∧ W (i + 1) m' ys H3)
/-- what stays true of the inner iterator -/
structure InIt (Y : GEx) (fp1 : List Addr) : Prop where
  loc : ∀ b ∈ fp1, b ≠ Y.cenv.locals
  fs : ∀ b ∈ fp1, b ∉ frs Y.X.stack
  sz : ∀ b ∈ fp1, b ∈ Y.fp ∨ Y.s4.heap.objs.size ≤ b
  cel : ∀ b ∈ fp1, ∀ x c, Y.cenv.cells.lookup x = some c → c ≠ b
  own : ∀ b ∈ fp1, b ∉ Y.a :: Y.Sx
  out : ∀ b ∈ fp1, b ∉ Y.fp
section
variable {Y : GEx} {σ : L2.St} {H : Hp} {s s0 : Shared} {fp1 : List Addr}
theorem InIt.fpOk (N : InIt Y fp1) {h : Heap} (hn : ∀ b ∈ fp1, H b = none) : ∀ b ∈ fp1, FpOk Y.Xg (Y.pn s0 ++ pinsAt Y.fp h) H b := fun b hb =>
  ⟨hn b hb, N.loc b hb, N.fs b hb, N.sz b hb, N.cel b hb, fun p hp z => by
    have hp : p ∈ Y.pn s0 ++ pinsAt Y.fp h := by
      rcases List.mem_append.mp hp with y | y
      · cases y
      · exact y
    rcases List.mem_append.mp hp with y | y
    · exact N.own b hb (z ▸ (of_pinsAt y).1)
    · exact N.out b hb (z ▸ (of_pinsAt y).1)⟩
end
theorem gen_inner {Y : GEx} {elt tg iter tg1 iter1 : Expr} {ifs ifs1 : List Expr} {scope : Scope} {gpos : Pos} (hge : Y.ge = .GeneratorExp elt [⟨tg, iter, ifs, 0⟩, ⟨tg1, iter1, ifs1, 0⟩] scope gpos) {J J1 : It} {tn tn1 : Nat → Heap → Prop} {g1 : TG} {tt1 : TT} {te : TE} {vs vs1 : List Nat} {fp1 : List Addr} {it1 : Addr} {i : Nat} {σ2 : L2.St}
    {W1 : Nat → Nat → List V → Hp → Prop} {Wo : Nat → List V → Hp → Prop} {k : Result → Sem PySem.Fin} {l kp : List Value} {p : Pos} (O : Y.Ok) (T : Turn Y.X.prog Y.X.w Y.X.K tg J Y.fp Y.it tn) (T1 : Turn Y.X.prog Y.X.w Y.X.K tg1 J1 fp1 it1 tn1) (N : InIt Y fp1) (hσ : wipe σ2 vs = Y.σ0) (hvs : ∀ v ∈ vs1, v ∈ vs) (hg : PG Y.Xg tg1 g1) (ht : PTs Y.Xg ifs1 tt1) (he : PE Y.Xg elt te) (hC : EatsMono Y.C)
    (st : ∀ i1 m1 ys H, W1 i1 m1 ys H → (J1.stop i1 H ∧ ∃ m', m' ≤ m1 ∧ Wo m' ys H) ∨ (J1.go i1 H ∧ ∃ N1 : List V → Hp → Prop, (∀ ys' H', N1 ys' H' → ∃ m', m' < m1 ∧ W1 (i1 + 1) m' ys' H') ∧
        ∀ x1 H', J1.yld i1 H x1 H' → g1 x1 (wipe σ2 vs1) H' fun σ3 H5 => wipe σ3 vs1 = wipe σ2 vs1 ∧ tt1 σ3 H5 fun b1 H6 => if b1 = true then te σ3 H6 fun y H7 => Y.C ys y H7 (N1 (ys ++ [y]) H7) else N1 ys H6))
    (cont : ∀ (m' n : Nat) (ys : List V) (H : Hp) (s0 s : Shared), m' ≤ n → (∀ b ∈ Y.a :: Y.Sx, ∃ o, s0.heap.get? b = some o) → (∃ o, s0.heap.get? Y.a = some o ∧ ∀ v, o.data ≠ .cell v) → Inv Y.Xg (Y.pn s0) Y.σ0 H s → tn i s.heap → (∀ b ∈ Y.fp, H b = none) → Wo m' ys H → Run1 Y.M Y.B (Y.Z (Y.Rp n) ys s0) Y.loop (k (.ok .next)) [] s) :
    ∀ (m1 n i1 : Nat) (ys : List V) (H : Hp) (s0 s : Shared), m1 ≤ n → (∀ b ∈ Y.a :: Y.Sx, ∃ o, s0.heap.get? b = some o) → (∃ o, s0.heap.get? Y.a = some o ∧ ∀ v, o.data ≠ .cell v) → Inv Y.Xg (Y.pn s0) (wipe σ2 vs1) H s → tn i s.heap → (∀ b ∈ Y.fp, H b = none) → tn1 i1 s.heap → (∀ b ∈ fp1, H b = none) → W1 i1 m1 ys H →
      Run1 Y.M Y.B (Y.Z (Y.Rp n) ys s0) (.compLoop Y.ge 1 (.ref it1) .none Y.cenv) (Y.M.den (.compLoop Y.ge 1 (.ref it1) .none Y.cenv)) [.ret k none false l Y.loop p kp] s := by
  intro m1
  induction m1 using Nat.strongRecOn with
  | ind m1 ih =>
    intro n i1 ys H s0 s hmn there ag I stt fr st1 fr1 w
    have hco := O.co
    have ov := over_in (B := Y.B) (it := .ref Y.it) (it1 := .ref it1) (acc := .none) (acc1 := .none) (env := Y.cenv) (fs := []) (k := k) (g := false) (l := l) (kp := kp) (p := p) hge
    rw [den_in hge, Sem.onRaise_eq_wrap]
    have ct : compTurn Y.ge 1 (.ref it1) .none Y.cenv = compTurn (.GeneratorExp elt [⟨tg, iter, ifs, 0⟩, ⟨tg1, iter1, ifs1, 0⟩] scope gpos) 1 (.ref it1) .none Y.cenv := by rw [← hge]
    rw [ct]
    unfold compTurn
    simp only [List.getElem?_cons_succ, List.getElem?_cons_zero, List.getElem?_nil, bne_self_eq_false, Bool.false_eq_true, if_false]
    rw [← hge]
    have II := I.pinned (O.fpOk I fr) (T.obj _ _ stt)
    refine run1_bind (wpAny_standAt ?_)
    rcases st i1 m1 ys H w with ⟨stop, m', hm', wo⟩ | ⟨go, N1, hN, step⟩
    · refine run1_bind ?_
      rw [ov.1]
      refine wpAny_mono (T1.done Y.Xg rfl rfl rfl rfl i1 _ s _ H (fun _ _ => False) II (N.fpOk fr1) st1 stop) (fun r s1 ⟨hr, I1⟩ => ?_) fun _ _ z => z.elim
      subst hr
      have J1 : Inv Y.Xg (Y.pn s0) Y.σ0 H s1 := by
        refine (I1.unpinned).weak (by rw [← hσ, wipe_length, wipe_length]) fun j v e => ?_
        rw [← hσ] at e
        obtain ⟨e, hv⟩ := wipe_some e
        rw [wipe_out fun z => hv (hvs j z)]
        exact e
      have pin' : ∀ b ∈ Y.fp, ∀ o, s.heap.get? b = some o → s1.heap.get? b = some o := fun b hb o e => (I1.pin (b, o) (List.mem_append_right _ (List.mem_append_right _ (mem_pinsAt hb e)))).1
      exact run1_leaf (.ok .next) (cont m' n ys H s0 s1 (by omega) there ag J1 (T.keep _ _ _ stt pin') fr wo)
    · refine run1_bind ?_
      rw [ov.1]
      refine wpAny_mono (T1.item Y.Xg rfl rfl rfl rfl i1 _ s _ H (fun _ _ => False) II (N.fpOk fr1) st1 go) (fun r s1 ⟨u, hr, h1⟩ => ?_) fun _ _ z => z.elim
      subst hr
      refine run1_bind ?_
      rw [ov.1]
      refine wpAny_mono h1 (fun _ s2 ⟨x, H2, I2, r2, y2, st2, fr2⟩ => ?_) fun _ _ z => z.elim
      have I2' := I2.pinned (N.fpOk fr2) (T1.obj _ _ st2)
      refine run1_bind ?_
      rw [ov.1]
      refine wpAny_mono (hg.run _ s2 _ H2 x u _ I2' r2 (step x H2 y2)) (fun _ s3 ⟨σ3, H3, I3, hw3, q3⟩ => ?_) fun _ _ z => z.elim
      refine run1_bind ?_
      rw [ov.1]
      refine wpAny_mono (ht.run _ s3 σ3 H3 _ I3 q3) (fun b s4 ⟨H4, I4, q4⟩ => ?_) fun _ _ z => z.elim
      -- behind the turn
      have back : ∀ {s' : Shared} {H' : Hp}, Inv Y.Xg ((Y.pn s0 ++ pinsAt Y.fp s.heap) ++ pinsAt fp1 s2.heap) σ3 H' s' → Inv Y.Xg (Y.pn s0) (wipe σ2 vs1) H' s' ∧ tn i s'.heap ∧ (∀ b ∈ Y.fp, H' b = none) ∧ tn1 (i1 + 1) s'.heap ∧ ∀ b ∈ fp1, H' b = none := fun {s' H'} I' => by
        have p0 : ∀ b ∈ Y.fp, ∀ o, s.heap.get? b = some o → s'.heap.get? b = some o ∧ H' b = none := fun b hb o e => by
          have z := I'.pin (b, o) (List.mem_append_right _ (List.mem_append_left _ (List.mem_append_right _ (mem_pinsAt hb e))))
          exact ⟨z.1, z.2.1⟩
        have p1 : ∀ b ∈ fp1, ∀ o, s2.heap.get? b = some o → s'.heap.get? b = some o ∧ H' b = none := fun b hb o e => by
          have z := I'.pin (b, o) (List.mem_append_right _ (List.mem_append_right _ (mem_pinsAt hb e)))
          exact ⟨z.1, z.2.1⟩
        refine ⟨(I'.unpinned.unpinned).weak (by rw [← hw3, wipe_length]) fun j v e => ?_, T.keep _ _ _ stt fun b hb o e => (p0 b hb o e).1, fun b hb => ?_, T1.keep _ _ _ st2 fun b hb o e => (p1 b hb o e).1, fun b hb => ?_⟩
        · rw [← hw3] at e
          exact (wipe_some e).1
        · obtain ⟨o, e, _⟩ := T.obj _ _ stt b hb
          exact (p0 b hb o e).2
        · obtain ⟨o, e, _⟩ := T1.obj _ _ st2 b hb
          exact (p1 b hb o e).2
      cases b with
      | false =>
        simp only [Bool.false_eq_true, if_false] at q4 ⊢
        obtain ⟨m', hm, w'⟩ := hN ys H4 q4
        obtain ⟨b1, b2, b3, b4, b5⟩ := back I4
        exact run1_again rfl (ih m' hm n (i1 + 1) ys H4 s0 s4 (by omega) there ag b1 b2 b3 b4 b5 w')
      | true =>
        simp only [if_true] at q4 ⊢
        have hy : ∀ v, yieldOut Y.cenv v = yieldValue v := fun v => by simp only [yieldOut, hco, Bool.false_eq_true, if_false]
        simp only [hy]
        rw [Sem.bind_eq_wrap', Sem.bind_eq_wrap', Sem.wrap_wrap, Sem.wrap_wrap]
        refine run1_wrap ?_
        rw [ov.1]
        refine wpAny_mono (he.run _ s4 σ3 H4 _ I4 q4) (fun v s5 ⟨y, H5, I5, r5, c5⟩ => ?_) fun _ _ z => z.elim
        refine run1_at (run1_yield rfl fun p => .inr ⟨v, _, _, _, p, _, y, σ3, H5, rfl, rfl, I5.unpinned.unpinned, r5, hC _ _ _ _ _ (fun nx => ?_) c5⟩)
        obtain ⟨m', hm, w'⟩ := hN _ H5 nx
        obtain ⟨n', rfl⟩ : ∃ k, n = k + 1 := ⟨n - 1, by omega⟩
        obtain ⟨b1, b2, b3, b4, b5⟩ := back I5
        refine (Y.rdy_iff n' _ _ _ _).mpr fun s6 A6 => ?_
        have there6 : ∀ b ∈ Y.a :: Y.Sx, ∃ o, s6.heap.get? b = some o := fun b hb => by
          rcases List.mem_cons.mp hb with z | z
          · obtain ⟨o, e⟩ := there b hb
            exact ⟨o, A6.keep b o (by rw [z]; exact O.aS) (O.pinned b1 hb e).1⟩
          · obtain ⟨o, e, _⟩ := A6.own b z
            exact ⟨o, e⟩
        have ag6 : ∃ o, s6.heap.get? Y.a = some o ∧ ∀ v, o.data ≠ .cell v := by
          obtain ⟨o, e, d⟩ := ag
          exact ⟨o, A6.keep _ o O.aS (O.pinned b1 List.mem_cons_self e).1, d⟩
        have I6 := O.woken b1 there ag A6 .running rfl
        have st6 : tn i s6.heap := T.keep _ _ _ b2 fun b hb o e => A6.keep b o (fun z => Nat.lt_irrefl _ (Nat.lt_trans (O.fps b hb) (O.new b (List.mem_cons_of_mem _ z)))) e
        have st7 : tn1 (i1 + 1) s6.heap := T1.keep _ _ _ b4 fun b hb o e => A6.keep b o (fun z => N.own b hb (List.mem_cons_of_mem _ z)) e
        exact run1_again rfl (ih m' hm n' (i1 + 1) _ H5 s6 (s6.setGen Y.g .running) (by omega) there6 ag6 I6 st6 b3 st7 b5 w')
theorem gen_turns2 {Y : GEx} {elt tg iter tg1 iter1 : Expr} {ifs ifs1 : List Expr} {scope : Scope} {gpos : Pos} (hge : Y.ge = .GeneratorExp elt [⟨tg, iter, ifs, 0⟩, ⟨tg1, iter1, ifs1, 0⟩] scope gpos) {J : It} {tn : Nat → Heap → Prop} {g g1 : TG} {tt tt1 : TT} {te : TE} {wi1 : TI} {vs vs1 : List Nat} {W : Nat → Nat → List V → Hp → Prop}
    (O : Y.Ok) (T : Turn Y.X.prog Y.X.w Y.X.K tg J Y.fp Y.it tn) (hvs : ∀ v ∈ vs1, v ∈ vs) (hg : PG Y.Xg tg g) (ht : PTs Y.Xg ifs tt) (hi1 : PI Y.Xg tg1 iter1 wi1) (hs1 : ∀ x, foldedSetIterable iter1 Y.cenv x = pure x) (hg1 : PG Y.Xg tg1 g1) (ht1 : PTs Y.Xg ifs1 tt1) (he : PE Y.Xg elt te) (hC : EatsMono Y.C)
    (st : GStep2 W J g tt wi1 g1 tt1 te vs vs1 Y.σ0 Y.C Y.F) : ∀ (m n : Nat) (i : Nat) (ys : List V) (H : Hp) (s0 s : Shared), m ≤ n → (∀ b ∈ Y.a :: Y.Sx, ∃ o, s0.heap.get? b = some o) → (∃ o, s0.heap.get? Y.a = some o ∧ ∀ v, o.data ≠ .cell v) → Inv Y.Xg (Y.pn s0) Y.σ0 H s → tn i s.heap → (∀ b ∈ Y.fp, H b = none) → W i m ys H →
      Run1 Y.M Y.B (Y.Z (Y.Rp n) ys s0) Y.loop (Y.M.den Y.loop) [] s := by
  intro m
  induction m using Nat.strongRecOn with
  | ind m ih =>
    intro n i ys H s0 s hmn there ag I stt fr w
    rw [den_one hge, Sem.onRaise_eq_wrap]
    have ct : compTurn Y.ge 0 (.ref Y.it) .none Y.cenv = compTurn (.GeneratorExp elt [⟨tg, iter, ifs, 0⟩, ⟨tg1, iter1, ifs1, 0⟩] scope gpos) 0 (.ref Y.it) .none Y.cenv := by rw [← hge]
    rw [ct]
    unfold compTurn
    simp only [List.getElem?_cons_succ, List.getElem?_cons_zero, List.getElem?_nil, bne_self_eq_false, Bool.false_eq_true, if_false]
    rw [← hge]
    refine run1_bind (wpAny_standAt ?_)
    rcases st i m ys H w with ⟨stop, fin⟩ | ⟨go, step⟩
    · refine run1_bind (wpAny_mono (T.done Y.Xg rfl rfl rfl rfl i (Y.pn s0) s Y.σ0 H (fun _ _ => False) I (O.fpOk I fr) stt stop) (fun r s1 ⟨hr, I1⟩ => ?_) fun _ _ z => z.elim)
      subst hr
      exact run1_end (.ok .next) (.inl ⟨rfl, Y.σ0, H, I1, fin⟩)
    · refine run1_bind (wpAny_mono (T.item Y.Xg rfl rfl rfl rfl i (Y.pn s0) s Y.σ0 H (fun _ _ => False) I (O.fpOk I fr) stt go) (fun r s1 ⟨u, hr, h1⟩ => ?_) fun _ _ z => z.elim)
      subst hr
      refine run1_bind (wpAny_mono h1 (fun _ s2 ⟨x, H2, I2, r2, y2, st2, fr2⟩ => ?_) fun _ _ z => z.elim)
      have I2' := I2.pinned (O.fpOk I2 fr2) (T.obj _ _ st2)
      refine run1_bind (wpAny_mono (hg.run _ s2 Y.σ0 H2 x u _ I2' r2 (step x H2 y2)) (fun _ s3 ⟨σ3, H3, I3, hw3, q3⟩ => ?_) fun _ _ z => z.elim)
      refine run1_bind (wpAny_mono (ht.run _ s3 σ3 H3 _ I3 q3) (fun b s4 ⟨H4, I4, q4⟩ => ?_) fun _ _ z => z.elim)
      have fpin : ∀ {s' : Shared} {H' : Hp}, Inv Y.Xg (Y.pn s0 ++ pinsAt Y.fp s2.heap) σ3 H' s' → tn (i + 1) s'.heap ∧ ∀ b ∈ Y.fp, H' b = none := fun {s' H'} I' => by
        have pin' : ∀ b ∈ Y.fp, ∀ o, s2.heap.get? b = some o → s'.heap.get? b = some o ∧ H' b = none := fun b hb o e => by
          have z := I'.pin (b, o) (List.mem_append_right _ (List.mem_append_right _ (mem_pinsAt hb e)))
          exact ⟨z.1, z.2.1⟩
        refine ⟨T.keep _ _ _ st2 fun b hb o e => (pin' b hb o e).1, fun b hb => ?_⟩
        obtain ⟨o, e, _⟩ := T.obj _ _ st2 b hb
        exact (pin' b hb o e).2
      have wk : ∀ {s' : Shared} {H' : Hp} {pins : List (Addr × Obj)}, Inv Y.Xg pins σ3 H' s' → Inv Y.Xg pins Y.σ0 H' s' := fun {s' H' pins} I' => by
        have hl : Y.σ0.length = σ3.length := by rw [← hw3, wipe_length]
        refine I'.weak hl fun j v e => ?_
        rw [← hw3] at e
        exact (wipe_some e).1
      cases b with
      | false =>
        simp only [Bool.false_eq_true, if_false] at q4 ⊢
        obtain ⟨m', hm, w'⟩ := q4
        exact run1_again rfl (ih m' hm n (i + 1) ys H4 s0 s4 (by omega) there ag (wk I4.unpinned) (fpin I4).1 (fpin I4).2 w')
      | true =>
        simp only [if_true] at q4 ⊢
        refine run1_bind (wpAny_mono (hi1.run _ s4 σ3 H4 _ I4 q4) (fun xv s5 h5 => ?_) fun _ _ z => z.elim)
        refine run1_bind (wpAny_standAt (run1_bind (wpAny_of_eq (hs1 xv) (run1_bind (wpAny_holding (wpAny_mono h5 (fun itv s6 h6 => ?_) fun _ _ z => z.elim))))))
        obtain ⟨it1, fp1, tn1, J1, H6, rfl, I6, T1, st1, f1, W1, ⟨m1, hm1, w1⟩, st'⟩ := h6
        have N : InIt Y fp1 :=
          { loc := fun b hb => (f1 b hb).2.1
            fs := fun b hb => (f1 b hb).2.2.1
            sz := fun b hb => (f1 b hb).2.2.2.1
            cel := fun b hb => (f1 b hb).2.2.2.2.1
            own := fun b hb z => by
              obtain ⟨o, e⟩ := there b z
              exact (f1 b hb).2.2.2.2.2 (b, o) (List.mem_append_right _ (List.mem_append_left _ (mem_pinsAt z e))) rfl
            out := fun b hb z => by
              obtain ⟨o, e, _⟩ := T.obj _ _ st2 b z
              exact (f1 b hb).2.2.2.2.2 (b, o) (List.mem_append_right _ (List.mem_append_right _ (mem_pinsAt z e))) rfl }
        have I7 : Inv Y.Xg (Y.pn s0) (wipe σ3 vs1) H6 s6 := (I6.unpinned).weak (wipe_length _ _) fun j v e => (wipe_some e).1
        rw [Sem.bind_eq_wrap', Sem.wrap_wrap]
        unfold runOwn run
        rw [Sem.onRaise_eq_wrap, Sem.wrap_wrap]
        show Run1 _ _ _ _ (.call (.compStart Y.ge 1 (.ref it1) .none Y.cenv) none false [] _) [] s6
        refine run1_call fun p => ?_
        have inner := fun (k : Result → Sem PySem.Fin) hk => gen_inner (Wo := fun m' ys H => m' < m ∧ W (i + 1) m' ys H) (k := k) (l := []) (kp := []) (p := p) hge O T T1 N hw3 hvs hg1 ht1 he hC (fun i1 m1 ys H w1 => by
          rcases st' i1 m1 ys H w1 with ⟨z1, m', z2, z3, z4⟩ | z
          · exact .inl ⟨z1, m', z2, z3, z4⟩
          · exact .inr z) hk m1 n 0 ys H6 s0 s6 (by omega) there ag I7 (fpin I6).1 (fpin I6).2 st1 (fun b hb => (f1 b hb).1) w1
        rw [den_in0 hge]
        have e : (clausesOf Y.ge)[1]? = some ⟨tg1, iter1, ifs1, 0⟩ := by rw [hge]; rfl
        unfold compStart
        rw [Sem.onRaise_eq_wrap, e]
        refine run1_bind (wpAny_askSetting ?_)
        split
        · exact run1_again rfl (inner _ fun m' n' ys' H' s0' s' h1 h2 h3 h4 h5 h6 h7 => run1_again rfl (ih m' h7.1 n' (i + 1) ys' H' s0' s' h1 h2 h3 h4 h5 h6 h7.2))
        · refine run1_bind (wpAny_rule (run1_bind (wpAny_standAt (run1_bind (T1.self _ 0 s6 _ _ st1 (run1_again rfl (inner _ fun m' n' ys' H' s0' s' h1 h2 h3 h4 h5 h6 h7 => ?_)))))))
          exact run1_again rfl (ih m' h7.1 n' (i + 1) ys' H' s0' s' h1 h2 h3 h4 h5 h6 h7.2)
/-- from the start -/
theorem gen_first {Y : GEx} {elt tg iter : Expr} {ifs : List Expr} {scope : Scope} {gpos : Pos} {cs : List Comprehension} (hge : Y.ge = .GeneratorExp elt (⟨tg, iter, ifs, 0⟩ :: cs) scope gpos) {J : It} {tn : Nat → Heap → Prop} {Z : End → Shared → Prop} (T : Turn Y.X.prog Y.X.w Y.X.K tg J Y.fp Y.it tn) (s : Shared) (stt : tn 0 s.heap)
    (loop : Run1 Y.M Y.B Z Y.loop (Y.M.den Y.loop) [] s) : Run1 Y.M Y.B Z (.compStart Y.ge 0 (.ref Y.it) .none Y.cenv) (Y.M.den (.compStart Y.ge 0 (.ref Y.it) .none Y.cenv)) [] s := by
  rw [den_start hge]
  have e : (clausesOf Y.ge)[0]? = some ⟨tg, iter, ifs, 0⟩ := by rw [hge]; rfl
  unfold compStart
  rw [Sem.onRaise_eq_wrap, e]
  show Run1 _ _ _ _ ((ask >>= _).wrap _ _ _ _) [] s
  refine run1_bind (wpAny_askSetting ?_)
  split
  · exact run1_again rfl loop
  · first
      | exact run1_bind (wpAny_rule (run1_bind (wpAny_standAt (run1_bind (T.self _ 0 s _ _ stt (run1_again rfl loop))))))
      | (refine run1_bind (wpAny_rule ?_); show Run1 _ _ _ _ ((standAt iter.pos >>= _).wrap _ _ _ _) [] s; exact run1_bind (wpAny_standAt (run1_bind (T.self _ 0 s _ _ stt (run1_again rfl loop)))))

/-! ### making it -/
/-- the generator a (number g) in s5, made at s4 over the iterator it -/
structure Made (X : Cx) (pins : List (Addr × Obj)) (σ : L2.St) (ge tg : Expr) (scope : Scope) (J : It) (H2 : Hp) (s4 : Shared) (cenv : Env) (fp : List Addr) (it : Addr) (tn : Nat → Heap → Prop) (a g : Addr) (s5 : Shared) : Prop where
  inv : Inv X pins σ H2 s4
  fps : ∀ b ∈ fp, FpOk X pins H2 b ∧ b < s4.heap.objs.size
  turn : Turn X.prog X.w X.K tg J fp it tn
  at0 : tn 0 s4.heap
  env : ∃ code, cenv = genEnv scope (cloFrom X.env.cells scope.names []) s4.heap.objs.size code builtinsNs X.env
  os : s5.os = s4.os
  gens : s5.gens = s4.gens.push (.fresh (.compStart ge 0 (.ref it) .none cenv))
  num : g = s4.gens.size
  drawn : s5.drawn = s4.drawn
  isg : s5.heap.IsGen a g
  new : s4.heap.objs.size < a
  lt : s5.heap.objs.size = a + 1
  keep : ∀ b o, s4.heap.get? b = some o → s5.heap.get? b = some o
  ns : ∃ m, s5.heap.Ns s4.heap.objs.size m
section
variable {X : Cx} {pins : List (Addr × Obj)} {σ : L2.St} {H : Hp} {s : Shared}
theorem make_any {M : Model} {A : Around} {E : Value → Shared → Prop} {s : Shared} {env : Env} {elt tg iter : Expr} {ifs : List Expr} {cs : List Comprehension} {scope : Scope} {cl : List (Str × Addr)} {pos : Pos} {Q : Value → Shared → Prop} (G : GScp scope) (hcl : closureFor scope env = pure cl) (hroom : A.depth < recursionLimit)
    (h : wpAny M A (eval iter env) (fun xv s1 => wpAny M A (pyIter xv) (fun it s2 => s2.heap.NoLimit ∧ wpAny M A (genexprCode env pos (env.qual ++ "<genexpr>") scope) (fun code s3 => wpAny M A (builtinsFor env.globals env.builtins) (fun bi s4 =>
      ∀ h', h'.Ns s4.heap.objs.size (fun y => if y = ".0" then some it else none) → Heap.SameBut s4.heap.objs.size (s4.heap.push { cls := .type "frame", data := .dict #[] }) h' →
        Q (.ref h'.objs.size) { s4 with gens := s4.gens.push (.fresh (.compStart (.GeneratorExp elt (⟨tg, iter, ifs, 0⟩ :: cs) scope pos) 0 it .none (genEnv scope cl s4.heap.objs.size code bi env))), toks := s4.toks + 1 + 1 + 1, heap := h'.push { cls := .type "generator", data := .fields #[.int s4.gens.size 0, .str "<genexpr>" (s4.toks + 1), .str (env.qual ++ "<genexpr>") (s4.toks + 1 + 1)] } }) E s3) E s2) E s1) E s)
    (hs : ∀ x, genFold iter env x = pure x) : wpAny M A (eval (.GeneratorExp elt (⟨tg, iter, ifs, 0⟩ :: cs) scope pos) env) Q E s := by
  rw [arm_eval_GeneratorExp]
  simp only [G.co, Bool.false_eq_true, if_false]
  refine wpAny_bind (thn h fun xv s1 h1 => wpAny_bind (wpAny_standAt (wpAny_bind (wpAny_of_eq (a := xv) ?_ ?_))))
  · have := hs xv
    unfold genFold at this
    cases iter <;> exact this
  refine wpAny_bind (wpAny_holding (thn h1 fun it s2 h2 => wpAny_bind (wpAny_enterFrame h2.1 hroom ?_)))
  rw [hcl]
  refine wpAny_bind (wpAny_pure (wpAny_bind (thn h2.2 fun code s3 h3 => wpAny_bind (thn h3 fun bi s4 h4 => ?_))))
  have hb : ∀ y ∈ ([((".0" : Str), it)] : List (Str × Value)), scope.names.lookup y.1 = some NameKind.local := fun y hy => by
    rw [List.mem_singleton.mp hy]
    exact G.dot
  refine wpAny_bind (wpAny_newFunctionEnv G.nocell hb (fun h' hn' hs' => ?_) G.kind)
  have e : (fun y : Str => ([((".0" : Str), it)] : List (Str × Value)).reverse.lookup y) = fun y : Str => if y = (".0" : Str) then some it else none := by
    funext y
    by_cases hy : y = ".0"
    · subst hy
      simp
    · have : (y == (".0" : Str)) = false := by simpa using hy
      simp [List.lookup, this, hy]
  rw [e] at hn'
  simp only [newGenerator, newFields]
  exact wpAny_bind (wpAny_newGen (wpAny_bind (wpAny_mkText (wpAny_bind (wpAny_mkText (wpAny_newObj_type (h4 h' hn' hs') (by size_fits)))))))
theorem gen_made {c P : Addr} {elt tg iter : Expr} {ifs : List Expr} {cs : List Comprehension} {scope : Scope} {own : List (Str × Nat)} {gpos : Pos} {wi : TI} {k : Nat} {R : It → Hp → Prop} {Q' : Value → Shared → Prop} (hr : Room k X.A) (TB : LamX.TabB X.base X.mg c P) (hcode : X.env.code = .ref c)
    (G : GScp scope) (ok : BlkOk X.N X.env.scope scope own) (hi : PI X tg iter wi) (hs : ∀ v, genFold iter X.env v = pure v) (I : Inv X pins σ H s) (h : wi σ H fun J H1 => TabG H1 P ∧ R J H1)
    (hQ : ∀ J H1 H2 s4 cenv fp it tn a g s5, R J H1 → Tabbed P H1 H2 → Made X pins σ (.GeneratorExp elt (⟨tg, iter, ifs, 0⟩ :: cs) scope gpos) tg scope J H2 s4 cenv fp it tn a g s5 → Q' (.ref a) s5) :
    wpAny (model X.prog X.w) X.A (eval (.GeneratorExp elt (⟨tg, iter, ifs, 0⟩ :: cs) scope gpos) X.env) Q' X.xe s := by
  refine make_any G (closure_ok (blk_free ok I.ok)) hr.depth ?_ hs
  refine thn (hi.run pins s σ H _ I h) fun xv s1 h1 => thn h1 fun itv s2 h2 => ?_
  obtain ⟨it, fp, tn, J, H1, rfl, I2, T, st2, f2, ⟨ps, hP, htr⟩, q⟩ := h2
  refine ⟨I2.nolimit, ?_⟩
  have hPs : s2.heap.get? P = some { cls := .none, data := .fields ps } := I2.hok P _ hP
  have cd : PySem.W.CodeHd s2.heap c P := TB.code.keeps fun b u e => I2.bk b u e
  have nfP : ∀ b ∈ fp, b ≠ P := fun b hb z => by
    have e := (f2 b hb).1
    rw [z, hP] at e
    cases e
  have cont : ∀ (code : Value) (h3 : Heap) (tk : Nat) (ps' : Array Value), Heap.ExtBut P s2.heap h3 → h3.get? P = some { cls := .none, data := .fields ps' } → (∃ more, ps' = ps ++ more) → TriplesOk ps'.toList →
      wpAny (model X.prog X.w) X.A (builtinsFor X.env.globals X.env.builtins) (fun bi s₄ => ∀ h', h'.Ns s₄.heap.objs.size (fun y => if y = ".0" then some (.ref it) else none) → Heap.SameBut s₄.heap.objs.size (s₄.heap.push { cls := .type "frame", data := .dict #[] }) h' →
          Q' (.ref h'.objs.size) { s₄ with
            gens := s₄.gens.push (.fresh (.compStart (.GeneratorExp elt (⟨tg, iter, ifs, 0⟩ :: cs) scope gpos) 0 (.ref it) .none (genEnv scope (cloFrom X.env.cells scope.names []) s₄.heap.objs.size code bi X.env))),
            toks := s₄.toks + 1 + 1 + 1,
            heap := h'.push { cls := .type "generator", data := .fields #[.int s₄.gens.size 0, .str "<genexpr>" (s₄.toks + 1), .str (X.env.qual ++ "<genexpr>") (s₄.toks + 1 + 1)] } }) X.xe { s2 with heap := h3, toks := tk } := by
    intro code h3 tk ps' hx hP3 hmore ht3
    obtain ⟨bm, ob, e1, e2, e3, e4, e5, e6, e7, e8⟩ := TB.bm
    have keep3 : ∀ b u, b ≠ P → s2.heap.get? b = some u → h3.get? b = some u := fun b u hb e => hx b u hb e
    refine wpAny_builtinsFor (m := X.mg) (by rw [I2.ok.glob]; exact (I2.mod.glob.keeps I2.bk).extBut hx TB.gP) e1 e2 (keep3 _ _ e4 (I2.bk _ _ e5)) e6 e7 e8 ?_
    intro h' hn' hs'
    obtain ⟨more, em⟩ := hmore
    have J4 := inv_tab (more := more) (h' := h3) (g' := s2.gens) (d' := s2.drawn) (t' := tk) I2 hP (fun b u hb e => keep3 b u hb e) (by rw [← em]; exact hP3) I2.bare
    have J4 : Inv X pins σ (upd H1 P (.tbl (ps ++ more))) { s2 with heap := h3, toks := tk } := J4
    have keep' : ∀ b o, h3.get? b = some o → h'.get? b = some o := fun b o e => hs'.extBut b o (Nat.ne_of_lt (Heap.lt_size e)) (Heap.get?_push_of_some _ e)
    have hsz : h'.objs.size = h3.objs.size + 1 := by rw [hs'.1, Heap.size_push]
    have nfpH : ∀ b ∈ fp, upd H1 P (.tbl (ps ++ more)) b = none := fun b hb => by rw [upd_ne (nfP b hb)]; exact (f2 b hb).1
    refine hQ J H1 (upd H1 P (.tbl (ps ++ more))) { s2 with heap := h3, toks := tk } (genEnv scope (cloFrom X.env.cells scope.names []) h3.objs.size code builtinsNs X.env) fp it tn _ s2.gens.size _ q ⟨⟨ps ++ more, upd_same, by rw [← em]; exact ht3⟩, fun b hb => upd_ne hb⟩
      { inv := J4, fps := fun b hb => ?_, turn := T, at0 := ?_, env := ⟨code, rfl⟩, os := rfl, gens := rfl, num := rfl, drawn := rfl, isg := ⟨_, _, _, Heap.get?_push_size _ rfl, rfl, rfl, rfl⟩, new := ?_, lt := ?_, keep := fun b o e => Heap.get?_push_of_some _ (keep' b o e), ns := ⟨_, hn'.push _⟩ }
    · obtain ⟨o, e, _⟩ := T.obj _ _ st2 b hb
      exact ⟨⟨nfpH b hb, (f2 b hb).2⟩, Heap.lt_size (keep3 b o (nfP b hb) e)⟩
    · exact T.keep _ _ _ st2 fun b hb o e => keep3 b o (nfP b hb) e
    · show h3.objs.size < h'.objs.size
      rw [hsz]; exact Nat.lt_succ_self _
    · exact Heap.size_push ..
  cases hf : codeAmong gpos ps.toList with
  | none =>
    refine wpAny_genexprCodeX hcode (cd.code hPs htr) (cd.tab hPs) hf fun c' h' tk hx hge hlt hco' _ htab' _ => ?_
    obtain ⟨o1, vs, f1, tf, fl, tg, inF, tx, tt, op, _, _, _, _, _, _, _, _, _, htr', _⟩ := hco'
    exact cont _ h' tk _ hx htab'.2 ⟨_, rfl⟩ htr'
  | some cv =>
    refine wpAny_genexprCode_hit hcode (cd.code hPs htr) hf ?_
    exact cont cv s2.heap s2.toks ps (Heap.ExtBut.refl _ _) hPs ⟨#[], by simp⟩ htr
end

/-! ### ready -/
theorem Aft.refl {s : Shared} (hb : AllBare s.gens) : Aft [] s s := ⟨rfl, hb, fun _ _ _ e => e, fun b z => by cases z⟩
theorem over_fr {B : Around} {ge elt : Expr} {cs : List Comprehension} {scope : Scope} {gpos : Pos} {it : Value} {cenv : Env} {l : List Env} (hge : ge = .GeneratorExp elt cs scope gpos) (h : B.frames = some l) :
    (B.over (.compLoop ge 0 it .none cenv) []).frames = some (cenv :: l) := by
  subst hge
  obtain ⟨b1, b2, b3, b4, b5⟩ := B
  cases h
  rfl
/-- room in the generator's frame -/
structure NearA (B A : Around) : Prop where
  hd : B.handled = A.handled
  fr : B.frames = A.frames
  dp : B.depth ≤ A.depth + 2
  un : B.units ≤ A.units + 12
theorem NearA.room {B A : Around} {k : Nat} {ge elt : Expr} {cs : List Comprehension} {scope : Scope} {gpos : Pos} {it : Value} {cenv : Env} (hge : ge = .GeneratorExp elt cs scope gpos) (n : NearA B A) (r : Room (k + 1) A) : Room k (B.over (.compLoop ge 0 it .none cenv) []) := by
  subst hge
  obtain ⟨n1, n2, n3, n4⟩ := n
  obtain ⟨r1, r2, r3⟩ := r
  refine ⟨?_, ?_, ?_⟩
  · show B.handled = none
    rw [n1]; exact r1
  · show B.depth + 0 + 1 + 3 * k + 5 < _
    omega
  · show B.units + 0 + 3 + 16 * k + 200 < _
    omega
theorem nearA2 (A : Around) : NearA A.in1.in1 A := ⟨rfl, rfl, Nat.le_add_right _ _, by show A.units + 1 + 1 ≤ _; omega⟩
section
variable {X : Cx} {pins : List (Addr × Obj)} {σ : L2.St} {H2 : Hp} {s4 s5 : Shared}
abbrev mkY (X : Cx) (s4 : Shared) (H2 : Hp) (cenv : Env) (fp : List Addr) (B : Around) (σ0 : L2.St) (ge : Expr) (it a : Addr) (g : Nat) (Sx : List Addr) (C : Eats) (F : List V → Hp → Prop) : GEx :=
  ⟨X, s4, H2, cenv, fp, B, σ0, ge, it, a, g, Sx, C, F⟩
theorem gen_rdy0 {ge elt tg iter : Expr} {ifs : List Expr} {cs : List Comprehension} {scope : Scope} {own : List (Str × Nat)} {gpos : Pos} {J : It} {cenv : Env} {fp : List Addr} {it a g : Addr} {tn : Nat → Heap → Prop} {B : Around} {k : Nat} {C : Eats} {F : List V → Hp → Prop} {Sx : List Addr} (hge : ge = .GeneratorExp elt (⟨tg, iter, ifs, 0⟩ :: cs) scope gpos)
    (hr : Room (k + 1) X.A) (hB : NearA B X.A) (G : GScp scope) (ok : BlkOk X.N X.env.scope scope own) (hN : X.N.Nodup) (M : Made X pins σ ge tg scope J H2 s4 cenv fp it tn a g s5)
    (hS : ∀ b ∈ Sx, a < b) (m : Nat) (turns : (mkY X s4 H2 cenv fp B (wipe σ (own.map (·.2))) ge it a g Sx C F).Ok → Room k (B.over (.compLoop ge 0 (.ref it) .none cenv) []) → ∀ s0 s, (∀ b ∈ a :: Sx, ∃ o, s0.heap.get? b = some o) → (∃ o, s0.heap.get? a = some o ∧ ∀ v, o.data ≠ .cell v) →
      Inv (mkY X s4 H2 cenv fp B (wipe σ (own.map (·.2))) ge it a g Sx C F).Xg ((mkY X s4 H2 cenv fp B (wipe σ (own.map (·.2))) ge it a g Sx C F).pn s0) (wipe σ (own.map (·.2))) H2 s → tn 0 s.heap → (∀ b ∈ fp, H2 b = none) →
      Run1 (model X.prog X.w) B ((mkY X s4 H2 cenv fp B (wipe σ (own.map (·.2))) ge it a g Sx C F).Z ((mkY X s4 H2 cenv fp B (wipe σ (own.map (·.2))) ge it a g Sx C F).Rp m) [] s0) (.compLoop ge 0 (.ref it) .none cenv) ((model X.prog X.w).den (.compLoop ge 0 (.ref it) .none cenv)) [] s) :
    (mkY X s4 H2 cenv fp B (wipe σ (own.map (·.2))) ge it a g Sx C F).Ok ∧
    (mkY X s4 H2 cenv fp B (wipe σ (own.map (·.2))) ge it a g Sx C F).Rdy m [] H2 (.fresh (.compStart ge 0 (.ref it) .none cenv)) s5 := by
  obtain ⟨code, hce⟩ := M.env
  have hfree := blk_free ok M.inv.ok
  have O : (mkY X s4 H2 cenv fp B (wipe σ (own.map (·.2))) ge it a g Sx C F).Ok :=
    { new := fun b hb => by
        rcases List.mem_cons.mp hb with z | z
        · rw [z]; exact M.new
        · exact Nat.lt_trans M.new (hS b z)
      loc := by
        show cenv.locals = _
        rw [hce]; rfl
      cel := fun y c e => by
        have e : cenv.cells.lookup y = some c := e
        rw [hce] at e
        obtain ⟨v, z⟩ := M.inv.cell y c (NdefX.clo_cm hfree e)
        exact z.lt
      fps := fun b hb => (M.fps b hb).2
      aS := fun z => Nat.lt_irrefl _ (hS _ z)
      co := by
        show cenv.scope.isCoroutine = false
        rw [hce]; exact G.co }
  refine ⟨O, (GEx.rdy_iff _ m _ _ _ _).mpr fun s6 A6 => ?_⟩
  have R := hB.room (k := k) (it := Value.ref it) (cenv := cenv) hge hr
  have hfrm : (B.over (.compLoop ge 0 (.ref it) .none cenv) []).frames = some (cenv :: X.stack) := over_fr hge (by rw [hB.fr]; exact M.inv.ok.frames)
  have hS2 : ∀ b o, s5.heap.get? b = some o → b < a + 1 := fun b o e => by
    have := Heap.lt_size e
    rw [M.lt] at this
    exact this
  have kp5 : ∀ b o, s5.heap.get? b = some o → s6.heap.get? b = some o := fun b o e => A6.keep b o (fun z => by
    have h1 := hS b z
    have h2 := hS2 b o e
    exact Nat.lt_irrefl _ (Nat.lt_of_lt_of_le h1 (Nat.le_of_lt_succ h2))) e
  have kp : ∀ b o, s4.heap.get? b = some o → s6.heap.get? b = some o := fun b o e => kp5 b o (M.keep b o e)
  have agn : ∃ o, s6.heap.get? a = some o ∧ ∀ v, o.data ≠ .cell v := by
    obtain ⟨o, n1, n2, e, c, d, _⟩ := M.isg
    exact ⟨o, kp5 _ _ e, fun v z => by rw [d] at z; cases z⟩
  have there : ∀ b ∈ a :: Sx, ∃ o, s6.heap.get? b = some o := fun b hb => by
    rcases List.mem_cons.mp hb with z | z
    · obtain ⟨o, e, _⟩ := agn
      exact ⟨o, by rw [z]; exact e⟩
    · obtain ⟨o, e, _⟩ := A6.own b z
      exact ⟨o, e⟩
  obtain ⟨mm, hns⟩ := M.ns
  have hns6 : s6.heap.Ns s4.heap.objs.size mm := by
    obtain ⟨ob, es, ep, ho, r⟩ := hns
    exact ⟨ob, es, ep, kp5 _ ob ho, r⟩
  have ho6 : s6.os = s4.os := A6.os.trans M.os
  have I0 := gen_start (code := code) (A := B.over (.compLoop ge 0 (.ref it) .none cenv) []) (g' := (s6.setGen g .running).gens) (d' := s6.drawn) (t' := s6.toks) M.inv ok G hN M.fps R.hd (by rw [← hce]; exact hfrm) hns6 kp (allBare_setGen A6.bare rfl)
  rw [← hce] at I0
  have I1 : Inv (mkY X s4 H2 cenv fp B (wipe σ (own.map (·.2))) ge it a g Sx C F).Xg [] (wipe σ (own.map (·.2))) H2 (s6.setGen g .running) := by
    obtain ⟨h6, g6, d6, t6, o6⟩ := s6
    have ho6 : o6 = s4.os := ho6
    subst ho6
    exact I0
  have I2 : Inv (mkY X s4 H2 cenv fp B (wipe σ (own.map (·.2))) ge it a g Sx C F).Xg ((mkY X s4 H2 cenv fp B (wipe σ (own.map (·.2))) ge it a g Sx C F).pn s6) (wipe σ (own.map (·.2))) H2 (s6.setGen g .running) := by
    refine I1.pins_of fun p hp => ?_
    have hp : p ∈ pinsAt (a :: Sx) s6.heap := hp
    obtain ⟨hb, e⟩ := of_pinsAt hp
    have h1 := O.new _ hb
    refine ⟨e, M.inv.hok.fresh (Nat.le_of_lt h1), fun z => ?_, fun z => ?_, ?_⟩
    · have z : p.1 = cenv.locals := z
      rw [z, show cenv.locals = _ from O.loc] at h1
      exact Nat.lt_irrefl _ h1
    · obtain ⟨_, ob, hob, _⟩ := I1.ok.funs.mem z
      exact absurd (Nat.lt_trans h1 (Heap.lt_size hob)) (Nat.lt_irrefl _)
    · rcases List.mem_cons.mp hb with z | z
      · obtain ⟨oa, ea, da⟩ := agn
        rw [z, ea] at e
        cases e
        exact da
      · obtain ⟨ob, eb, db⟩ := A6.own _ z
        rw [e] at eb
        cases eb
        exact db
  have st6 := M.turn.keep _ _ _ M.at0 fun b hb o e => kp b o e
  have stY : tn 0 (s6.setGen g .running).heap := st6
  exact gen_first (Y := mkY X s4 H2 cenv fp B (wipe σ (own.map (·.2))) ge it a g Sx C F) hge M.turn (s6.setGen g .running) stY (turns O R s6 (s6.setGen g .running) there agn I2 stY fun b hb => (M.fps b hb).1.1)
theorem gen_rdy {elt tg iter : Expr} {ifs : List Expr} {scope : Scope} {own : List (Str × Nat)} {gpos : Pos} {J : It} {cenv : Env} {fp : List Addr} {it a g : Addr} {tn : Nat → Heap → Prop} {B : Around} {k : Nat} {gt : TG} {tt : TT} {te : TE} {W : Nat → Nat → List V → Hp → Prop} {C : Eats} {F : List V → Hp → Prop} {Sx : List Addr}
    (hr : Room (k + 1) X.A) (hB : NearA B X.A) (G : GScp scope) (ok : BlkOk X.N X.env.scope scope own) (hN : X.N.Nodup) (M : Made X pins σ (.GeneratorExp elt [⟨tg, iter, ifs, 0⟩] scope gpos) tg scope J H2 s4 cenv fp it tn a g s5)
    (hg : ∀ A, Room k A → PG (gcx X s4 H2 cenv fp A) tg gt) (ht : ∀ A, Room k A → PTs (gcx X s4 H2 cenv fp A) ifs tt) (he : ∀ A, Room k A → PE (gcx X s4 H2 cenv fp A) elt te)
    (hS : ∀ b ∈ Sx, a < b) (hC : EatsMono C) (st : GStep W J gt tt te (own.map (·.2)) (wipe σ (own.map (·.2))) C F) (m : Nat) (w0 : W 0 m [] H2) :
    (mkY X s4 H2 cenv fp B (wipe σ (own.map (·.2))) (.GeneratorExp elt [⟨tg, iter, ifs, 0⟩] scope gpos) it a g Sx C F).Ok ∧
    (mkY X s4 H2 cenv fp B (wipe σ (own.map (·.2))) (.GeneratorExp elt [⟨tg, iter, ifs, 0⟩] scope gpos) it a g Sx C F).Rdy m [] H2 (.fresh (.compStart (.GeneratorExp elt [⟨tg, iter, ifs, 0⟩] scope gpos) 0 (.ref it) .none cenv)) s5 :=
  gen_rdy0 rfl hr hB G ok hN M hS m fun O R s0 s th ag I stt fr =>
    gen_turns (Y := mkY X s4 H2 cenv fp B (wipe σ (own.map (·.2))) (.GeneratorExp elt [⟨tg, iter, ifs, 0⟩] scope gpos) it a g Sx C F) rfl O M.turn (hg _ R) (ht _ R) (he _ R) hC st m m 0 [] H2 s0 s (Nat.le_refl _) th ag I stt fr w0
theorem gen_rdy2 {elt tg iter tg1 iter1 : Expr} {ifs ifs1 : List Expr} {scope : Scope} {own : List (Str × Nat)} {vs1 : List Nat} {gpos : Pos} {J : It} {cenv : Env} {fp : List Addr} {it a g : Addr} {tn : Nat → Heap → Prop} {B : Around} {k : Nat} {gt g1 : TG} {tt tt1 : TT} {te : TE} {wi1 : TI} {W : Nat → Nat → List V → Hp → Prop} {C : Eats} {F : List V → Hp → Prop} {Sx : List Addr}
    (hr : Room (k + 1) X.A) (hB : NearA B X.A) (G : GScp scope) (ok : BlkOk X.N X.env.scope scope own) (hN : X.N.Nodup) (hvs : ∀ v ∈ vs1, v ∈ own.map (·.2)) (M : Made X pins σ (.GeneratorExp elt [⟨tg, iter, ifs, 0⟩, ⟨tg1, iter1, ifs1, 0⟩] scope gpos) tg scope J H2 s4 cenv fp it tn a g s5)
    (hg : ∀ A, Room k A → PG (gcx X s4 H2 cenv fp A) tg gt) (ht : ∀ A, Room k A → PTs (gcx X s4 H2 cenv fp A) ifs tt) (hi1 : ∀ A, Room k A → PI (gcx X s4 H2 cenv fp A) tg1 iter1 wi1) (hs1 : ∀ x, foldedSetIterable iter1 cenv x = pure x) (hg1 : ∀ A, Room k A → PG (gcx X s4 H2 cenv fp A) tg1 g1) (ht1 : ∀ A, Room k A → PTs (gcx X s4 H2 cenv fp A) ifs1 tt1) (he : ∀ A, Room k A → PE (gcx X s4 H2 cenv fp A) elt te)
    (hS : ∀ b ∈ Sx, a < b) (hC : EatsMono C) (st : GStep2 W J gt tt wi1 g1 tt1 te (own.map (·.2)) vs1 (wipe σ (own.map (·.2))) C F) (m : Nat) (w0 : W 0 m [] H2) :
    (mkY X s4 H2 cenv fp B (wipe σ (own.map (·.2))) (.GeneratorExp elt [⟨tg, iter, ifs, 0⟩, ⟨tg1, iter1, ifs1, 0⟩] scope gpos) it a g Sx C F).Ok ∧
    (mkY X s4 H2 cenv fp B (wipe σ (own.map (·.2))) (.GeneratorExp elt [⟨tg, iter, ifs, 0⟩, ⟨tg1, iter1, ifs1, 0⟩] scope gpos) it a g Sx C F).Rdy m [] H2 (.fresh (.compStart (.GeneratorExp elt [⟨tg, iter, ifs, 0⟩, ⟨tg1, iter1, ifs1, 0⟩] scope gpos) 0 (.ref it) .none cenv)) s5 :=
  gen_rdy0 rfl hr hB G ok hN M hS m fun O R s0 s th ag I stt fr =>
    gen_turns2 (Y := mkY X s4 H2 cenv fp B (wipe σ (own.map (·.2))) (.GeneratorExp elt [⟨tg, iter, ifs, 0⟩, ⟨tg1, iter1, ifs1, 0⟩] scope gpos) it a g Sx C F) rfl O M.turn hvs (hg _ R) (ht _ R) (hi1 _ R) hs1 (hg1 _ R) (ht1 _ R) (he _ R) hC st m m 0 [] H2 s0 s (Nat.le_refl _) th ag I stt fr w0
end
/-- out of the generator's frame -/
theorem GEx.out {Y : GEx} {pins ps : List (Addr × Obj)} {σ σ' : L2.St} {H' : Hp} {s1 s2 : Shared} (I4 : Inv Y.X pins σ Y.H1 Y.s4) (hf : ∀ b ∈ Y.fp, FpOk Y.X pins Y.H1 b) (I : Inv Y.Xg ps σ' H' s1) (A : Aft [] s1 s2) : Inv Y.X pins σ H' s2 := by
  have k : ∀ b o, s1.heap.get? b = some o → s2.heap.get? b = some o := fun b o e => A.keep b o (by simp) e
  exact I4.call' (ch := Y.fp) (A.os.trans I.os) (I.base.trans (Un.kept k)) (I.hok.kept k) A.bare fun b hb => ⟨(hf b hb).2.2.2.1, (hf b hb).2.1, (hf b hb).2.2.2.2.1, (hf b hb).2.2.2.2.2⟩
/-- next(g) -/
theorem GEx.next {Y : GEx} {A : Around} {Q : Option Value → Shared → Prop} {E : Value → Shared → Prop} {n : Nat} {ys : List V} {H : Hp} {gs : GenState} {sp s : Shared} (O : Y.Ok) (hB : Y.B = A.in1) (hh : A.handled = none) (hroom : A.depth < recursionLimit) (nl : s.heap.NoLimit)
    (rd : Y.Rdy n ys H gs sp) (af : Aft Y.Sx sp s) (hg : s.heap.IsGen Y.a Y.g) (hgs : s.gens[Y.g]? = some gs) (hlt : Y.g < s.gens.size)
    (qN : ∀ σ' H' s1 s2, Inv Y.Xg (Y.pn s) σ' H' s1 → Y.F ys H' → Aft [] s1 s2 → Q none s2)
    (qS : ∀ v y σ' H' s1 gs', Inv Y.Xg (Y.pn s) σ' H' s1 → RelV y v → Y.C ys y H' (Y.Rp n (ys ++ [y]) H' gs' s1) → gs'.bare = true → s.gens.size ≤ s1.gens.size → Q (some v) (s1.setGen Y.g gs')) : wpAny Y.M A (pyNext (.ref Y.a)) Q E s := by
  have go := (GEx.rdy_iff Y n ys H gs sp).mp rd s af
  rw [hB] at go
  refine next1 hh nl hroom hg hgs go fun e s1 z hsz => ?_
  rcases z with ⟨rfl, σ', H', I, f⟩ | ⟨v, l, k, c, p, fs, y, σ', H', rfl, q, I, r, cc⟩
  · exact .inl ⟨rfl, fun h' kk => qN σ' H' s1 _ I f ⟨rfl, allBare_setGen I.bare rfl, fun b o _ e => kk b o e, fun b z => by cases z⟩⟩
  · exact .inr ⟨v, l, k, c, p, fs, rfl, q, qS v y σ' H' s1 _ I r cc (bare_of q) hsz⟩

/-! ### all, any -/
/-- stop at the first value that is e -/
def eTill (e : Bool) (Qd : Bool → Hp → Prop) : Eats := fun _ y H go => ∃ b, y = .bl b ∧ if b = e then Qd e H else go
theorem eTill_mono {e : Bool} {Qd : Bool → Hp → Prop} : EatsMono (eTill e Qd) := fun ys y H p q h ⟨b, hb, z⟩ => ⟨b, hb, by
  by_cases hbe : b = e
  · rw [if_pos hbe] at z ⊢; exact z
  · rw [if_neg hbe] at z ⊢; exact h z⟩
section
variable {Y : GEx} {Qd : Bool → Hp → Prop} {R : Result → Shared → Prop} {A : Around}
theorem all_loop1 (O : Y.Ok) (hB : Y.B = A.in1.in1) (hS : Y.Sx = []) (hC : Y.C = eTill false Qd) (hF : Y.F = fun _ H => Qd true H) (hh : A.handled = none) (hroom : A.depth < recursionLimit)
    (hR : ∀ k ps σ' H' s1 s2, Inv Y.Xg ps σ' H' s1 → Aft [] s1 s2 → Qd k H' → R (.ok (.ret (.bool k))) s2) : ∀ (n : Nat) (ys : List V) (H : Hp) (gs : GenState) (sp s : Shared), Y.Rdy n ys H gs sp → Aft Y.Sx sp s → s.heap.IsGen Y.a Y.g → s.gens[Y.g]? = some gs → s.heap.NoLimit →
      codeAny Y.M A (.builtin "all.loop" ⟨[.ref Y.a], []⟩) R s := by
  intro n
  induction n with
  | zero =>
    intro ys H gs sp s rd af hg hgs nl
    refine codeAny_builtin PySem.F.entry_all_loop ?_
    rw [Around.under_plainId PySem.F.plain_all_loop _]
    show wpAny _ A.in1 (pyNext (.ref Y.a) >>= _) _ _ s
    refine wpAny_bind (GEx.next O hB hh hroom nl rd af hg hgs (Array.getElem?_eq_some_iff.mp hgs).1 (fun σ' H' s1 s2 I f a => ?_) fun v y σ' H' s1 gs' I r c hb hsz => ?_)
    · rw [hF] at f
      exact wpAny_bind (wpAny_rule (wpAny_pure (hR true _ σ' H' s1 s2 I a f)))
    · rw [hC] at c
      obtain ⟨b, rfl, c⟩ := c
      obtain rfl : v = .bool b := r
      refine wpAny_bind (wpAny_holding (wpAny_truthy_bool ?_))
      refine wpAny_bind (wpAny_letGo ?_)
      cases b with
      | true => exact (show False from c).elim
      | false =>
        simp only [Bool.false_eq_true, if_false]
        exact wpAny_bind (wpAny_rule (wpAny_pure (hR false _ σ' H' s1 _ I ⟨rfl, allBare_setGen I.bare hb, fun _ _ _ e => e, fun b z => by cases z⟩ c)))
  | succ n ih =>
    intro ys H gs sp s rd af hg hgs nl
    refine codeAny_builtin PySem.F.entry_all_loop ?_
    rw [Around.under_plainId PySem.F.plain_all_loop _]
    show wpAny _ A.in1 (pyNext (.ref Y.a) >>= _) _ _ s
    refine wpAny_bind (GEx.next O hB hh hroom nl rd af hg hgs (Array.getElem?_eq_some_iff.mp hgs).1 (fun σ' H' s1 s2 I f a => ?_) fun v y σ' H' s1 gs' I r c hb hsz => ?_)
    · rw [hF] at f
      exact wpAny_bind (wpAny_rule (wpAny_pure (hR true _ σ' H' s1 s2 I a f)))
    · rw [hC] at c
      obtain ⟨b, rfl, c⟩ := c
      obtain rfl : v = .bool b := r
      refine wpAny_bind (wpAny_holding (wpAny_truthy_bool ?_))
      refine wpAny_bind (wpAny_letGo ?_)
      cases b with
      | true =>
        simp only [if_true]
        obtain ⟨o, n1, n2, e, r⟩ := hg
        refine wpAny_pure ⟨plainId_quiet PySem.F.plain_all_loop _, ih _ H' gs' s1 (s1.setGen Y.g gs') c (by rw [hS]; exact ⟨rfl, allBare_setGen I.bare hb, fun _ _ _ e => e, fun b z => by cases z⟩) ⟨o, n1, n2, (O.pinned I List.mem_cons_self e).1, r⟩ (setGen_at (Nat.lt_of_lt_of_le (Array.getElem?_eq_some_iff.mp hgs).1 hsz)) I.nolimit⟩
      | false =>
        simp only [Bool.false_eq_true, if_false]
        exact wpAny_bind (wpAny_rule (wpAny_pure (hR false _ σ' H' s1 _ I ⟨rfl, allBare_setGen I.bare hb, fun _ _ _ e => e, fun b z => by cases z⟩ c)))
theorem any_loop1 (O : Y.Ok) (hB : Y.B = A.in1.in1) (hS : Y.Sx = []) (hC : Y.C = eTill true Qd) (hF : Y.F = fun _ H => Qd false H) (hh : A.handled = none) (hroom : A.depth < recursionLimit)
    (hR : ∀ k ps σ' H' s1 s2, Inv Y.Xg ps σ' H' s1 → Aft [] s1 s2 → Qd k H' → R (.ok (.ret (.bool k))) s2) : ∀ (n : Nat) (ys : List V) (H : Hp) (gs : GenState) (sp s : Shared), Y.Rdy n ys H gs sp → Aft Y.Sx sp s → s.heap.IsGen Y.a Y.g → s.gens[Y.g]? = some gs → s.heap.NoLimit →
      codeAny Y.M A (.builtin "any.loop" ⟨[.ref Y.a], []⟩) R s := by
  intro n
  induction n with
  | zero =>
    intro ys H gs sp s rd af hg hgs nl
    refine codeAny_builtin PySem.F.entry_any_loop ?_
    rw [Around.under_plainId PySem.F.plain_any_loop _]
    show wpAny _ A.in1 (pyNext (.ref Y.a) >>= _) _ _ s
    refine wpAny_bind (GEx.next O hB hh hroom nl rd af hg hgs (Array.getElem?_eq_some_iff.mp hgs).1 (fun σ' H' s1 s2 I f a => ?_) fun v y σ' H' s1 gs' I r c hb hsz => ?_)
    · rw [hF] at f
      exact wpAny_bind (wpAny_rule (wpAny_pure (hR false _ σ' H' s1 s2 I a f)))
    · rw [hC] at c
      obtain ⟨b, rfl, c⟩ := c
      obtain rfl : v = .bool b := r
      refine wpAny_bind (wpAny_holding (wpAny_truthy_bool ?_))
      refine wpAny_bind (wpAny_letGo ?_)
      cases b with
      | false => exact (show False from c).elim
      | true =>
        simp only [if_true]
        exact wpAny_bind (wpAny_rule (wpAny_pure (hR true _ σ' H' s1 _ I ⟨rfl, allBare_setGen I.bare hb, fun _ _ _ e => e, fun b z => by cases z⟩ c)))
  | succ n ih =>
    intro ys H gs sp s rd af hg hgs nl
    refine codeAny_builtin PySem.F.entry_any_loop ?_
    rw [Around.under_plainId PySem.F.plain_any_loop _]
    show wpAny _ A.in1 (pyNext (.ref Y.a) >>= _) _ _ s
    refine wpAny_bind (GEx.next O hB hh hroom nl rd af hg hgs (Array.getElem?_eq_some_iff.mp hgs).1 (fun σ' H' s1 s2 I f a => ?_) fun v y σ' H' s1 gs' I r c hb hsz => ?_)
    · rw [hF] at f
      exact wpAny_bind (wpAny_rule (wpAny_pure (hR false _ σ' H' s1 s2 I a f)))
    · rw [hC] at c
      obtain ⟨b, rfl, c⟩ := c
      obtain rfl : v = .bool b := r
      refine wpAny_bind (wpAny_holding (wpAny_truthy_bool ?_))
      refine wpAny_bind (wpAny_letGo ?_)
      cases b with
      | false =>
        simp only [Bool.false_eq_true, if_false]
        obtain ⟨o, n1, n2, e, r⟩ := hg
        refine wpAny_pure ⟨plainId_quiet PySem.F.plain_any_loop _, ih _ H' gs' s1 (s1.setGen Y.g gs') c (by rw [hS]; exact ⟨rfl, allBare_setGen I.bare hb, fun _ _ _ e => e, fun b z => by cases z⟩) ⟨o, n1, n2, (O.pinned I List.mem_cons_self e).1, r⟩ (setGen_at (Nat.lt_of_lt_of_le (Array.getElem?_eq_some_iff.mp hgs).1 hsz)) I.nolimit⟩
      | true =>
        simp only [if_true]
        exact wpAny_bind (wpAny_rule (wpAny_pure (hR true _ σ' H' s1 _ I ⟨rfl, allBare_setGen I.bare hb, fun _ _ _ e => e, fun b z => by cases z⟩ c)))
end
section
variable {X : Cx}
/-- all (e = false), any (e = true) of elt for target in iter if ..; the running def's table at P may have grown -/
def tTill (e : Bool) (P : Addr) (wi : TI) (g : TG) (tt : TT) (te : TE) (vs : List Nat) : TE := fun σ H Q => wi σ H fun J H1 => TabG H1 P ∧ ∀ H2, Tabbed P H1 H2 →
  ∃ W : Nat → Nat → Hp → Prop, (∃ m, W 0 m H2) ∧ ∀ i m H, W i m H → (J.stop i H ∧ Q (.bl (!e)) H) ∨ (J.go i H ∧ ∃ Nx : Hp → Prop, (∀ H', Nx H' → ∃ m', m' < m ∧ W (i + 1) m' H') ∧
    ∀ x H', J.yld i H x H' → g x (wipe σ vs) H' fun σ2 H2 => wipe σ2 vs = wipe σ vs ∧ tt σ2 H2 fun b H3 => if b = true then te σ2 H3 fun y H4 => ∃ b, y = .bl b ∧ if b = e then Q (.bl e) H4 else Nx H4 else Nx H3)
abbrev RetQ (Q : Value → Shared → Prop) (E : Value → Shared → Prop) : Result → Shared → Prop := fun r s' => match r with | .ok (.ret v) => Q v s' | .ok _ => False | .error e => E e s'
theorem call_allP {P : Program} {w : World} {A : Around} {Q : Value → Shared → Prop} {E : Value → Shared → Prop} {s : Shared} {a g : Addr} (hg : s.heap.IsGen a g)
    (h : codeAny (model P w) A (.builtin "all.loop" ⟨[.ref a], []⟩) (RetQ Q E) s) : wpAny (model P w) A (call (.builtin "all") [.ref a]) Q E s := by
  refine call_function_tree PySem.F.kind_all PySem.F.plain_all PySem.F.entry_all (PySem.F.args_all1 _) ?_
  unfold Builtin.«all»
  refine wpAny_bind (wpAny_pure ?_)
  exact wpAny_bind (wpAny_pyIter_gen hg (wpAny_pure ⟨plainId_quiet PySem.F.plain_all_loop _, h⟩))
theorem call_anyP {P : Program} {w : World} {A : Around} {Q : Value → Shared → Prop} {E : Value → Shared → Prop} {s : Shared} {a g : Addr} (hg : s.heap.IsGen a g)
    (h : codeAny (model P w) A (.builtin "any.loop" ⟨[.ref a], []⟩) (RetQ Q E) s) : wpAny (model P w) A (call (.builtin "any") [.ref a]) Q E s := by
  refine call_function_tree PySem.F.kind_any PySem.F.plain_any PySem.F.entry_any (PySem.F.args_any1 _) ?_
  unfold Builtin.«any»
  refine wpAny_bind (wpAny_pure ?_)
  exact wpAny_bind (wpAny_pyIter_gen hg (wpAny_pure ⟨plainId_quiet PySem.F.plain_any_loop _, h⟩))
/-- the places where the generator's frame may stand -/
abbrev GPG (X : Cx) (k : Nat) (scope : Scope) (tg : Expr) (g : TG) : Prop := ∀ (s : Shared) (H : Hp) (C : Addr) (cl : List (Str × Addr)) (code : Value) (fp : List Addr) (A : Around), Room k A → PG (gcx X s H (genEnv scope cl C code builtinsNs X.env) fp A) tg g
abbrev GPT (X : Cx) (k : Nat) (scope : Scope) (ifs : List Expr) (t : TT) : Prop := ∀ (s : Shared) (H : Hp) (C : Addr) (cl : List (Str × Addr)) (code : Value) (fp : List Addr) (A : Around), Room k A → PTs (gcx X s H (genEnv scope cl C code builtinsNs X.env) fp A) ifs t
abbrev GPE (X : Cx) (k : Nat) (scope : Scope) (e : Expr) (t : TE) : Prop := ∀ (s : Shared) (H : Hp) (C : Addr) (cl : List (Str × Addr)) (code : Value) (fp : List Addr) (A : Around), Room k A → PE (gcx X s H (genEnv scope cl C code builtinsNs X.env) fp A) e t
theorem tTill_step {e : Bool} {J : It} {g : TG} {tt : TT} {te : TE} {vs : List Nat} {σ : L2.St} {Q : VK} {W : Nat → Nat → Hp → Prop}
    (h : ∀ i m H, W i m H → (J.stop i H ∧ Q (.bl (!e)) H) ∨ (J.go i H ∧ ∃ Nx : Hp → Prop, (∀ H', Nx H' → ∃ m', m' < m ∧ W (i + 1) m' H') ∧
      ∀ x H', J.yld i H x H' → g x (wipe σ vs) H' fun σ2 H2 => wipe σ2 vs = wipe σ vs ∧ tt σ2 H2 fun b H3 => if b = true then te σ2 H3 fun y H4 => ∃ b, y = .bl b ∧ if b = e then Q (.bl e) H4 else Nx H4 else Nx H3)) :
    GStep (fun i m _ H => W i m H) J g tt te vs (wipe σ vs) (eTill e fun b H => Q (.bl b) H) (fun _ H => Q (.bl (!e)) H) := fun i m ys H w => by
  rcases h i m H w with z | ⟨go, Nx, hN, st⟩
  · exact .inl z
  · exact .inr ⟨go, fun _ H => Nx H, fun _ H' nx => hN H' nx, st⟩
section
variable {c P : Addr} {elt tg iter : Expr} {ifs : List Expr} {scope : Scope} {own : List (Str × Nat)} {p pos gpos : Pos} {wi : TI} {g : TG} {tt : TT} {te : TE} {k : Nat}
theorem pe_allG (hr : Room (k + 1) X.A) (hn : X.N.Nodup) (hgl : Gl X "all") (hm : X.mg "all" = none) (TB : LamX.TabB X.base X.mg c P) (hcode : X.env.code = .ref c) (G : GScp scope) (ok : BlkOk X.N X.env.scope scope own) (hi : PI X tg iter wi)
    (hg : GPG X k scope tg g) (ht : GPT X k scope ifs tt) (he : GPE X k scope elt te) (hb : bootBuiltins "all" = some (.builtin "all") := by first | rfl | decide +kernel) (hs : ∀ v, genFold iter X.env v = pure v := by intro _; rfl)
    (hst : starEach [.GeneratorExp elt [⟨tg, iter, ifs, 0⟩] scope gpos] X.env = (false, eval (.GeneratorExp elt [⟨tg, iter, ifs, 0⟩] scope gpos) X.env) :: starEach [] X.env := by rfl) :
    PE X (.Call (.Name "all" p) [.GeneratorExp elt [⟨tg, iter, ifs, 0⟩] scope gpos] [] pos) (tTill false P wi g tt te (own.map (·.2))) := by
  refine ⟨fun pins s σ H Q I h => ?_⟩
  refine wpAny_Call_Name_kw (ld_blt I hgl hm hb ?_)
  refine PyProof.Rows.callWith_builtin1 ?_ hst (by rfl)
  rw [hst]
  show wpAny _ _ (spliced ((false, eval (.GeneratorExp elt [⟨tg, iter, ifs, 0⟩] scope gpos) X.env) :: backTo pos (starEach [] X.env))) _ _ s
  refine Calls.spliced_cons (gen_made (R := fun J H1 => _) hr TB hcode G ok hi hs I h fun J H1 H2 s4 cenv fp it tn a gn s5 q tb M => ?_)
  refine Calls.spliced_nil (call_allP M.isg ?_)
  obtain ⟨W, ⟨m, w0⟩, st⟩ := q H2 tb
  obtain ⟨code, hce⟩ := M.env
  subst hce
  obtain ⟨O, rd⟩ := gen_rdy (B := X.A.in1.in1) (Sx := []) hr (nearA2 _) G ok hn M (fun A r => hg _ _ _ _ _ _ A r) (fun A r => ht _ _ _ _ _ _ A r) (fun A r => he _ _ _ _ _ _ A r) (fun b z => by cases z) eTill_mono (tTill_step st) m w0
  refine all_loop1 (Qd := fun b H => Q (.bl b) H) (Y := mkY X s4 H2 _ fp X.A.in1.in1 (wipe σ (own.map (·.2))) (.GeneratorExp elt [⟨tg, iter, ifs, 0⟩] scope gpos) it a gn [] (eTill false fun b H => Q (.bl b) H) (fun _ H => Q (.bl (!false)) H)) O rfl rfl rfl rfl hr.hd hr.depth (fun k ps σ' H' s1 s2 I' af q => ?_) m [] H2 _ s5 s5 rd (Aft.refl ?_) M.isg ?_ ?_
  · exact ⟨.bl k, H', GEx.out (Y := mkY X s4 H2 _ fp X.A.in1.in1 (wipe σ (own.map (·.2))) (.GeneratorExp elt [⟨tg, iter, ifs, 0⟩] scope gpos) it a gn [] (eTill false fun b H => Q (.bl b) H) (fun _ H => Q (.bl (!false)) H)) M.inv (fun b hb => (M.fps b hb).1) I' af, rfl, q⟩
  · rw [M.gens]
    exact M.inv.bare.push rfl
  · show s5.gens[gn]? = _
    rw [M.gens, M.num]
    simp
  · exact M.inv.nolimit.keeps M.keep
theorem pe_anyG (hr : Room (k + 1) X.A) (hn : X.N.Nodup) (hgl : Gl X "any") (hm : X.mg "any" = none) (TB : LamX.TabB X.base X.mg c P) (hcode : X.env.code = .ref c) (G : GScp scope) (ok : BlkOk X.N X.env.scope scope own) (hi : PI X tg iter wi)
    (hg : GPG X k scope tg g) (ht : GPT X k scope ifs tt) (he : GPE X k scope elt te) (hb : bootBuiltins "any" = some (.builtin "any") := by first | rfl | decide +kernel) (hs : ∀ v, genFold iter X.env v = pure v := by intro _; rfl)
    (hst : starEach [.GeneratorExp elt [⟨tg, iter, ifs, 0⟩] scope gpos] X.env = (false, eval (.GeneratorExp elt [⟨tg, iter, ifs, 0⟩] scope gpos) X.env) :: starEach [] X.env := by rfl) :
    PE X (.Call (.Name "any" p) [.GeneratorExp elt [⟨tg, iter, ifs, 0⟩] scope gpos] [] pos) (tTill true P wi g tt te (own.map (·.2))) := by
  refine ⟨fun pins s σ H Q I h => ?_⟩
  refine wpAny_Call_Name_kw (ld_blt I hgl hm hb ?_)
  refine PyProof.Rows.callWith_builtin1 ?_ hst (by rfl)
  rw [hst]
  show wpAny _ _ (spliced ((false, eval (.GeneratorExp elt [⟨tg, iter, ifs, 0⟩] scope gpos) X.env) :: backTo pos (starEach [] X.env))) _ _ s
  refine Calls.spliced_cons (gen_made (R := fun J H1 => _) hr TB hcode G ok hi hs I h fun J H1 H2 s4 cenv fp it tn a gn s5 q tb M => ?_)
  refine Calls.spliced_nil (call_anyP M.isg ?_)
  obtain ⟨W, ⟨m, w0⟩, st⟩ := q H2 tb
  obtain ⟨code, hce⟩ := M.env
  subst hce
  obtain ⟨O, rd⟩ := gen_rdy (B := X.A.in1.in1) (Sx := []) hr (nearA2 _) G ok hn M (fun A r => hg _ _ _ _ _ _ A r) (fun A r => ht _ _ _ _ _ _ A r) (fun A r => he _ _ _ _ _ _ A r) (fun b z => by cases z) eTill_mono (tTill_step st) m w0
  refine any_loop1 (Qd := fun b H => Q (.bl b) H) (Y := mkY X s4 H2 _ fp X.A.in1.in1 (wipe σ (own.map (·.2))) (.GeneratorExp elt [⟨tg, iter, ifs, 0⟩] scope gpos) it a gn [] (eTill true fun b H => Q (.bl b) H) (fun _ H => Q (.bl (!true)) H)) O rfl rfl rfl rfl hr.hd hr.depth (fun k ps σ' H' s1 s2 I' af q => ?_) m [] H2 _ s5 s5 rd (Aft.refl ?_) M.isg ?_ ?_
  · exact ⟨.bl k, H', GEx.out (Y := mkY X s4 H2 _ fp X.A.in1.in1 (wipe σ (own.map (·.2))) (.GeneratorExp elt [⟨tg, iter, ifs, 0⟩] scope gpos) it a gn [] (eTill true fun b H => Q (.bl b) H) (fun _ H => Q (.bl (!true)) H)) M.inv (fun b hb => (M.fps b hb).1) I' af, rfl, q⟩
  · rw [M.gens]
    exact M.inv.bare.push rfl
  · show s5.gens[gn]? = _
    rw [M.gens, M.num]
    simp
  · exact M.inv.nolimit.keeps M.keep
end
/-- .. of two clauses -/
def tTill2 (e : Bool) (P : Addr) (wi : TI) (g : TG) (tt : TT) (wi1 : TI) (g1 : TG) (tt1 : TT) (te : TE) (vs vs1 : List Nat) : TE := fun σ H Q => wi σ H fun J H1 => TabG H1 P ∧ ∀ H2, Tabbed P H1 H2 →
  ∃ W : Nat → Nat → Hp → Prop, (∃ m, W 0 m H2) ∧ ∀ i m H, W i m H → (J.stop i H ∧ Q (.bl (!e)) H) ∨ (J.go i H ∧ ∀ x H', J.yld i H x H' → g x (wipe σ vs) H' fun σ2 H2 => wipe σ2 vs = wipe σ vs ∧ tt σ2 H2 fun b H3 => if b = true then wi1 σ2 H3 fun J1 H4 =>
      ∃ W1 : Nat → Nat → Hp → Prop, (∃ m1, m1 < m ∧ W1 0 m1 H4) ∧ ∀ i1 m1 H, W1 i1 m1 H → (J1.stop i1 H ∧ ∃ m', m' ≤ m1 ∧ m' < m ∧ W (i + 1) m' H) ∨ (J1.go i1 H ∧ ∃ N1 : Hp → Prop, (∀ H', N1 H' → ∃ m', m' < m1 ∧ W1 (i1 + 1) m' H') ∧
        ∀ x1 H', J1.yld i1 H x1 H' → g1 x1 (wipe σ2 vs1) H' fun σ3 H5 => wipe σ3 vs1 = wipe σ2 vs1 ∧ tt1 σ3 H5 fun b1 H6 => if b1 = true then te σ3 H6 fun y H7 => ∃ b, y = .bl b ∧ if b = e then Q (.bl e) H7 else N1 H7 else N1 H6)
    else ∃ m', m' < m ∧ W (i + 1) m' H3)
theorem tTill2_step {e : Bool} {J : It} {wi1 : TI} {g g1 : TG} {tt tt1 : TT} {te : TE} {vs vs1 : List Nat} {σ : L2.St} {Q : VK} {W : Nat → Nat → Hp → Prop}
    (h : ∀ i m H, W i m H → (J.stop i H ∧ Q (.bl (!e)) H) ∨ (J.go i H ∧ ∀ x H', J.yld i H x H' → g x (wipe σ vs) H' fun σ2 H2 => wipe σ2 vs = wipe σ vs ∧ tt σ2 H2 fun b H3 => if b = true then wi1 σ2 H3 fun J1 H4 =>
      ∃ W1 : Nat → Nat → Hp → Prop, (∃ m1, m1 < m ∧ W1 0 m1 H4) ∧ ∀ i1 m1 H, W1 i1 m1 H → (J1.stop i1 H ∧ ∃ m', m' ≤ m1 ∧ m' < m ∧ W (i + 1) m' H) ∨ (J1.go i1 H ∧ ∃ N1 : Hp → Prop, (∀ H', N1 H' → ∃ m', m' < m1 ∧ W1 (i1 + 1) m' H') ∧
        ∀ x1 H', J1.yld i1 H x1 H' → g1 x1 (wipe σ2 vs1) H' fun σ3 H5 => wipe σ3 vs1 = wipe σ2 vs1 ∧ tt1 σ3 H5 fun b1 H6 => if b1 = true then te σ3 H6 fun y H7 => ∃ b, y = .bl b ∧ if b = e then Q (.bl e) H7 else N1 H7 else N1 H6)
    else ∃ m', m' < m ∧ W (i + 1) m' H3)) (hmono : ∀ σ2 H3 (R R' : It → Hp → Prop), (∀ J H, R J H → R' J H) → wi1 σ2 H3 R → wi1 σ2 H3 R')
    (gm : ∀ v σ H (R R' : L2.St → Hp → Prop), (∀ σ H, R σ H → R' σ H) → g v σ H R → g v σ H R') (tm : ∀ σ H (R R' : Bool → Hp → Prop), (∀ b H, R b H → R' b H) → tt σ H R → tt σ H R') :
    GStep2 (fun i m _ H => W i m H) J g tt wi1 g1 tt1 te vs vs1 (wipe σ vs) (eTill e fun b H => Q (.bl b) H) (fun _ H => Q (.bl (!e)) H) := fun i m ys H w => by
  rcases h i m H w with z | ⟨go, st⟩
  · exact .inl z
  · refine .inr ⟨go, fun x H' y => gm _ _ _ _ _ (fun σ2 H2 q => ⟨q.1, tm _ _ _ _ (fun b H3 q2 => ?_) q.2⟩) (st x H' y)⟩
    cases b with
    | false => exact q2
    | true =>
      refine hmono _ _ _ _ (fun J1 H4 q3 => ?_) q2
      obtain ⟨W1, ⟨m1, h1, w1⟩, st1⟩ := q3
      refine ⟨fun i m _ H => W1 i m H, ⟨m1, h1, w1⟩, fun i1 m2 ys2 H5 w2 => ?_⟩
      rcases st1 i1 m2 H5 w2 with z | ⟨go1, N1, hN, s1⟩
      · exact .inl z
      · exact .inr ⟨go1, fun _ H => N1 H, fun _ H' n => hN H' n, s1⟩
section
variable {c P : Addr} {elt tg iter tg1 iter1 : Expr} {ifs ifs1 : List Expr} {scope : Scope} {own : List (Str × Nat)} {vs1 : List Nat} {p pos gpos : Pos} {wi wi1 : TI} {g g1 : TG} {tt tt1 : TT} {te : TE} {k : Nat}
/-- the places where the second clause's iterator is made -/
abbrev GPI (X : Cx) (k : Nat) (scope : Scope) (tg e : Expr) (t : TI) : Prop := ∀ (s : Shared) (H : Hp) (C : Addr) (cl : List (Str × Addr)) (code : Value) (fp : List Addr) (A : Around), Room k A → PI (gcx X s H (genEnv scope cl C code builtinsNs X.env) fp A) tg e t
theorem pe_anyG2 (hr : Room (k + 1) X.A) (hn : X.N.Nodup) (hgl : Gl X "any") (hm : X.mg "any" = none) (TB : LamX.TabB X.base X.mg c P) (hcode : X.env.code = .ref c) (G : GScp scope) (ok : BlkOk X.N X.env.scope scope own) (hvs : ∀ v ∈ vs1, v ∈ own.map (·.2)) (hi : PI X tg iter wi)
    (hg : GPG X k scope tg g) (ht : GPT X k scope ifs tt) (hi1 : GPI X k scope tg1 iter1 wi1) (hg1 : GPG X k scope tg1 g1) (ht1 : GPT X k scope ifs1 tt1) (he : GPE X k scope elt te)
    (hmono : ∀ σ2 H3 (R R' : It → Hp → Prop), (∀ J H, R J H → R' J H) → wi1 σ2 H3 R → wi1 σ2 H3 R') (gm : ∀ v σ H (R R' : L2.St → Hp → Prop), (∀ σ H, R σ H → R' σ H) → g v σ H R → g v σ H R') (tm : ∀ σ H (R R' : Bool → Hp → Prop), (∀ b H, R b H → R' b H) → tt σ H R → tt σ H R')
    (hb : bootBuiltins "any" = some (.builtin "any") := by first | rfl | decide +kernel) (hs : ∀ v, genFold iter X.env v = pure v := by intro _; rfl) (hs1 : ∀ (C : Addr) (cl : List (Str × Addr)) (code : Value) x, foldedSetIterable iter1 (genEnv scope cl C code builtinsNs X.env) x = pure x := by intro _ _ _ _; rfl)
    (hst : starEach [.GeneratorExp elt [⟨tg, iter, ifs, 0⟩, ⟨tg1, iter1, ifs1, 0⟩] scope gpos] X.env = (false, eval (.GeneratorExp elt [⟨tg, iter, ifs, 0⟩, ⟨tg1, iter1, ifs1, 0⟩] scope gpos) X.env) :: starEach [] X.env := by rfl) :
    PE X (.Call (.Name "any" p) [.GeneratorExp elt [⟨tg, iter, ifs, 0⟩, ⟨tg1, iter1, ifs1, 0⟩] scope gpos] [] pos) (tTill2 true P wi g tt wi1 g1 tt1 te (own.map (·.2)) vs1) := by
  refine ⟨fun pins s σ H Q I h => ?_⟩
  refine wpAny_Call_Name_kw (ld_blt I hgl hm hb ?_)
  refine PyProof.Rows.callWith_builtin1 ?_ hst (by rfl)
  rw [hst]
  show wpAny _ _ (spliced ((false, eval (.GeneratorExp elt [⟨tg, iter, ifs, 0⟩, ⟨tg1, iter1, ifs1, 0⟩] scope gpos) X.env) :: backTo pos (starEach [] X.env))) _ _ s
  refine Calls.spliced_cons (gen_made (R := fun J H1 => _) hr TB hcode G ok hi hs I h fun J H1 H2 s4 cenv fp it tn a gn s5 q tb M => ?_)
  refine Calls.spliced_nil (call_anyP M.isg ?_)
  obtain ⟨W, ⟨m, w0⟩, st⟩ := q H2 tb
  obtain ⟨code, hce⟩ := M.env
  subst hce
  obtain ⟨O, rd⟩ := gen_rdy2 (B := X.A.in1.in1) (Sx := []) hr (nearA2 _) G ok hn hvs M (fun A r => hg _ _ _ _ _ _ A r) (fun A r => ht _ _ _ _ _ _ A r) (fun A r => hi1 _ _ _ _ _ _ A r) (hs1 _ _ _) (fun A r => hg1 _ _ _ _ _ _ A r) (fun A r => ht1 _ _ _ _ _ _ A r) (fun A r => he _ _ _ _ _ _ A r) (fun b z => by cases z) eTill_mono (tTill2_step st hmono gm tm) m w0
  refine any_loop1 (Qd := fun b H => Q (.bl b) H) (Y := mkY X s4 H2 _ fp X.A.in1.in1 (wipe σ (own.map (·.2))) (.GeneratorExp elt [⟨tg, iter, ifs, 0⟩, ⟨tg1, iter1, ifs1, 0⟩] scope gpos) it a gn [] (eTill true fun b H => Q (.bl b) H) (fun _ H => Q (.bl (!true)) H)) O rfl rfl rfl rfl hr.hd hr.depth (fun k ps σ' H' s1 s2 I' af q => ?_) m [] H2 _ s5 s5 rd (Aft.refl ?_) M.isg ?_ ?_
  · exact ⟨.bl k, H', GEx.out (Y := mkY X s4 H2 _ fp X.A.in1.in1 (wipe σ (own.map (·.2))) (.GeneratorExp elt [⟨tg, iter, ifs, 0⟩, ⟨tg1, iter1, ifs1, 0⟩] scope gpos) it a gn [] (eTill true fun b H => Q (.bl b) H) (fun _ H => Q (.bl (!true)) H)) M.inv (fun b hb => (M.fps b hb).1) I' af, rfl, q⟩
  · rw [M.gens]
    exact M.inv.bare.push rfl
  · show s5.gens[gn]? = _
    rw [M.gens, M.num]
    simp
  · exact M.inv.nolimit.keeps M.keep
end
end

/-! ### the forms one uses -/
def gscpB (sc : Scope) : Bool := !sc.isCoroutine && decide (sc.kind = .function) && (sc.names.all fun y => !decide (y.2 = .cell)) && decide (sc.names.lookup (".0" : Str) = some NameKind.local)
theorem gscp_by {sc : Scope} (h : gscpB sc = true) : GScp sc := by
  unfold gscpB at h
  simp only [Bool.and_eq_true, Bool.not_eq_true', decide_eq_true_eq, List.all_eq_true, decide_eq_false_iff_not] at h
  obtain ⟨⟨⟨h1, h2⟩, h3⟩, h4⟩ := h
  exact ⟨h1, h2, h3, h4⟩
section
variable {e : Bool} {K : PySem.W.Frag} {a : Addr} {xs : List V} {g : TG} {tt : TT} {te : TE} {vs : List Nat} {σ : L2.St} {H2 : Hp} {Q : VK}
/-- over a list that the element leaves as it is -/
theorem till_list (Pv : Nat → Hp → Prop) (h0 : Pv 0 H2) (hl : ∀ i H, i ≤ xs.length → Pv i H → SqL K H a xs)
    (hs : ∀ i x H, xs[i]? = some x → Pv i H → g x (wipe σ vs) H fun σ2 H2 => wipe σ2 vs = wipe σ vs ∧ tt σ2 H2 fun b H3 => if b = true then te σ2 H3 fun y H4 => ∃ b, y = .bl b ∧ if b = e then Q (.bl e) H4 else Pv (i + 1) H4 else Pv (i + 1) H3) (hd : ∀ H, Pv xs.length H → Q (.bl (!e)) H) :
    ∃ W : Nat → Nat → Hp → Prop, (∃ m, W 0 m H2) ∧ ∀ i m H, W i m H → ((Itl K a).stop i H ∧ Q (.bl (!e)) H) ∨ ((Itl K a).go i H ∧ ∃ Nx : Hp → Prop, (∀ H', Nx H' → ∃ m', m' < m ∧ W (i + 1) m' H') ∧
      ∀ x H', (Itl K a).yld i H x H' → g x (wipe σ vs) H' fun σ2 H2 => wipe σ2 vs = wipe σ vs ∧ tt σ2 H2 fun b H3 => if b = true then te σ2 H3 fun y H4 => ∃ b, y = .bl b ∧ if b = e then Q (.bl e) H4 else Nx H4 else Nx H3) := by
  refine ⟨fun i m H => m = xs.length - i ∧ i ≤ xs.length ∧ Pv i H, ⟨xs.length, by simp, Nat.zero_le _, h0⟩, fun i m H w => ?_⟩
  obtain ⟨hm, hi, p⟩ := w
  have q := hl i H hi p
  rcases Nat.lt_or_ge i xs.length with z | z
  · refine .inr ⟨⟨xs, xs[i], q, by simp [z]⟩, Pv (i + 1), fun H' p' => ⟨xs.length - (i + 1), by omega, rfl, z, p'⟩, fun x H' y => ?_⟩
    obtain ⟨rfl, y⟩ := y
    exact hs i x _ (y xs q) p
  · obtain rfl : i = xs.length := by omega
    exact .inl ⟨⟨xs, q, Nat.le_refl _⟩, hd H p⟩
/-- over a tuple -/
theorem till_tup (Pv : Nat → Hp → Prop) (h0 : Pv 0 H2) (hl : ∀ i H, i ≤ xs.length → Pv i H → SqT K H a xs)
    (hs : ∀ i x H, xs[i]? = some x → Pv i H → g x (wipe σ vs) H fun σ2 H2 => wipe σ2 vs = wipe σ vs ∧ tt σ2 H2 fun b H3 => if b = true then te σ2 H3 fun y H4 => ∃ b, y = .bl b ∧ if b = e then Q (.bl e) H4 else Pv (i + 1) H4 else Pv (i + 1) H3) (hd : ∀ H, Pv xs.length H → Q (.bl (!e)) H) :
    ∃ W : Nat → Nat → Hp → Prop, (∃ m, W 0 m H2) ∧ ∀ i m H, W i m H → ((Itt K a).stop i H ∧ Q (.bl (!e)) H) ∨ ((Itt K a).go i H ∧ ∃ Nx : Hp → Prop, (∀ H', Nx H' → ∃ m', m' < m ∧ W (i + 1) m' H') ∧
      ∀ x H', (Itt K a).yld i H x H' → g x (wipe σ vs) H' fun σ2 H2 => wipe σ2 vs = wipe σ vs ∧ tt σ2 H2 fun b H3 => if b = true then te σ2 H3 fun y H4 => ∃ b, y = .bl b ∧ if b = e then Q (.bl e) H4 else Nx H4 else Nx H3) := by
  refine ⟨fun i m H => m = xs.length - i ∧ i ≤ xs.length ∧ Pv i H, ⟨xs.length, by simp, Nat.zero_le _, h0⟩, fun i m H w => ?_⟩
  obtain ⟨hm, hi, p⟩ := w
  have q := hl i H hi p
  rcases Nat.lt_or_ge i xs.length with z | z
  · refine .inr ⟨⟨xs, xs[i], q, by simp [z]⟩, Pv (i + 1), fun H' p' => ⟨xs.length - (i + 1), by omega, rfl, z, p'⟩, fun x H' y => ?_⟩
    obtain ⟨rfl, y⟩ := y
    exact hs i x _ (y xs q) p
  · obtain rfl : i = xs.length := by omega
    exact .inl ⟨⟨xs, q, Nat.le_refl _⟩, hd H p⟩
/-- two clauses, both over lists: the outer one -/
def W2 (n ny : Nat) (Pv : Nat → Hp → Prop) (i m : Nat) (H : Hp) : Prop := i ≤ n ∧ m = (n - i) * (ny + 2) ∧ Pv i H
variable {wi1 : TI} {g1 : TG} {tt1 : TT} {vs1 : List Nat} {ny : Nat}
theorem till2_list (ny : Nat) (Pv : Nat → Hp → Prop) (h0 : Pv 0 H2) (hl : ∀ i H, i ≤ xs.length → Pv i H → SqL K H a xs)
    (hs : ∀ i x H, i < xs.length → xs[i]? = some x → Pv i H → g x (wipe σ vs) H fun σ2 H2 => wipe σ2 vs = wipe σ vs ∧ tt σ2 H2 fun b H3 => if b = true then wi1 σ2 H3 fun J1 H4 =>
      ∃ W1 : Nat → Nat → Hp → Prop, (∃ m1, m1 < (xs.length - i) * (ny + 2) ∧ W1 0 m1 H4) ∧ ∀ i1 m1 H, W1 i1 m1 H → (J1.stop i1 H ∧ ∃ m', m' ≤ m1 ∧ m' < (xs.length - i) * (ny + 2) ∧ W2 xs.length ny Pv (i + 1) m' H) ∨ (J1.go i1 H ∧ ∃ N1 : Hp → Prop, (∀ H', N1 H' → ∃ m', m' < m1 ∧ W1 (i1 + 1) m' H') ∧
        ∀ x1 H', J1.yld i1 H x1 H' → g1 x1 (wipe σ2 vs1) H' fun σ3 H5 => wipe σ3 vs1 = wipe σ2 vs1 ∧ tt1 σ3 H5 fun b1 H6 => if b1 = true then te σ3 H6 fun y H7 => ∃ b, y = .bl b ∧ if b = e then Q (.bl e) H7 else N1 H7 else N1 H6)
      else ∃ m', m' < (xs.length - i) * (ny + 2) ∧ W2 xs.length ny Pv (i + 1) m' H3) (hd : ∀ H, Pv xs.length H → Q (.bl (!e)) H) :
    ∃ W : Nat → Nat → Hp → Prop, (∃ m, W 0 m H2) ∧ ∀ i m H, W i m H → ((Itl K a).stop i H ∧ Q (.bl (!e)) H) ∨ ((Itl K a).go i H ∧ ∀ x H', (Itl K a).yld i H x H' → g x (wipe σ vs) H' fun σ2 H2 => wipe σ2 vs = wipe σ vs ∧ tt σ2 H2 fun b H3 => if b = true then wi1 σ2 H3 fun J1 H4 =>
      ∃ W1 : Nat → Nat → Hp → Prop, (∃ m1, m1 < m ∧ W1 0 m1 H4) ∧ ∀ i1 m1 H, W1 i1 m1 H → (J1.stop i1 H ∧ ∃ m', m' ≤ m1 ∧ m' < m ∧ W (i + 1) m' H) ∨ (J1.go i1 H ∧ ∃ N1 : Hp → Prop, (∀ H', N1 H' → ∃ m', m' < m1 ∧ W1 (i1 + 1) m' H') ∧
        ∀ x1 H', J1.yld i1 H x1 H' → g1 x1 (wipe σ2 vs1) H' fun σ3 H5 => wipe σ3 vs1 = wipe σ2 vs1 ∧ tt1 σ3 H5 fun b1 H6 => if b1 = true then te σ3 H6 fun y H7 => ∃ b, y = .bl b ∧ if b = e then Q (.bl e) H7 else N1 H7 else N1 H6)
    else ∃ m', m' < m ∧ W (i + 1) m' H3) := by
  refine ⟨W2 xs.length ny Pv, ⟨_, Nat.zero_le _, rfl, h0⟩, fun i m H w => ?_⟩
  obtain ⟨hi, hm, p⟩ := w
  subst hm
  have q := hl i H hi p
  rcases Nat.lt_or_ge i xs.length with z | z
  · refine .inr ⟨⟨xs, xs[i], q, by simp [z]⟩, fun x H' y => ?_⟩
    obtain ⟨rfl, y⟩ := y
    exact hs i x _ z (y xs q) p
  · obtain rfl : i = xs.length := by omega
    exact .inl ⟨⟨xs, q, Nat.le_refl _⟩, hd H p⟩
/-- .. the inner one -/
theorem till2_in {n i : Nat} {b : Addr} {ys : List V} {σ2 : L2.St} {H4 : Hp} {Pv : Nat → Hp → Prop} (hi : i < n) (Pw : Nat → Hp → Prop) (h0 : Pw 0 H4) (hl : ∀ j H, j ≤ ys.length → Pw j H → SqL K H b ys)
    (hs : ∀ j x H, ys[j]? = some x → Pw j H → g1 x (wipe σ2 vs1) H fun σ3 H5 => wipe σ3 vs1 = wipe σ2 vs1 ∧ tt1 σ3 H5 fun b1 H6 => if b1 = true then te σ3 H6 fun y H7 => ∃ b, y = .bl b ∧ if b = e then Q (.bl e) H7 else Pw (j + 1) H7 else Pw (j + 1) H6) (hd : ∀ H, Pw ys.length H → Pv (i + 1) H) :
    ∃ W1 : Nat → Nat → Hp → Prop, (∃ m1, m1 < (n - i) * (ys.length + 2) ∧ W1 0 m1 H4) ∧ ∀ i1 m1 H, W1 i1 m1 H → ((Itl K b).stop i1 H ∧ ∃ m', m' ≤ m1 ∧ m' < (n - i) * (ys.length + 2) ∧ W2 n ys.length Pv (i + 1) m' H) ∨ ((Itl K b).go i1 H ∧ ∃ N1 : Hp → Prop, (∀ H', N1 H' → ∃ m', m' < m1 ∧ W1 (i1 + 1) m' H') ∧
        ∀ x1 H', (Itl K b).yld i1 H x1 H' → g1 x1 (wipe σ2 vs1) H' fun σ3 H5 => wipe σ3 vs1 = wipe σ2 vs1 ∧ tt1 σ3 H5 fun b1 H6 => if b1 = true then te σ3 H6 fun y H7 => ∃ b, y = .bl b ∧ if b = e then Q (.bl e) H7 else N1 H7 else N1 H6) := by
  have e1 : (n - i) * (ys.length + 2) = (n - (i + 1)) * (ys.length + 2) + (ys.length + 2) := by
    rw [show n - i = (n - (i + 1)) + 1 by omega, Nat.add_mul, Nat.one_mul]
  refine ⟨fun j m1 H => j ≤ ys.length ∧ m1 = (n - (i + 1)) * (ys.length + 2) + (ys.length - j) + 1 ∧ Pw j H, ⟨_, ?_, Nat.zero_le _, rfl, h0⟩, fun j m1 H w => ?_⟩
  · rw [e1]; omega
  · obtain ⟨hj, hm, p⟩ := w
    have q := hl j H hj p
    rcases Nat.lt_or_ge j ys.length with z | z
    · refine .inr ⟨⟨ys, ys[j], q, by simp [z]⟩, Pw (j + 1), fun H' p' => ⟨_, ?_, z, rfl, p'⟩, fun x H' y => ?_⟩
      · rw [hm]; omega
      · obtain ⟨rfl, y⟩ := y
        exact hs j x _ (y ys q) p
    · obtain rfl : j = ys.length := by omega
      exact .inl ⟨⟨ys, q, Nat.le_refl _⟩, (n - (i + 1)) * (ys.length + 2), by omega, by rw [e1]; omega, hi, rfl, hd H p⟩
end
theorem tYes_mono : ∀ (σ : L2.St) (H : Hp) (R R' : Bool → Hp → Prop), (∀ b H, R b H → R' b H) → tYes σ H R → tYes σ H R' := fun _ _ _ _ h q => h _ _ q
theorem gName_mono {i : Nat} : ∀ (v : V) (σ : L2.St) (H : Hp) (R R' : L2.St → Hp → Prop), (∀ σ H, R σ H → R' σ H) → gName i v σ H R → gName i v σ H R' := fun _ _ _ _ _ h q => h _ _ q
theorem iListV_mono {K : PySem.W.Frag} {i : Nat} : ∀ (σ : L2.St) (H : Hp) (R R' : It → Hp → Prop), (∀ J H, R J H → R' J H) → iList K (tVar i) σ H R → iList K (tVar i) σ H R' := fun _ _ _ _ h ⟨v, e, a, ea, s, q⟩ => ⟨v, e, a, ea, s, h _ _ q⟩
theorem yes_if {σ : L2.St} {H : Hp} {A B : Hp → Prop} (h : A H) : tYes σ H (fun b H3 => if b = true then A H3 else B H3) := by
  show (if true = true then A H else B H)
  exact (if_pos rfl).mpr h
end Sk

set_option Elab.async false
set_option linter.all false
set_option maxRecDepth 100000
set_option maxHeartbeats 4000000
namespace Sk
open PySem PySem.Spec PyProof.Rows L2 GenW GxR
/-! tables of code objects, and the end of a law with several of them -/
def Tabs (T : List Addr) (H : Hp) : Prop := ∀ P ∈ T, TabG H P
/-- all that stood stands, but the tables may have grown -/
structure SameT (T : List Addr) (H H' : Hp) : Prop where
  keep : ∀ b o, H b = some o → b ∉ T → H' b = some o
  tabs : Tabs T H → Tabs T H'
theorem SameT.refl (T : List Addr) (H : Hp) : SameT T H H := ⟨fun _ _ e _ => e, id⟩
theorem SameT.trans {T : List Addr} {H H1 H2 : Hp} (a : SameT T H H1) (b : SameT T H1 H2) : SameT T H H2 := ⟨fun c o e n => b.keep c o (a.keep c o e n) n, fun t => b.tabs (a.tabs t)⟩
theorem SameT.of {T : List Addr} {H H' : Hp} (s : Same H H') : SameT T H H' := ⟨fun c o e _ => s c o e, fun t P hP => by
  obtain ⟨ps, e, r⟩ := t P hP
  exact ⟨ps, s _ _ e, r⟩⟩
theorem SameT.tabbed {T : List Addr} {P : Addr} {H H' : Hp} (hP : P ∈ T) (t : Tabbed P H H') : SameT T H H' := ⟨fun c o e n => by
    rw [t.2 c fun z => n (by rw [z]; exact hP)]
    exact e, fun s Q hQ => by
    by_cases z : Q = P
    · rw [z]; exact t.1
    · obtain ⟨ps, e, r⟩ := s Q hQ
      exact ⟨ps, by rw [t.2 Q z]; exact e, r⟩⟩
theorem tabs_out {T : List Addr} {H : Hp} {a : Addr} {o : HO} (t : Tabs T H) (e : H a = some o) (n : ∀ ps, o ≠ .tbl ps) : a ∉ T := fun h => by
  obtain ⟨ps, e', _⟩ := t a h
  rw [e] at e'
  exact n ps (Option.some.inj e')
section
variable {T : List Addr} {H H' : Hp} {a : Addr}
theorem SameT.t {xs : List V} (s : SameT T H H') (t : Tabs T H) (e : H a = some (.tup xs)) : H' a = some (.tup xs) := s.keep a _ e (tabs_out t e fun ps z => by cases z)
theorem SameT.l {xs : List V} (s : SameT T H H') (t : Tabs T H) (e : H a = some (.lst xs)) : H' a = some (.lst xs) := s.keep a _ e (tabs_out t e fun ps z => by cases z)
theorem SameT.d {kvs : List (Key × V)} (s : SameT T H H') (t : Tabs T H) (e : H a = some (.dK kvs)) : H' a = some (.dK kvs) := s.keep a _ e (tabs_out t e fun ps z => by cases z)
theorem SameT.i {C d : Addr} {fs : List (Str × V)} (s : SameT T H H') (t : Tabs T H) (e : H a = some (.ins C d fs)) : H' a = some (.ins C d fs) := s.keep a _ e (tabs_out t e fun ps z => by cases z)
theorem Same.tabs (s : Same H H') (t : Tabs T H) : Tabs T H' := (SameT.of s).tabs t
theorem Keep.tabs {d : Addr} {kvs : List (Key × V)} (k : Keep d H H') (hd : H d = some (.dK kvs)) (t : Tabs T H) : Tabs T H' := fun P hP => by
  obtain ⟨ps, e, r⟩ := t P hP
  exact ⟨ps, k _ _ e (ne_of e hd (by intro z; cases z)), r⟩
theorem Tabs.new {p : Addr} {o : HO} (t : Tabs T H) (h : H p = none) : Tabs T (upd H p o) := Same.tabs (same_new h) t
theorem SameT.st1 {K : PySem.W.Frag} {d c : Addr} (s : SameT T H H') (t : Tabs T H) (S : St1 K H d c) : St1 K H' d c := by
  obtain ⟨ns, i, l, m, S⟩ := S
  exact ⟨ns, i, l, m, s.d t S.dc, s.l t S.cs, S.nn, S.i0, S.l0, S.m0, S.m1⟩
end
/-- a def whose code object is known -/
theorem okT {P : Program} {w : World} {K : PySem.W.Frag} {mg : Str → Option Value} {base : Heap} {x qual : Str} {st : Stmt} {f c : Addr} {fd : FuncData} {N ps : List Str} {k : Nat} {sp : Sp} (F : Fun K x qual st f fd) (hc : fd.code = .ref c) (S : FnScope N ps (defScope st)) (len : ∀ vs H Q E, sp vs H Q E → vs.length = ps.length)
    (hbody : ∀ (A : Around) (outer : List Env) (s : Shared) (H : Hp) (vs : List V) (Q : VK) (E : XK), Room k (A.deeper (envOfC qual (defScope st) s.heap.objs.size f (.ref c))) → sp vs H Q E →
      ∃ t, PSs (cxOf CX0 P w K mg base N qual (defScope st) f (.ref c) A outer s H E).nox (defBody st) t ∧ t { nx := fun _ H' => Q .non H', rt := Q } (start N vs) H) : FnOk P w K mg base CX0 (k + 1) f fd ps sp := by
  obtain ⟨oc, od, kV, doc, pm, an, cdv, ct, osl, rfl, lk, hcd⟩ := F.ex
  have e : cdv = .ref c := hc
  subst e
  refine fn_of lk hcd S len fun A outer s H vs Q E hr hsp => ?_
  obtain ⟨t, h, q⟩ := hbody A outer s H vs Q E hr hsp
  exact ⟨t, h.nox, q⟩
theorem walk_tabs {l : PySem.W.OpenLaw} {n k : Nat} {q : Program} {loose : List Str} {XP : (Str → Option Value) → Heap → Prop} {YP : World → Heap → Prop} {d : DefRec} {K : Params → PySem.W.Frag} {CX : World → CXT} {x : Str}
    (hn : l.most = some n) (hn2 : n ≤ sizeLine) (hdf : d.params.defaults = []) (hr : Room k callerA) (hY : ∀ (w : World) (h : Heap), YP w h → (K w.params).In h)
    (F : ∀ (w : World) (mg : Str → Option Value) (fa : Addr) (h : Heap), (K w.params).In h → h.Ns mainGlobals mg → mg d.name = some (.ref fa) →
      (∀ (y : Str) (e : DefRec) (c P : Addr), (recsOf q).find? (fun e => e.name == y) = some e → PySem.W.tabIn (K w.params) y = some (c, P) → PySem.W.CodeHd h c P ∧ h.get? P = some { cls := .none, data := .fields #[] }) → LamX.LawAtS l w (K w.params) (CX w) k n x mg fa h)
    (hCX : ∀ (w : World) (H : Hp) (s : Shared) (e : Value) (s' : Shared), CX w [] H s (fun _ _ _ => False) e s' → False) :
    PySem.W.WalkO q loose XP YP l.row.toRowW d [] (fun f vs => PySem.call f vs) := by
  refine Att.attach_callB hn hdf fun w s₀ s₁ mg mb fa o pm cd doc a vs ns G Y ho hd hcd hmg hobj hints hlen hbits hg => ?_
  have KX := hY w _ Y
  obtain ⟨fd, cs, sp, hT, nT, C, hb, hsp, hF⟩ := F w mg fa _ KX G.T.g hmg fun y e c P hf ht => PySem.W.tab_of G.T KX hf ht
  exact LamX.law_callTs KX G.T.g G.T.b G.T.builtins G.T.nolimit hg hT nT C G.T.bmain hobj hints (Nat.le_trans hlen hn2) hr hF hb (fun H hH hS => hsp H a ns hlen hbits hH hS) fun H e s' => hCX w H s₁ e s'
end Sk

set_option Elab.async false
set_option linter.all false
set_option maxRecDepth 100000
set_option maxHeartbeats 4000000
namespace Sk
open PySem PySem.Spec PyProof.Rows L2
/-! ### bounds -/
def BdN (n : Nat) (x : Int) : Prop := x.natAbs ≤ 2 ^ n
theorem BdN.mono {m n : Nat} {x : Int} (h : BdN m x) (hmn : m ≤ n) : BdN n x := Nat.le_trans h (Nat.pow_le_pow_right (by decide) hmn)
theorem BdN.mul {m n : Nat} {x y : Int} (h : BdN m x) (h' : BdN n y) : BdN (m + n) (x * y) := by
  unfold BdN at *
  rw [Int.natAbs_mul, Nat.pow_add]
  exact Nat.mul_le_mul h h'
theorem BdN.add {n : Nat} {x y : Int} (h : BdN n x) (h' : BdN n y) : BdN (n + 1) (x + y) := by
  unfold BdN at *
  rw [Nat.pow_succ]
  have := Int.natAbs_add_le x y
  omega
theorem BdN.sub {n : Nat} {x y : Int} (h : BdN n x) (h' : BdN n y) : BdN (n + 1) (x - y) := by
  unfold BdN at *
  rw [Nat.pow_succ]
  omega
theorem BdN.of {n : Nat} {x : Int} (h0 : -(2 ^ n : Nat) ≤ x) (h1 : x ≤ (2 ^ n : Nat)) : BdN n x := by
  unfold BdN
  omega
theorem wmB {m n : Nat} {x y : Int} (h : BdN m x) (h' : BdN n y) (hm : m < 2000) (hn : n < 2000) : CMulW x y :=
  wide_mul (a := 2000) (b := 2000) (Nat.lt_of_le_of_lt h (Nat.pow_lt_pow_right (by decide) hm)) (Nat.lt_of_le_of_lt h' (Nat.pow_lt_pow_right (by decide) hn)) (by decide) (by decide) (by decide)
/-! ### the plane -/
def trn (ax ay bx bw x y : Int) : Int := (bx - ax) * (y - ay) - (bw - ay) * (x - ax)
def dtp (ox oy ax ay bx bw : Int) : Int := (ax - ox) * (bx - ox) + (ay - oy) * (bw - oy)
/-- the square of the distance of a point from a segment, a fraction -/
def sqr (x y ax ay bx bw : Int) : Int × Int :=
  if (x - ax) * (bx - ax) + (y - ay) * (bw - ay) ≤ 0 then ((x - ax) * (x - ax) + (y - ay) * (y - ay), 1)
  else if (bx - ax) * (bx - ax) + (bw - ay) * (bw - ay) ≤ (x - ax) * (bx - ax) + (y - ay) * (bw - ay) then ((x - bx) * (x - bx) + (y - bw) * (y - bw), 1)
  else (trn ax ay bx bw x y * trn ax ay bx bw x y, (bx - ax) * (bx - ax) + (bw - ay) * (bw - ay))
def crs (ax ay bx bw cx cy dx dy : Int) : Bool := decide (trn ax ay bx bw cx cy * trn ax ay bx bw dx dy < 0) && decide (trn cx cy dx dy ax ay * trn cx cy dx dy bx bw < 0)
def sqs (ax ay bx bw cx cy dx dy : Int) : List (Int × Int) :=
  if crs ax ay bx bw cx cy dx dy = true then [(0, 1)] else [sqr ax ay cx cy dx dy, sqr bx bw cx cy dx dy, sqr cx cy ax ay bx bw, sqr dx dy ax ay bx bw]
/-- closer, from the enlarged ends -/
def cls (ax ay bx bw cx cy dx dy r : Int) : Bool := (sqs ax ay bx bw cx cy dx dy).any fun t => decide (t.1 < r * r * t.2)
structure Seg where
  ax : Int
  ay : Int
  bx : Int
  bw : Int
  d : Int
def clo (s t : Seg) (l : Int) : Bool := if l ≤ 0 then false else cls (s.ax * t.d) (s.ay * t.d) (s.bx * t.d) (s.bw * t.d) (t.ax * s.d) (t.ay * s.d) (t.bx * s.d) (t.bw * s.d) (l * s.d * t.d)
def Seg.tup (s : Seg) : HO := .tup [.int s.ax, .int s.ay, .int s.bx, .int s.bw, .int s.d]
structure SegBd (n m : Nat) (s : Seg) : Prop where
  ax : BdN n s.ax
  ay : BdN n s.ay
  bx : BdN n s.bx
  bw : BdN n s.bw
  d : BdN m s.d
/-! ### promises of the program's plane -/
/-- a segment's tuple * a factor -/
def spEnl : Sp := fun vs H Q _ => ∃ (a : Addr) (s : Seg) (f : Int), vs = [.ref a, .int f] ∧ H a = some s.tup ∧ SegBd 200 100 s ∧ BdN 100 f ∧ ∀ p, H p = none → Q (.ref p) (upd H p (.tup [.int (s.ax * f), .int (s.ay * f), .int (s.bx * f), .int (s.bw * f)]))
def spTurn : Sp := fun vs H Q _ => ∃ (a : Addr) (ax ay bx bw x y : Int), vs = [.ref a, .int x, .int y] ∧ H a = some (.tup [.int ax, .int ay, .int bx, .int bw]) ∧ BdN 300 ax ∧ BdN 300 ay ∧ BdN 300 bx ∧ BdN 300 bw ∧ BdN 300 x ∧ BdN 300 y ∧ Q (.int (trn ax ay bx bw x y)) H
def spParted : Sp := fun vs H Q _ => ∃ (a b : Addr) (ax ay bx bw cx cy dx dy : Int), vs = [.ref a, .ref b] ∧ H a = some (.tup [.int ax, .int ay, .int bx, .int bw]) ∧ H b = some (.tup [.int cx, .int cy, .int dx, .int dy]) ∧ (∀ z ∈ [ax, ay, bx, bw, cx, cy, dx, dy], BdN 300 z) ∧ Q (.bl (decide (trn ax ay bx bw cx cy * trn ax ay bx bw dx dy < 0))) H
def spCross : Sp := fun vs H Q _ => ∃ (a b : Addr) (ax ay bx bw cx cy dx dy : Int), vs = [.ref a, .ref b] ∧ H a = some (.tup [.int ax, .int ay, .int bx, .int bw]) ∧ H b = some (.tup [.int cx, .int cy, .int dx, .int dy]) ∧ (∀ z ∈ [ax, ay, bx, bw, cx, cy, dx, dy], BdN 300 z) ∧ Q (.bl (crs ax ay bx bw cx cy dx dy)) H
def spSquare : Sp := fun vs H Q _ => ∃ (a : Addr) (ax ay bx bw x y : Int), vs = [.int x, .int y, .ref a] ∧ H a = some (.tup [.int ax, .int ay, .int bx, .int bw]) ∧ BdN 300 ax ∧ BdN 300 ay ∧ BdN 300 bx ∧ BdN 300 bw ∧ BdN 300 x ∧ BdN 300 y ∧ ∀ p, H p = none → Q (.ref p) (upd H p (.tup [.int (sqr x y ax ay bx bw).1, .int (sqr x y ax ay bx bw).2]))
/-- the pairs stand at the addresses -/
def PairsAt (H : Hp) : List V → List (Int × Int) → Prop := fun vs ps => vs.length = ps.length ∧ ∀ (i : Nat) (t : Int × Int), ps[i]? = some t → ∃ p : Addr, vs[i]? = some (V.ref p) ∧ H p = some (.tup [.int t.1, .int t.2])
def segSqs (s t : Seg) : List (Int × Int) := sqs (s.ax * t.d) (s.ay * t.d) (s.bx * t.d) (s.bw * t.d) (t.ax * s.d) (t.ay * s.d) (t.bx * s.d) (t.bw * s.d)
def spSquares : Sp := fun vs H Q _ => ∃ (a b : Addr) (s t : Seg), vs = [.ref a, .ref b] ∧ H a = some s.tup ∧ H b = some t.tup ∧ SegBd 200 100 s ∧ SegBd 200 100 t ∧
  ∀ p H' xs, Same H H' → H' p = some (.lst xs) → PairsAt H' xs (segSqs s t) → Q (.ref p) H'
/-- closer; behind it the tables may have grown -/
def spCloser (TT : List Addr) : Sp := fun vs H Q _ => ∃ (a b : Addr) (s t : Seg) (l : Int), vs = [.ref a, .ref b, .int l] ∧ H a = some s.tup ∧ H b = some t.tup ∧ SegBd 200 100 s ∧ SegBd 200 100 t ∧ BdN 100 l ∧ Tabs TT H ∧
  ∀ H', SameT TT H H' → Q (.bl (clo s t l)) H'
def SegsAt (H : Hp) (vs : List V) (ss : List Seg) : Prop := vs.length = ss.length ∧ ∀ (i : Nat) (s : Seg), ss[i]? = some s → ∃ p : Addr, vs[i]? = some (V.ref p) ∧ H p = some s.tup ∧ SegBd 200 100 s
def spLines (K : PySem.W.Frag) (TT : List Addr) : Sp := fun vs H Q _ => ∃ (a b : Addr) (xs ys : List V) (ss ts : List Seg) (l : Int), vs = [.ref a, .ref b, .int l] ∧ H a = some (.lst xs) ∧ H b = some (.lst ys) ∧ SegsAt H xs ss ∧ SegsAt H ys ts ∧ BdN 100 l ∧ Tabs TT H ∧
  ∀ H', SameT TT H H' → Q (.bl (ss.any fun s => ts.any fun t => clo s t l)) H'
theorem sqr_bd {x y ax ay bx bw : Int} (h1 : BdN 300 ax) (h2 : BdN 300 ay) (h3 : BdN 300 bx) (h4 : BdN 300 bw) : BdN 1300 (sqr x y ax ay bx bw).2 := by
  unfold sqr
  split
  · exact BdN.of (by have : (0:Nat) < 2 ^ 1300 := Nat.pow_pos (by decide); omega) (by have : (1:Nat) ≤ 2 ^ 1300 := Nat.one_le_two_pow; show (1 : Int) ≤ _; omega)
  · split
    · exact BdN.of (by have : (0:Nat) < 2 ^ 1300 := Nat.pow_pos (by decide); omega) (by have : (1:Nat) ≤ 2 ^ 1300 := Nat.one_le_two_pow; show (1 : Int) ≤ _; omega)
    · exact (((h3.sub h1).mul (h3.sub h1)).add ((h4.sub h2).mul (h4.sub h2))).mono (by decide)
theorem segSqs_bd {s t : Seg} (hs : SegBd 200 100 s) (ht : SegBd 200 100 t) : ∀ u ∈ segSqs s t, BdN 1300 u.2 := by
  have e1 : ∀ {x y : Int}, BdN 200 x → BdN 100 y → BdN 300 (x * y) := fun h h' => h.mul h'
  intro u hu
  unfold segSqs sqs at hu
  split at hu
  · rw [List.mem_singleton.mp hu]
    exact BdN.of (by have : (0:Nat) < 2 ^ 1300 := Nat.pow_pos (by decide); omega) (by have : (1:Nat) ≤ 2 ^ 1300 := Nat.one_le_two_pow; show (1 : Int) ≤ _; omega)
  · simp only [List.mem_cons, List.not_mem_nil, or_false] at hu
    rcases hu with rfl | rfl | rfl | rfl
    · exact sqr_bd (e1 ht.ax hs.d) (e1 ht.ay hs.d) (e1 ht.bx hs.d) (e1 ht.bw hs.d)
    · exact sqr_bd (e1 ht.ax hs.d) (e1 ht.ay hs.d) (e1 ht.bx hs.d) (e1 ht.bw hs.d)
    · exact sqr_bd (e1 hs.ax ht.d) (e1 hs.ay ht.d) (e1 hs.bx ht.d) (e1 hs.bw ht.d)
    · exact sqr_bd (e1 hs.ax ht.d) (e1 hs.ay ht.d) (e1 hs.bx ht.d) (e1 hs.bw ht.d)
end Sk

set_option Elab.async false
set_option linter.all false
set_option maxRecDepth 100000
set_option maxHeartbeats 4000000
namespace Sk
open PySem PySem.Spec PyProof.Rows L2
/-! ### the law's own comparison is the program's -/
def ptc (px py ax ay bx bw r2 : Int) : Bool :=
  if dtp ax ay bx bw px py ≤ 0 then decide (dtp ax ay px py px py < r2)
  else if dtp ax ay bx bw bx bw ≤ dtp ax ay bx bw px py then decide (dtp bx bw px py px py < r2)
  else decide (trn ax ay bx bw px py * trn ax ay bx bw px py < r2 * dtp ax ay bx bw bx bw)
theorem ptc_eq (px py ax ay bx bw r2 : Int) : ptc px py ax ay bx bw r2 = decide ((sqr px py ax ay bx bw).1 < r2 * (sqr px py ax ay bx bw).2) := by
  unfold ptc sqr dtp
  have e1 : (bx - ax) * (px - ax) + (bw - ay) * (py - ay) = (px - ax) * (bx - ax) + (py - ay) * (bw - ay) := by grind
  rw [e1]
  by_cases c1 : (px - ax) * (bx - ax) + (py - ay) * (bw - ay) ≤ 0
  · rw [if_pos c1, if_pos c1, Int.mul_one]
  · rw [if_neg c1, if_neg c1]
    by_cases c2 : (bx - ax) * (bx - ax) + (bw - ay) * (bw - ay) ≤ (px - ax) * (bx - ax) + (py - ay) * (bw - ay)
    · rw [if_pos c2, if_pos c2, Int.mul_one]
    · rw [if_neg c2, if_neg c2]
theorem sqself {x : Int} (h : x * x = 0) : x = 0 := by
  rcases Int.mul_eq_zero.mp h with z | z <;> exact z
theorem sqr_turn (x y ax ay bx bw : Int) : sqr x y bx bw ax ay = sqr x y ax ay bx bw := by
  unfold sqr
  have e1 : (x - bx) * (ax - bx) + (y - bw) * (ay - bw) = ((bx - ax) * (bx - ax) + (bw - ay) * (bw - ay)) - ((x - ax) * (bx - ax) + (y - ay) * (bw - ay)) := by grind
  have e2 : (ax - bx) * (ax - bx) + (ay - bw) * (ay - bw) = (bx - ax) * (bx - ax) + (bw - ay) * (bw - ay) := by grind
  have e3 : trn bx bw ax ay x y * trn bx bw ax ay x y = trn ax ay bx bw x y * trn ax ay bx bw x y := by unfold trn; grind
  have n1 := sq0 (bx - ax)
  have n2 := sq0 (bw - ay)
  rw [e1, e2, e3]
  have h0 : (bx - ax) * (bx - ax) + (bw - ay) * (bw - ay) = 0 → bx = ax ∧ bw = ay := fun z => by
    have a := sqself (show (bx - ax) * (bx - ax) = 0 by omega)
    have b := sqself (show (bw - ay) * (bw - ay) = 0 by omega)
    omega
  generalize hA : (x - ax) * (bx - ax) + (y - ay) * (bw - ay) = A
  generalize hL : (bx - ax) * (bx - ax) + (bw - ay) * (bw - ay) = L at *
  by_cases c1 : A ≤ 0
  · by_cases c2 : L ≤ A
    · obtain ⟨rfl, rfl⟩ := h0 (by omega)
      rw [if_pos (by omega), if_pos c1]
    · rw [if_neg (by omega), if_pos (by omega), if_pos c1]
  · by_cases c2 : L ≤ A
    · rw [if_pos (by omega), if_neg c1, if_pos c2]
    · rw [if_neg (by omega), if_neg (by omega), if_neg c1, if_neg c2]
theorem cls_swap (ax ay bx bw cx cy dx dy r : Int) : cls cx cy dx dy ax ay bx bw r = cls ax ay bx bw cx cy dx dy r := by
  unfold cls sqs
  have e : crs cx cy dx dy ax ay bx bw = crs ax ay bx bw cx cy dx dy := by unfold crs; exact Bool.and_comm _ _
  rw [e]
  by_cases c : crs ax ay bx bw cx cy dx dy = true
  · rw [if_pos c, if_pos c]
  · rw [if_neg c, if_neg c]
    simp only [List.any_cons, List.any_nil, Bool.or_false]
    cases decide ((sqr ax ay cx cy dx dy).1 < r * r * (sqr ax ay cx cy dx dy).2) <;> cases decide ((sqr bx bw cx cy dx dy).1 < r * r * (sqr bx bw cx cy dx dy).2) <;> cases decide ((sqr cx cy ax ay bx bw).1 < r * r * (sqr cx cy ax ay bx bw).2) <;> cases decide ((sqr dx dy ax ay bx bw).1 < r * r * (sqr dx dy ax ay bx bw).2) <;> rfl
theorem cls_turn (ax ay bx bw cx cy dx dy r : Int) : cls bx bw ax ay cx cy dx dy r = cls ax ay bx bw cx cy dx dy r := by
  unfold cls sqs
  have t1 : ∀ x y, trn bx bw ax ay x y = - trn ax ay bx bw x y := fun x y => by unfold trn; grind
  have e : crs bx bw ax ay cx cy dx dy = crs ax ay bx bw cx cy dx dy := by
    unfold crs
    rw [t1, t1, Int.neg_mul_neg, Int.mul_comm (trn cx cy dx dy bx bw)]
  rw [e, sqr_turn cx cy, sqr_turn dx dy]
  by_cases c : crs ax ay bx bw cx cy dx dy = true
  · rw [if_pos c, if_pos c]
  · rw [if_neg c, if_neg c]
    simp only [List.any_cons, List.any_nil, Bool.or_false]
    cases decide ((sqr ax ay cx cy dx dy).1 < r * r * (sqr ax ay cx cy dx dy).2) <;> cases decide ((sqr bx bw cx cy dx dy).1 < r * r * (sqr bx bw cx cy dx dy).2) <;> rfl
theorem clo_swap (s t : Seg) (l : Int) : clo t s l = clo s t l := by
  unfold clo
  rw [cls_swap, show l * t.d * s.d = l * s.d * t.d by ac_rfl]
def Seg.turn (s : Seg) : Seg := ⟨s.bx, s.bw, s.ax, s.ay, s.d⟩
theorem clo_turn (s t : Seg) (l : Int) : clo s.turn t l = clo s t l := by
  unfold clo Seg.turn
  dsimp only
  rw [cls_turn]
/-- as the law has it -/
def lclo (s t : Seg) (l : Int) : Bool :=
  (decide (0 < l * l * s.d * s.d * t.d * t.d) && crs (s.ax * t.d) (s.ay * t.d) (s.bx * t.d) (s.bw * t.d) (t.ax * s.d) (t.ay * s.d) (t.bx * s.d) (t.bw * s.d)) ||
  (ptc (s.ax * t.d) (s.ay * t.d) (t.ax * s.d) (t.ay * s.d) (t.bx * s.d) (t.bw * s.d) (l * l * s.d * s.d * t.d * t.d) || ptc (s.bx * t.d) (s.bw * t.d) (t.ax * s.d) (t.ay * s.d) (t.bx * s.d) (t.bw * s.d) (l * l * s.d * s.d * t.d * t.d) ||
   (ptc (t.ax * s.d) (t.ay * s.d) (s.ax * t.d) (s.ay * t.d) (s.bx * t.d) (s.bw * t.d) (l * l * s.d * s.d * t.d * t.d) || ptc (t.bx * s.d) (t.bw * s.d) (s.ax * t.d) (s.ay * t.d) (s.bx * t.d) (s.bw * t.d) (l * l * s.d * s.d * t.d * t.d)))
theorem sqr_nn (x y ax ay bx bw : Int) : 0 ≤ (sqr x y ax ay bx bw).1 ∧ 0 ≤ (sqr x y ax ay bx bw).2 := by
  unfold sqr
  have a1 := sq0 (x - ax); have a2 := sq0 (y - ay); have a3 := sq0 (x - bx); have a4 := sq0 (y - bw); have a5 := sq0 (bx - ax); have a6 := sq0 (bw - ay); have a7 := sq0 (trn ax ay bx bw x y)
  split
  · exact ⟨by dsimp only; omega, by dsimp only; omega⟩
  · split
    · exact ⟨by dsimp only; omega, by dsimp only; omega⟩
    · exact ⟨by dsimp only; omega, by dsimp only; omega⟩
theorem lclo_eq {s t : Seg} {l : Int} (hl : 0 ≤ l) (hs : 1 ≤ s.d) (ht : 1 ≤ t.d) : lclo s t l = clo s t l := by
  unfold lclo clo
  simp only [ptc_eq]
  have er : l * s.d * t.d * (l * s.d * t.d) = l * l * s.d * s.d * t.d * t.d := by ac_rfl
  by_cases c : l ≤ 0
  · rw [if_pos c]
    obtain rfl : l = 0 := by omega
    simp only [Int.zero_mul]
    have z : ∀ x y ax ay bx bw, decide ((sqr x y ax ay bx bw).1 < 0) = false := fun x y ax ay bx bw => decide_eq_false (by have := (sqr_nn x y ax ay bx bw).1; omega)
    simp only [z]
    rfl
  · rw [if_neg c]
    have hp : 0 < l * l * s.d * s.d * t.d * t.d := by
      rw [← er]
      have h1 : 0 < l * s.d * t.d := Int.mul_pos (Int.mul_pos (by omega) (by omega)) (by omega)
      exact Int.mul_pos h1 h1
    unfold cls sqs
    rw [er, decide_eq_true hp, Bool.true_and]
    by_cases cc : crs (s.ax * t.d) (s.ay * t.d) (s.bx * t.d) (s.bw * t.d) (t.ax * s.d) (t.ay * s.d) (t.bx * s.d) (t.bw * s.d) = true
    · rw [if_pos cc, cc, Bool.true_or]
      simp only [List.any_cons, List.any_nil, Bool.or_false]
      symm
      exact decide_eq_true (by omega)
    · rw [if_neg cc]
      have cf : crs (s.ax * t.d) (s.ay * t.d) (s.bx * t.d) (s.bw * t.d) (t.ax * s.d) (t.ay * s.d) (t.bx * s.d) (t.bw * s.d) = false := by simpa using cc
      rw [cf, Bool.false_or]
      simp only [List.any_cons, List.any_nil, Bool.or_false, Bool.or_assoc]
end Sk

set_option Elab.async false
set_option linter.all false
set_option maxRecDepth 100000
set_option maxHeartbeats 4000000
namespace Sk
open PySem PySem.Spec PyProof.Rows L2
/-! zones: the mathematics -/
abbrev Pt := Int × Int
def cr3 (o a b : Pt) : Int := (a.1 - o.1) * (b.2 - o.2) - (a.2 - o.2) * (b.1 - o.1)
theorem mul_self_nn (x : Int) : 0 ≤ x * x := by
  rcases Int.le_total 0 x with h | h
  · exact Int.mul_nonneg h h
  · exact Int.mul_nonneg_of_nonpos_of_nonpos h h
theorem sq2 {x y : Int} (h : x * x + y * y = 0) : x = 0 ∧ y = 0 := by
  have h1 := mul_self_nn x
  have h2 := mul_self_nn y
  exact ⟨sqself (by omega), sqself (by omega)⟩
theorem sgn {a b : Int} (h : 0 ≤ a * b) (ha : 0 < a) : 0 ≤ b := by
  rcases Int.lt_or_le b 0 with z | z
  · have := Int.mul_neg_of_pos_of_neg ha z
    omega
  · exact z
theorem sgn0 {a b : Int} (h : a * b = 0) (ha : 0 < a) : b = 0 := by
  rcases Int.mul_eq_zero.mp h with z | z
  · omega
  · exact z
/-- a point on the segment has distance nought -/
theorem on_sqr {x y ax ay bx bw l m : Int} (hl : 0 < l) (hm : 0 ≤ m) (hml : m ≤ l) (h1 : l * (x - ax) = m * (bx - ax)) (h2 : l * (y - ay) = m * (bw - ay)) : (sqr x y ax ay bx bw).1 = 0 := by
  unfold sqr
  have hlen : 0 ≤ (bx - ax) * (bx - ax) + (bw - ay) * (bw - ay) := by have := mul_self_nn (bx - ax); have := mul_self_nn (bw - ay); omega
  have al : l * ((x - ax) * (bx - ax) + (y - ay) * (bw - ay)) = m * ((bx - ax) * (bx - ax) + (bw - ay) * (bw - ay)) := by grind
  split
  · rename_i c
    show (x - ax) * (x - ax) + (y - ay) * (y - ay) = 0
    have z1 : 0 ≤ m * ((bx - ax) * (bx - ax) + (bw - ay) * (bw - ay)) := Int.mul_nonneg hm hlen
    have z2 : l * ((x - ax) * (bx - ax) + (y - ay) * (bw - ay)) ≤ 0 := Int.mul_nonpos_of_nonneg_of_nonpos (by omega) c
    have z3 : m * ((bx - ax) * (bx - ax) + (bw - ay) * (bw - ay)) = 0 := by omega
    have z4 : l * (l * ((x - ax) * (x - ax) + (y - ay) * (y - ay))) = m * (m * ((bx - ax) * (bx - ax) + (bw - ay) * (bw - ay))) := by grind
    rw [z3, Int.mul_zero] at z4
    exact sgn0 (sgn0 z4 hl) hl
  · split
    · rename_i c1 c
      show (x - bx) * (x - bx) + (y - bw) * (y - bw) = 0
      have z1 : 0 ≤ (l - m) * ((bx - ax) * (bx - ax) + (bw - ay) * (bw - ay)) := Int.mul_nonneg (by omega) hlen
      have z2 : l * ((bx - ax) * (bx - ax) + (bw - ay) * (bw - ay)) ≤ l * ((x - ax) * (bx - ax) + (y - ay) * (bw - ay)) := Int.mul_le_mul_of_nonneg_left c (by omega)
      have z3 : (l - m) * ((bx - ax) * (bx - ax) + (bw - ay) * (bw - ay)) = 0 := by
        have : (l - m) * ((bx - ax) * (bx - ax) + (bw - ay) * (bw - ay)) = l * ((bx - ax) * (bx - ax) + (bw - ay) * (bw - ay)) - m * ((bx - ax) * (bx - ax) + (bw - ay) * (bw - ay)) := Int.sub_mul ..
        omega
      have z4 : l * (l * ((x - bx) * (x - bx) + (y - bw) * (y - bw))) = (l - m) * ((l - m) * ((bx - ax) * (bx - ax) + (bw - ay) * (bw - ay))) := by grind
      rw [z3, Int.mul_zero] at z4
      exact sgn0 (sgn0 z4 hl) hl
    · show trn ax ay bx bw x y * trn ax ay bx bw x y = 0
      have z : l * trn ax ay bx bw x y = 0 := by
        unfold trn
        grind
      rw [sgn0 z hl]
      rfl
/-- .. and else it is between the ends -/
theorem sqr_on {x y ax ay bx bw : Int} (h : (sqr x y ax ay bx bw).1 = 0) : ∃ s0 s1 : Int, 0 ≤ s0 ∧ 0 ≤ s1 ∧ 0 < s0 + s1 ∧ (s0 + s1) * x = s0 * ax + s1 * bx ∧ (s0 + s1) * y = s0 * ay + s1 * bw := by
  unfold sqr at h
  split at h
  · obtain ⟨h1, h2⟩ := sq2 (show (x - ax) * (x - ax) + (y - ay) * (y - ay) = 0 from h)
    exact ⟨1, 0, by decide, by decide, by decide, by omega, by omega⟩
  · rename_i c1
    split at h
    · obtain ⟨h1, h2⟩ := sq2 (show (x - bx) * (x - bx) + (y - bw) * (y - bw) = 0 from h)
      exact ⟨0, 1, by decide, by decide, by decide, by omega, by omega⟩
    · rename_i c2
      have z := sqself (show trn ax ay bx bw x y * trn ax ay bx bw x y = 0 from h)
      unfold trn at z
      refine ⟨(bx - ax) * (bx - ax) + (bw - ay) * (bw - ay) - ((x - ax) * (bx - ax) + (y - ay) * (bw - ay)), (x - ax) * (bx - ax) + (y - ay) * (bw - ay), by omega, by omega, by omega, ?_, ?_⟩ <;> grind
/-- a point that both segments have, by weights -/
def Cmn (p q a b : Pt) : Prop := ∃ s0 s1 t0 t1 : Int, 0 ≤ s0 ∧ 0 ≤ s1 ∧ 0 ≤ t0 ∧ 0 ≤ t1 ∧ s0 + s1 = t0 + t1 ∧ 0 < s0 + s1 ∧ s0 * p.1 + s1 * q.1 = t0 * a.1 + t1 * b.1 ∧ s0 * p.2 + s1 * q.2 = t0 * a.2 + t1 * b.2
def Met (p q a b : Pt) : Prop := ∃ u ∈ sqs p.1 p.2 q.1 q.2 a.1 a.2 b.1 b.2, u.1 = 0
theorem neg2 {x y : Int} (h : x * y < 0) : (0 < x ∧ y < 0) ∨ (x < 0 ∧ 0 < y) := by
  rcases Int.lt_trichotomy x 0 with a | a | a
  · refine .inr ⟨a, ?_⟩
    rcases Int.lt_trichotomy y 0 with b | b | b
    · have := Int.mul_pos_of_neg_of_neg a b; omega
    · rw [b] at h; omega
    · exact b
  · rw [a] at h; omega
  · refine .inl ⟨a, ?_⟩
    rcases Int.lt_trichotomy y 0 with b | b | b
    · exact b
    · rw [b] at h; omega
    · have := Int.mul_pos a b; omega
theorem Met.cmn {p q a b : Pt} (h : Met p q a b) : Cmn p q a b := by
  obtain ⟨u, hu, e⟩ := h
  unfold sqs at hu
  split at hu
  · rename_i c
    unfold crs at c
    rw [Bool.and_eq_true, decide_eq_true_iff, decide_eq_true_iff] at c
    obtain ⟨c1, c2⟩ := c
    unfold trn at c1 c2
    rcases neg2 c1 with ⟨A, B⟩ | ⟨A, B⟩ <;> rcases neg2 c2 with ⟨P, Q⟩ | ⟨P, Q⟩
    · exfalso; grind
    · exact ⟨_, _, _, _, Int.le_of_lt Q, Int.le_of_lt (Int.neg_pos_of_neg P), Int.le_of_lt (Int.neg_pos_of_neg B), Int.le_of_lt A, by grind, by grind, by grind, by grind⟩
    · exact ⟨_, _, _, _, Int.le_of_lt (Int.neg_pos_of_neg Q), Int.le_of_lt P, Int.le_of_lt B, Int.le_of_lt (Int.neg_pos_of_neg A), by grind, by grind, by grind, by grind⟩
    · exfalso; grind
  · simp only [List.mem_cons, List.not_mem_nil, or_false] at hu
    rcases hu with rfl | rfl | rfl | rfl
    · obtain ⟨s0, s1, h0, h1, h2, h3, h4⟩ := sqr_on e
      exact ⟨s0 + s1, 0, s0, s1, by omega, by omega, h0, h1, by omega, by omega, by rw [h3]; omega, by rw [h4]; omega⟩
    · obtain ⟨s0, s1, h0, h1, h2, h3, h4⟩ := sqr_on e
      exact ⟨0, s0 + s1, s0, s1, by omega, by omega, h0, h1, by omega, by omega, by rw [h3]; omega, by rw [h4]; omega⟩
    · obtain ⟨s0, s1, h0, h1, h2, h3, h4⟩ := sqr_on e
      exact ⟨s0, s1, s0 + s1, 0, h0, h1, by omega, by omega, by omega, h2, by rw [h3]; omega, by rw [h4]; omega⟩
    · obtain ⟨s0, s1, h0, h1, h2, h3, h4⟩ := sqr_on e
      exact ⟨s0, s1, 0, s0 + s1, h0, h1, by omega, by omega, by omega, h2, by rw [h3]; omega, by rw [h4]; omega⟩
/-- the points of the plane in a row, closed -/
structure Cvx (C : Nat → Pt) (n : Nat) : Prop where
  n3 : 3 ≤ n
  lft : ∀ k m, k < n → m < n → m ≠ k → m ≠ (k + 1) % n → 0 < cr3 (C k) (C ((k + 1) % n)) (C m)
theorem vert (p q r a b x : Pt) : cr3 p q r * (cr3 a b x - cr3 a b q) = cr3 p q x * (cr3 a b r - cr3 a b q) + cr3 q r x * (cr3 a b p - cr3 a b q) := by
  unfold cr3
  grind
theorem cr3_b (p q a b : Pt) : cr3 a b p - cr3 a b q = cr3 p q b - cr3 p q a := by
  unfold cr3
  grind
theorem cr3_0 (a b : Pt) : cr3 a b a = 0 ∧ cr3 a b b = 0 := by
  unfold cr3
  constructor <;> grind
theorem cr3_n (a b x : Pt) : cr3 b a x = -cr3 a b x := by
  unfold cr3
  grind
theorem wpos {s0 s1 x y : Int} (h0 : 0 ≤ s0) (h1 : 0 ≤ s1) (hs : 0 < s0 + s1) (hx : 0 < x) (hy : 0 < y) : 0 < s0 * x + s1 * y := by
  rcases Int.lt_or_le 0 s0 with z | z
  · have := Int.mul_pos z hx
    have := Int.mul_nonneg h1 (Int.le_of_lt hy)
    omega
  · have := Int.mul_nonneg h0 (Int.le_of_lt hx)
    have := Int.mul_pos (show 0 < s1 by omega) hy
    omega
theorem wnn {s0 s1 x y : Int} (h0 : 0 ≤ s0) (h1 : 0 ≤ s1) (hx : 0 ≤ x) (hy : 0 ≤ y) : 0 ≤ s0 * x + s1 * y := by
  have := Int.mul_nonneg h0 hx
  have := Int.mul_nonneg h1 hy
  omega
/-- a least fraction of some -/
theorem frac_min {P : Nat → Prop} {f g : Nat → Int} (hg : ∀ j, P j → 0 < g j) : ∀ n, (∃ j, j < n ∧ P j) → ∃ k, k < n ∧ P k ∧ ∀ j, j < n → P j → f k * g j ≤ f j * g k := by
  intro n
  induction n with
  | zero => rintro ⟨j, h, _⟩; omega
  | succ n ih =>
    intro h
    by_cases e : ∃ j, j < n ∧ P j
    · obtain ⟨k, hk, pk, mk⟩ := ih e
      by_cases pn : P n
      · rcases Int.le_total (f k * g n) (f n * g k) with z | z
        · refine ⟨k, by omega, pk, fun j hj pj => ?_⟩
          by_cases w : j = n
          · rw [w]; exact z
          · exact mk j (by omega) pj
        · refine ⟨n, by omega, pn, fun j hj pj => ?_⟩
          by_cases w : j = n
          · rw [w]; exact Int.le_refl _
          · have m1 := mk j (by omega) pj
            have gk := hg k pk
            have gj := hg j pj
            have gn := hg n pn
            have a1 : f n * g k * g j ≤ f k * g n * g j := Int.mul_le_mul_of_nonneg_right z (Int.le_of_lt gj)
            have a2 : f k * g j * g n ≤ f j * g k * g n := Int.mul_le_mul_of_nonneg_right m1 (Int.le_of_lt gn)
            have a3 : g k * (f n * g j) ≤ g k * (f j * g n) := by grind
            exact Int.le_of_mul_le_mul_left a3 gk
      · refine ⟨k, by omega, pk, fun j hj pj => ?_⟩
        by_cases w : j = n
        · exact absurd (w ▸ pj) pn
        · exact mk j (by omega) pj
    · obtain ⟨j, hj, pj⟩ := h
      have w : j = n := by
        rcases Nat.lt_or_ge j n with z | z
        · exact absurd ⟨j, z, pj⟩ e
        · omega
      refine ⟨n, by omega, w ▸ pj, fun i hi pi => ?_⟩
      have : i = n := by
        rcases Nat.lt_or_ge i n with z | z
        · exact absurd ⟨i, z, pi⟩ e
        · omega
      rw [this]; exact Int.le_refl _
section
variable {C : Nat → Pt} {n : Nat}
theorem Cvx.nn (h : Cvx C n) {k m : Nat} (hk : k < n) (hm : m < n) : 0 ≤ cr3 (C k) (C ((k + 1) % n)) (C m) := by
  by_cases e : m = k
  · rw [e, (cr3_0 _ _).1]; exact Int.le_refl _
  · by_cases e2 : m = (k + 1) % n
    · rw [e2, (cr3_0 _ _).2]; exact Int.le_refl _
    · exact Int.le_of_lt (h.lft k m hk hm e e2)
theorem md1 {k n : Nat} (h : k < n) : ((k + 1) % n = k + 1 ∧ k + 1 < n) ∨ ((k + 1) % n = 0 ∧ k + 1 = n) := by
  rcases Nat.lt_or_ge (k + 1) n with z | z
  · exact .inl ⟨Nat.mod_eq_of_lt z, z⟩
  · exact .inr ⟨by rw [show k + 1 = n by omega, Nat.mod_self], by omega⟩
/-- the corner behind the next one is to the left -/
theorem Cvx.two (h : Cvx C n) {k : Nat} (hk : k < n) : (k + 1) % n < n ∧ ((k + 1) % n + 1) % n < n ∧ 0 < cr3 (C k) (C ((k + 1) % n)) (C (((k + 1) % n + 1) % n)) := by
  have n3 := h.n3
  have a : (k + 1) % n < n := Nat.mod_lt _ (by omega)
  have b : ((k + 1) % n + 1) % n < n := Nat.mod_lt _ (by omega)
  refine ⟨a, b, h.lft k _ hk b ?_ ?_⟩
  · rcases md1 hk with ⟨e, z⟩ | ⟨e, z⟩ <;> rcases md1 a with ⟨e', z'⟩ | ⟨e', z'⟩ <;> omega
  · rcases md1 hk with ⟨e, z⟩ | ⟨e, z⟩ <;> rcases md1 a with ⟨e', z'⟩ | ⟨e', z'⟩ <;> omega
theorem prv {k n : Nat} (h : k < n) : ∃ j, j < n ∧ (j + 1) % n = k := by
  rcases Nat.eq_zero_or_pos k with z | z
  · exact ⟨n - 1, by omega, by rw [show n - 1 + 1 = n by omega, Nat.mod_self, z]⟩
  · exact ⟨k - 1, by omega, by rw [show k - 1 + 1 = k by omega]; exact Nat.mod_eq_of_lt h⟩
/-- a point within: no line through it has all corners on one side -/
theorem Cvx.within (h : Cvx C n) {a b x : Pt} (hx : ∀ k, k < n → 0 ≤ cr3 (C k) (C ((k + 1) % n)) x) (h0 : cr3 a b x = 0) : ∃ k, k < n ∧ cr3 a b (C k) ≤ 0 := by
  have n3 := h.n3
  obtain ⟨m, hm, _, mn⟩ := frac_min (P := fun _ => True) (f := fun k => cr3 a b (C k)) (g := fun _ => 1) (fun _ _ => by decide) n ⟨0, by omega, True.intro⟩
  simp only [Int.mul_one] at mn
  refine ⟨m, hm, ?_⟩
  obtain ⟨k, hk, e⟩ := prv hm
  obtain ⟨a1, b1, D⟩ := h.two hk
  rw [e] at a1 b1 D
  have v := vert (C k) (C m) (C ((m + 1) % n)) a b x
  have s1 := hx k hk
  rw [e] at s1
  have s2 := hx m hm
  have m1 := mn _ b1 True.intro
  have m2 := mn _ hk True.intro
  have w := wnn s1 s2 (show 0 ≤ cr3 a b (C ((m + 1) % n)) - cr3 a b (C m) by omega) (show 0 ≤ cr3 a b (C k) - cr3 a b (C m) by omega)
  rw [← v, h0] at w
  have := sgn w D
  omega
/-- the program's and the law's word -/
def TPr (C : Nat → Pt) (n : Nat) (a b : Pt) : Prop := (∀ k, k < n → 0 ≤ cr3 (C k) (C ((k + 1) % n)) a) ∨ ∃ k, k < n ∧ Met (C k) (C ((k + 1) % n)) a b
def TLw (C : Nat → Pt) (n : Nat) (a b : Pt) : Prop := (∀ k, k < n → ¬ (cr3 (C k) (C ((k + 1) % n)) a < 0 ∧ cr3 (C k) (C ((k + 1) % n)) b < 0)) ∧ (∃ k, k < n ∧ cr3 a b (C k) ≤ 0) ∧ ∃ k, k < n ∧ 0 ≤ cr3 a b (C k)
theorem TLw.turn {a b : Pt} (h : TLw C n a b) : TLw C n b a := by
  obtain ⟨h1, ⟨k, hk, e⟩, ⟨m, hm, e'⟩⟩ := h
  refine ⟨fun k hk z => h1 k hk ⟨z.2, z.1⟩, ⟨m, hm, ?_⟩, ⟨k, hk, ?_⟩⟩
  · rw [cr3_n]; omega
  · rw [cr3_n]; omega
theorem Cvx.to (h : Cvx C n) {a b : Pt} (t : TPr C n a b) : TLw C n a b := by
  rcases t with t | ⟨k, hk, M⟩
  · refine ⟨fun k hk z => ?_, h.within t (cr3_0 a b).1, ?_⟩
    · have := t k hk; omega
    · obtain ⟨k, hk, e⟩ := h.within (a := b) (b := a) t (cr3_0 b a).2
      rw [cr3_n] at e
      exact ⟨k, hk, by omega⟩
  · obtain ⟨s0, s1, t0, t1, p0, p1, q0, q1, es, ps, ex, ey⟩ := M.cmn
    have hq : (k + 1) % n < n := Nat.mod_lt _ (by have := h.n3; omega)
    have f0 : s0 * cr3 a b (C k) + s1 * cr3 a b (C ((k + 1) % n)) = 0 := by
      generalize C k = p at ex ey
      generalize C ((k + 1) % n) = q at ex ey
      unfold cr3
      grind
    refine ⟨fun j hj z => ?_, ?_, ?_⟩
    · have sp := h.nn hj hk
      have sq := h.nn hj hq
      have e : s0 * cr3 (C j) (C ((j + 1) % n)) (C k) + s1 * cr3 (C j) (C ((j + 1) % n)) (C ((k + 1) % n)) = t0 * cr3 (C j) (C ((j + 1) % n)) a + t1 * cr3 (C j) (C ((j + 1) % n)) b := by
        generalize C j = u
        generalize C ((j + 1) % n) = v
        generalize C k = p at ex ey
        generalize C ((k + 1) % n) = q at ex ey
        unfold cr3
        grind
      have w1 := wnn p0 p1 sp sq
      have w2 := wpos q0 q1 (by omega) (show 0 < -cr3 (C j) (C ((j + 1) % n)) a by omega) (show 0 < -cr3 (C j) (C ((j + 1) % n)) b by omega)
      rw [Int.mul_neg, Int.mul_neg] at w2
      omega
    · rcases Int.lt_or_le 0 (cr3 a b (C k)) with z | z
      · rcases Int.lt_or_le 0 (cr3 a b (C ((k + 1) % n))) with z2 | z2
        · have := wpos p0 p1 ps z z2
          omega
        · exact ⟨_, hq, z2⟩
      · exact ⟨_, hk, z⟩
    · rcases Int.lt_or_le (cr3 a b (C k)) 0 with z | z
      · rcases Int.lt_or_le (cr3 a b (C ((k + 1) % n))) 0 with z2 | z2
        · have := wpos p0 p1 ps (show 0 < -cr3 a b (C k) by omega) (show 0 < -cr3 a b (C ((k + 1) % n)) by omega)
          rw [Int.mul_neg, Int.mul_neg] at this
          omega
        · exact ⟨_, hq, z2⟩
      · exact ⟨_, hk, z⟩
/-- the segment goes through the line of pq between p and q -/
theorem met_of {p q a b : Pt} (ha : cr3 p q a < 0) (hb : 0 ≤ cr3 p q b) (hq : cr3 a b q ≤ 0) (hp : 0 ≤ cr3 a b p) : Met p q a b := by
  have el := cr3_b p q a b
  by_cases c : crs p.1 p.2 q.1 q.2 a.1 a.2 b.1 b.2 = true
  · exact ⟨(0, 1), by unfold sqs; rw [if_pos c]; exact List.mem_cons_self, rfl⟩
  unfold Met sqs
  rw [if_neg c]
  by_cases zb : cr3 p q b = 0
  · refine ⟨_, List.mem_cons_of_mem _ (List.mem_cons_of_mem _ (List.mem_cons_of_mem _ List.mem_cons_self)), on_sqr (l := cr3 p q b - cr3 p q a) (m := cr3 a b p) (by omega) hp (by omega) ?_ ?_⟩
    · clear c el ha hb hq hp; unfold cr3 at *; grind
    · clear c el ha hb hq hp; unfold cr3 at *; grind
  by_cases zp : cr3 a b p = 0
  · refine ⟨_, List.mem_cons_self, on_sqr (l := cr3 p q b - cr3 p q a) (m := -cr3 p q a) (by omega) (by omega) (by omega) ?_ ?_⟩
    · clear c el ha hb hq hp zb; unfold cr3 at *; grind
    · clear c el ha hb hq hp zb; unfold cr3 at *; grind
  by_cases zq : cr3 a b q = 0
  · refine ⟨_, List.mem_cons_of_mem _ List.mem_cons_self, on_sqr (l := cr3 p q b - cr3 p q a) (m := -cr3 p q a) (by omega) (by omega) (by omega) ?_ ?_⟩
    · clear c el ha hb hq hp zb zp; unfold cr3 at *; grind
    · clear c el ha hb hq hp zb zp; unfold cr3 at *; grind
  exfalso
  apply c
  unfold crs
  rw [Bool.and_eq_true, decide_eq_true_iff, decide_eq_true_iff]
  exact ⟨Int.mul_neg_of_neg_of_pos (show cr3 p q a < 0 from ha) (show 0 < cr3 p q b by omega), Int.mul_neg_of_pos_of_neg (show 0 < cr3 a b p by omega) (show cr3 a b q < 0 by omega)⟩
theorem mnn {x y : Int} (hx : 0 ≤ x) (hy : y ≤ 0) : x * y ≤ 0 := Int.mul_nonpos_of_nonneg_of_nonpos hx hy
theorem Cvx.back (h : Cvx C n) {a b : Pt} (t : TLw C n a b) : TPr C n a b := by
  obtain ⟨t1, ⟨k0, hk0, e0⟩, ⟨k1, hk1, e1⟩⟩ := t
  by_cases ins : ∀ k, k < n → 0 ≤ cr3 (C k) (C ((k + 1) % n)) a
  · exact .inl ins
  refine .inr ?_
  have ex : ∃ j, j < n ∧ cr3 (C j) (C ((j + 1) % n)) a < 0 := by
    apply Classical.byContradiction
    intro z
    exact ins fun k hk => by
      rcases Int.lt_or_le (cr3 (C k) (C ((k + 1) % n)) a) 0 with w | w
      · exact absurd ⟨k, hk, w⟩ z
      · exact w
  obtain ⟨k, hk, pk, mn⟩ := frac_min (P := fun j => cr3 (C j) (C ((j + 1) % n)) a < 0) (f := fun j => cr3 (C j) (C ((j + 1) % n)) b) (g := fun j => -cr3 (C j) (C ((j + 1) % n)) a) (fun j hj => by have : cr3 (C j) (C ((j + 1) % n)) a < 0 := hj; show 0 < -cr3 (C j) (C ((j + 1) % n)) a; omega) n ex
  have pk : cr3 (C k) (C ((k + 1) % n)) a < 0 := pk
  have hb : 0 ≤ cr3 (C k) (C ((k + 1) % n)) b := by
    rcases Int.lt_or_le (cr3 (C k) (C ((k + 1) % n)) b) 0 with w | w
    · exact absurd ⟨pk, w⟩ (t1 k hk)
    · exact w
  -- what the choice says of another side
  have W : ∀ j, j < n → cr3 (C j) (C ((j + 1) % n)) a < 0 → 0 ≤ cr3 (C j) (C ((j + 1) % n)) a * cr3 (C k) (C ((k + 1) % n)) b - cr3 (C k) (C ((k + 1) % n)) a * cr3 (C j) (C ((j + 1) % n)) b := fun j hj pj => by
    have z := mn j hj pj
    generalize cr3 (C j) (C ((j + 1) % n)) a = x1 at z ⊢
    generalize cr3 (C j) (C ((j + 1) % n)) b = x2 at z ⊢
    generalize cr3 (C k) (C ((k + 1) % n)) a = x3 at z ⊢
    generalize cr3 (C k) (C ((k + 1) % n)) b = x4 at z ⊢
    rw [Int.mul_neg, Int.mul_neg, Int.mul_comm x4 x1, Int.mul_comm x2 x3] at z
    omega
  refine ⟨k, hk, met_of pk hb ?_ ?_⟩
  · obtain ⟨a1, b1, D⟩ := h.two hk
    have W1 := W _ a1
    have v := fun x => vert (C k) (C ((k + 1) % n)) (C (((k + 1) % n + 1) % n)) a b x
    have va := v a
    have c1 := cr3_b (C k) (C ((k + 1) % n)) a b
    have c2 := cr3_b (C ((k + 1) % n)) (C (((k + 1) % n + 1) % n)) a b
    have vm := v (C k0)
    have n1 := h.nn hk hk0
    have n2 := h.nn a1 hk0
    rw [(cr3_0 a b).1] at va
    clear v mn W ins ex t1
    generalize cr3 (C k) (C ((k + 1) % n)) (C (((k + 1) % n + 1) % n)) = DD at *
    generalize cr3 (C k) (C ((k + 1) % n)) a = A at *
    generalize cr3 (C k) (C ((k + 1) % n)) b = B at *
    generalize cr3 (C ((k + 1) % n)) (C (((k + 1) % n + 1) % n)) a = A1 at *
    generalize cr3 (C ((k + 1) % n)) (C (((k + 1) % n + 1) % n)) b = B1 at *
    generalize cr3 (C k) (C ((k + 1) % n)) (C k0) = M0 at *
    generalize cr3 (C ((k + 1) % n)) (C (((k + 1) % n + 1) % n)) (C k0) = M1 at *
    generalize cr3 a b (C ((k + 1) % n)) = fq at *
    generalize cr3 a b (C (((k + 1) % n + 1) % n)) = fr at *
    generalize cr3 a b (C k) = fp at *
    generalize cr3 a b (C k0) = f0 at *
    rcases Int.lt_or_le 0 fq with w | w
    rotate_left
    · exact w
    exfalso
    have dq := Int.mul_pos D w
    have e1 : fr - fq = A1 - B1 := by omega
    have e2 : fp - fq = B - A := by omega
    rw [e1, e2] at va vm
    have ev : DD * fq = A * B1 - A1 * B := by grind
    have h1 : 0 ≤ A1 := by
      rcases Int.lt_or_le A1 0 with u | u
      · have := W1 u; omega
      · exact u
    have h2 : B1 < 0 := by
      rcases Int.lt_or_le B1 0 with u | u
      · exact u
      · have z1 := Int.mul_nonneg h1 hb
        have z2 := mnn u (Int.le_of_lt pk)
        rw [Int.mul_comm] at z2
        omega
    have z := wnn n1 n2 (show 0 ≤ A1 - B1 by omega) (show 0 ≤ B - A by omega)
    rw [← vm] at z
    have := sgn z D
    omega
  · obtain ⟨j, hj, ej⟩ := prv hk
    obtain ⟨a1, b1, D⟩ := h.two hj
    rw [ej] at a1 b1 D
    have W1 := W _ hj
    rw [ej] at W1
    have v := fun x => vert (C j) (C k) (C ((k + 1) % n)) a b x
    have va := v a
    have c1 := cr3_b (C j) (C k) a b
    have c2 := cr3_b (C k) (C ((k + 1) % n)) a b
    have vm := v (C k1)
    have n1 := h.nn hj hk1
    rw [ej] at n1
    have n2 := h.nn hk hk1
    rw [(cr3_0 a b).1] at va
    clear v mn W ins ex t1
    generalize cr3 (C j) (C k) (C ((k + 1) % n)) = DD at *
    generalize cr3 (C k) (C ((k + 1) % n)) a = A at *
    generalize cr3 (C k) (C ((k + 1) % n)) b = B at *
    generalize cr3 (C j) (C k) a = A1 at *
    generalize cr3 (C j) (C k) b = B1 at *
    generalize cr3 (C j) (C k) (C k1) = M0 at *
    generalize cr3 (C k) (C ((k + 1) % n)) (C k1) = M1 at *
    generalize cr3 a b (C ((k + 1) % n)) = fq at *
    generalize cr3 a b (C j) = fj at *
    generalize cr3 a b (C k) = fp at *
    generalize cr3 a b (C k1) = f1 at *
    rcases Int.lt_or_le fp 0 with w | w
    rotate_left
    · exact w
    exfalso
    have dq := Int.mul_neg_of_pos_of_neg D w
    have e1' : fq - fp = A - B := by omega
    have e2 : fj - fp = B1 - A1 := by omega
    rw [e1', e2] at va vm
    have ev : DD * fp = A1 * B - A * B1 := by grind
    have h1 : 0 ≤ A1 := by
      rcases Int.lt_or_le A1 0 with u | u
      · have := W1 u; omega
      · exact u
    have h2 : B1 < 0 := by
      rcases Int.lt_or_le B1 0 with u | u
      · exact u
      · have z1 := Int.mul_nonneg h1 hb
        have z2 := mnn u (Int.le_of_lt pk)
        rw [Int.mul_comm] at z2
        omega
    have z := wnn n1 n2 (show 0 ≤ -(A - B) by omega) (show 0 ≤ -(B1 - A1) by omega)
    rw [Int.mul_neg, Int.mul_neg] at z
    have z' : 0 ≤ DD * (fp - f1) := by
      rw [Int.mul_sub] at vm ⊢
      omega
    have := sgn z' D
    omega
end
end Sk

set_option Elab.async false
set_option linter.all false
set_option maxRecDepth 100000
set_option maxHeartbeats 4000000
namespace Sk
open PySem PySem.Spec PyProof.Rows L2
theorem pa_starK {X : Cx} {K : PySem.W.Frag} {e : Expr} {es : List Expr} {te : TE} {t : TA} {p : Pos} (eK : X.K = K) (he : PE X e te) (ht : PA X es t) (hs : starEach (e.Starred p :: es) X.env = (true, eval e X.env) :: starEach es X.env := by rfl) : PA X (e.Starred p :: es) (StX.tStar K te t) := eK ▸ StX.pa_star he ht hs
theorem till_any {K : PySem.W.Frag} {a : Addr} {xs : List V} {g : TG} {tt : TT} {te : TE} {vs : List Nat} {σ : L2.St} {H2 : Hp} {Qe Qn : Hp → Prop} (Pv : Nat → Hp → Prop) (h0 : Pv 0 H2) (hl : ∀ i H, i ≤ xs.length → Pv i H → SqL K H a xs)
    (hs : ∀ i x H, xs[i]? = some x → Pv i H → g x (wipe σ vs) H fun σ2 H2 => wipe σ2 vs = wipe σ vs ∧ tt σ2 H2 fun b H3 => if b = true then te σ2 H3 fun y H4 => ∃ b, y = .bl b ∧ if b = true then Qe H4 else Pv (i + 1) H4 else Pv (i + 1) H3) (hd : ∀ H, Pv xs.length H → Qn H) :
    ∃ W : Nat → Nat → Hp → Prop, (∃ m, W 0 m H2) ∧ ∀ i m H, W i m H → ((Itl K a).stop i H ∧ Qn H) ∨ ((Itl K a).go i H ∧ ∃ Nx : Hp → Prop, (∀ H', Nx H' → ∃ m', m' < m ∧ W (i + 1) m' H') ∧
      ∀ x H', (Itl K a).yld i H x H' → g x (wipe σ vs) H' fun σ2 H2 => wipe σ2 vs = wipe σ vs ∧ tt σ2 H2 fun b H3 => if b = true then te σ2 H3 fun y H4 => ∃ b, y = .bl b ∧ if b = true then Qe H4 else Nx H4 else Nx H3) := by
  refine ⟨fun i m H => m = xs.length - i ∧ i ≤ xs.length ∧ Pv i H, ⟨xs.length, by simp, Nat.zero_le _, h0⟩, fun i m H w => ?_⟩
  obtain ⟨hm, hi, p⟩ := w
  have q := hl i H hi p
  rcases Nat.lt_or_ge i xs.length with z | z
  · refine .inr ⟨⟨xs, xs[i], q, by simp [z]⟩, Pv (i + 1), fun H' p' => ⟨xs.length - (i + 1), by omega, rfl, z, p'⟩, fun x H' y => ?_⟩
    obtain ⟨rfl, y⟩ := y
    exact hs i x _ (y xs q) p
  · obtain rfl : i = xs.length := by omega
    exact .inl ⟨⟨xs, q, Nat.le_refl _⟩, hd H p⟩
theorem op_inSK {X : Cx} {K : PySem.W.Frag} (e : X.K = K) : OpR X (compareOp .In) (rIn K false) := e ▸ op_in_seq
theorem op_notInSK {X : Cx} {K : PySem.W.Frag} (e : X.K = K) : OpR X (compareOp .NotIn) (rIn K true) := e ▸ op_notIn_seq
/-! zones in memory -/
def ptO (p : Pt) : HO := .tup [.int p.1, .int p.2]
def PtB (p : Pt) : Prop := -100000 ≤ p.1 ∧ p.1 ≤ 100000 ∧ -100000 ≤ p.2 ∧ p.2 ≤ 100000
theorem bd100k {x : Int} (h : -100000 ≤ x) (h' : x ≤ 100000) : BdN 20 x := BdN.of (by show -(1048576 : Int) ≤ x; omega) (by show x ≤ (1048576 : Int); omega)
theorem PtB.b1 {p : Pt} (h : PtB p) : BdN 20 p.1 := bd100k h.1 h.2.1
theorem PtB.b2 {p : Pt} (h : PtB p) : BdN 20 p.2 := bd100k h.2.2.1 h.2.2.2
def refs (ad : Nat → Addr) (n : Nat) : List V := (List.range n).map fun k => V.ref (ad k)
theorem refs_len {ad : Nat → Addr} {n : Nat} : (refs ad n).length = n := by unfold refs; rw [List.length_map, List.length_range]
theorem refs_at {ad : Nat → Addr} {n k : Nat} (h : k < n) : (refs ad n)[k]? = some (.ref (ad k)) := by
  unfold refs
  rw [List.getElem?_map, List.getElem?_range h]
  rfl
theorem refs_get {ad : Nat → Addr} {n k : Nat} {v : V} (h : (refs ad n)[k]? = some v) : k < n ∧ v = .ref (ad k) := by
  have hl := (List.getElem?_eq_some_iff.mp h).1
  rw [refs_len] at hl
  rw [refs_at hl] at h
  exact ⟨hl, (Option.some.inj h).symm⟩
/-- the index before, around -/
def prev (n i : Nat) : Nat := if i = 0 then n - 1 else i - 1
theorem prev_lt {n i : Nat} (h : i < n) : prev n i < n := by unfold prev; split <;> omega
theorem prev_nx {n i : Nat} (h : i < n) : (prev n i + 1) % n = i := by
  unfold prev
  split
  · rename_i e
    rw [show n - 1 + 1 = n by omega, Nat.mod_self, e]
  · rw [show i - 1 + 1 = i by omega]; exact Nat.mod_eq_of_lt h
theorem nx_prev {n k : Nat} (h : k < n) : prev n ((k + 1) % n) = k := by
  unfold prev
  rcases md1 h with ⟨e, z⟩ | ⟨e, z⟩
  · rw [e, if_neg (by omega)]; omega
  · rw [e, if_pos rfl]; omega
theorem refs_prev {ad : Nat → Addr} {n i : Nat} (h : i < n) : atI (refs ad n) (0 + (i : Int) - 1) = some (.ref (ad (prev n i))) := by
  by_cases e : i = 0
  · subst e
    unfold prev
    rw [if_pos rfl]
    exact atI_back (by
      unfold refs
      rw [List.getLast?_eq_getElem?, List.length_map, List.length_range]
      exact refs_at (show n - 1 < n by omega))
  · unfold prev
    rw [if_neg e, show 0 + (i : Int) - 1 = ((i - 1 : Nat) : Int) by omega]
    exact atI_nat (refs_at (by omega))
/-- n points at z, a tuple -/
structure ZAt (H : Hp) (z : Addr) (ad : Nat → Addr) (n : Nat) (g : Nat → Pt) : Prop where
  t : H z = some (.tup (refs ad n))
  p : ∀ k, k < n → H (ad k) = some (ptO (g k))
  b : ∀ k, k < n → PtB (g k)
  n : n ≤ 100
section
variable {H H' : Hp} {z : Addr} {ad : Nat → Addr} {n : Nat} {g : Nat → Pt} {TT : List Addr}
theorem ZAt.tk (h : ZAt H z ad n g) (k : ∀ b xs, H b = some (.tup xs) → H' b = some (.tup xs)) : ZAt H' z ad n g := ⟨k _ _ h.t, fun i hi => k _ _ (h.p i hi), h.b, h.n⟩
theorem ZAt.same (h : ZAt H z ad n g) (k : Same H H') : ZAt H' z ad n g := h.tk fun b xs e => k _ _ e
theorem ZAt.st (h : ZAt H z ad n g) (s : SameT TT H H') (t : Tabs TT H) : ZAt H' z ad n g := h.tk fun b xs e => s.t t e
end
/-- the program's side of a border line, times the denominator -/
def sdz (p q : Pt) (x y d : Int) : Int := (q.1 - p.1) * (y - p.2 * d) - (q.2 - p.2) * (x - p.1 * d)
def scl (d : Int) (p : Pt) : Pt := (p.1 * d, p.2 * d)
theorem sdz_cr {p q : Pt} {x y d : Int} : cr3 (scl d p) (scl d q) (x, y) = d * sdz p q x y d := by
  unfold cr3 scl sdz
  grind
theorem sdz_1 {p q r : Pt} : sdz p q r.1 r.2 1 = cr3 p q r := by
  unfold cr3 sdz
  grind
theorem cr3_scl {p q r : Pt} {d : Int} : cr3 (scl d p) (scl d q) (scl d r) = d * (d * cr3 p q r) := by
  unfold cr3 scl
  grind
def edS (p q : Pt) : Seg := ⟨p.1, p.2, q.1, q.2, 1⟩
theorem met_eq {p q : Pt} {s : Seg} : (∃ u ∈ segSqs (edS p q) s, u.1 = 0) ↔ Met (scl s.d p) (scl s.d q) (s.ax, s.ay) (s.bx, s.bw) := by
  unfold segSqs Met edS scl
  simp only [Int.mul_one]
def IsZone (n : Nat) (g : Nat → Pt) : Prop := 3 ≤ n ∧ n ≤ 8 ∧ ∀ k m, k < n → m < n → m ≠ k → m ≠ (k + 1) % n → 0 < cr3 (g k) (g ((k + 1) % n)) (g m)
def InP (n : Nat) (g : Nat → Pt) (s : Seg) : Prop := ∀ i, i < n → 0 ≤ sdz (g (prev n i)) (g i) s.ax s.ay s.d
def BoP (n : Nat) (g : Nat → Pt) (s : Seg) : Prop := ∃ i, i < n ∧ ∃ u ∈ segSqs (edS (g (prev n i)) (g i)) s, u.1 = 0
def LwP (n : Nat) (g : Nat → Pt) (s : Seg) : Prop := TLw (fun k => scl s.d (g k)) n (s.ax, s.ay) (s.bx, s.bw)
theorem mul_pos2 {d x : Int} (hd : 0 < d) (h : 0 < d * x) : 0 < x := by
  rcases Int.lt_or_le 0 x with z | z
  · exact z
  · have := Int.mul_nonpos_of_nonneg_of_nonpos (Int.le_of_lt hd) z
    omega
/-- the law: both say the same of a zone -/
theorem zone_eq {n : Nat} {g : Nat → Pt} {s : Seg} (h : IsZone n g) (hd : 1 ≤ s.d) : (InP n g s ∨ BoP n g s) ↔ LwP n g s := by
  obtain ⟨n3, n8, lft⟩ := h
  have C : Cvx (fun k => scl s.d (g k)) n := ⟨n3, fun k m hk hm a b => by
    rw [cr3_scl]
    exact Int.mul_pos (by omega) (Int.mul_pos (by omega) (lft k m hk hm a b))⟩
  have e : (InP n g s ∨ BoP n g s) ↔ TPr (fun k => scl s.d (g k)) n (s.ax, s.ay) (s.bx, s.bw) := by
    unfold TPr
    constructor
    · rintro (a | ⟨i, hi, a⟩)
      · refine .inl fun k hk => ?_
        have z := a ((k + 1) % n) (Nat.mod_lt _ (by omega))
        rw [nx_prev hk] at z
        rw [sdz_cr]
        exact Int.mul_nonneg (by omega) z
      · refine .inr ⟨prev n i, prev_lt hi, ?_⟩
        rw [prev_nx hi]
        exact met_eq.mp a
    · rintro (a | ⟨k, hk, a⟩)
      · refine .inl fun i hi => ?_
        have z := a (prev n i) (prev_lt hi)
        rw [prev_nx hi, sdz_cr] at z
        exact sgn z (by omega)
      · refine .inr ⟨(k + 1) % n, Nat.mod_lt _ (by omega), ?_⟩
        rw [nx_prev hk]
        exact met_eq.mpr a
  rw [e]
  exact ⟨C.to, C.back⟩
theorem LwP.turn {n : Nat} {g : Nat → Pt} {s : Seg} : LwP n g s.turn ↔ LwP n g s := ⟨fun h => TLw.turn h, fun h => TLw.turn h⟩
/-! promises -/
def spSide : Sp := fun vs H Q _ => ∃ (a b : Addr) (p q : Pt) (x y d : Int), vs = [.ref a, .ref b, .int x, .int y, .int d] ∧ H a = some (ptO p) ∧ H b = some (ptO q) ∧ PtB p ∧ PtB q ∧ BdN 300 x ∧ BdN 300 y ∧ BdN 100 d ∧ Q (.int (sdz p q x y d)) H
def EdAt (H : Hp) (l : Addr) (ts ea eb : Nat → Addr) (n : Nat) (g : Nat → Pt) : Prop := H l = some (.lst (refs ts n)) ∧ ∀ i, i < n → H (ts i) = some (.tup [.ref (ea i), .ref (eb i)]) ∧ H (ea i) = some (ptO (g (prev n i))) ∧ H (eb i) = some (ptO (g i))
def spEdges : Sp := fun vs H Q _ => ∃ (z : Addr) (ad : Nat → Addr) (n : Nat) (g : Nat → Pt), vs = [.ref z] ∧ ZAt H z ad n g ∧ ∀ l ts ea eb H', Same H H' → EdAt H' l ts ea eb n g → Q (.ref l) H'
def spMeet (TT : List Addr) : Sp := fun vs H Q _ => ∃ (a b : Addr) (s t : Seg), vs = [.ref a, .ref b] ∧ H a = some s.tup ∧ H b = some t.tup ∧ SegBd 200 100 s ∧ SegBd 200 100 t ∧ Tabs TT H ∧ ∀ (v : Bool) H', (v = true ↔ ∃ u ∈ segSqs s t, u.1 = 0) → SameT TT H H' → Q (.bl v) H'
def spZS (TT : List Addr) (P : Nat → (Nat → Pt) → Seg → Prop) : Sp := fun vs H Q _ => ∃ (z a : Addr) (ad : Nat → Addr) (n : Nat) (g : Nat → Pt) (s : Seg), vs = [.ref z, .ref a] ∧ ZAt H z ad n g ∧ H a = some s.tup ∧ SegBd 200 100 s ∧ Tabs TT H ∧ ∀ (v : Bool) H', (v = true ↔ P n g s) → SameT TT H H' → Q (.bl v) H'
def spIsZoneP (TT : List Addr) : Sp := fun vs H Q _ => ∃ (z : Addr) (ad : Nat → Addr) (n : Nat) (g : Nat → Pt), vs = [.ref z] ∧ ZAt H z ad n g ∧ Tabs TT H ∧ ∀ (v : Bool) H', (v = true ↔ IsZone n g) → SameT TT H H' → Q (.bl v) H'
def spLIsZone : Sp := fun vs H Q _ => ∃ (z : Addr) (ad : Nat → Addr) (n : Nat) (g : Nat → Pt), vs = [.ref z] ∧ ZAt H z ad n g ∧ ∀ (v : Bool), (v = true ↔ IsZone n g) → Q (.bl v) H
def spLTouches : Sp := fun vs H Q _ => ∃ (z a : Addr) (ad : Nat → Addr) (n : Nat) (g : Nat → Pt) (s : Seg), vs = [.ref z, .ref a] ∧ ZAt H z ad n g ∧ 3 ≤ n ∧ H a = some s.tup ∧ SegBd 200 100 s ∧ ∀ (v : Bool) H', (v = true ↔ LwP n g s) → Same H H' → Q (.bl v) H'
/-! points in a list, some of them alike -/
structure PsAt (H : Hp) (vs : List V) (ps : List Pt) : Prop where
  at_ : ∃ qs : List (Addr × Pt), vs = qs.map (fun q => V.ref q.1) ∧ (∀ q ∈ qs, H q.1 = some (ptO q.2)) ∧ qs.map (fun q => q.2) = ps
  b : ∀ p ∈ ps, PtB p
def spRing (K : PySem.W.Frag) : Sp := fun vs H Q _ => ∃ (d c : Addr), vs = [.ref d] ∧ St1 K H d c ∧ ∀ l xs ps H', H l = none → H' l = some (.lst xs) → PsAt H' xs ps → 2 ≤ ps.length → ps.length ≤ 9 → St1 K H' d c → Keep d H H' → Q (.ref l) H'
def spSpoilt (K : PySem.W.Frag) : Sp := fun vs H Q _ => ∃ (d c l : Addr) (xs : List V) (ps : List Pt), vs = [.ref d, .ref l] ∧ St1 K H d c ∧ H l = some (.lst xs) ∧ PsAt H xs ps ∧ 2 ≤ ps.length ∧ ps.length ≤ 9 ∧ ∀ z ad n g H', ZAt H' z ad n g → 2 ≤ n → St1 K H' d c → Keep d H H' → Q (.ref z) H'
theorem PsAt.tk {H H' : Hp} {vs : List V} {ps : List Pt} (h : PsAt H vs ps) (k : ∀ b xs, H b = some (.tup xs) → H' b = some (.tup xs)) : PsAt H' vs ps := by
  obtain ⟨⟨qs, a, b, c⟩, d⟩ := h
  exact ⟨⟨qs, a, fun q hq => k _ _ (b q hq), c⟩, d⟩
theorem PsAt.zat {H : Hp} {vs : List V} {ps : List Pt} {z : Addr} (h : PsAt H vs ps) (hz : H z = some (.tup vs)) (hl : ps.length ≤ 100) : ∃ ad g, ZAt H z ad ps.length g := by
  obtain ⟨⟨qs, a, b, c⟩, d⟩ := h
  have e : qs.length = ps.length := by rw [← c, List.length_map]
  refine ⟨fun k => (qs.getD k (0, (0, 0))).1, fun k => (qs.getD k (0, (0, 0))).2, ?_, fun k hk => ?_, fun k hk => ?_, hl⟩
  · rw [hz, a]
    congr 2
    unfold refs
    refine List.ext_getElem? fun i => ?_
    rw [List.getElem?_map, List.getElem?_map]
    rcases Nat.lt_or_ge i ps.length with w | w
    · rw [List.getElem?_range w, List.getElem?_eq_getElem (by omega)]
      show some (V.ref _) = some (V.ref (qs.getD i (0, 0, 0)).1)
      rw [List.getD_eq_getElem?_getD, List.getElem?_eq_getElem (show i < qs.length by omega)]
      rfl
    · rw [List.getElem?_eq_none (by omega), List.getElem?_eq_none (by rw [List.length_range]; omega)]
      rfl
  · have w : k < qs.length := by omega
    show H (qs.getD k _).1 = some (ptO (qs.getD k _).2)
    rw [List.getD_eq_getElem?_getD, List.getElem?_eq_getElem w]
    exact b _ (List.getElem_mem w)
  · have w : k < qs.length := by omega
    show PtB (qs.getD k _).2
    rw [List.getD_eq_getElem?_getD, List.getElem?_eq_getElem w]
    exact d _ (by rw [← c]; exact List.mem_map.mpr ⟨_, List.getElem_mem w, rfl⟩)
theorem PsAt.get {H : Hp} {vs : List V} {ps : List Pt} (h : PsAt H vs ps) {i : Nat} (hi : i < ps.length) : ∃ q, vs[i]? = some (.ref q) ∧ H q = some (ptO ps[i]) ∧ PtB ps[i] := by
  obtain ⟨⟨qs, a, b, c⟩, d⟩ := h
  have e : qs.length = ps.length := by rw [← c, List.length_map]
  have w : i < qs.length := by omega
  refine ⟨qs[i].1, by rw [a, List.getElem?_map, List.getElem?_eq_getElem w]; rfl, ?_, d _ (List.getElem_mem hi)⟩
  have z : ps[i] = qs[i].2 := by
    have : (qs.map fun q => q.2)[i]? = some ps[i] := by rw [c]; exact List.getElem?_eq_getElem hi
    rw [List.getElem?_map, List.getElem?_eq_getElem w] at this
    exact (Option.some.inj this).symm
  rw [z]
  exact b _ (List.getElem_mem w)
theorem PsAt.len {H : Hp} {vs : List V} {ps : List Pt} (h : PsAt H vs ps) : vs.length = ps.length := by
  obtain ⟨⟨qs, a, b, c⟩, d⟩ := h
  rw [a, ← c, List.length_map, List.length_map]
theorem PsAt.rev {H : Hp} {vs : List V} {ps : List Pt} (h : PsAt H vs ps) : PsAt H vs.reverse ps.reverse := by
  obtain ⟨⟨qs, a, b, c⟩, d⟩ := h
  exact ⟨⟨qs.reverse, by rw [a, List.map_reverse], fun q hq => b q (List.mem_reverse.mp hq), by rw [← c, List.map_reverse]⟩, fun p hp => d p (List.mem_reverse.mp hp)⟩
theorem PsAt.ins {H : Hp} {vs : List V} {ps : List Pt} {q : Addr} {p : Pt} {i : Nat} (h : PsAt H vs ps) (hq : H q = some (ptO p)) (hp : PtB p) : PsAt H (vs.take i ++ [.ref q] ++ vs.drop i) (ps.take i ++ [p] ++ ps.drop i) := by
  obtain ⟨⟨qs, a, b, c⟩, d⟩ := h
  refine ⟨⟨qs.take i ++ [(q, p)] ++ qs.drop i, ?_, fun x hx => ?_, ?_⟩, fun x hx => ?_⟩
  · rw [a, List.map_append, List.map_append, List.map_take, List.map_drop]; rfl
  · rcases List.mem_append.mp hx with hx | hx
    · rcases List.mem_append.mp hx with hx | hx
      · exact b x (List.mem_of_mem_take hx)
      · rw [List.mem_singleton.mp hx]; exact hq
    · exact b x (List.mem_of_mem_drop hx)
  · rw [← c, List.map_append, List.map_append, List.map_take, List.map_drop]; rfl
  · rcases List.mem_append.mp hx with hx | hx
    · rcases List.mem_append.mp hx with hx | hx
      · exact d x (List.mem_of_mem_take hx)
      · rw [List.mem_singleton.mp hx]; exact hp
    · exact d x (List.mem_of_mem_drop hx)
theorem PsAt.set {H : Hp} {vs : List V} {ps : List Pt} {q : Addr} {p : Pt} {i : Nat} (h : PsAt H vs ps) (hq : H q = some (ptO p)) (hp : PtB p) : PsAt H (vs.set i (.ref q)) (ps.set i p) := by
  obtain ⟨⟨qs, a, b, c⟩, d⟩ := h
  refine ⟨⟨qs.set i (q, p), by rw [a, List.map_set], fun x hx => ?_, by rw [← c, List.map_set]⟩, fun x hx => ?_⟩
  · rcases List.mem_or_eq_of_mem_set hx with w | w
    · exact b x w
    · rw [w]; exact hq
  · rcases List.mem_or_eq_of_mem_set hx with w | w
    · exact d x w
    · rw [w]; exact hp
end Sk

set_option Elab.async false
set_option linter.all false
set_option maxRecDepth 100000
set_option maxHeartbeats 4000000
namespace Sk
open PySem PySem.Spec PyProof.Rows L2
def top (i : Nat) : Stmt := PySem.Challenge.pw_skyapart_k04_zones.main.body.getD i (.Pass ⟨0, 0, 0, 0⟩)
abbrev s_law_start : Stmt := top 16
abbrev s_law_draw : Stmt := top 17
abbrev s_law_pick : Stmt := top 18
abbrev s_law_is_number : Stmt := top 19
section
variable {P : Program} {w : World} {K : PySem.W.Frag} {mg : Str → Option Value} {base : Heap}
theorem sc_law_start : FnScope ["script", "cell"] ["script"] (defScope s_law_start) := ⟨rfl, rfl, rfl, by decide +kernel, rfl, by decide +kernel, by decide +kernel⟩
theorem ok_law_start {f : Addr} {fd : FuncData} (F : Fun K "_law_start" "_law_start" s_law_start f fd) (T : Txt0 mg) : FnOk P w K mg base CX0 1 f fd ["script"] (spStart K) := by
  refine F.ok sc_law_start (fun vs H Q E h => ?_) (fun cdv A outer s H vs Q E hr h => ?_)
  · obtain ⟨a, ns, rfl, _⟩ := h
    rfl
  · obtain ⟨a, ns, rfl, hS, hl, k⟩ := h
    refine ⟨_, (pss_one (ps_ret (pe_disp (pps_cons pe_str (pe_lc (own := [("cell", 1)]) (g := gName 1) (by rfl) sc_law_start.nd (pi_list (pv 0)) (blkOk_by (own := [("cell", 1)]) (N := ["script", "cell"]) (sc := defScope s_law_start) (by decide +kernel)) (fun _ _ _ _ _ => (pg_name (i := 1) sc_law_start.nd rfl (Or.inl rfl))) (fun _ _ _ _ _ => pts_nil) (fun _ _ _ _ _ => (pe_callB call_abs (by rfl) T.abs boot_abs (pa_cons (pe_callTy call_int1 (by rfl) T.int boot_int (pa_cons (pv 1) pa_nil)) pa_nil)))) (pps_cons pe_str pe_int (pps_cons pe_str pe_int (pps_cons pe_str (pe_op op_add pe_int (pe_callB call_len_seq (by rfl) T.len boot_len (pa_cons (pv 0) pa_nil))) pps_nil)))) (by rfl) (by rfl) (fun z => by cases z) (by decide)))), ?_⟩
    -- the dict
    intro d hd
    have s0 : Same H (upd H d (.dK [])) := same_new hd
    refine ⟨_, rfl, a, rfl, ⟨_, s0.seq hS⟩, fun D hD => ?_⟩
    have nDd : d ≠ D := fun z => by rw [← z, upd_same] at hD; cases hD
    refine lc_list (K := K) (a := a) (xs := ns.map V.int) (fun i H' => ∃ cs : List Int, H' D = some (.lst (cs.map V.int)) ∧ cs.length = i ∧ (∀ x ∈ cs, 0 ≤ x) ∧ Same H H' ∧ H' d = some (.dK []))
      ⟨[], upd_same, rfl, (fun _ h => nomatch h), fun b o e => (same_new hD) b o (s0 b o e), by rw [upd_ne nDd, upd_same]⟩ (fun i H' _ ⟨_, _, _, _, s2, _⟩ => s2.seq hS) ?_ ?_
    · rintro i x H' hx ⟨cs, hc, hi, hn, s2, h2⟩
      obtain ⟨z, rfl⟩ : ∃ z, x = V.int z := by
        rw [List.getElem?_map] at hx
        cases e : ns[i]? with
        | none => rw [e] at hx; cases hx
        | some z => rw [e] at hx; exact ⟨z, (Option.some.inj hx).symm⟩
      have hil : i < (ns.map V.int).length := (List.getElem?_eq_some_iff.mp hx).1
      rw [List.length_map] at hil
      refine ⟨rfl, ?_⟩
      refine ⟨_, rfl, .inl ⟨_, rfl, _, rfl, _, hc, ?_, cs ++ [if z < 0 then -z else z], ?_, ?_, ?_, ?_, ?_⟩⟩
      · rw [List.length_map]; exact small1000 (by omega)
      · rw [upd_same, List.map_append]; rfl
      · rw [List.length_append, hi]; rfl
      · intro y hy
        rcases List.mem_append.mp hy with hy | hy
        · exact hn y hy
        · rw [List.mem_singleton.mp hy]; split <;> omega
      · intro b o e
        rw [upd_ne (ne_of_none e (s0.free hD))]
        exact s2 b o e
      · rw [upd_ne nDd]; exact h2
    · rintro H' ⟨cs, hc, hi, hn, s2, h2⟩
      refine ⟨_, rfl, a, _, rfl, .inl (s2.seq hS), _, _, rfl, rfl, h2, stK D 0 0 (7 + ((ns.map V.int).length : Int)), rfl, (by show 4 ≤ 15; decide), ?_⟩
      rw [merge_st]
      have hDd : D ≠ d := fun z => nDd z.symm
      refine k d D _ hd (s0.free hD) ⟨cs, 0, 0, _, upd_same, (by rw [upd_ne hDd]; exact hc), hn, by omega, by omega, ?_, ?_⟩ fun b o e => ?_
      · omega
      · rw [List.length_map]; omega
      · rw [upd_ne (ne_of_none e hd)]
        exact s2 b o e
theorem sc_law_draw : FnScope ["state", "bound", "cell", "number"] ["state", "bound"] (defScope s_law_draw) := ⟨rfl, rfl, rfl, by decide +kernel, rfl, by decide +kernel, by decide +kernel⟩
theorem ok_law_draw {f : Addr} {fd : FuncData} (F : Fun K "_law_draw" "_law_draw" s_law_draw f fd) (T : Txt0 mg) : FnOk P w K mg base CX0 1 f fd ["state", "bound"] (spDraw K) := by
  refine F.ok sc_law_draw (fun vs H Q E h => ?_) (fun cdv A outer s H vs Q E hr h => ?_)
  · obtain ⟨d, c, b, rfl, _⟩ := h
    rfl
  · obtain ⟨d, c, b, rfl, S1, b0, b1, k⟩ := h
    have hu := hu_of hr
    have hm : ∀ x : Int, 0 ≤ x % b ∧ x % b < b := fun x => ⟨Int.emod_nonneg x (by omega), Int.emod_lt_of_pos x b0⟩
    have hmx : ∀ x : Int, 0 ≤ x % 2147483647 ∧ x % 2147483647 < 2147483648 := fun x => by omega
    refine ⟨_, (pss_cons (ps_if (PW.pt (pw_and (pt_cmpR op_eq (pe_dget hu (pv 0) pe_str (fun _ _ => rfl)) pe_int (nomark _)) (pw_and1 (pt_cmpR op_lt (pe_dget hu (pv 0) pe_str (fun _ _ => rfl)) (pe_callB call_len_seq (by rfl) T.len boot_len (pa_cons (pe_dget hu (pv 0) pe_str (fun _ _ => rfl)) pa_nil)) (nomark _))))) (pss_cons (ps_set (i := 2) sc_law_draw.nd rfl (Or.inl rfl) (pe_ix ix_list (pe_dget hu (pv 0) pe_str (fun _ _ => rfl)) (pe_dget hu (pv 0) pe_str (fun _ _ => rfl)) (fun _ _ => rfl)))
    (pss_cons (ps_dput hu (pv 0) pe_str (pe_op op_add (pe_dget hu (pv 0) pe_str (fun _ _ => rfl)) pe_int) rfl)
    (pss_cons (ps_dput hu (pv 0) pe_str (pe_op op_mod (pe_callTy call_int1 (by rfl) T.int boot_int (pa_cons (pe_op op_add (pe_op op_add (pe_op op_mul (pe_dget hu (pv 0) pe_str (fun _ _ => rfl)) pe_int) (pv 2)) pe_int) pa_nil)) pe_int) rfl)
    (pss_cons (ps_if (pt_cmpR op_lt (pv 2) (pe_op op_pow pe_int pe_int) (nomark _)) (pss_one (ps_ret (pe_op op_mod (pe_callTy call_int1 (by rfl) T.int boot_int (pa_cons (pv 2) pa_nil)) (pv 1))))
      pss_nil)
    (pss_one (ps_dput hu (pv 0) pe_str (pv 2) rfl))))))
      pss_nil)
    (pss_cons (ps_if (pt_cmpR op_gt (pe_dget hu (pv 0) pe_str (fun _ _ => rfl)) pe_int (nomark _)) (pss_cons (ps_set (i := 3) sc_law_draw.nd rfl (Or.inl rfl) (pe_op op_mod (pe_callTy call_int1 (by rfl) T.int boot_int (pa_cons (pe_dget hu (pv 0) pe_str (fun _ _ => rfl)) pa_nil)) (pv 1)))
    (pss_cons (ps_dput hu (pv 0) pe_str (pe_op op_fdivW (pe_dget hu (pv 0) pe_str (fun _ _ => rfl)) (pv 1)) rfl)
    (pss_one (ps_ret (pv 3)))))
      pss_nil)
    (pss_cons (ps_dput hu (pv 0) pe_str (pe_op op_mod (pe_callTy call_int1 (by rfl) T.int boot_int (pa_cons (pe_op op_add (pe_op op_mul (pe_dget hu (pv 0) pe_str (fun _ _ => rfl)) pe_int) pe_int) pa_nil)) pe_int) rfl)
    (pss_one (ps_ret (pe_op op_mod (pe_callTy call_int1 (by rfl) T.int boot_int (pa_cons (pe_op op_mod (pe_callTy call_int1 (by rfl) T.int boot_int (pa_cons (pe_op op_add (pe_op op_mul (pe_dget hu (pv 0) pe_str (fun _ _ => rfl)) pe_int) pe_int) pa_nil)) pe_int) pa_nil)) (pv 1))))))), ?_⟩
    refine cut (fun σ' H' => ∃ v2 v3, σ' = [some (.ref d), some (.int b), v2, v3] ∧ St1 K H' d c ∧ Keep d H H') ?_ (fun rest => ?_)
    · -- the rest: from a number that is left, or from the mix
      rintro σ' H' ⟨v2, v3, rfl, ⟨ns, i, l, m, S⟩, kp⟩
      refine ⟨_, rfl, _, _, rfl, dg_left S.dc, _, _, rfl, rfl, _, rfl, ite2 (fun e => ?_) (fun e => ?_)⟩
      · refine ⟨_, rfl, _, _, rfl, dg_left S.dc, .inl ⟨_, rfl, _, rfl, _, _, rfl, rfl, b0, ?_⟩⟩
        refine ⟨_, rfl, _, _, rfl, dg_left S.dc, _, rfl, _, _, rfl, rfl, log_of b0 b1, _, rfl, _, _, rfl, dp_left S.dc, ?_⟩
        refine ⟨_, rfl, ?_⟩
        exact k _ _ (hm l).1 (hm l).2 ⟨_, _, _, _, S.put S.i0 (Int.ediv_nonneg S.l0 (by omega)) S.m0 S.m1⟩ (kp.trans (Keep.upd _ _ _))
      · refine ⟨_, rfl, _, _, rfl, dg_mix S.dc, _, _, rfl, rfl, .inr ⟨by decide, by decide⟩, _, _, rfl, rfl, .inl ⟨_, rfl, _, _, rfl, rfl, (by show (0:Int) < 2147483647; decide), _, rfl, _, _, rfl, dp_mix S.dc, ?_⟩⟩
        have S2 := S.put (i' := i) (l' := l) S.i0 S.l0 (hmx (m * 48271 + 11)).1 (hmx (m * 48271 + 11)).2
        refine ⟨_, rfl, _, _, rfl, dg_mix S2.dc, _, _, rfl, rfl, .inr ⟨by decide, by decide⟩, _, _, rfl, rfl, .inl ⟨_, rfl, _, _, rfl, rfl, (by show (0:Int) < 2147483629; decide), .inl ⟨_, rfl, _, rfl, _, _, rfl, rfl, b0, ?_⟩⟩⟩
        exact k _ _ (hm _).1 (hm _).2 ⟨_, _, _, _, S2⟩ (kp.trans (Keep.upd _ _ _))
    · -- the first if
      obtain ⟨ns, i, l, m, S⟩ := id S1
      refine ⟨_, rfl, _, _, rfl, dg_left S.dc, rfl, _, rfl, ite2 (fun e => ?_) (fun e => ?_)⟩
      · refine ⟨_, rfl, _, _, rfl, dg_at S.dc, _, rfl, _, _, rfl, dg_cells S.dc, _, _, rfl, .inl (.inl (.inl S.cs)), _, _, rfl, rfl, _, rfl, ite2 (fun e => ?_) (fun e => ?_)⟩
        · have hi : i < (ns.length : Int) := by
            have := of_decide_eq_true e
            rw [List.length_map] at this
            exact this
          obtain ⟨j, rfl⟩ : ∃ j : Nat, i = (j : Int) := ⟨i.toNat, by have := S.i0; omega⟩
          have hj : j < ns.length := by omega
          refine ⟨_, rfl, _, _, rfl, dg_cells S.dc, _, rfl, _, _, rfl, dg_at S.dc, _, _, _, _, rfl, rfl, .inl (.inl S.cs), atI_nat (j := j) (v := .int ns[j]) (by simp [hj]), ?_⟩
          have S2 := S.put (i' := (j : Int) + 1) (l' := l) (m' := m) (by omega) S.l0 S.m0 S.m1
          refine ⟨_, rfl, _, _, rfl, dg_at S.dc, _, _, rfl, rfl, _, rfl, _, _, rfl, dp_at S.dc, ?_⟩
          refine ⟨_, rfl, _, _, rfl, dg_mix S2.dc, _, _, rfl, rfl, .inr ⟨by decide, by decide⟩, _, rfl, _, _, rfl, rfl, _, _, rfl, rfl, .inl ⟨_, rfl, _, _, rfl, rfl, (by show (0:Int) < 2147483647; decide), _, rfl, _, _, rfl, dp_mix S2.dc, ?_⟩⟩
          have S3 := S2.put (i' := (j : Int) + 1) (l' := l) S2.i0 S.l0 (hmx (m * 48271 + ns[j] + 11)).1 (hmx (m * 48271 + ns[j] + 11)).2
          refine ⟨_, rfl, _, _, rfl, rfl, ⟨by decide, by decide, by decide⟩, _, _, rfl, rfl, _, rfl, ite2 (fun e => ?_) (fun e => ?_)⟩
          · refine ⟨_, rfl, .inl ⟨_, rfl, _, rfl, _, _, rfl, rfl, b0, ?_⟩⟩
            exact k _ _ (hm _).1 (hm _).2 ⟨_, _, _, _, S3⟩ ((Keep.upd _ _ _).trans (Keep.upd _ _ _))
          · refine ⟨_, rfl, _, rfl, _, _, rfl, dp_left S3.dc, ?_⟩
            have S4 := S3.put (i' := (j : Int) + 1) (l' := ns[j]) S2.i0 (S.nn _ (List.getElem_mem hj)) S3.m0 S3.m1
            exact rest _ _ ⟨_, _, rfl, ⟨_, _, _, _, S4⟩, ((Keep.upd _ _ _).trans (Keep.upd _ _ _)).trans (Keep.upd _ _ _)⟩
        · exact rest _ _ ⟨_, _, rfl, S1, Keep.refl _ _⟩
      · refine iteF ?_
        exact rest _ _ ⟨_, _, rfl, S1, Keep.refl _ _⟩
theorem sc_law_pick : FnScope ["state", "things"] ["state", "things"] (defScope s_law_pick) := ⟨rfl, rfl, rfl, by decide +kernel, rfl, by decide +kernel, by decide +kernel⟩
theorem ok_law_pick {f : Addr} {fd : FuncData} (F : Fun K "_law_pick" "_law_pick" s_law_pick f fd) (T : Txt0 mg) (D_law_draw : Def P w K mg base 1 "_law_draw" ["state", "bound"] (spDraw K)) : FnOk P w K mg base CX0 2 f fd ["state", "things"] (spPick K) := by
  refine F.ok sc_law_pick (fun vs H Q E h => ?_) (fun cdv A outer s H vs Q E hr h => ?_)
  · obtain ⟨d, c, l, xs, rfl, _⟩ := h
    rfl
  · obtain ⟨d, c, l, xs, rfl, S, hl, hn, hz, k⟩ := h
    refine ⟨_, (pss_one (ps_ret (pe_ix ix_list (pv 1) (pe_def D_law_draw (hr.mono (by decide)) (by rfl) (pa_cons (pv 0) (pa_cons (pe_callB call_len_seq (by rfl) T.len boot_len (pa_cons (pv 1) pa_nil)) pa_nil))) (fun _ _ => rfl)))), ?_⟩
    have hp : 0 < xs.length := List.length_pos_iff.mpr hn
    refine ⟨_, rfl, _, rfl, _, rfl, _, _, rfl, .inl hl, d, c, _, rfl, S, by omega, by omega, fun n H' n0 n1 S' kp => ?_⟩
    obtain ⟨kvs, hd⟩ := S.dk
    obtain ⟨j, rfl⟩ : ∃ j : Nat, n = (j : Int) := ⟨n.toNat, by omega⟩
    have hj : j < xs.length := by omega
    refine ⟨_, _, _, _, rfl, rfl, kp.seq hd hl, atI_nat (j := j) (v := xs[j]) (by simp [hj]), ?_⟩
    exact k _ _ (List.getElem_mem hj) S' kp
theorem sc_law_is_number : FnScope ["thing"] ["thing"] (defScope s_law_is_number) := ⟨rfl, rfl, rfl, by decide +kernel, rfl, by decide +kernel, by decide +kernel⟩
theorem ok_law_is_number {f : Addr} {fd : FuncData} (F : Fun K "_law_is_number" "_law_is_number" s_law_is_number f fd) (T : Txt0 mg) : FnOk P w K mg base CX0 1 f fd ["thing"] spIsNum := by
  refine F.ok sc_law_is_number (fun vs H Q E h => ?_) (fun cdv A outer s H vs Q E hr h => ?_)
  · obtain ⟨n, rfl, _⟩ := h
    rfl
  · obtain ⟨n, rfl, k⟩ := h
    refine ⟨_, (pss_one (ps_ret (pe_and (pe_callB call_isi (by rfl) T.isinstance boot_isinstance (pa_cons (pv 0) (pa_cons (pe_bltn (v := .ty "int") (by rfl) T.int boot_int rfl) pa_nil))) (pe_one (pe_not (pe_callB call_isi (by rfl) T.isinstance boot_isinstance (pa_cons (pv 0) (pa_cons (pe_bltn (v := .ty "bool") (by rfl) T.bool boot_bool rfl) pa_nil)))))))), ?_⟩
    refine ⟨_, rfl, _, _, _, _, true, rfl, ClsV.ty _, .base (.int n), kit_ty (by decide +kernel), true, rfl, ?_⟩
    refine iteT ?_
    refine ⟨_, rfl, _, _, _, _, false, rfl, ClsV.ty _, .base (.int n), kit_ty (by decide +kernel), false, rfl, ?_⟩
    exact k
end
end Sk

set_option Elab.async false
set_option linter.all false
set_option maxRecDepth 100000
set_option maxHeartbeats 4000000
namespace Sk
open PySem PySem.Spec PyProof.Rows L2
section
variable {P : Program} {w : World} {K : PySem.W.Frag} {mg : Str → Option Value} {base : Heap}
abbrev s_enlarged : Stmt := top 3
theorem sc_enlarged : FnScope ["segment", "factor", "ax", "ay", "bx", "by", "_"] ["segment", "factor"] (defScope s_enlarged) := ⟨rfl, rfl, rfl, by decide +kernel, rfl, by decide +kernel, by decide +kernel⟩
theorem ok_enlarged {f : Addr} {fd : FuncData} (F : Fun K "_enlarged" "_enlarged" s_enlarged f fd) (T : TxtA mg) : FnOk P w K mg base CX0 1 f fd ["segment", "factor"] (spEnl) := by
  refine F.ok sc_enlarged (fun vs H Q E h => ?_) (fun cdv A outer s H vs Q E hr h => ?_)
  · obtain ⟨a, s, f, rfl, _⟩ := h
    rfl
  · obtain ⟨a, s, f, rfl, ha, hs, hf, k⟩ := h
    refine ⟨_, (pss_cons (ps_asg (pv 0) (pg_tup (by rfl) (pgs_cons (pg_name (i := 2) sc_enlarged.nd rfl (Or.inl rfl)) (pgs_cons (pg_name (i := 3) sc_enlarged.nd rfl (Or.inl rfl)) (pgs_cons (pg_name (i := 4) sc_enlarged.nd rfl (Or.inl rfl)) (pgs_cons (pg_name (i := 5) sc_enlarged.nd rfl (Or.inl rfl)) (pgs_cons (pg_name (i := 6) sc_enlarged.nd rfl (Or.inl rfl)) pgs_nil)))))))
    (pss_one (ps_ret (pe_tup (pa_cons (pe_op op_mulW (pv 2) (pv 1)) (pa_cons (pe_op op_mulW (pv 3) (pv 1)) (pa_cons (pe_op op_mulW (pv 4) (pv 1)) (pa_cons (pe_op op_mulW (pv 5) (pv 1)) pa_nil)))))))), ?_⟩
    refine ⟨_, rfl, _, _, rfl, .inl (.inl ha), rfl, ?_⟩
    refine ⟨_, _, rfl, _, _, rfl, _, _, rfl, _, _, rfl, _, _, rfl, rfl, ?_⟩
    refine ⟨_, rfl, _, rfl, _, _, rfl, rfl, wmB hs.ax hf (by decide) (by decide), _, rfl, _, rfl, _, _, rfl, rfl, wmB hs.ay hf (by decide) (by decide), _, rfl, _, rfl, _, _, rfl, rfl, wmB hs.bx hf (by decide) (by decide), _, rfl, _, rfl, _, _, rfl, rfl, wmB hs.bw hf (by decide) (by decide), szOk rfl, fun p hp => ?_⟩
    exact k p hp

abbrev s_turn : Stmt := top 6
theorem sc_turn : FnScope ["segment", "x", "y", "ax", "ay", "bx", "by"] ["segment", "x", "y"] (defScope s_turn) := ⟨rfl, rfl, rfl, by decide +kernel, rfl, by decide +kernel, by decide +kernel⟩
theorem ok_turn {f : Addr} {fd : FuncData} (F : Fun K "_turn" "_turn" s_turn f fd) (T : TxtA mg) : FnOk P w K mg base CX0 1 f fd ["segment", "x", "y"] (spTurn) := by
  refine F.ok sc_turn (fun vs H Q E h => ?_) (fun cdv A outer s H vs Q E hr h => ?_)
  · obtain ⟨a, ax, ay, bx, bw, x, y, rfl, _⟩ := h
    rfl
  · obtain ⟨a, ax, ay, bx, bw, x, y, rfl, ha, h1, h2, h3, h4, h5, h6, k⟩ := h
    refine ⟨_, (pss_cons (ps_asg (pv 0) (pg_tup (by rfl) (pgs_cons (pg_name (i := 3) sc_turn.nd rfl (Or.inl rfl)) (pgs_cons (pg_name (i := 4) sc_turn.nd rfl (Or.inl rfl)) (pgs_cons (pg_name (i := 5) sc_turn.nd rfl (Or.inl rfl)) (pgs_cons (pg_name (i := 6) sc_turn.nd rfl (Or.inl rfl)) pgs_nil))))))
    (pss_one (ps_ret (pe_op op_sub (pe_op op_mulW (pe_op op_sub (pv 5) (pv 3)) (pe_op op_sub (pv 2) (pv 4))) (pe_op op_mulW (pe_op op_sub (pv 6) (pv 4)) (pe_op op_sub (pv 1) (pv 3))))))), ?_⟩
    refine ⟨_, rfl, _, _, rfl, .inl (.inl ha), rfl, ?_⟩
    refine ⟨_, _, rfl, _, _, rfl, _, _, rfl, _, _, rfl, rfl, ?_⟩
    exact ⟨_, rfl, _, rfl, _, _, rfl, rfl, _, rfl, _, rfl, _, _, rfl, rfl, _, _, rfl, rfl, wmB (h3.sub h1) (h6.sub h2) (by decide) (by decide), _, rfl, _, rfl, _, _, rfl, rfl, _, rfl, _, rfl, _, _, rfl, rfl, _, _, rfl, rfl, wmB (h4.sub h2) (h5.sub h1) (by decide) (by decide), _, _, rfl, rfl, k⟩

abbrev s_parted : Stmt := top 5
theorem sc_parted : FnScope ["segment", "ends"] ["segment", "ends"] (defScope s_parted) := ⟨rfl, rfl, rfl, by decide +kernel, rfl, by decide +kernel, by decide +kernel⟩
theorem ok_parted {f : Addr} {fd : FuncData} (F : Fun K "_parted" "_parted" s_parted f fd) (T : TxtA mg)
    (D_turn : Def P w K mg base 1 "_turn" ["segment", "x", "y"] (spTurn)) : FnOk P w K mg base CX0 2 f fd ["segment", "ends"] (spParted) := by
  refine F.ok sc_parted (fun vs H Q E h => ?_) (fun cdv A outer s H vs Q E hr h => ?_)
  · obtain ⟨a, b, ax, ay, bx, bw, cx, cy, dx, dy, rfl, _⟩ := h
    rfl
  · obtain ⟨a, b, ax, ay, bx, bw, cx, cy, dx, dy, rfl, ha, hb, hz, k⟩ := h
    refine ⟨_, (pss_one (ps_ret (pe_cmpR op_lt (pe_op op_mulW (pe_def D_turn (hr.mono (by decide)) (by rfl) (pa_cons (pv 0) (pa_cons (pe_ix (r := rIxT K) ix_tup (pv 1) pe_int (fun _ _ => rfl)) (pa_cons (pe_ix (r := rIxT K) ix_tup (pv 1) pe_int (fun _ _ => rfl)) pa_nil)))) (pe_def D_turn (hr.mono (by decide)) (by rfl) (pa_cons (pv 0) (pa_cons (pe_ix (r := rIxT K) ix_tup (pv 1) pe_int (fun _ _ => rfl)) (pa_cons (pe_ix (r := rIxT K) ix_tup (pv 1) pe_int (fun _ _ => rfl)) pa_nil))))) pe_int (nomark _)))), ?_⟩
    have B := fun z (m : z ∈ [ax, ay, bx, bw, cx, cy, dx, dy]) => hz z m
    refine ⟨_, rfl, _, rfl, _, _, _, _, rfl, rfl, (.inl (.inl hb)), rfl, _, rfl, _, _, _, _, rfl, rfl, (.inl (.inl hb)), rfl, ?_⟩
    refine ⟨a, ax, ay, bx, bw, cx, cy, rfl, ha, B _ (by simp), B _ (by simp), B _ (by simp), B _ (by simp), B _ (by simp), B _ (by simp), ?_⟩
    refine ⟨_, rfl, _, rfl, _, _, _, _, rfl, rfl, (.inl (.inl hb)), rfl, _, rfl, _, _, _, _, rfl, rfl, (.inl (.inl hb)), rfl, ?_⟩
    refine ⟨a, ax, ay, bx, bw, dx, dy, rfl, ha, B _ (by simp), B _ (by simp), B _ (by simp), B _ (by simp), B _ (by simp), B _ (by simp), ?_⟩
    have tb : ∀ x y, BdN 300 x → BdN 300 y → BdN 603 (trn ax ay bx bw x y) := fun x y h5 h6 => (((B bx (by simp)).sub (B ax (by simp))).mul (h6.sub (B ay (by simp)))).sub (((B bw (by simp)).sub (B ay (by simp))).mul (h5.sub (B ax (by simp))))
    exact ⟨_, _, rfl, rfl, wmB (tb _ _ (B _ (by simp)) (B _ (by simp))) (tb _ _ (B _ (by simp)) (B _ (by simp))) (by decide) (by decide), _, _, rfl, rfl, k⟩

abbrev s_cross : Stmt := top 4
theorem sc_cross : FnScope ["first", "second"] ["first", "second"] (defScope s_cross) := ⟨rfl, rfl, rfl, by decide +kernel, rfl, by decide +kernel, by decide +kernel⟩
theorem ok_cross {f : Addr} {fd : FuncData} (F : Fun K "_cross" "_cross" s_cross f fd) (T : TxtA mg)
    (D_parted : Def P w K mg base 2 "_parted" ["segment", "ends"] (spParted)) : FnOk P w K mg base CX0 3 f fd ["first", "second"] (spCross) := by
  refine F.ok sc_cross (fun vs H Q E h => ?_) (fun cdv A outer s H vs Q E hr h => ?_)
  · obtain ⟨a, b, ax, ay, bx, bw, cx, cy, dx, dy, rfl, _⟩ := h
    rfl
  · obtain ⟨a, b, ax, ay, bx, bw, cx, cy, dx, dy, rfl, ha, hb, hz, k⟩ := h
    refine ⟨_, (pss_one (ps_ret (pe_and (pe_def D_parted (hr.mono (by decide)) (by rfl) (pa_cons (pv 0) (pa_cons (pv 1) pa_nil))) (pe_one (pe_def D_parted (hr.mono (by decide)) (by rfl) (pa_cons (pv 1) (pa_cons (pv 0) pa_nil))))))), ?_⟩
    refine ⟨_, rfl, _, rfl, a, b, ax, ay, bx, bw, cx, cy, dx, dy, rfl, ha, hb, hz, _, rfl, ?_⟩
    have k : Q (.bl (decide (trn ax ay bx bw cx cy * trn ax ay bx bw dx dy < 0) && decide (trn cx cy dx dy ax ay * trn cx cy dx dy bx bw < 0))) H := k
    by_cases c : trn ax ay bx bw cx cy * trn ax ay bx bw dx dy < 0
    · rw [decide_eq_true c] at k ⊢
      refine iteT ⟨_, rfl, _, rfl, b, a, cx, cy, dx, dy, ax, ay, bx, bw, rfl, hb, ha, (fun z m => hz z ?_), ?_⟩
      · simp only [List.mem_cons, List.not_mem_nil, or_false] at m ⊢
        rcases m with m | m | m | m | m | m | m | m <;> simp [m]
      · rw [Bool.true_and] at k
        exact k
    · rw [decide_eq_false c] at k ⊢
      exact iteF k

abbrev s_square : Stmt := top 7
theorem sc_square : FnScope ["x", "y", "segment", "ax", "ay", "bx", "by", "dx", "dy", "along", "length", "aside"] ["x", "y", "segment"] (defScope s_square) := ⟨rfl, rfl, rfl, by decide +kernel, rfl, by decide +kernel, by decide +kernel⟩
theorem ok_square {f : Addr} {fd : FuncData} (F : Fun K "_square" "_square" s_square f fd) (T : TxtA mg)
    (D_turn : Def P w K mg base 1 "_turn" ["segment", "x", "y"] (spTurn)) : FnOk P w K mg base CX0 2 f fd ["x", "y", "segment"] (spSquare) := by
  refine F.ok sc_square (fun vs H Q E h => ?_) (fun cdv A outer s H vs Q E hr h => ?_)
  · obtain ⟨a, ax, ay, bx, bw, x, y, rfl, _⟩ := h
    rfl
  · obtain ⟨a, ax, ay, bx, bw, x, y, rfl, ha, h1, h2, h3, h4, h5, h6, k⟩ := h
    refine ⟨_, (pss_cons (ps_asg (pv 2) (pg_tup (by rfl) (pgs_cons (pg_name (i := 3) sc_square.nd rfl (Or.inl rfl)) (pgs_cons (pg_name (i := 4) sc_square.nd rfl (Or.inl rfl)) (pgs_cons (pg_name (i := 5) sc_square.nd rfl (Or.inl rfl)) (pgs_cons (pg_name (i := 6) sc_square.nd rfl (Or.inl rfl)) pgs_nil))))))
    (pss_cons (ps_par (i := 7) (j := 8) (by rfl) sc_square.nd rfl rfl (by decide) rfl rfl (pa_cons (pe_op op_sub (pv 5) (pv 3)) (pa_cons (pe_op op_sub (pv 6) (pv 4)) pa_nil)) (by rfl))
    (pss_cons (ps_set (i := 9) sc_square.nd rfl (Or.inl rfl) (pe_op op_add (pe_op op_mulW (pe_op op_sub (pv 0) (pv 3)) (pv 7)) (pe_op op_mulW (pe_op op_sub (pv 1) (pv 4)) (pv 8))))
    (pss_cons (ps_set (i := 10) sc_square.nd rfl (Or.inl rfl) (pe_op op_add (pe_op op_mulW (pv 7) (pv 7)) (pe_op op_mulW (pv 8) (pv 8))))
    (pss_cons (ps_if (pt_cmpR op_le (pv 9) pe_int (nomark _)) (pss_one (ps_ret (pe_tup (pa_cons (pe_op op_add (pe_op op_mulW (pe_op op_sub (pv 0) (pv 3)) (pe_op op_sub (pv 0) (pv 3))) (pe_op op_mulW (pe_op op_sub (pv 1) (pv 4)) (pe_op op_sub (pv 1) (pv 4)))) (pa_cons pe_int pa_nil)))))
      pss_nil)
    (pss_cons (ps_if (pt_cmpR op_ge (pv 9) (pv 10) (nomark _)) (pss_one (ps_ret (pe_tup (pa_cons (pe_op op_add (pe_op op_mulW (pe_op op_sub (pv 0) (pv 5)) (pe_op op_sub (pv 0) (pv 5))) (pe_op op_mulW (pe_op op_sub (pv 1) (pv 6)) (pe_op op_sub (pv 1) (pv 6)))) (pa_cons pe_int pa_nil)))))
      pss_nil)
    (pss_cons (ps_set (i := 11) sc_square.nd rfl (Or.inl rfl) (pe_def D_turn (hr.mono (by decide)) (by rfl) (pa_cons (pv 2) (pa_cons (pv 0) (pa_cons (pv 1) pa_nil)))))
    (pss_one (ps_ret (pe_tup (pa_cons (pe_op op_mulW (pv 11) (pv 11)) (pa_cons (pv 10) pa_nil)))))))))))), ?_⟩
    refine ⟨_, rfl, _, _, rfl, .inl (.inl ha), rfl, ?_⟩
    refine ⟨_, _, rfl, _, _, rfl, _, _, rfl, _, _, rfl, rfl, ?_⟩
    refine ⟨_, rfl, _, rfl, _, _, rfl, rfl, _, rfl, _, rfl, _, _, rfl, rfl, _, _, rfl, ?_⟩
    refine ⟨_, rfl, _, rfl, _, _, rfl, rfl, _, rfl, _, _, rfl, rfl, wmB (h5.sub h1) (h3.sub h1) (by decide) (by decide), _, rfl, _, rfl, _, _, rfl, rfl, _, rfl, _, _, rfl, rfl, wmB (h6.sub h2) (h4.sub h2) (by decide) (by decide), _, _, rfl, rfl, ?_⟩
    refine ⟨_, rfl, _, rfl, _, _, rfl, rfl, wmB (h3.sub h1) (h3.sub h1) (by decide) (by decide), _, rfl, _, rfl, _, _, rfl, rfl, wmB (h4.sub h2) (h4.sub h2) (by decide) (by decide), _, _, rfl, rfl, ?_⟩
    refine ⟨_, rfl, _, _, rfl, rfl, _, rfl, ?_⟩
    unfold sqr at k
    by_cases c1 : (x - ax) * (bx - ax) + (y - ay) * (bw - ay) ≤ 0
    · rw [if_pos c1] at k
      refine ifY c1 ?_
      refine ⟨_, rfl, _, rfl, _, _, rfl, rfl, _, rfl, _, rfl, _, _, rfl, rfl, _, _, rfl, rfl, wmB (h5.sub h1) (h5.sub h1) (by decide) (by decide), _, rfl, _, rfl, _, _, rfl, rfl, _, rfl, _, rfl, _, _, rfl, rfl, _, _, rfl, rfl, wmB (h6.sub h2) (h6.sub h2) (by decide) (by decide), _, _, rfl, rfl, szOk rfl, fun p hp => ?_⟩
      exact k p hp
    rw [if_neg c1] at k
    refine ifN c1 ?_
    refine ⟨_, rfl, _, rfl, _, _, rfl, rfl, _, rfl, ?_⟩
    by_cases c2 : (bx - ax) * (bx - ax) + (bw - ay) * (bw - ay) ≤ (x - ax) * (bx - ax) + (y - ay) * (bw - ay)
    · rw [if_pos c2] at k
      refine ifY c2 ?_
      refine ⟨_, rfl, _, rfl, _, _, rfl, rfl, _, rfl, _, rfl, _, _, rfl, rfl, _, _, rfl, rfl, wmB (h5.sub h3) (h5.sub h3) (by decide) (by decide), _, rfl, _, rfl, _, _, rfl, rfl, _, rfl, _, rfl, _, _, rfl, rfl, _, _, rfl, rfl, wmB (h6.sub h4) (h6.sub h4) (by decide) (by decide), _, _, rfl, rfl, szOk rfl, fun p hp => ?_⟩
      exact k p hp
    rw [if_neg c2] at k
    refine ifN c2 ?_
    refine ⟨_, rfl, _, rfl, _, rfl, a, ax, ay, bx, bw, x, y, rfl, ha, h1, h2, h3, h4, h5, h6, ?_⟩
    have tb : BdN 603 (trn ax ay bx bw x y) := ((h3.sub h1).mul (h6.sub h2)).sub ((h4.sub h2).mul (h5.sub h1))
    refine ⟨_, rfl, _, rfl, _, _, rfl, rfl, wmB tb tb (by decide) (by decide), _, rfl, szOk rfl, fun p hp => ?_⟩
    exact k p hp

abbrev s_squares : Stmt := top 2
theorem sc_squares : FnScope ["first", "second", "ax", "ay", "bx", "by", "cx", "cy", "dx", "dy"] ["first", "second"] (defScope s_squares) := ⟨rfl, rfl, rfl, by decide +kernel, rfl, by decide +kernel, by decide +kernel⟩
theorem ok_squares {f : Addr} {fd : FuncData} (F : Fun K "_squares" "_squares" s_squares f fd) (T : TxtA mg)
    (D_enlarged : Def P w K mg base 1 "_enlarged" ["segment", "factor"] (spEnl))
    (D_cross : Def P w K mg base 3 "_cross" ["first", "second"] (spCross))
    (D_square : Def P w K mg base 2 "_square" ["x", "y", "segment"] (spSquare)) : FnOk P w K mg base CX0 4 f fd ["first", "second"] (spSquares) := by
  refine F.ok sc_squares (fun vs H Q E h => ?_) (fun cdv A outer s H vs Q E hr h => ?_)
  · obtain ⟨a, b, s, t, rfl, _⟩ := h
    rfl
  · obtain ⟨a, b, s, t, rfl, ha, hb, hs, ht, k⟩ := h
    refine ⟨_, (pss_cons (ps_asg (pe_def D_enlarged (hr.mono (by decide)) (by rfl) (pa_cons (pv 0) (pa_cons (pe_ix (r := rIxT K) ix_tup (pv 1) pe_int (fun _ _ => rfl)) pa_nil))) (pg_tup (by rfl) (pgs_cons (pg_name (i := 2) sc_squares.nd rfl (Or.inl rfl)) (pgs_cons (pg_name (i := 3) sc_squares.nd rfl (Or.inl rfl)) (pgs_cons (pg_name (i := 4) sc_squares.nd rfl (Or.inl rfl)) (pgs_cons (pg_name (i := 5) sc_squares.nd rfl (Or.inl rfl)) pgs_nil))))))
    (pss_cons (ps_asg (pe_def D_enlarged (hr.mono (by decide)) (by rfl) (pa_cons (pv 1) (pa_cons (pe_ix (r := rIxT K) ix_tup (pv 0) pe_int (fun _ _ => rfl)) pa_nil))) (pg_tup (by rfl) (pgs_cons (pg_name (i := 6) sc_squares.nd rfl (Or.inl rfl)) (pgs_cons (pg_name (i := 7) sc_squares.nd rfl (Or.inl rfl)) (pgs_cons (pg_name (i := 8) sc_squares.nd rfl (Or.inl rfl)) (pgs_cons (pg_name (i := 9) sc_squares.nd rfl (Or.inl rfl)) pgs_nil))))))
    (pss_cons (ps_if (pt_val (pe_def D_cross (hr.mono (by decide)) (by rfl) (pa_cons (pe_tup (pa_cons (pv 2) (pa_cons (pv 3) (pa_cons (pv 4) (pa_cons (pv 5) pa_nil))))) (pa_cons (pe_tup (pa_cons (pv 6) (pa_cons (pv 7) (pa_cons (pv 8) (pa_cons (pv 9) pa_nil))))) pa_nil)))) (pss_one (ps_ret (pe_lst (pa_cons (pe_tup (pa_cons pe_int (pa_cons pe_int pa_nil))) pa_nil))))
      pss_nil)
    (pss_one (ps_ret (pe_lst (pa_cons (pe_def D_square (hr.mono (by decide)) (by rfl) (pa_cons (pv 2) (pa_cons (pv 3) (pa_cons (pe_tup (pa_cons (pv 6) (pa_cons (pv 7) (pa_cons (pv 8) (pa_cons (pv 9) pa_nil))))) pa_nil)))) (pa_cons (pe_def D_square (hr.mono (by decide)) (by rfl) (pa_cons (pv 4) (pa_cons (pv 5) (pa_cons (pe_tup (pa_cons (pv 6) (pa_cons (pv 7) (pa_cons (pv 8) (pa_cons (pv 9) pa_nil))))) pa_nil)))) (pa_cons (pe_def D_square (hr.mono (by decide)) (by rfl) (pa_cons (pv 6) (pa_cons (pv 7) (pa_cons (pe_tup (pa_cons (pv 2) (pa_cons (pv 3) (pa_cons (pv 4) (pa_cons (pv 5) pa_nil))))) pa_nil)))) (pa_cons (pe_def D_square (hr.mono (by decide)) (by rfl) (pa_cons (pv 8) (pa_cons (pv 9) (pa_cons (pe_tup (pa_cons (pv 2) (pa_cons (pv 3) (pa_cons (pv 4) (pa_cons (pv 5) pa_nil))))) pa_nil)))) pa_nil)))))))))), ?_⟩
    have e1 : ∀ {x y : Int}, BdN 200 x → BdN 100 y → BdN 300 (x * y) := fun h h' => h.mul h'
    refine ⟨_, rfl, _, rfl, _, _, _, _, rfl, rfl, (.inl (.inl hb)), rfl, a, s, t.d, rfl, ha, hs, ht.d, fun p1 hp1 => ?_⟩
    have s1 := same_new (o := .tup [.int (s.ax * t.d), .int (s.ay * t.d), .int (s.bx * t.d), .int (s.bw * t.d)]) hp1
    refine ⟨_, _, rfl, .inl (.inl upd_same), rfl, ?_⟩
    refine ⟨_, _, rfl, _, _, rfl, _, _, rfl, _, _, rfl, rfl, ?_⟩
    refine ⟨_, rfl, _, rfl, _, _, _, _, rfl, rfl, (.inl (.inl (s1 _ _ ha))), rfl, b, t, s.d, rfl, s1 _ _ hb, ht, hs.d, fun p2 hp2 => ?_⟩
    have s2 := s1.trans (same_new (o := .tup [.int (t.ax * s.d), .int (t.ay * s.d), .int (t.bx * s.d), .int (t.bw * s.d)]) hp2)
    refine ⟨_, _, rfl, .inl (.inl upd_same), rfl, ?_⟩
    refine ⟨_, _, rfl, _, _, rfl, _, _, rfl, _, _, rfl, rfl, ?_⟩
    refine ⟨_, rfl, _, rfl, _, rfl, _, rfl, szOk rfl, fun p3 hp3 => ?_⟩
    have s3 := s2.trans (same_new (o := .tup [.int (s.ax * t.d), .int (s.ay * t.d), .int (s.bx * t.d), .int (s.bw * t.d)]) hp3)
    refine ⟨_, rfl, _, rfl, _, rfl, _, rfl, szOk rfl, fun p4 hp4 => ?_⟩
    have s4 := s3.trans (same_new (o := .tup [.int (t.ax * s.d), .int (t.ay * s.d), .int (t.bx * s.d), .int (t.bw * s.d)]) hp4)
    have b1 := e1 hs.ax ht.d; have b2 := e1 hs.ay ht.d; have b3 := e1 hs.bx ht.d; have b4 := e1 hs.bw ht.d
    have c1 := e1 ht.ax hs.d; have c2 := e1 ht.ay hs.d; have c3 := e1 ht.bx hs.d; have c4 := e1 ht.bw hs.d
    refine ⟨p3, p4, s.ax * t.d, s.ay * t.d, s.bx * t.d, s.bw * t.d, t.ax * s.d, t.ay * s.d, t.bx * s.d, t.bw * s.d, rfl, ?_, upd_same, (fun z m => ?_), _, rfl, ?_⟩
    · rw [upd_ne (ne_of_none (o := .tup [.int (s.ax * t.d), .int (s.ay * t.d), .int (s.bx * t.d), .int (s.bw * t.d)]) upd_same hp4)]
      exact upd_same
    · simp only [List.mem_cons, List.not_mem_nil, or_false] at m
      rcases m with rfl | rfl | rfl | rfl | rfl | rfl | rfl | rfl <;> assumption
    by_cases c : crs (s.ax * t.d) (s.ay * t.d) (s.bx * t.d) (s.bw * t.d) (t.ax * s.d) (t.ay * s.d) (t.bx * s.d) (t.bw * s.d) = true
    · rw [c]
      refine iteT ⟨szOk rfl, fun p5 hp5 => ⟨szOk rfl, fun p6 hp6 => ?_⟩⟩
      have s5 := s4.trans (same_new (o := .tup [.int 0, .int 1]) hp5)
      have s6 := s5.trans (same_new (o := .lst [.ref p5]) hp6)
      refine k p6 _ _ s6 upd_same ?_
      unfold segSqs sqs
      rw [if_pos c]
      refine ⟨rfl, fun i tt ht => ?_⟩
      match i, ht with
      | 0, ht =>
        cases ht
        exact ⟨p5, rfl, by rw [upd_ne (ne_of_none (o := .tup [.int 0, .int 1]) upd_same hp6)]; exact upd_same⟩
    · have c' : crs (s.ax * t.d) (s.ay * t.d) (s.bx * t.d) (s.bw * t.d) (t.ax * s.d) (t.ay * s.d) (t.bx * s.d) (t.bw * s.d) = false := by simpa using c
      rw [c']
      refine iteF ?_
      refine ⟨_, rfl, _, rfl, _, rfl, _, rfl, _, rfl, _, rfl, szOk rfl, fun q1 hq1 => ?_⟩
      have t1 := s4.trans (same_new (o := .tup [.int (t.ax * s.d), .int (t.ay * s.d), .int (t.bx * s.d), .int (t.bw * s.d)]) hq1)
      refine ⟨q1, _, _, _, _, _, _, rfl, upd_same, c1, c2, c3, c4, b1, b2, fun r1 hr1 => ?_⟩
      refine ⟨_, rfl, _, rfl, _, rfl, _, rfl, _, rfl, _, rfl, szOk rfl, fun q2 hq2 => ?_⟩
      refine ⟨q2, _, _, _, _, _, _, rfl, upd_same, c1, c2, c3, c4, b3, b4, fun r2 hr2 => ?_⟩
      refine ⟨_, rfl, _, rfl, _, rfl, _, rfl, _, rfl, _, rfl, szOk rfl, fun q3 hq3 => ?_⟩
      refine ⟨q3, _, _, _, _, _, _, rfl, upd_same, b1, b2, b3, b4, c1, c2, fun r3 hr3 => ?_⟩
      refine ⟨_, rfl, _, rfl, _, rfl, _, rfl, _, rfl, _, rfl, szOk rfl, fun q4 hq4 => ?_⟩
      refine ⟨q4, _, _, _, _, _, _, rfl, upd_same, b1, b2, b3, b4, c3, c4, fun r4 hr4 => ?_⟩
      refine ⟨szOk rfl, fun l hl => ?_⟩
      -- what stood stands
      have kp : ∀ {H0 : Hp} {p q : Addr} {o o' : HO}, H0 p = some o → H0 q = none → upd H0 q o' p = some o := fun h n => by rw [upd_ne (ne_of_none h n)]; exact h
      have a1 := kp (o' := .lst [.ref r1, .ref r2, .ref r3, .ref r4]) (kp (kp (kp (kp (kp (kp upd_same hq2) hr2) hq3) hr3) hq4) hr4) hl
      have a2 := kp (o' := .lst [.ref r1, .ref r2, .ref r3, .ref r4]) (kp (kp (kp (kp upd_same hq3) hr3) hq4) hr4) hl
      have a3 := kp (o' := .lst [.ref r1, .ref r2, .ref r3, .ref r4]) (kp (kp upd_same hq4) hr4) hl
      have a4 := kp (o' := .lst [.ref r1, .ref r2, .ref r3, .ref r4]) upd_same hl
      refine k l _ _ (fun b o e => kp (kp (kp (kp (kp (kp (kp (kp (t1 b o e) hr1) hq2) hr2) hq3) hr3) hq4) hr4) hl) upd_same ?_
      unfold segSqs sqs
      rw [if_neg c]
      refine ⟨rfl, fun i tt ht => ?_⟩
      match i, ht with
      | 0, ht => cases ht; exact ⟨r1, rfl, a1⟩
      | 1, ht => cases ht; exact ⟨r2, rfl, a2⟩
      | 2, ht => cases ht; exact ⟨r3, rfl, a3⟩
      | 3, ht => cases ht; exact ⟨r4, rfl, a4⟩

end
end Sk

set_option Elab.async false
set_option linter.all false
set_option maxRecDepth 100000
set_option maxHeartbeats 4000000
namespace Sk
open PySem PySem.Spec PyProof.Rows L2
theorem ifNotY {c A B : Prop} [Decidable c] (h : c) (q : B) : if (!decide c) = true then A else B := by
  rw [decide_eq_true h]
  exact iteF q
theorem ifNotN {c A B : Prop} [Decidable c] (h : ¬ c) (q : A) : if (!decide c) = true then A else B := by
  rw [decide_eq_false h]
  exact iteT q
theorem nxQ {D : Ends} {σ : L2.St} {H : Hp} (h : D.nx σ H) : tNext D σ H := h
section
variable {P : Program} {w : World} {K : PySem.W.Frag} {mg : Str → Option Value} {base : Heap}
abbrev s_side : Stmt := top 14
theorem sc_side : FnScope ["start", "end", "x", "y", "d", "ax", "ay", "bx", "by"] ["start", "end", "x", "y", "d"] (defScope s_side) := ⟨rfl, rfl, rfl, by decide +kernel, rfl, by decide +kernel, by decide +kernel⟩
theorem ok_side {f : Addr} {fd : FuncData} (F : Fun K "_side" "_side" s_side f fd) (T : TxtA mg) : FnOk P w K mg base CX0 1 f fd ["start", "end", "x", "y", "d"] (spSide) := by
  refine F.ok sc_side (fun vs H Q E h => ?_) (fun cdv A outer s H vs Q E hr h => ?_)
  · obtain ⟨_, _, _, _, _, _, _, rfl, _⟩ := h
    rfl
  · obtain ⟨a, b, p, q, x, y, d, rfl, ha, hb, hp, hq, hx, hy, hd, k⟩ := h
    refine ⟨_, (pss_cons (ps_asg (pv 0) (pg_tup (by rfl) (pgs_cons (pg_name (i := 5) sc_side.nd rfl (Or.inl rfl)) (pgs_cons (pg_name (i := 6) sc_side.nd rfl (Or.inl rfl)) pgs_nil))))
    (pss_cons (ps_asg (pv 1) (pg_tup (by rfl) (pgs_cons (pg_name (i := 7) sc_side.nd rfl (Or.inl rfl)) (pgs_cons (pg_name (i := 8) sc_side.nd rfl (Or.inl rfl)) pgs_nil))))
    (pss_one (ps_ret (pe_op op_sub (pe_op op_mulW (pe_op op_sub (pv 7) (pv 5)) (pe_op op_sub (pv 3) (pe_op op_mulW (pv 6) (pv 4)))) (pe_op op_mulW (pe_op op_sub (pv 8) (pv 6)) (pe_op op_sub (pv 2) (pe_op op_mulW (pv 5) (pv 4))))))))), ?_⟩
    rw [show L2.start ["start", "end", "x", "y", "d", "ax", "ay", "bx", "by"] [V.ref a, V.ref b, V.int x, V.int y, V.int d] = [some (V.ref a), some (V.ref b), some (V.int x), some (V.int y), some (V.int d), none, none, none, none] from rfl]
    have e20 : ∀ {x : Int}, BdN 20 x → BdN 300 x := fun h => h.mono (by decide)
    have m1 : BdN 300 (p.2 * d) := (hp.b2.mul hd).mono (by decide)
    have m2 : BdN 300 (p.1 * d) := (hp.b1.mul hd).mono (by decide)
    refine ⟨_, rfl, _, _, rfl, .inl (.inl ha), rfl, _, _, rfl, _, _, rfl, rfl, ?_⟩
    dsimp only [List.set]
    refine ⟨_, rfl, _, _, rfl, .inl (.inl hb), rfl, _, _, rfl, _, _, rfl, rfl, ?_⟩
    dsimp only [List.set]
    exact ⟨_, rfl, _, rfl, _, _, rfl, rfl, _, rfl, _, rfl, _, rfl, _, _, rfl, rfl, wmB hp.b2 hd (by decide) (by decide), _, _, rfl, rfl, _, _, rfl, rfl, wmB ((e20 hq.b1).sub (e20 hp.b1)) (hy.sub m1) (by decide) (by decide), _, rfl, _, rfl, _, _, rfl, rfl, _, rfl, _, rfl, _, rfl, _, _, rfl, rfl, wmB hp.b1 hd (by decide) (by decide), _, _, rfl, rfl, _, _, rfl, rfl, wmB ((e20 hq.b2).sub (e20 hp.b2)) (hx.sub m2) (by decide) (by decide), _, _, rfl, rfl, k⟩
abbrev s_edges : Stmt := top 13
theorem sc_edges : FnScope ["zone", "index"] ["zone"] (defScope s_edges) := ⟨rfl, rfl, rfl, by decide +kernel, rfl, by decide +kernel, by decide +kernel⟩
theorem ok_edges {f : Addr} {fd : FuncData} (F : Fun K "_edges" "_edges" s_edges f fd) (T : TxtA mg) : FnOk P w K mg base CX0 1 f fd ["zone"] (spEdges) := by
  refine F.ok sc_edges (fun vs H Q E h => ?_) (fun cdv A outer s H vs Q E hr h => ?_)
  · obtain ⟨_, _, _, _, rfl, _⟩ := h
    rfl
  · obtain ⟨z, ad, n, g, rfl, Z, k⟩ := h
    refine ⟨_, (pss_one (ps_ret (pe_lc (own := [("index", 1)]) (g := gName 1) (by rfl) sc_edges.nd (pi_range1 (by rfl) T.range (pa_cons (pe_callB (r := rLenK K) call_len_seq (by rfl) T.len boot_len (pa_cons (pv 0) pa_nil)) pa_nil)) (blkOk_by (own := [("index", 1)]) (N := ["zone", "index"]) (sc := defScope s_edges) (by decide +kernel)) (fun _ _ _ _ _ => (pg_name (i := 1) sc_edges.nd rfl (Or.inl rfl))) (fun _ _ _ _ _ => pts_nil) (fun _ _ _ _ _ => (pe_tup (pa_cons (pe_ix (r := rIxT K) ix_tup (pv 0) (pe_op op_sub (pv 1) pe_int) (fun _ _ => rfl)) (pa_cons (pe_ix (r := rIxT K) ix_tup (pv 0) (pv 1) (fun _ _ => rfl)) pa_nil))))))), ?_⟩
    rw [show L2.start ["zone", "index"] [V.ref z] = [some (V.ref z), none] from rfl]
    have hn := Z.n
    refine ⟨_, rfl, _, _, rfl, .inr (.inl (.inl Z.t)), _, rfl, by rw [refs_len]; omega, by rw [refs_len]; omega, fun l hl => ?_⟩
    rw [refs_len]
    refine lc_range (lo := 0) (n := (n : Int).toNat) (fun i G => Same H G ∧ ∃ ts : Nat → Addr, G l = some (.lst (refs ts i)) ∧ ∀ j, j < i → G (ts j) = some (.tup [.ref (ad (prev n j)), .ref (ad j)])) ⟨same_new hl, fun _ => 0, upd_same, fun j hj => absurd hj (Nat.not_lt_zero j)⟩ ?_ ?_
    · rintro i G hi ⟨sm, ts, h1, h2⟩
      have hin : i < n := by omega
      have Zg := Z.same sm
      refine ⟨rfl, ?_⟩
      refine ⟨_, rfl, _, rfl, _, _, rfl, rfl, _, _, _, _, rfl, rfl, .inl (.inl Zg.t), refs_prev hin, _, rfl, _, rfl, _, _, _, _, rfl, rfl, .inl (.inl Zg.t), atI0 (refs_at hin), szOk rfl, fun t ht => ?_⟩
      have s1 := same_new (o := .tup [.ref (ad (prev n i)), .ref (ad i)]) ht
      have tl : l ≠ t := ne_of_none h1 ht
      refine ⟨refs ts i, s1 _ _ h1, small1000 (by rw [refs_len]; omega), fun b o e => ?_, fun j => if j = i then t else ts j, ?_, fun j hj => ?_⟩
      · rw [upd_ne (ne_of_none e hl)]
        exact s1 _ _ (sm _ _ e)
      · rw [upd_same]
        congr 2
        unfold refs
        rw [List.range_succ, List.map_append]
        congr 1
        · refine List.map_congr_left fun j hj => ?_
          show V.ref (ts j) = V.ref (if j = i then t else ts j)
          rw [if_neg (by have := List.mem_range.mp hj; omega)]
        · show [V.ref t] = [V.ref (if i = i then t else ts i)]
          rw [if_pos rfl]
      · show upd (upd G t _) l _ (if j = i then t else ts j) = _
        by_cases e : j = i
        · rw [if_pos e, upd_ne (Ne.symm tl), upd_same, e]
        · rw [if_neg e]
          have z := h2 j (by omega)
          rw [upd_ne (ne_of z h1 (by intro z; cases z))]
          exact s1 _ _ z
    rintro G ⟨sm, ts, h1, h2⟩
    rw [Int.toNat_natCast] at h1 h2
    have Zg := Z.same sm
    exact k l ts (fun i => ad (prev n i)) ad G sm ⟨h1, fun i hi => ⟨h2 i hi, Zg.p _ (prev_lt hi), Zg.p _ hi⟩⟩
abbrev s_meet : Stmt := top 1
theorem sc_meet : FnScope ["first", "second", "top", "_"] ["first", "second"] (defScope s_meet) := ⟨rfl, rfl, rfl, by decide +kernel, rfl, by decide +kernel, by decide +kernel⟩
theorem ok_meet {f tc tp : Addr} {fd : FuncData} {TT : List Addr} (F : Fun K "meet" "meet" s_meet f fd) (T : TxtA mg) (hc : fd.code = .ref tc) (TB : LamX.TabB base mg tc tp) (hP : tp ∈ TT)
    (D_squares : Def P w K mg base 4 "_squares" ["first", "second"] (spSquares)) : FnOk P w K mg base CX0 5 f fd ["first", "second"] (spMeet TT) := by
  refine okT F hc sc_meet (fun vs H Q E h => ?_) (fun A outer s H vs Q E hr h => ?_)
  · obtain ⟨_, _, _, _, rfl, _⟩ := h
    rfl
  · obtain ⟨a, b, s, t, rfl, ha, hb, hs, ht, hT, k⟩ := h
    refine ⟨_, (pss_one (ps_ret (pe_anyG (k := 0) (own := [("top", 2), ("_", 3)]) (g := (gTup K 2 (gCons (gName 2) (gCons (gName 3) gNil)))) (hr.mono (by decide)) sc_meet.nd (by rfl) T.any TB rfl (gscp_by (by decide +kernel)) (blkOk_by (own := [("top", 2), ("_", 3)]) (N := ["first", "second", "top", "_"]) (sc := defScope s_meet) (by decide +kernel)) (pi_list (pe_def D_squares (hr.mono (by decide)) (by rfl) (pa_cons (pv 0) (pa_cons (pv 1) pa_nil)))) (fun _ _ _ _ _ _ _ r => (pg_tup (by rfl) (pgs_cons (pg_name (i := 2) sc_meet.nd rfl (Or.inl rfl)) (pgs_cons (pg_name (i := 3) sc_meet.nd rfl (Or.inl rfl)) pgs_nil)))) (fun _ _ _ _ _ _ _ r => pts_nil) (fun _ _ _ _ _ _ _ r => (pe_cmpR op_eq (pv 2) pe_int (nomark _)))))), ?_⟩
    rw [show L2.start ["first", "second", "top", "_"] [V.ref a, V.ref b] = [some (V.ref a), some (V.ref b), none, none] from rfl]
    refine ⟨_, rfl, _, rfl, a, b, s, t, rfl, ha, hb, hs, ht, fun p H1 xs s1 hl1 hp1 => ?_⟩
    have hT1 : Tabs TT H1 := Same.tabs s1 hT
    refine ⟨_, rfl, ⟨xs, .inl (.inl hl1)⟩, hT1 tp hP, fun H2 tb => ?_⟩
    have s2 : SameT TT H1 H2 := SameT.tabbed hP tb
    have l2 := s2.l hT1 hl1
    have st : SameT TT H H2 := (SameT.of s1).trans s2
    refine till_list (K := K) (a := p) (xs := xs) (fun i H' => H' = H2 ∧ ∀ u ∈ (segSqs s t).take i, ¬ u.1 = 0) ⟨rfl, by simp⟩ (fun i H' _ h => by rw [h.1]; exact .inl (.inl l2)) (fun i x H' hx h => ?_) (fun H' h => ?_)
    · obtain ⟨rfl, hn⟩ := h
      have hil := (List.getElem?_eq_some_iff.mp hx).1
      have hil2 : i < (segSqs s t).length := by rw [← hp1.1]; exact hil
      obtain ⟨q, e1, e2⟩ := hp1.2 i (segSqs s t)[i] (by simp [hil2])
      rw [hx] at e1
      cases e1
      have e3 := s2.t hT1 e2
      refine ⟨_, _, rfl, .inl (.inl e3), rfl, ?_⟩
      refine ⟨_, _, rfl, _, _, rfl, rfl, ?_⟩
      refine ⟨rfl, yes_if ?_⟩
      refine ⟨_, rfl, rfl, _, rfl, ?_⟩
      by_cases c2 : (segSqs s t)[i].1 = 0
      · rw [show decide (V.int (segSqs s t)[i].1 = V.int 0) = true from decide_eq_true (by rw [c2])]
        exact (if_pos rfl).mpr (k true _ ⟨fun _ => ⟨_, List.getElem_mem hil2, c2⟩, fun _ => rfl⟩ st)
      · rw [show decide (V.int (segSqs s t)[i].1 = V.int 0) = false from decide_eq_false fun z => c2 (V.int.inj z)]
        refine (if_neg Bool.false_ne_true).mpr ⟨rfl, fun u hu => ?_⟩
        rw [List.take_add_one, List.mem_append] at hu
        rcases hu with hu | hu
        · exact hn u hu
        · rw [List.getElem?_eq_getElem hil2] at hu
          obtain rfl : u = (segSqs s t)[i] := by simpa using hu
          exact c2
    · obtain ⟨rfl, hn⟩ := h
      rw [hp1.1, List.take_length] at hn
      exact k false _ ⟨fun z => Bool.noConfusion z, fun ⟨u, hu, e⟩ => absurd e (hn u hu)⟩ st
abbrev s_begins_inside : Stmt := top 11
theorem sc_begins_inside : FnScope ["zone", "segment", "x", "y", "_", "d", "start", "end"] ["zone", "segment"] (defScope s_begins_inside) := ⟨rfl, rfl, rfl, by decide +kernel, rfl, by decide +kernel, by decide +kernel⟩
theorem ok_begins_inside {f tc tp : Addr} {fd : FuncData} {TT : List Addr} (F : Fun K "_begins_inside" "_begins_inside" s_begins_inside f fd) (T : TxtA mg) (hc : fd.code = .ref tc) (TB : LamX.TabB base mg tc tp) (hP : tp ∈ TT)
    (D_edges : Def P w K mg base 1 "_edges" ["zone"] (spEdges))
    (D_side : Def P w K mg base 1 "_side" ["start", "end", "x", "y", "d"] (spSide)) : FnOk P w K mg base CX0 4 f fd ["zone", "segment"] (spZS TT InP) := by
  refine okT F hc sc_begins_inside (fun vs H Q E h => ?_) (fun A outer s H vs Q E hr h => ?_)
  · obtain ⟨_, _, _, _, _, _, rfl, _⟩ := h
    rfl
  · obtain ⟨z, a, ad, n, g, s, rfl, Z, ha, hs, hT, k⟩ := h
    refine ⟨_, (pss_cons (ps_asg (pv 1) (pg_tup (by rfl) (pgs_cons (pg_name (i := 2) sc_begins_inside.nd rfl (Or.inr rfl)) (pgs_cons (pg_name (i := 3) sc_begins_inside.nd rfl (Or.inr rfl)) (pgs_cons (pg_name (i := 4) sc_begins_inside.nd rfl (Or.inl rfl)) (pgs_cons (pg_name (i := 4) sc_begins_inside.nd rfl (Or.inl rfl)) (pgs_cons (pg_name (i := 5) sc_begins_inside.nd rfl (Or.inr rfl)) pgs_nil)))))))
    (pss_one (ps_ret (pe_allG (k := 1) (own := [("start", 6), ("end", 7)]) (g := (gTup K 2 (gCons (gName 6) (gCons (gName 7) gNil)))) (hr.mono (by decide)) sc_begins_inside.nd (by rfl) T.all TB rfl (gscp_by (by decide +kernel)) (blkOk_by (own := [("start", 6), ("end", 7)]) (N := ["zone", "segment", "x", "y", "_", "d", "start", "end"]) (sc := defScope s_begins_inside) (by decide +kernel)) (pi_list (pe_def D_edges (hr.mono (by decide)) (by rfl) (pa_cons (pv 0) pa_nil))) (fun _ _ _ _ _ _ _ r => (pg_tup (by rfl) (pgs_cons (pg_name (i := 6) sc_begins_inside.nd rfl (Or.inl rfl)) (pgs_cons (pg_name (i := 7) sc_begins_inside.nd rfl (Or.inl rfl)) pgs_nil)))) (fun _ _ _ _ _ _ _ r => pts_nil) (fun _ _ _ _ _ _ _ r => (pe_cmpR op_ge (pe_def D_side (r.mono (by decide)) (by rfl) (pa_cons (pv 6) (pa_cons (pv 7) (pa_cons (pv 2) (pa_cons (pv 3) (pa_cons (pv 5) pa_nil)))))) pe_int (nomark _))))))), ?_⟩
    rw [show L2.start ["zone", "segment", "x", "y", "_", "d", "start", "end"] [V.ref z, V.ref a] = [some (V.ref z), some (V.ref a), none, none, none, none, none, none] from rfl]
    refine ⟨_, rfl, _, _, rfl, .inl (.inl ha), rfl, _, _, rfl, _, _, rfl, _, _, rfl, _, _, rfl, _, _, rfl, rfl, ?_⟩
    dsimp only [List.set]
    refine ⟨_, rfl, z, ad, n, g, rfl, Z, fun l ts ea eb H1 s1 E1 => ?_⟩
    have hT1 : Tabs TT H1 := Same.tabs s1 hT
    obtain ⟨l1, e1⟩ := E1
    refine ⟨l, rfl, ⟨_, .inl (.inl l1)⟩, hT1 tp hP, fun H2 tb => ?_⟩
    have s2 : SameT TT H1 H2 := SameT.tabbed hP tb
    have l2 := s2.l hT1 l1
    have st : SameT TT H H2 := (SameT.of s1).trans s2
    refine till_list (K := K) (a := l) (xs := refs ts n) (fun i H' => H' = H2 ∧ ∀ j, j < i → 0 ≤ sdz (g (prev n j)) (g j) s.ax s.ay s.d) ⟨rfl, fun j hj => absurd hj (Nat.not_lt_zero j)⟩ (fun i H' _ h => by rw [h.1]; exact .inl (.inl l2)) (fun i x H' hx h => ?_) (fun H' h => ?_)
    · obtain ⟨rfl, hn⟩ := h
      obtain ⟨hin, rfl⟩ := refs_get hx
      obtain ⟨e2, e3, e4⟩ := e1 i hin
      have e2 := s2.t hT1 e2
      have e3 := s2.t hT1 e3
      have e4 := s2.t hT1 e4
      refine ⟨_, _, rfl, .inl (.inl e2), rfl, ?_⟩
      refine ⟨_, _, rfl, _, _, rfl, rfl, ?_⟩
      refine ⟨rfl, yes_if ?_⟩
      refine ⟨_, rfl, _, rfl, _, rfl, _, rfl, _, rfl, ea i, eb i, g (prev n i), g i, s.ax, s.ay, s.d, rfl, e3, e4, Z.b _ (prev_lt hin), Z.b _ hin, hs.ax.mono (by decide), hs.ay.mono (by decide), hs.d, ?_⟩
      refine ⟨_, _, rfl, rfl, _, rfl, ?_⟩
      by_cases c2 : sdz (g (prev n i)) (g i) s.ax s.ay s.d ≥ 0
      · rw [decide_eq_true c2]
        refine (if_neg (by decide)).mpr ⟨rfl, fun j hj => ?_⟩
        by_cases e : j = i
        · rw [e]; exact c2
        · exact hn j (by omega)
      · rw [decide_eq_false c2]
        exact (if_pos rfl).mpr (k false _ ⟨fun z => Bool.noConfusion z, fun q => absurd (q i hin) c2⟩ st)
    · obtain ⟨rfl, hn⟩ := h
      rw [refs_len] at hn
      exact k true _ ⟨fun _ => hn, fun _ => rfl⟩ st
abbrev s_meets_border : Stmt := top 12
theorem sc_meets_border : FnScope ["zone", "segment", "start", "end"] ["zone", "segment"] (defScope s_meets_border) := ⟨rfl, rfl, rfl, by decide +kernel, rfl, by decide +kernel, by decide +kernel⟩
theorem ok_meets_border {f tc tp : Addr} {fd : FuncData} {TT : List Addr} (F : Fun K "_meets_border" "_meets_border" s_meets_border f fd) (T : TxtA mg) (hc : fd.code = .ref tc) (TB : LamX.TabB base mg tc tp) (hP : tp ∈ TT)
    (D_edges : Def P w K mg base 1 "_edges" ["zone"] (spEdges))
    (D_meet : Def P w K mg base 5 "meet" ["first", "second"] (spMeet TT)) : FnOk P w K mg base CX0 8 f fd ["zone", "segment"] (spZS TT BoP) := by
  refine okT F hc sc_meets_border (fun vs H Q E h => ?_) (fun A outer s H vs Q E hr h => ?_)
  · obtain ⟨_, _, _, _, _, _, rfl, _⟩ := h
    rfl
  · obtain ⟨z, a, ad, n, g, s, rfl, Z, ha, hs, hT, k⟩ := h
    refine ⟨_, (pss_one (ps_ret (pe_anyG (k := 5) (own := [("start", 2), ("end", 3)]) (g := (gTup K 2 (gCons (gName 2) (gCons (gName 3) gNil)))) (hr.mono (by decide)) sc_meets_border.nd (by rfl) T.any TB rfl (gscp_by (by decide +kernel)) (blkOk_by (own := [("start", 2), ("end", 3)]) (N := ["zone", "segment", "start", "end"]) (sc := defScope s_meets_border) (by decide +kernel)) (pi_list (pe_def D_edges (hr.mono (by decide)) (by rfl) (pa_cons (pv 0) pa_nil))) (fun _ _ _ _ _ _ _ r => (pg_tup (by rfl) (pgs_cons (pg_name (i := 2) sc_meets_border.nd rfl (Or.inl rfl)) (pgs_cons (pg_name (i := 3) sc_meets_border.nd rfl (Or.inl rfl)) pgs_nil)))) (fun _ _ _ _ _ _ _ r => pts_nil) (fun _ _ _ _ _ _ _ r => (pe_def D_meet (r.mono (by decide)) (by rfl) (pa_cons (pe_tup (pa_starK (K := K) rfl (pv 2) (pa_starK (K := K) rfl (pv 3) (pa_cons pe_int pa_nil)))) (pa_cons (pv 1) pa_nil))))))), ?_⟩
    rw [show L2.start ["zone", "segment", "start", "end"] [V.ref z, V.ref a] = [some (V.ref z), some (V.ref a), none, none] from rfl]
    refine ⟨_, rfl, z, ad, n, g, rfl, Z, fun l ts ea eb H1 s1 E1 => ?_⟩
    have hT1 : Tabs TT H1 := Same.tabs s1 hT
    obtain ⟨l1, e1⟩ := E1
    refine ⟨l, rfl, ⟨_, .inl (.inl l1)⟩, hT1 tp hP, fun H2 tb => ?_⟩
    have s2 : SameT TT H1 H2 := SameT.tabbed hP tb
    have hT2 := s2.tabs hT1
    have l2 := s2.l hT1 l1
    have a2 := s2.t hT1 (s1 _ _ ha)
    have st : SameT TT H H2 := (SameT.of s1).trans s2
    refine till_list (K := K) (a := l) (xs := refs ts n) (fun i H' => SameT TT H2 H' ∧ ∀ j, j < i → ¬ ∃ u ∈ segSqs (edS (g (prev n j)) (g j)) s, u.1 = 0) ⟨SameT.refl TT H2, fun j hj => absurd hj (Nat.not_lt_zero j)⟩ (fun i H' _ h => .inl (.inl (h.1.l hT2 l2))) (fun i x H' hx h => ?_) (fun H' h => ?_)
    · obtain ⟨s3, hn⟩ := h
      obtain ⟨hin, rfl⟩ := refs_get hx
      obtain ⟨e2, e3, e4⟩ := e1 i hin
      have s23 := s2.trans s3
      have e2 := s23.t hT1 e2
      have e3 := s23.t hT1 e3
      have e4 := s23.t hT1 e4
      have hT3 := s3.tabs hT2
      refine ⟨_, _, rfl, .inl (.inl e2), rfl, ?_⟩
      refine ⟨_, _, rfl, _, _, rfl, rfl, ?_⟩
      refine ⟨rfl, yes_if ?_⟩
      refine ⟨_, rfl, _, _, rfl, .inl (.inl (.inl e3)), _, rfl, _, _, rfl, .inl (.inl (.inl e4)), szOk rfl, fun q hq => ?_⟩
      have s4 := same_new (o := (edS (g (prev n i)) (g i)).tup) hq
      have bz := Z.b _ (prev_lt hin)
      have bi := Z.b _ hin
      refine ⟨_, rfl, q, a, edS (g (prev n i)) (g i), s, rfl, upd_same, s4 _ _ (s3.t hT2 a2), ⟨bz.b1.mono (by decide), bz.b2.mono (by decide), bi.b1.mono (by decide), bi.b2.mono (by decide), BdN.of (by show -((2 ^ 100 : Nat) : Int) ≤ (1 : Int); decide) (by show (1 : Int) ≤ ((2 ^ 100 : Nat) : Int); decide)⟩, hs, Same.tabs s4 hT3, fun v H5 hv s5 => ?_⟩
      have s25 := (s3.trans (SameT.of s4)).trans s5
      refine ⟨v, rfl, ?_⟩
      cases v with
      | true => exact (if_pos rfl).mpr (k true _ ⟨fun _ => ⟨i, hin, hv.mp rfl⟩, fun _ => rfl⟩ (st.trans s25))
      | false =>
        refine (if_neg Bool.false_ne_true).mpr ⟨s25, fun j hj => ?_⟩
        by_cases e : j = i
        · rw [e]
          intro z
          exact Bool.noConfusion (hv.mpr z)
        · exact hn j (by omega)
    · obtain ⟨s3, hn⟩ := h
      rw [refs_len] at hn
      exact k false _ ⟨fun z => Bool.noConfusion z, fun ⟨i, hi, e⟩ => absurd e (hn i hi)⟩ (st.trans s3)
abbrev s_touches : Stmt := top 10
theorem sc_touches : FnScope ["zone", "segment"] ["zone", "segment"] (defScope s_touches) := ⟨rfl, rfl, rfl, by decide +kernel, rfl, by decide +kernel, by decide +kernel⟩
theorem ok_touches {f : Addr} {fd : FuncData} {TT : List Addr} (F : Fun K "touches" "touches" s_touches f fd) (T : TxtA mg)
    (D_begins_inside : Def P w K mg base 4 "_begins_inside" ["zone", "segment"] (spZS TT InP))
    (D_meets_border : Def P w K mg base 8 "_meets_border" ["zone", "segment"] (spZS TT BoP)) : FnOk P w K mg base CX0 9 f fd ["zone", "segment"] (spZS TT (fun n g s => InP n g s ∨ BoP n g s)) := by
  refine F.ok sc_touches (fun vs H Q E h => ?_) (fun cdv A outer s H vs Q E hr h => ?_)
  · obtain ⟨_, _, _, _, _, _, rfl, _⟩ := h
    rfl
  · obtain ⟨z, a, ad, n, g, s, rfl, Z, ha, hs, hT, k⟩ := h
    refine ⟨_, (pss_one (ps_ret (pe_or (pe_def D_begins_inside (hr.mono (by decide)) (by rfl) (pa_cons (pv 0) (pa_cons (pv 1) pa_nil))) (pe_one (pe_def D_meets_border (hr.mono (by decide)) (by rfl) (pa_cons (pv 0) (pa_cons (pv 1) pa_nil))))))), ?_⟩
    rw [show L2.start ["zone", "segment"] [V.ref z, V.ref a] = [some (V.ref z), some (V.ref a)] from rfl]
    refine ⟨_, rfl, _, rfl, z, a, ad, n, g, s, rfl, Z, ha, hs, hT, fun v H1 hv s1 => ?_⟩
    refine ⟨_, rfl, ?_⟩
    cases v with
    | true => exact iteT (k true _ ⟨fun _ => .inl (hv.mp rfl), fun _ => rfl⟩ s1)
    | false =>
      refine iteF ⟨_, rfl, _, rfl, z, a, ad, n, g, s, rfl, Z.st s1 hT, s1.t hT ha, hs, s1.tabs hT, fun v2 H2 hv2 s2 => ?_⟩
      refine k v2 _ ⟨fun e => .inr (hv2.mp e), fun e => ?_⟩ (s1.trans s2)
      rcases e with e | e
      · exact Bool.noConfusion (hv.mpr e)
      · exact hv2.mpr e
abbrev s_is_zone : Stmt := top 9
theorem sc_is_zone : FnScope ["points", "count", "index", "behind", "others", "k", "x", "y"] ["points"] (defScope s_is_zone) := ⟨rfl, rfl, rfl, by decide +kernel, rfl, by decide +kernel, by decide +kernel⟩
theorem ok_is_zone {f tc tp : Addr} {fd : FuncData} {TT : List Addr} (F : Fun K "is_zone" "is_zone" s_is_zone f fd) (T : TxtA mg) (hc : fd.code = .ref tc) (TB : LamX.TabB base mg tc tp) (hP : tp ∈ TT)
    (D_side : Def P w K mg base 1 "_side" ["start", "end", "x", "y", "d"] (spSide)) : FnOk P w K mg base CX0 4 f fd ["points"] (spIsZoneP TT) := by
  refine okT F hc sc_is_zone (fun vs H Q E h => ?_) (fun A outer s H vs Q E hr h => ?_)
  · obtain ⟨_, _, _, _, rfl, _⟩ := h
    rfl
  · obtain ⟨z, ad, n, g, rfl, Z, hT, k⟩ := h
    refine ⟨_, (pss_cons (ps_set (i := 1) sc_is_zone.nd rfl (Or.inl rfl) (pe_callB (r := rLenK K) call_len_seq (by rfl) T.len boot_len (pa_cons (pv 0) pa_nil)))
    (pss_cons (ps_if (pt_not (pt_chain op_le op_le pe_int (pv 1) pe_int)) (pss_one (ps_ret pe_bl))
      pss_nil)
    (pss_cons (ps_for PassesOwn.never rfl (pi_range1 (by rfl) T.range (pa_cons (pv 1) pa_nil)) (pg_name (i := 2) sc_is_zone.nd rfl (Or.inr rfl))
      (pss_cons (ps_set (i := 3) sc_is_zone.nd rfl (Or.inr rfl) (pe_op op_mod (pe_op op_add (pv 2) pe_int) (pv 1)))
    (pss_cons (ps_setLc (i := 4) (own := [("k", 5)]) (g := gName 5) (by rfl) sc_is_zone.nd rfl rfl (sw_true rfl rfl rfl (by decide +kernel)) (pi_range1 (by rfl) T.range (pa_cons (pv 1) pa_nil)) (blkOk_by (own := [("k", 5)]) (N := ["points", "count", "index", "behind", "others", "k", "x", "y"]) (sc := defScope s_is_zone) (by decide +kernel)) (fun _ _ _ _ _ => (pg_name (i := 5) sc_is_zone.nd rfl (Or.inl rfl))) (fun _ _ _ _ _ => pts_one (pt_cmpR (op_notInSK (K := K) rfl) (pv 5) (pe_tup (pa_cons (pv 2) (pa_cons (pv 3) pa_nil))) rfl)) (fun _ _ _ _ _ => (pe_ix (r := rIxT K) ix_tup (pv 0) (pv 5) (fun _ _ => rfl))))
    (pss_one (ps_if (pt_val (pe_anyG (k := 1) (own := [("x", 6), ("y", 7)]) (g := (gTup K 2 (gCons (gName 6) (gCons (gName 7) gNil)))) (hr.mono (by decide)) sc_is_zone.nd (by rfl) T.any TB rfl (gscp_by (by decide +kernel)) (blkOk_by (own := [("x", 6), ("y", 7)]) (N := ["points", "count", "index", "behind", "others", "k", "x", "y"]) (sc := defScope s_is_zone) (by decide +kernel)) (pi_list (pv 4)) (fun _ _ _ _ _ _ _ r => (pg_tup (by rfl) (pgs_cons (pg_name (i := 6) sc_is_zone.nd rfl (Or.inl rfl)) (pgs_cons (pg_name (i := 7) sc_is_zone.nd rfl (Or.inl rfl)) pgs_nil)))) (fun _ _ _ _ _ _ _ r => pts_nil) (fun _ _ _ _ _ _ _ r => (pe_cmpR op_le (pe_def D_side (r.mono (by decide)) (by rfl) (pa_cons (pe_ix (r := rIxT K) ix_tup (pv 0) (pv 2) (fun _ _ => rfl)) (pa_cons (pe_ix (r := rIxT K) ix_tup (pv 0) (pv 3) (fun _ _ => rfl)) (pa_cons (pv 6) (pa_cons (pv 7) (pa_cons pe_int pa_nil)))))) pe_int (nomark _))))) (pss_one (ps_ret pe_bl))
      pss_nil)))))
    (pss_one (ps_ret pe_bl))))), ?_⟩
    rw [show L2.start ["points", "count", "index", "behind", "others", "k", "x", "y"] [V.ref z] = [some (V.ref z), none, none, none, none, none, none, none] from rfl]
    have hn := Z.n
    refine ⟨_, rfl, _, _, rfl, .inr (.inl (.inl Z.t)), ?_⟩
    rw [refs_len]
    refine nm ?_
    dsimp only [List.set]
    have no : ¬ IsZone n g → ∀ G, SameT TT H G → Q (.bl false) G := fun e G s => k false _ ⟨fun w => Bool.noConfusion w, fun w => absurd w e⟩ s
    refine ⟨_, rfl, _, _, rfl, rfl, _, rfl, ?_⟩
    by_cases c1 : (3 : Int) ≤ (n : Int)
    rotate_left
    · exact ifN c1 ⟨_, rfl, iteT (no (fun w => by have := w.1; omega) H (SameT.refl TT H))⟩
    refine ifY c1 ?_
    refine ⟨_, _, rfl, rfl, _, rfl, ?_⟩
    by_cases c2 : (n : Int) ≤ 8
    rotate_left
    · exact ifNotN c2 (no (fun w => by have := w.2.1; omega) H (SameT.refl TT H))
    refine ifNotY c2 ?_
    refine nxQ ?_
    dsimp only
    refine ⟨_, rfl, _, rfl, by omega, by omega, for_range (n := ((n : Nat) : Int).toNat) (fun i σ G => ∃ (v2 v3 v4 : Option V), σ = [some (.ref z), some (.int (n : Nat)), v2, v3, v4, none, none, none] ∧ SameT TT H G ∧ ∀ k m, k < i → m < n → m ≠ k → m ≠ (k + 1) % n → 0 < cr3 (g k) (g ((k + 1) % n)) (g m))
      ⟨none, none, none, rfl, SameT.refl TT H, fun k m h => absurd h (Nat.not_lt_zero k)⟩ ?_ ?_⟩
    rotate_left
    · rintro σ G ⟨v2, v3, v4, rfl, st, all⟩
      rw [Int.toNat_natCast] at all
      exact k true _ ⟨fun _ => ⟨by omega, by omega, fun k m h => all k m h⟩, fun _ => rfl⟩ st
    rintro i σ G hi ⟨v2, v3, v4, rfl, st, all⟩
    have hin : i < n := by omega
    have bn : (i + 1) % n < n := Nat.mod_lt _ (by omega)
    have Zg := Z.st st hT
    have hTg := st.tabs hT
    refine nm ?_
    dsimp only [List.set]
    refine ⟨_, rfl, _, _, rfl, rfl, _, rfl, _, _, rfl, rfl, (by show (0 : Int) < (n : Int); omega), ?_⟩
    refine nm ?_
    dsimp only [List.set]
    rw [show (0 + (i : Int) + 1) % ((n : Nat) : Int) = (((i + 1) % n : Nat) : Int) by rw [Int.zero_add]; norm_cast]
    refine ⟨_, rfl, _, rfl, by omega, by omega, fun l hl => ?_⟩
    refine lc_range (lo := 0) (n := ((n : Nat) : Int).toNat) (fun j G' => Same G G' ∧ ∃ ks : List Nat, G' l = some (.lst (ks.map fun m => V.ref (ad m))) ∧ ks.length ≤ j ∧ ∀ m, m ∈ ks ↔ (m < j ∧ m ≠ i ∧ m ≠ (i + 1) % n)) ⟨same_new hl, [], upd_same, Nat.le_refl _, fun m => ⟨fun h => (nomatch h), fun h => absurd h.1 (Nat.not_lt_zero m)⟩⟩ ?_ ?_
    · rintro j G' hj ⟨sm, ks, h1, h2, h3⟩
      have hjn : j < n := by omega
      have Zj := Zg.same sm
      refine ⟨rfl, ?_⟩
      refine ⟨_, rfl, _, rfl, _, rfl, szOk rfl, fun q hq => ?_⟩
      have s1 := same_new (o := .tup [.int (0 + (i : Int)), .int (((i + 1) % n : Nat) : Int)]) hq
      refine ⟨q, _, rfl, .inr (.inl (.inl upd_same)), rfl, rfl, _, rfl, ?_⟩
      have ev : inV (.int (0 + (j : Int))) [.int (0 + (i : Int)), .int (((i + 1) % n : Nat) : Int)] = decide (j = i ∨ j = (i + 1) % n) := by
        show (((0 + (i : Int)) == (0 + (j : Int))) || (((((i + 1) % n : Nat) : Int) == (0 + (j : Int))) || false)) = _
        rw [Bool.or_false, Bool.eq_iff_iff, Bool.or_eq_true, beq_iff_eq, beq_iff_eq, decide_eq_true_iff]
        omega
      have l1 := s1 _ _ h1
      rw [show (if true = true then !inV (V.int (0 + (j : Int))) [.int (0 + (i : Int)), .int (((i + 1) % n : Nat) : Int)] else inV (V.int (0 + (j : Int))) [.int (0 + (i : Int)), .int (((i + 1) % n : Nat) : Int)]) = !decide (j = i ∨ j = (i + 1) % n) by rw [if_pos rfl, ev]]
      have sl : Same G (upd G' q (.tup [.int (0 + (i : Int)), .int (((i + 1) % n : Nat) : Int)])) := sm.trans s1
      by_cases c : j = i ∨ j = (i + 1) % n
      · refine ifNotY c ⟨sl, ks, l1, by omega, fun m => ?_⟩
        rw [h3 m]
        omega
      · refine ifNotN c ?_
        refine ⟨_, rfl, _, rfl, _, _, _, _, rfl, rfl, .inl (.inl (Zj.same s1).t), atI0 (refs_at hjn), _, l1, small1000 (by rw [List.length_map]; omega), fun b o e => ?_, ks ++ [j], by rw [upd_same, List.map_append]; rfl, by rw [List.length_append]; show ks.length + 1 ≤ j + 1; omega, fun m => ?_⟩
        · rw [upd_ne (ne_of_none e hl)]
          exact sl _ _ e
        · rw [List.mem_append, h3 m, List.mem_singleton]
          omega
    rintro G1 ⟨sm, ks, h1, h2, h3⟩
    rw [Int.toNat_natCast] at h2 h3
    refine nm ?_
    dsimp only [List.set]
    have Z1 := Zg.same sm
    have hT1 : Tabs TT G1 := Same.tabs sm hTg
    have st1 := st.trans (SameT.of (T := TT) sm)
    refine ⟨_, rfl, l, rfl, ⟨_, .inl (.inl h1)⟩, hT1 tp hP, fun H2 tb => ?_⟩
    have s2 : SameT TT G1 H2 := SameT.tabbed hP tb
    have l2 := s2.l hT1 h1
    have Z2 := Z1.st s2 hT1
    have st2 := st1.trans s2
    refine till_any (K := K) (a := l) (xs := ks.map fun m => V.ref (ad m)) (fun j H' => H' = H2 ∧ ∀ m ∈ ks.take j, 0 < cr3 (g i) (g ((i + 1) % n)) (g m)) ⟨rfl, by simp⟩ (fun j H' _ h => by rw [h.1]; exact .inl (.inl l2)) (fun j y H' hy h => ?_) (fun H' h => ?_)
    · obtain ⟨rfl, hall⟩ := h
      obtain ⟨m, rfl, hm, hjl, ht⟩ := getMap hy
      obtain ⟨hmn, hm1, hm2⟩ := (h3 m).mp hm
      have e2 : H' (ad m) = some (.tup [.int (g m).1, .int (g m).2]) := Z2.p m hmn
      refine ⟨_, _, rfl, .inl (.inl e2), rfl, ?_⟩
      refine ⟨_, _, rfl, _, _, rfl, rfl, ?_⟩
      refine ⟨rfl, yes_if ?_⟩
      refine ⟨_, rfl, _, rfl, _, _, _, _, rfl, rfl, .inl (.inl Z2.t), atI0 (refs_at hin), _, rfl, _, rfl, _, _, _, _, rfl, rfl, .inl (.inl Z2.t), atI_nat (refs_at bn), _, rfl, _, rfl, ad i, ad ((i + 1) % n), g i, g ((i + 1) % n), (g m).1, (g m).2, 1, rfl, Z2.p i hin, Z2.p _ bn, Z2.b i hin, Z2.b _ bn, (Z2.b m hmn).b1.mono (by decide), (Z2.b m hmn).b2.mono (by decide), BdN.of (by decide) (by decide), ?_⟩
      rw [sdz_1]
      refine ⟨_, _, rfl, rfl, _, rfl, ?_⟩
      by_cases c : cr3 (g i) (g ((i + 1) % n)) (g m) ≤ 0
      · rw [decide_eq_true c]
        refine (if_pos rfl).mpr ?_
        refine ⟨_, rfl, iteT (no (fun w => ?_) _ st2)⟩
        have := w.2.2 i m hin hmn hm1 hm2
        omega
      · rw [decide_eq_false c]
        refine (if_neg Bool.false_ne_true).mpr ⟨rfl, fun u hu => ?_⟩
        rw [ht] at hu
        rcases List.mem_append.mp hu with hu | hu
        · exact hall u hu
        · rw [List.mem_singleton.mp hu]; omega
    · obtain ⟨rfl, hall⟩ := h
      rw [List.length_map, List.take_length] at hall
      refine ⟨_, rfl, iteF ⟨_, _, _, rfl, st2, fun k m hk hm a b => ?_⟩⟩
      by_cases e : k = i
      · subst e
        exact hall m ((h3 m).mpr ⟨hm, a, b⟩)
      · exact all k m (by omega) hm a b
end
end Sk

set_option Elab.async false
set_option linter.all false
set_option maxRecDepth 100000
set_option maxHeartbeats 4000000
namespace Sk
open PySem PySem.Spec PyProof.Rows L2
def spIsB : Sp := fun vs H Q _ => ∃ a b : Bool, vs = [.bl a, .bl b] ∧ Q (.bl (decide (a = b))) H
def T2 (x y : Int) : HO := .tup [.int x, .int y]
def spLCross : Sp := fun vs H Q _ => ∃ (o a b : Addr) (ox oy ax ay bx bw : Int), vs = [.ref o, .ref a, .ref b] ∧ H o = some (.tup [.int ox, .int oy]) ∧ H a = some (.tup [.int ax, .int ay]) ∧ H b = some (.tup [.int bx, .int bw]) ∧ BdN 300 ox ∧ BdN 300 oy ∧ BdN 300 ax ∧ BdN 300 ay ∧ BdN 300 bx ∧ BdN 300 bw ∧ Q (.int (trn ox oy ax ay bx bw)) H
def spSegment (K : PySem.W.Frag) : Sp := fun vs H Q _ => ∃ (d c : Addr) (z : Int), vs = [.ref d, .int z] ∧ St1 K H d c ∧ 1 ≤ z ∧ z ≤ 1000000 ∧ ∀ p s H', St1 K H' d c → Keep d H H' → H' p = some s.tup → SegBd 200 100 s → 1 ≤ s.d → Q (.ref p) H'
theorem PsAt.snoc {H : Hp} {vs : List V} {ps : List Pt} {q : Addr} {p : Pt} (h : PsAt H vs ps) (hq : H q = some (ptO p)) (hp : PtB p) : PsAt H (vs ++ [.ref q]) (ps ++ [p]) := by
  obtain ⟨⟨qs, a, b, c⟩, d⟩ := h
  refine ⟨⟨qs ++ [(q, p)], by rw [a, List.map_append]; rfl, fun x hx => ?_, by rw [← c, List.map_append]; rfl⟩, fun x hx => ?_⟩
  · rcases List.mem_append.mp hx with hx | hx
    · exact b x hx
    · rw [List.mem_singleton.mp hx]; exact hq
  · rcases List.mem_append.mp hx with hx | hx
    · exact d x hx
    · rw [List.mem_singleton.mp hx]; exact hp
def In4 (p : Pt) : Prop := -4 ≤ p.1 ∧ p.1 ≤ 4 ∧ -4 ≤ p.2 ∧ p.2 ≤ 4
theorem mul4 {w p : Int} (h0 : 0 ≤ w) (h1 : w ≤ 20000) (p0 : -4 ≤ p) (p1 : p ≤ 4) : -80000 ≤ w * p ∧ w * p ≤ 80000 := by
  rcases (by omega : p = -4 ∨ p = -3 ∨ p = -2 ∨ p = -1 ∨ p = 0 ∨ p = 1 ∨ p = 2 ∨ p = 3 ∨ p = 4) with rfl | rfl | rfl | rfl | rfl | rfl | rfl | rfl | rfl <;> omega
theorem In4.b {p : Pt} (h : In4 p) : PtB p := by
  obtain ⟨a, b, c, d⟩ := h
  exact ⟨by omega, by omega, by omega, by omega⟩
section
variable {P : Program} {w : World} {K : PySem.W.Frag} {mg : Str → Option Value} {base : Heap}
abbrev s_law_is : Stmt := top 20
theorem sc_law_is : FnScope ["actual", "due"] ["actual", "due"] (defScope s_law_is) := ⟨rfl, rfl, rfl, by decide +kernel, rfl, by decide +kernel, by decide +kernel⟩
theorem ok_law_is {f : Addr} {fd : FuncData} (F : Fun K "_law_is" "_law_is" s_law_is f fd) (T : TxtA mg) : FnOk P w K mg base CX0 1 f fd ["actual", "due"] (spIsB) := by
  refine F.ok sc_law_is (fun vs H Q E h => ?_) (fun cdv A outer s H vs Q E hr h => ?_)
  · obtain ⟨_, _, rfl, _⟩ := h
    rfl
  · obtain ⟨a, b, rfl, k⟩ := h
    refine ⟨_, (pss_one (ps_ret (pe_and (pe_callB call_isi (by rfl) T.isinstance boot_isinstance (pa_cons (pv 0) (pa_cons (pe_bltn (v := .ty "bool") (by rfl) T.bool boot_bool rfl) pa_nil))) (pe_one (pe_cmpR op_eq (pv 0) (pv 1) (nomark _)))))), ?_⟩
    refine ⟨_, rfl, _, _, _, _, true, rfl, ClsV.ty _, .base (.bl a), kit_ty (by decide +kernel), true, rfl, ?_⟩
    refine iteT ?_
    refine ⟨_, rfl, _, rfl, rfl, ?_⟩
    have e : decide (V.bl a = V.bl b) = decide (a = b) := by
      by_cases h : a = b
      · rw [h]; simp
      · rw [decide_eq_false h, decide_eq_false fun z => h (V.bl.inj z)]
    show Q (.bl (decide (V.bl a = V.bl b))) H
    rw [e]
    exact k
abbrev s_law_cross : Stmt := top 21
theorem sc_law_cross : FnScope ["o", "a", "b"] ["o", "a", "b"] (defScope s_law_cross) := ⟨rfl, rfl, rfl, by decide +kernel, rfl, by decide +kernel, by decide +kernel⟩
theorem ok_law_cross {f : Addr} {fd : FuncData} (F : Fun K "_law_cross" "_law_cross" s_law_cross f fd) (T : TxtA mg) : FnOk P w K mg base CX0 1 f fd ["o", "a", "b"] (spLCross) := by
  refine F.ok sc_law_cross (fun vs H Q E h => ?_) (fun cdv A outer s H vs Q E hr h => ?_)
  · obtain ⟨o, a, b, _, _, _, _, _, _, rfl, _⟩ := h
    rfl
  · obtain ⟨o, a, b, ox, oy, ax, ay, bx, bw, rfl, h0, h1, h2, b1, b2, b3, b4, b5, b6, k⟩ := h
    refine ⟨_, (pss_one (ps_ret (pe_op op_sub (pe_op op_mulW (pe_op op_sub (pe_ix (r := rIxT K) ix_tup (pv 1) pe_int (fun _ _ => rfl)) (pe_ix (r := rIxT K) ix_tup (pv 0) pe_int (fun _ _ => rfl))) (pe_op op_sub (pe_ix (r := rIxT K) ix_tup (pv 2) pe_int (fun _ _ => rfl)) (pe_ix (r := rIxT K) ix_tup (pv 0) pe_int (fun _ _ => rfl)))) (pe_op op_mulW (pe_op op_sub (pe_ix (r := rIxT K) ix_tup (pv 1) pe_int (fun _ _ => rfl)) (pe_ix (r := rIxT K) ix_tup (pv 0) pe_int (fun _ _ => rfl))) (pe_op op_sub (pe_ix (r := rIxT K) ix_tup (pv 2) pe_int (fun _ _ => rfl)) (pe_ix (r := rIxT K) ix_tup (pv 0) pe_int (fun _ _ => rfl))))))), ?_⟩
    exact ⟨_, rfl, _, _, _, _, rfl, rfl, (.inl (.inl h1)), rfl, _, rfl, _, _, _, _, rfl, rfl, (.inl (.inl h0)), rfl, _, _, rfl, rfl, _, rfl, _, _, _, _, rfl, rfl, (.inl (.inl h2)), rfl, _, rfl, _, _, _, _, rfl, rfl, (.inl (.inl h0)), rfl, _, _, rfl, rfl, _, _, rfl, rfl, wmB (b3.sub b1) (b6.sub b2) (by decide) (by decide), _, rfl, _, _, _, _, rfl, rfl, (.inl (.inl h1)), rfl, _, rfl, _, _, _, _, rfl, rfl, (.inl (.inl h0)), rfl, _, _, rfl, rfl, _, rfl, _, _, _, _, rfl, rfl, (.inl (.inl h2)), rfl, _, rfl, _, _, _, _, rfl, rfl, (.inl (.inl h0)), rfl, _, _, rfl, rfl, _, _, rfl, rfl, wmB (b4.sub b2) (b5.sub b1) (by decide) (by decide), _, _, rfl, rfl, k⟩
abbrev s_law_segment : Stmt := top 25
theorem sc_law_segment : FnScope ["state", "size", "d", "numbers", "kind", "k"] ["state", "size"] (defScope s_law_segment) := ⟨rfl, rfl, rfl, by decide +kernel, rfl, by decide +kernel, by decide +kernel⟩
theorem ok_law_segment {f : Addr} {fd : FuncData} (F : Fun K "_law_segment" "_law_segment" s_law_segment f fd) (T : TxtA mg)
    (D_law_draw : Def P w K mg base 1 "_law_draw" ["state", "bound"] (spDraw K))
    (D_law_pick : Def P w K mg base 2 "_law_pick" ["state", "things"] (spPick K)) : FnOk P w K mg base CX0 3 f fd ["state", "size"] (spSegment K) := by
  refine F.ok sc_law_segment (fun vs H Q E h => ?_) (fun cdv A outer s H vs Q E hr h => ?_)
  · obtain ⟨d, c, z, rfl, _⟩ := h
    rfl
  · obtain ⟨d, c, z, rfl, S0, z0, z1, k⟩ := h
    refine ⟨_, (pss_cons (ps_set (i := 2) sc_law_segment.nd rfl (Or.inl rfl) (pe_op op_add pe_int (pe_def D_law_draw (hr.mono (by decide)) (by rfl) (pa_cons (pv 0) (pa_cons (pe_def D_law_pick (hr.mono (by decide)) (by rfl) (pa_cons (pv 0) (pa_cons (pe_lst (pa_cons pe_int (pa_cons pe_int (pa_cons pe_int (pa_cons pe_int (pa_cons pe_int pa_nil)))))) pa_nil))) pa_nil)))))
    (pss_cons (ps_setLc (i := 3) (own := [("k", 5)]) (g := gName 5) (by rfl) sc_law_segment.nd rfl rfl (sw_true rfl rfl rfl (by decide +kernel)) (pi_range1 (by rfl) T.range (pa_cons pe_int pa_nil)) (blkOk_by (own := [("k", 5)]) (N := ["state", "size", "d", "numbers", "kind", "k"]) (sc := defScope s_law_segment) (by decide +kernel)) (fun _ _ _ _ _ => (pg_name (i := 5) sc_law_segment.nd rfl (Or.inl rfl))) (fun _ _ _ _ _ => pts_nil) (fun _ _ _ _ _ => (pe_op op_sub (pe_def D_law_draw (hr.mono (by decide)) (by rfl) (pa_cons (pv 0) (pa_cons (pe_op op_add (pe_op op_mulW pe_int (pv 1)) pe_int) pa_nil))) (pv 1))))
    (pss_cons (ps_set (i := 4) sc_law_segment.nd rfl (Or.inl rfl) (pe_def D_law_draw (hr.mono (by decide)) (by rfl) (pa_cons (pv 0) (pa_cons pe_int pa_nil))))
    (pss_cons (ps_if (pt_cmpR op_eq (pv 4) pe_int (nomark _)) (pss_cons (ps_asg (pe_ix (r := rIxL K) ix_list (pv 3) pe_int (fun _ _ => rfl)) (pg_sub (pv 3) pe_int set_list))
    (pss_one (ps_asg (pe_ix (r := rIxL K) ix_list (pv 3) pe_int (fun _ _ => rfl)) (pg_sub (pv 3) pe_int set_list))))
      pss_nil)
    (pss_cons (ps_if (pt_cmpR op_eq (pv 4) pe_int (nomark _)) (pss_one (ps_asg (pe_ix (r := rIxL K) ix_list (pv 3) pe_int (fun _ _ => rfl)) (pg_sub (pv 3) pe_int set_list)))
      pss_nil)
    (pss_cons (ps_if (pt_cmpR op_eq (pv 4) pe_int (nomark _)) (pss_one (ps_asg (pe_ix (r := rIxL K) ix_list (pv 3) pe_int (fun _ _ => rfl)) (pg_sub (pv 3) pe_int set_list)))
      pss_nil)
    (pss_one (ps_ret (pe_tup (pa_cons (pe_ix (r := rIxL K) ix_list (pv 3) pe_int (fun _ _ => rfl)) (pa_cons (pe_ix (r := rIxL K) ix_list (pv 3) pe_int (fun _ _ => rfl)) (pa_cons (pe_ix (r := rIxL K) ix_list (pv 3) pe_int (fun _ _ => rfl)) (pa_cons (pe_ix (r := rIxL K) ix_list (pv 3) pe_int (fun _ _ => rfl)) (pa_cons (pv 2) pa_nil)))))))))))))), ?_⟩
    obtain ⟨kv0, hkv0⟩ := S0.dk
    refine ⟨_, rfl, _, rfl, szOk rfl, fun p1 hp1 => ?_⟩
    refine ⟨d, c, _, _, rfl, S0.new hp1, .inl (.inl upd_same), (fun z => nomatch z), (by show 5 ≤ 1000; decide), fun v2 H2 hv2 S2 kp2 => ?_⟩
    obtain ⟨x2, rfl, x2a, x2b⟩ : ∃ z : Int, v2 = .int z ∧ 1 ≤ z ∧ z ≤ 1000 := by
      simp only [List.mem_cons, List.not_mem_nil, or_false] at hv2
      rcases hv2 with rfl | rfl | rfl | rfl | rfl <;> exact ⟨_, rfl, by decide, by decide⟩
    refine ⟨d, c, x2, rfl, S2, (by omega), (by omega), fun x3 H3 x3a x3b S3 kp3 => ?_⟩
    refine ⟨_, _, rfl, rfl, ?_⟩
    have kA : Keep d H H3 := ((Keep.of (same_new hp1)).trans kp2).trans kp3
    refine ⟨_, rfl, by decide, by decide, fun D hD => ?_⟩
    have nD : D ≠ d := S3.nd hD
    have nDc : D ≠ c := S3.nc hD
    refine lc_range (lo := 0) (n := 4) (fun i H' => ∃ ns : List Int, H' D = some (.lst (ns.map V.int)) ∧ ns.length = i ∧ (∀ x ∈ ns, -z ≤ x ∧ x ≤ z) ∧ St1 K H' d c ∧ Keep d H H') ⟨[], upd_same, rfl, (fun _ h => nomatch h), S3.new hD, kA.trans (Keep.of (same_new hD))⟩ ?_ ?_
    · rintro i H' hi ⟨ns, hc, hn, hb, S4, k4⟩
      refine ⟨rfl, ?_⟩
      refine yes_if ?_
      refine ⟨_, rfl, _, rfl, _, _, rfl, rfl, wmB (m := 30) (n := 30) (BdN.of (by decide) (by decide)) (BdN.of (by show -(1073741824 : Int) ≤ z; omega) (by show z ≤ (1073741824 : Int); omega)) (by decide) (by decide), _, _, rfl, rfl, ?_⟩
      refine ⟨d, c, 2 * z + 1, rfl, S4, (by omega), (by omega), fun x5 H5 x5a x5b S5 kp5 => ?_⟩
      have hH : H D = none := kA.none nD hD
      refine ⟨_, rfl, _, _, rfl, rfl, ns.map V.int, kp5 _ _ hc nD, by rw [List.length_map]; exact small1000 (by omega), ns ++ [x5 - z], ?_, ?_, ?_, ?_, ?_⟩
      · rw [upd_same, List.map_append]; rfl
      · rw [List.length_append, hn]; rfl
      · intro y hy
        rcases List.mem_append.mp hy with hy | hy
        · exact hb y hy
        · rw [List.mem_singleton.mp hy]; omega
      · exact S5.put nD nDc
      · intro b o e n
        rw [upd_ne (ne_of_none e hH)]
        exact kp5 _ _ (k4 b o e n) n
    · rintro H4 ⟨ns, hc, hn, hb, S4, k4⟩
      obtain ⟨n0, n1, n2, n3, rfl⟩ : ∃ n0 n1 n2 n3, ns = [n0, n1, n2, n3] := by
        match ns, hn with
        | [n0, n1, n2, n3], _ => exact ⟨n0, n1, n2, n3, rfl⟩
      have b0 := hb n0 (by simp); have b1 := hb n1 (by simp); have b2 := hb n2 (by simp); have b3 := hb n3 (by simp)
      have hH : H D = none := kA.none nD hD
      refine ⟨_, rfl, d, c, 6, rfl, S4, (by decide), (by decide), fun x6 H6 x6a x6b S6 kp6 => ?_⟩
      have hc6 : H6 D = some (.lst [.int n0, .int n1, .int n2, .int n3]) := kp6 _ _ hc nD
      have k6 := k4.trans kp6
      let I : L2.St → Hp → Prop := fun σ' H' => ∃ m0 m1 m2 m3 : Int, ∃ vk, σ' = [some (.ref d), some (.int z), some (.int (1 + x3)), some (.ref D), some (.int x6), vk] ∧ H' D = some (.lst [.int m0, .int m1, .int m2, .int m3]) ∧ (-z ≤ m0 ∧ m0 ≤ z ∧ -z ≤ m1 ∧ m1 ≤ z ∧ -z ≤ m2 ∧ m2 ≤ z ∧ -z ≤ m3 ∧ m3 ≤ z) ∧ St1 K H' d c ∧ Keep d H H'
      have putI : ∀ (m0 m1 m2 m3 : Int) vk (H' : Hp), (-z ≤ m0 ∧ m0 ≤ z ∧ -z ≤ m1 ∧ m1 ≤ z ∧ -z ≤ m2 ∧ m2 ≤ z ∧ -z ≤ m3 ∧ m3 ≤ z) → St1 K H' d c → Keep d H H' → I [some (.ref d), some (.int z), some (.int (1 + x3)), some (.ref D), some (.int x6), vk] (upd H' D (.lst [.int m0, .int m1, .int m2, .int m3])) := fun m0 m1 m2 m3 vk H' hm S k => ⟨m0, m1, m2, m3, vk, rfl, upd_same, hm, S.put nD nDc, fun b o e n => by
        rw [upd_ne (ne_of_none e hH)]
        exact k b o e n⟩
      have seg : ∀ (m0 m1 m2 m3 : Int), (-z ≤ m0 ∧ m0 ≤ z ∧ -z ≤ m1 ∧ m1 ≤ z ∧ -z ≤ m2 ∧ m2 ≤ z ∧ -z ≤ m3 ∧ m3 ≤ z) → SegBd 200 100 ⟨m0, m1, m2, m3, 1 + x3⟩ := fun m0 m1 m2 m3 hm => by
        have e1 : ((2 ^ 30 : Nat) : Int) = 1073741824 := by decide
        have q : ∀ x : Int, -z ≤ x → x ≤ z → BdN 200 x := fun x h1 h2 => (BdN.of (n := 30) (by rw [e1]; omega) (by rw [e1]; omega)).mono (by decide)
        exact ⟨q m0 (by omega) (by omega), q m1 (by omega) (by omega), q m2 (by omega) (by omega), q m3 (by omega) (by omega), (BdN.of (x := 1 + x3) (n := 30) (by rw [e1]; omega) (by rw [e1]; omega)).mono (by decide)⟩
      refine nm ?_
      dsimp only
      refine cut (t := tIfS _ _ _) I ?_ (fun rest => ?_)
      rotate_left
      · refine ⟨_, rfl, rfl, _, rfl, ite2 (fun e => ?_) (fun e => ?_)⟩
        · refine ⟨_, rfl, _, _, _, _, rfl, rfl, (.inl (.inl hc6)), rfl, _, rfl, D, _, _, _, rfl, rfl, hc6, rfl, ?_⟩
          refine ⟨_, rfl, _, _, _, _, rfl, rfl, (.inl (.inl upd_same)), rfl, _, rfl, D, _, _, _, rfl, rfl, upd_same, rfl, ?_⟩
          have P1 := putI n0 n1 n0 n3 none H6 (by omega) S6 k6
          obtain ⟨_, _, _, _, _, _, _, _, SP, kP⟩ := P1
          exact rest _ _ (putI n0 n1 n0 n1 none _ (by omega) SP kP)
        · exact rest _ _ ⟨n0, n1, n2, n3, _, rfl, hc6, (by omega), S6, k6⟩
      · rintro σ' H' ⟨m0, m1, m2, m3, vk, rfl, hl, hm, S7, k7⟩
        refine cut (t := tIfS _ _ _) I ?_ (fun rest => ?_)
        rotate_left
        · refine ⟨_, rfl, rfl, _, rfl, ite2 (fun e => ?_) (fun e => ?_)⟩
          · refine ⟨_, rfl, _, _, _, _, rfl, rfl, (.inl (.inl hl)), rfl, _, rfl, D, _, _, _, rfl, rfl, hl, rfl, ?_⟩
            exact rest _ _ (putI m0 m1 m0 m3 vk H' (by omega) S7 k7)
          · exact rest _ _ ⟨m0, m1, m2, m3, _, rfl, hl, hm, S7, k7⟩
        · rintro σ' H' ⟨m0, m1, m2, m3, vk, rfl, hl, hm, S7, k7⟩
          refine cut (t := tIfS _ _ _) I ?_ (fun rest => ?_)
          rotate_left
          · refine ⟨_, rfl, rfl, _, rfl, ite2 (fun e => ?_) (fun e => ?_)⟩
            · refine ⟨_, rfl, _, _, _, _, rfl, rfl, (.inl (.inl hl)), rfl, _, rfl, D, _, _, _, rfl, rfl, hl, rfl, ?_⟩
              exact rest _ _ (putI m0 m1 m2 m1 vk H' (by omega) S7 k7)
            · exact rest _ _ ⟨m0, m1, m2, m3, _, rfl, hl, hm, S7, k7⟩
          · rintro σ' H' ⟨m0, m1, m2, m3, vk, rfl, hl, hm, S7, k7⟩
            refine ⟨_, rfl, _, _, _, _, rfl, rfl, (.inl (.inl hl)), rfl, _, rfl, _, _, _, _, rfl, rfl, (.inl (.inl hl)), rfl, _, rfl, _, _, _, _, rfl, rfl, (.inl (.inl hl)), rfl, _, rfl, _, _, _, _, rfl, rfl, (.inl (.inl hl)), rfl, _, rfl, szOk rfl, fun p hp => ?_⟩
            exact k p ⟨m0, m1, m2, m3, 1 + x3⟩ _ (S7.new hp) (k7.trans (Keep.of (same_new hp))) upd_same (seg m0 m1 m2 m3 hm) (by show 1 ≤ 1 + x3; omega)
abbrev s_law_ring : Stmt := top 26
theorem sc_law_ring : FnScope ["state", "ring", "many", "start", "chosen", "wide", "high", "x", "y", "k", "point"] ["state"] (defScope s_law_ring) := ⟨rfl, rfl, rfl, by decide +kernel, rfl, by decide +kernel, by decide +kernel⟩
theorem ok_law_ring {f : Addr} {fd : FuncData} (F : Fun K "_law_ring" "_law_ring" s_law_ring f fd) (T : TxtA mg)
    (D_law_draw : Def P w K mg base 1 "_law_draw" ["state", "bound"] (spDraw K))
    (D_law_pick : Def P w K mg base 2 "_law_pick" ["state", "things"] (spPick K)) : FnOk P w K mg base CX0 3 f fd ["state"] (spRing K) := by
  refine F.ok sc_law_ring (fun vs H Q E h => ?_) (fun cdv A outer s H vs Q E hr h => ?_)
  · obtain ⟨_, _, rfl, _⟩ := h
    rfl
  · obtain ⟨d, c, rfl, S, k⟩ := h
    refine ⟨_, (pss_cons (ps_set (i := 1) sc_law_ring.nd rfl (Or.inr rfl) (pe_lst (pa_cons (pe_tup (pa_cons pe_int (pa_cons pe_int pa_nil))) (pa_cons (pe_tup (pa_cons pe_int (pa_cons pe_int pa_nil))) (pa_cons (pe_tup (pa_cons pe_int (pa_cons pe_int pa_nil))) (pa_cons (pe_tup (pa_cons pe_int (pa_cons pe_int pa_nil))) (pa_cons (pe_tup (pa_cons (pe_un un_neg pe_int) (pa_cons pe_int pa_nil))) (pa_cons (pe_tup (pa_cons (pe_un un_neg pe_int) (pa_cons pe_int pa_nil))) (pa_cons (pe_tup (pa_cons (pe_un un_neg pe_int) (pa_cons (pe_un un_neg pe_int) pa_nil))) (pa_cons (pe_tup (pa_cons pe_int (pa_cons (pe_un un_neg pe_int) pa_nil))) (pa_cons (pe_tup (pa_cons pe_int (pa_cons (pe_un un_neg pe_int) pa_nil))) pa_nil)))))))))))
    (pss_cons (ps_set (i := 2) sc_law_ring.nd rfl (Or.inr rfl) (pe_op op_add pe_int (pe_def D_law_draw (hr.mono (by decide)) (by rfl) (pa_cons (pv 0) (pa_cons pe_int pa_nil)))))
    (pss_cons (ps_set (i := 3) sc_law_ring.nd rfl (Or.inr rfl) (pe_def D_law_draw (hr.mono (by decide)) (by rfl) (pa_cons (pv 0) (pa_cons pe_int pa_nil))))
    (pss_cons (ps_setLc (i := 4) (own := [("k", 9)]) (g := gName 9) (by rfl) sc_law_ring.nd rfl rfl (sw_true rfl rfl rfl (by decide +kernel)) (pi_range1 (by rfl) T.range (pa_cons (pv 2) pa_nil)) (blkOk_by (own := [("k", 9)]) (N := ["state", "ring", "many", "start", "chosen", "wide", "high", "x", "y", "k", "point"]) (sc := defScope s_law_ring) (by decide +kernel)) (fun _ _ _ _ _ => (pg_name (i := 9) sc_law_ring.nd rfl (Or.inl rfl))) (fun _ _ _ _ _ => pts_nil) (fun _ _ _ _ _ => (pe_ix (r := rIxL K) ix_list (pv 1) (pe_op op_mod (pe_callTy call_int1 (by rfl) T.int boot_int (pa_cons (pe_op op_add (pv 3) (pe_op op_mulW (pv 9) (pe_op op_fdivW pe_int (pv 2)))) pa_nil)) pe_int) (fun _ _ => rfl))))
    (pss_cons (ps_set (i := 5) sc_law_ring.nd rfl (Or.inr rfl) (pe_op op_add pe_int (pe_def D_law_draw (hr.mono (by decide)) (by rfl) (pa_cons (pv 0) (pa_cons (pe_def D_law_pick (hr.mono (by decide)) (by rfl) (pa_cons (pv 0) (pa_cons (pe_lst (pa_cons pe_int (pa_cons pe_int (pa_cons pe_int pa_nil)))) pa_nil))) pa_nil)))))
    (pss_cons (ps_set (i := 6) sc_law_ring.nd rfl (Or.inr rfl) (pe_op op_add pe_int (pe_def D_law_draw (hr.mono (by decide)) (by rfl) (pa_cons (pv 0) (pa_cons (pe_def D_law_pick (hr.mono (by decide)) (by rfl) (pa_cons (pv 0) (pa_cons (pe_lst (pa_cons pe_int (pa_cons pe_int (pa_cons pe_int pa_nil)))) pa_nil))) pa_nil)))))
    (pss_cons (ps_set (i := 7) sc_law_ring.nd rfl (Or.inr rfl) (pe_op op_sub (pe_def D_law_draw (hr.mono (by decide)) (by rfl) (pa_cons (pv 0) (pa_cons pe_int pa_nil))) pe_int))
    (pss_cons (ps_set (i := 8) sc_law_ring.nd rfl (Or.inr rfl) (pe_op op_sub (pe_def D_law_draw (hr.mono (by decide)) (by rfl) (pa_cons (pv 0) (pa_cons pe_int pa_nil))) pe_int))
    (pss_one (ps_ret (pe_lc (own := [("point", 10)]) (g := gName 10) (by rfl) sc_law_ring.nd (pi_list (pv 4)) (blkOk_by (own := [("point", 10)]) (N := ["state", "ring", "many", "start", "chosen", "wide", "high", "x", "y", "k", "point"]) (sc := defScope s_law_ring) (by decide +kernel)) (fun _ _ _ _ _ => (pg_name (i := 10) sc_law_ring.nd rfl (Or.inl rfl))) (fun _ _ _ _ _ => pts_nil) (fun _ _ _ _ _ => (pe_tup (pa_cons (pe_op op_add (pv 7) (pe_op op_mulW (pv 5) (pe_ix (r := rIxT K) ix_tup (pv 10) pe_int (fun _ _ => rfl)))) (pa_cons (pe_op op_add (pv 8) (pe_op op_mulW (pv 6) (pe_ix (r := rIxT K) ix_tup (pv 10) pe_int (fun _ _ => rfl)))) pa_nil))))))))))))))), ?_⟩
    rw [show L2.start ["state", "ring", "many", "start", "chosen", "wide", "high", "x", "y", "k", "point"] [V.ref d] = [some (V.ref d), none, none, none, none, none, none, none, none, none, none] from rfl]
    have s0 : Same H H := Same.refl H
    refine ⟨szOk rfl, fun p1 hp1 => ?_⟩
    have m1 := same_new (o := (HO.tup [.int 4, .int 0])) hp1
    have s1 := s0.trans m1
    have f1 : (upd H p1 (HO.tup [.int 4, .int 0])) p1 = some (ptO (4, 0)) := upd_same
    generalize upd H p1 (HO.tup [.int 4, .int 0]) = H1 at m1 s1 f1  ⊢
    clear hp1
    refine ⟨szOk rfl, fun p2 hp2 => ?_⟩
    have m2 := same_new (o := (HO.tup [.int 3, .int 2])) hp2
    have s2 := s1.trans m2
    have f2 : (upd H1 p2 (HO.tup [.int 3, .int 2])) p2 = some (ptO (3, 2)) := upd_same
    have f1 := m2 _ _ f1
    generalize upd H1 p2 (HO.tup [.int 3, .int 2]) = H2 at m2 s2 f2 f1 ⊢
    clear hp2
    refine ⟨szOk rfl, fun p3 hp3 => ?_⟩
    have m3 := same_new (o := (HO.tup [.int 2, .int 3])) hp3
    have s3 := s2.trans m3
    have f3 : (upd H2 p3 (HO.tup [.int 2, .int 3])) p3 = some (ptO (2, 3)) := upd_same
    have f1 := m3 _ _ f1
    have f2 := m3 _ _ f2
    generalize upd H2 p3 (HO.tup [.int 2, .int 3]) = H3 at m3 s3 f3 f1 f2 ⊢
    clear hp3
    refine ⟨szOk rfl, fun p4 hp4 => ?_⟩
    have m4 := same_new (o := (HO.tup [.int 0, .int 4])) hp4
    have s4 := s3.trans m4
    have f4 : (upd H3 p4 (HO.tup [.int 0, .int 4])) p4 = some (ptO (0, 4)) := upd_same
    have f1 := m4 _ _ f1
    have f2 := m4 _ _ f2
    have f3 := m4 _ _ f3
    generalize upd H3 p4 (HO.tup [.int 0, .int 4]) = H4 at m4 s4 f4 f1 f2 f3 ⊢
    clear hp4
    refine ⟨_, rfl, szOk rfl, fun p5 hp5 => ?_⟩
    have m5 := same_new (o := (HO.tup [.int (-3), .int 3])) hp5
    have s5 := s4.trans m5
    have f5 : (upd H4 p5 (HO.tup [.int (-3), .int 3])) p5 = some (ptO (-3, 3)) := upd_same
    have f1 := m5 _ _ f1
    have f2 := m5 _ _ f2
    have f3 := m5 _ _ f3
    have f4 := m5 _ _ f4
    generalize upd H4 p5 (HO.tup [.int (-3), .int 3]) = H5 at m5 s5 f5 f1 f2 f3 f4 ⊢
    clear hp5
    refine ⟨_, rfl, szOk rfl, fun p6 hp6 => ?_⟩
    have m6 := same_new (o := (HO.tup [.int (-4), .int 0])) hp6
    have s6 := s5.trans m6
    have f6 : (upd H5 p6 (HO.tup [.int (-4), .int 0])) p6 = some (ptO (-4, 0)) := upd_same
    have f1 := m6 _ _ f1
    have f2 := m6 _ _ f2
    have f3 := m6 _ _ f3
    have f4 := m6 _ _ f4
    have f5 := m6 _ _ f5
    generalize upd H5 p6 (HO.tup [.int (-4), .int 0]) = H6 at m6 s6 f6 f1 f2 f3 f4 f5 ⊢
    clear hp6
    refine ⟨_, rfl, _, rfl, szOk rfl, fun p7 hp7 => ?_⟩
    have m7 := same_new (o := (HO.tup [.int (-3), .int (-3)])) hp7
    have s7 := s6.trans m7
    have f7 : (upd H6 p7 (HO.tup [.int (-3), .int (-3)])) p7 = some (ptO (-3, -3)) := upd_same
    have f1 := m7 _ _ f1
    have f2 := m7 _ _ f2
    have f3 := m7 _ _ f3
    have f4 := m7 _ _ f4
    have f5 := m7 _ _ f5
    have f6 := m7 _ _ f6
    generalize upd H6 p7 (HO.tup [.int (-3), .int (-3)]) = H7 at m7 s7 f7 f1 f2 f3 f4 f5 f6 ⊢
    clear hp7
    refine ⟨_, rfl, szOk rfl, fun p8 hp8 => ?_⟩
    have m8 := same_new (o := (HO.tup [.int 0, .int (-4)])) hp8
    have s8 := s7.trans m8
    have f8 : (upd H7 p8 (HO.tup [.int 0, .int (-4)])) p8 = some (ptO (0, -4)) := upd_same
    have f1 := m8 _ _ f1
    have f2 := m8 _ _ f2
    have f3 := m8 _ _ f3
    have f4 := m8 _ _ f4
    have f5 := m8 _ _ f5
    have f6 := m8 _ _ f6
    have f7 := m8 _ _ f7
    generalize upd H7 p8 (HO.tup [.int 0, .int (-4)]) = H8 at m8 s8 f8 f1 f2 f3 f4 f5 f6 f7 ⊢
    clear hp8
    refine ⟨_, rfl, szOk rfl, fun p9 hp9 => ?_⟩
    have m9 := same_new (o := (HO.tup [.int 3, .int (-3)])) hp9
    have s9 := s8.trans m9
    have f9 : (upd H8 p9 (HO.tup [.int 3, .int (-3)])) p9 = some (ptO (3, -3)) := upd_same
    have f1 := m9 _ _ f1
    have f2 := m9 _ _ f2
    have f3 := m9 _ _ f3
    have f4 := m9 _ _ f4
    have f5 := m9 _ _ f5
    have f6 := m9 _ _ f6
    have f7 := m9 _ _ f7
    have f8 := m9 _ _ f8
    generalize upd H8 p9 (HO.tup [.int 3, .int (-3)]) = H9 at m9 s9 f9 f1 f2 f3 f4 f5 f6 f7 f8 ⊢
    clear hp9
    refine ⟨szOk rfl, fun rg hrg => ?_⟩
    have mq := same_new (o := .lst [.ref p1, .ref p2, .ref p3, .ref p4, .ref p5, .ref p6, .ref p7, .ref p8, .ref p9]) hrg
    have R0 : PsAt (upd H9 rg (.lst [.ref p1, .ref p2, .ref p3, .ref p4, .ref p5, .ref p6, .ref p7, .ref p8, .ref p9])) [.ref p1, .ref p2, .ref p3, .ref p4, .ref p5, .ref p6, .ref p7, .ref p8, .ref p9] [(4, 0), (3, 2), (2, 3), (0, 4), (-3, 3), (-4, 0), (-3, -3), (0, -4), (3, -3)] := by
      refine ⟨⟨[(p1, (4, 0)), (p2, (3, 2)), (p3, (2, 3)), (p4, (0, 4)), (p5, (-3, 3)), (p6, (-4, 0)), (p7, (-3, -3)), (p8, (0, -4)), (p9, (3, -3))], rfl, fun z hz => ?_, rfl⟩, fun z hz => In4.b ?_⟩
      · simp only [List.mem_cons, List.not_mem_nil, or_false] at hz
        rcases hz with rfl | rfl | rfl | rfl | rfl | rfl | rfl | rfl | rfl
        · exact mq _ _ f1
        · exact mq _ _ f2
        · exact mq _ _ f3
        · exact mq _ _ f4
        · exact mq _ _ f5
        · exact mq _ _ f6
        · exact mq _ _ f7
        · exact mq _ _ f8
        · exact mq _ _ f9
      · simp only [List.mem_cons, List.not_mem_nil, or_false] at hz
        rcases hz with rfl | rfl | rfl | rfl | rfl | rfl | rfl | rfl | rfl <;> exact ⟨by decide, by decide, by decide, by decide⟩
    have R4 : ∀ j, j < 9 → ∃ p : Pt, ([(4, 0), (3, 2), (2, 3), (0, 4), (-3, 3), (-4, 0), (-3, -3), (0, -4), (3, -3)] : List Pt)[j]? = some p ∧ In4 p := fun j hj => by
      rcases (by omega : j = 0 ∨ j = 1 ∨ j = 2 ∨ j = 3 ∨ j = 4 ∨ j = 5 ∨ j = 6 ∨ j = 7 ∨ j = 8) with rfl | rfl | rfl | rfl | rfl | rfl | rfl | rfl | rfl <;> exact ⟨_, rfl, by decide, by decide, by decide, by decide⟩
    have Srg := (S.same s9).same mq
    have sA := s9.trans mq
    have er : (upd H9 rg (.lst [.ref p1, .ref p2, .ref p3, .ref p4, .ref p5, .ref p6, .ref p7, .ref p8, .ref p9])) rg = some (.lst [.ref p1, .ref p2, .ref p3, .ref p4, .ref p5, .ref p6, .ref p7, .ref p8, .ref p9]) := upd_same
    generalize upd H9 rg (.lst [.ref p1, .ref p2, .ref p3, .ref p4, .ref p5, .ref p6, .ref p7, .ref p8, .ref p9]) = G0 at R0 Srg sA er mq ⊢
    clear mq hrg f1 m1 s1 f2 m2 s2 f3 m3 s3 f4 m4 s4 f5 m5 s5 f6 m6 s6 f7 m7 s7 f8 m8 s8 f9 m9 s9
    generalize ([.ref p1, .ref p2, .ref p3, .ref p4, .ref p5, .ref p6, .ref p7, .ref p8, .ref p9] : List V) = rvs at R0 er
    generalize ([(4, 0), (3, 2), (2, 3), (0, 4), (-3, 3), (-4, 0), (-3, -3), (0, -4), (3, -3)] : List Pt) = rps at R0 R4
    have rl : ∀ z : Int, ∃ (q : Addr) (p : Pt), atI rvs (z % 9) = some (.ref q) ∧ ∀ G, Same G0 G → G q = some (ptO p) ∧ In4 p := fun z => by
      obtain ⟨j, ej, hj⟩ : ∃ j : Nat, z % 9 = (j : Int) ∧ j < 9 := ⟨(z % 9).toNat, by omega, by omega⟩
      obtain ⟨p, hp, h4⟩ := R4 j hj
      obtain ⟨hlen, ep⟩ := List.getElem?_eq_some_iff.mp hp
      obtain ⟨q, e1, e2, _⟩ := R0.get hlen
      rw [ep] at e2
      exact ⟨q, p, by rw [ej]; exact atI_nat e1, fun G s => ⟨s _ _ e2, h4⟩⟩
    refine nm ?_
    dsimp only [List.set]
    refine ⟨_, rfl, d, c, _, rfl, Srg, (by omega), (by omega), fun x1 G1 x1a x1b S1 kp1 => ?_⟩
    obtain ⟨mn, rfl⟩ : ∃ mn : Nat, x1 = (mn : Int) := ⟨x1.toNat, by omega⟩
    refine ⟨_, _, rfl, rfl, ?_⟩
    refine nm ?_
    dsimp only [List.set]
    refine ⟨_, rfl, d, c, _, rfl, S1, (by omega), (by omega), fun x2 G2 x2a x2b S2 kp2 => ?_⟩
    refine nm ?_
    dsimp only [List.set]
    have k02 := kp1.trans kp2
    have er2 := kp2.l S1 (kp1.l Srg er)
    have rl2 : ∀ z : Int, ∃ (q : Addr) (p : Pt), atI rvs (z % 9) = some (.ref q) ∧ ∀ G, Same G2 G → G q = some (ptO p) ∧ In4 p := fun z => by
      obtain ⟨q, p, e1, e2⟩ := rl z
      obtain ⟨e3, e4⟩ := e2 G0 (Same.refl _)
      exact ⟨q, p, e1, fun G s => ⟨s _ _ (kp2.t S1 (kp1.t Srg e3)), e4⟩⟩
    refine ⟨_, rfl, _, rfl, by omega, by omega, fun l hl => ?_⟩
    refine lc_range (lo := 0) (n := (2 + (mn : Int)).toNat) (fun i G => Same G2 G ∧ ∃ xs ps, G l = some (.lst xs) ∧ PsAt G xs ps ∧ ps.length = i ∧ ∀ p ∈ ps, In4 p) ⟨same_new hl, [], [], upd_same, ⟨⟨[], rfl, (fun q hq => nomatch hq), rfl⟩, fun p hp => nomatch hp⟩, rfl, fun p hp => nomatch hp⟩ ?_ ?_
    · rintro i G hi ⟨sm, xs, ps, h1, h2, h3, h4⟩
      obtain ⟨q, p, e1, e2⟩ := rl2 (x2 + (0 + (i : Int)) * (9 / (2 + (mn : Int))))
      obtain ⟨e3, e4⟩ := e2 G sm
      have d0 : 0 ≤ (9 : Int) / (2 + (mn : Int)) := Int.ediv_nonneg (by decide) (by omega)
      have d9 : (9 : Int) / (2 + (mn : Int)) ≤ 9 := Int.ediv_le_self _ (by decide)
      refine ⟨rfl, ?_⟩
      refine ⟨_, rfl, _, rfl, _, rfl, _, rfl, _, _, rfl, rfl, log_of (by omega) (by omega), _, _, rfl, rfl, wmB (bd100k (by omega) (by omega)) (bd100k (by omega) (by omega)) (by decide) (by decide), _, _, rfl, rfl, .inl ⟨_, rfl, _, _, rfl, rfl, (by show (0 : Int) < 9; decide), _, _, _, _, rfl, rfl, .inl (.inl (sm _ _ er2)), e1, ?_⟩⟩
      have sl : Same G2 (upd G l (.lst (xs ++ [.ref q]))) := fun b o e => by
        rw [upd_ne (ne_of_none e hl)]
        exact sm _ _ e
      have t1 : ∀ b ys, G b = some (.tup ys) → (upd G l (.lst (xs ++ [.ref q]))) b = some (.tup ys) := fun b ys e => by rw [upd_ne (ne_of e h1 (by intro z; cases z))]; exact e
      refine ⟨xs, h1, small1000 (by rw [h2.len]; omega), sl, xs ++ [.ref q], ps ++ [p], upd_same, (h2.tk t1).snoc (t1 _ _ e3) (In4.b e4), by rw [List.length_append, h3]; rfl, fun u hu => ?_⟩
      rcases List.mem_append.mp hu with hu | hu
      · exact h4 u hu
      · rw [List.mem_singleton.mp hu]; exact e4
    rintro G3 ⟨sm, xs, ps, h1, h2, h3, h4⟩
    have S3 := S2.same sm
    have k03 := k02.trans (Keep.of sm)
    clear rl rl2 R4 R0 er er2
    refine nm ?_
    dsimp only [List.set]
    refine ⟨_, rfl, _, rfl, szOk rfl, fun q4 hq4 => ?_⟩
    refine ⟨d, c, _, _, rfl, S3.new hq4, .inl (.inl upd_same), (fun z => nomatch z), (by show 3 ≤ 1000; decide), fun v4 G4 hv4 S4 kp4 => ?_⟩
    obtain ⟨b4, rfl, b4a, b4b⟩ : ∃ z : Int, v4 = .int z ∧ 2 ≤ z ∧ z ≤ 20000 := by
      simp only [List.mem_cons, List.not_mem_nil, or_false] at hv4
      rcases hv4 with rfl | rfl | rfl <;> exact ⟨_, rfl, by decide, by decide⟩
    refine ⟨d, c, b4, rfl, S4, (by omega), (by omega), fun wd G4' wda wdb S4' kp4' => ?_⟩
    refine ⟨_, _, rfl, rfl, ?_⟩
    have kk4 := ((Keep.of (d := d) (same_new (o := .lst [.int 2, .int 20, .int 20000]) hq4)).trans kp4).trans kp4'
    have h1 := kp4'.l S4 (kp4.l (S3.new hq4) (same_new (o := .lst [.int 2, .int 20, .int 20000]) hq4 _ _ h1))
    have h2 := h2.tk fun b ys e => kp4'.t S4 (kp4.t (S3.new hq4) (same_new (o := .lst [.int 2, .int 20, .int 20000]) hq4 _ _ e))
    refine nm ?_
    dsimp only [List.set]
    refine ⟨_, rfl, _, rfl, szOk rfl, fun q5 hq5 => ?_⟩
    refine ⟨d, c, _, _, rfl, S4'.new hq5, .inl (.inl upd_same), (fun z => nomatch z), (by show 3 ≤ 1000; decide), fun v5 G5 hv5 S5 kp5 => ?_⟩
    obtain ⟨b5, rfl, b5a, b5b⟩ : ∃ z : Int, v5 = .int z ∧ 2 ≤ z ∧ z ≤ 20000 := by
      simp only [List.mem_cons, List.not_mem_nil, or_false] at hv5
      rcases hv5 with rfl | rfl | rfl <;> exact ⟨_, rfl, by decide, by decide⟩
    refine ⟨d, c, b5, rfl, S5, (by omega), (by omega), fun hg G5' hga hgb S5' kp5' => ?_⟩
    refine ⟨_, _, rfl, rfl, ?_⟩
    have kk5 := ((Keep.of (d := d) (same_new (o := .lst [.int 2, .int 20, .int 20000]) hq5)).trans kp5).trans kp5'
    have h1 := kp5'.l S5 (kp5.l (S4'.new hq5) (same_new (o := .lst [.int 2, .int 20, .int 20000]) hq5 _ _ h1))
    have h2 := h2.tk fun b ys e => kp5'.t S5 (kp5.t (S4'.new hq5) (same_new (o := .lst [.int 2, .int 20, .int 20000]) hq5 _ _ e))
    refine nm ?_
    dsimp only [List.set]
    refine ⟨_, rfl, d, c, _, rfl, S5', (by omega), (by omega), fun x6 G6 x6a x6b S6 kp6 => ?_⟩
    refine ⟨_, _, rfl, rfl, ?_⟩
    have h1 := kp6.l S5' h1
    have h2 := h2.tk fun b ys e => kp6.t S5' e
    refine nm ?_
    dsimp only [List.set]
    refine ⟨_, rfl, d, c, _, rfl, S6, (by omega), (by omega), fun x7 G7 x7a x7b S7 kp7 => ?_⟩
    refine ⟨_, _, rfl, rfl, ?_⟩
    have h1 := kp7.l S6 h1
    have h2 := h2.tk fun b ys e => kp7.t S6 e
    refine nm ?_
    dsimp only [List.set]
    have kA := (((k03.trans kk4).trans kk5).trans kp6).trans kp7
    clear k03 kk4 kk5 kp6 k02
    obtain ⟨hpl, hps⟩ : ps.length = mn + 2 ∧ mn < 8 := ⟨by rw [h3]; omega, by omega⟩
    refine ⟨_, rfl, l, rfl, ⟨_, .inl (.inl h1)⟩, fun l2 hl2 => ?_⟩
    have n2d : l2 ≠ d := S7.nd hl2
    refine lc_list (K := K) (a := l) (xs := xs) (fun i G => Same G7 G ∧ ∃ ys qs, G l2 = some (.lst ys) ∧ PsAt G ys qs ∧ qs.length = i) ⟨same_new hl2, [], [], upd_same, ⟨⟨[], rfl, (fun q hq => nomatch hq), rfl⟩, fun p hp => nomatch hp⟩, rfl⟩ (fun i G _ h => .inl (.inl (h.1 _ _ h1))) ?_ ?_
    · rintro i y G hi ⟨sm, ys, qs, g1, g2, g3⟩
      have hil := (List.getElem?_eq_some_iff.mp hi).1
      rw [h2.len] at hil
      obtain ⟨q, e1, e2, _⟩ := h2.get hil
      rw [hi] at e1
      cases e1
      have e2 : G q = some (.tup [.int ps[i].1, .int ps[i].2]) := sm _ _ e2
      obtain ⟨i0, i1, i2, i3⟩ := h4 _ (List.getElem_mem hil)
      obtain ⟨w0, w1⟩ := mul4 (w := 1 + wd) (p := ps[i].1) (by omega) (by omega) i0 i1
      obtain ⟨v0, v1⟩ := mul4 (w := 1 + hg) (p := ps[i].2) (by omega) (by omega) i2 i3
      refine ⟨rfl, ?_⟩
      refine ⟨_, rfl, _, rfl, _, rfl, _, _, _, _, rfl, rfl, .inl (.inl e2), rfl, _, _, rfl, rfl, wmB (bd100k (by omega) (by omega)) (bd100k (by omega) (by omega)) (by decide) (by decide), _, _, rfl, rfl, _, rfl, _, rfl, _, rfl, _, _, _, _, rfl, rfl, .inl (.inl e2), rfl, _, _, rfl, rfl, wmB (bd100k (by omega) (by omega)) (bd100k (by omega) (by omega)) (by decide) (by decide), _, _, rfl, rfl, szOk rfl, fun t ht => ?_⟩
      have s1 := same_new (o := ptO (x6 - 20 + (1 + wd) * ps[i].1, x7 - 20 + (1 + hg) * ps[i].2)) ht
      have g1' := s1 _ _ g1
      have et : (upd G t (ptO (x6 - 20 + (1 + wd) * ps[i].1, x7 - 20 + (1 + hg) * ps[i].2))) t = some (ptO (x6 - 20 + (1 + wd) * ps[i].1, x7 - 20 + (1 + hg) * ps[i].2)) := upd_same
      have sG := sm.trans s1
      have g2' := g2.tk fun b ys e => s1 _ _ e
      refine ⟨ys, g1', small1000 (by rw [g2.len]; omega), fun b o e => ?_, ys ++ [.ref t], qs ++ [_], upd_same, (g2'.tk fun b zs e => ?_).snoc (p := (x6 - 20 + (1 + wd) * ps[i].1, x7 - 20 + (1 + hg) * ps[i].2)) ?_ ⟨?_, ?_, ?_, ?_⟩, by rw [List.length_append, g3]; rfl⟩
      · rw [upd_ne (ne_of_none e hl2)]
        exact sG _ _ e
      · exact (upd_ne (ne_of e g1' (by intro z; cases z))).trans e
      · exact (upd_ne (ne_of et g1' (by intro z; cases z))).trans et
      · show -100000 ≤ x6 - 20 + (1 + wd) * ps[i].1; omega
      · show x6 - 20 + (1 + wd) * ps[i].1 ≤ 100000; omega
      · show -100000 ≤ x7 - 20 + (1 + hg) * ps[i].2; omega
      · show x7 - 20 + (1 + hg) * ps[i].2 ≤ 100000; omega
    rintro G8 ⟨sm, ys, qs, g1, g2, g3⟩
    rw [h2.len] at g3
    have kB := (Keep.of (d := d) sA).trans kA
    exact k l2 ys qs G8 (kB.none n2d hl2) g1 g2 (by omega) (by omega) (S7.same sm) (kB.trans (Keep.of sm))
end
end Sk

set_option Elab.async false
set_option linter.all false
set_option maxRecDepth 100000
set_option maxHeartbeats 4000000
namespace Sk
open PySem PySem.Spec PyProof.Rows L2
theorem keepPut {d l : Addr} {H H1 : Hp} {o : HO} (k : Keep d H H1) (h : H l = none) : Keep d H (upd H1 l o) := fun b u e n => by
  rw [upd_ne (ne_of_none e h)]
  exact k b u e n
theorem ixN0 {n : Nat} (h : 0 < n) : ixN n 0 = some 0 := by
  unfold ixN
  rw [if_pos (by decide), if_pos (by omega)]
  rfl
theorem ixNn {n j : Nat} (h : j < n) : ixN n (j : Int) = some j := by
  unfold ixN
  rw [if_pos (by omega), if_pos (by omega)]
  rfl
section
variable {P : Program} {w : World} {K : PySem.W.Frag} {mg : Str → Option Value} {base : Heap}
abbrev s_law_spoilt : Stmt := top 27
theorem sc_law_spoilt : FnScope ["state", "points", "at", "kind", "low", "other"] ["state", "points"] (defScope s_law_spoilt) := ⟨rfl, rfl, rfl, by decide +kernel, rfl, by decide +kernel, by decide +kernel⟩
theorem ok_law_spoilt {f : Addr} {fd : FuncData} (F : Fun K "_law_spoilt" "_law_spoilt" s_law_spoilt f fd) (T : TxtA mg)
    (D_law_draw : Def P w K mg base 1 "_law_draw" ["state", "bound"] (spDraw K)) : FnOk P w K mg base CX0 3 f fd ["state", "points"] (spSpoilt K) := by
  refine F.ok sc_law_spoilt (fun vs H Q E h => ?_) (fun cdv A outer s H vs Q E hr h => ?_)
  · obtain ⟨_, _, _, _, _, rfl, _⟩ := h
    rfl
  · obtain ⟨d, c, l, xs, ps, rfl, S, h1, h2, hl2', hl9, k⟩ := h
    refine ⟨_, (pss_cons (ps_set (i := 1) sc_law_spoilt.nd rfl (Or.inl rfl) (pe_callTy call_list_of (by rfl) T.list boot_list (pa_cons (pv 1) pa_nil)))
    (pss_cons (ps_set (i := 2) sc_law_spoilt.nd rfl (Or.inl rfl) (pe_def D_law_draw (hr.mono (by decide)) (by rfl) (pa_cons (pv 0) (pa_cons (pe_callB (r := rLenK K) call_len_seq (by rfl) T.len boot_len (pa_cons (pv 1) pa_nil)) pa_nil))))
    (pss_cons (ps_set (i := 3) sc_law_spoilt.nd rfl (Or.inl rfl) (pe_def D_law_draw (hr.mono (by decide)) (by rfl) (pa_cons (pv 0) (pa_cons pe_int pa_nil))))
    (pss_cons (ps_if (pt_cmpR op_eq (pv 3) pe_int (nomark _)) (pss_one (ps_expr (pe_bm0 PySem.F.plainAttrs_list PySem.F.slot_list_reverse PySem.F.type_list_reverse mt_reverse (pv 1))))
      pss_nil)
    (pss_cons (ps_if (pt_cmpR op_eq (pv 3) pe_int (nomark _)) (pss_one (ps_expr (pe_bm PySem.F.plainAttrs_list PySem.F.slot_list_insert PySem.F.type_list_insert mt_insert (pv 1) (pa_cons (pv 2) (pa_cons (pe_ix (r := rIxL K) ix_list (pv 1) (pv 2) (fun _ _ => rfl)) pa_nil)))))
      pss_nil)
    (pss_cons (ps_if (pt_cmpR op_eq (pv 3) pe_int (nomark _)) (pss_cons (ps_set (i := 4) sc_law_spoilt.nd rfl (Or.inl rfl) (pe_ix (r := rIxL K) ix_list (pv 1) (pe_op op_sub (pv 2) pe_int) (fun _ _ => rfl)))
    (pss_one (ps_expr (pe_bm PySem.F.plainAttrs_list PySem.F.slot_list_insert PySem.F.type_list_insert mt_insert (pv 1) (pa_cons (pv 2) (pa_cons (pe_tup (pa_cons (pe_op op_fdivW (pe_op op_add (pe_ix (r := rIxT K) ix_tup (pv 4) pe_int (fun _ _ => rfl)) (pe_ix (r := rIxT K) ix_tup (pe_ix (r := rIxL K) ix_list (pv 1) (pv 2) (fun _ _ => rfl)) pe_int (fun _ _ => rfl))) pe_int) (pa_cons (pe_op op_fdivW (pe_op op_add (pe_ix (r := rIxT K) ix_tup (pv 4) pe_int (fun _ _ => rfl)) (pe_ix (r := rIxT K) ix_tup (pe_ix (r := rIxL K) ix_list (pv 1) (pv 2) (fun _ _ => rfl)) pe_int (fun _ _ => rfl))) pe_int) pa_nil))) pa_nil))))))
      pss_nil)
    (pss_cons (ps_if (pt_cmpR op_eq (pv 3) pe_int (nomark _)) (pss_cons (ps_set (i := 5) sc_law_spoilt.nd rfl (Or.inl rfl) (pe_ix (r := rIxL K) ix_list (pv 1) pe_int (fun _ _ => rfl)))
    (pss_cons (ps_asg (pe_ix (r := rIxL K) ix_list (pv 1) (pv 2) (fun _ _ => rfl)) (pg_sub (pv 1) pe_int set_list))
    (pss_one (ps_asg (pv 5) (pg_sub (pv 1) (pv 2) set_list)))))
      pss_nil)
    (pss_one (ps_ret (pe_callTy call_tuple_of (by rfl) T.tuple boot_tuple (pa_cons (pv 1) pa_nil))))))))))), ?_⟩
    rw [show L2.start ["state", "points", "at", "kind", "low", "other"] [V.ref d, V.ref l] = [some (V.ref d), some (V.ref l), none, none, none, none] from rfl]
    refine ⟨_, rfl, _, _, rfl, .inl (.inl (.inl h1)), fun l1 hl1 => ?_⟩
    have sm := same_new (o := .lst xs) hl1
    have n1d := S.nd hl1
    have n1c := S.nc hl1
    have S1 := S.same sm
    have h1 : (upd H l1 (.lst xs)) l1 = some (.lst xs) := upd_same
    have h2 := h2.tk fun b ys e => sm _ _ e
    have kA : Keep d H (upd H l1 (.lst xs)) := Keep.of sm
    generalize upd H l1 (.lst xs) = G1 at h1 h2 S1 kA ⊢
    refine nm ?_
    dsimp only [List.set]
    refine ⟨_, rfl, _, rfl, _, _, rfl, .inl (.inl (.inl h1)), d, c, _, rfl, S1, (by rw [h2.len]; omega), (by rw [h2.len]; omega), fun x2 G2 x2a x2b S2 kp2 => ?_⟩
    rw [h2.len] at x2b
    obtain ⟨at_, rfl⟩ : ∃ at_ : Nat, x2 = (at_ : Int) := ⟨x2.toNat, by omega⟩
    have ha : at_ < ps.length := by omega
    have h1 := kp2.l S1 h1
    have h2 := h2.tk fun b ys e => kp2.t S1 e
    have kA := kA.trans kp2
    refine nm ?_
    dsimp only [List.set]
    refine ⟨_, rfl, d, c, _, rfl, S2, (by omega), (by omega), fun kd G3 kda kdb S3 kp3 => ?_⟩
    have h1 := kp3.l S2 h1
    have h2 := h2.tk fun b ys e => kp3.t S2 e
    have kA := kA.trans kp3
    clear S S1 S2 kp2 kp3 sm
    have hmx := hl9
    have hl2 := hl2'
    refine nm ?_
    dsimp only [List.set]
    refine cut (t := tIfS _ _ _) (fun σ' G => ∃ (v4 v5 : Option V) (xs : List V) (ps : List Pt), σ' = [some (.ref d), some (.ref l1), some (.int (at_ : Nat)), some (.int kd), v4, v5] ∧ St1 K G d c ∧ Keep d H G ∧ G l1 = some (.lst xs) ∧ PsAt G xs ps ∧ at_ < ps.length ∧ 2 ≤ ps.length ∧ ps.length ≤ 9) ?_ (fun rest => ?_)
    rotate_left
    · refine ⟨_, rfl, rfl, _, rfl, ?_⟩
      by_cases e : kd = 0
      rotate_left
      · exact eqN e (rest _ _ ⟨_, _, xs, ps, rfl, S3, kA, h1, h2, ha, hl2, by omega⟩)
      refine eqY e ?_
      have tk1 : ∀ b ys, G3 b = some (.tup ys) → (upd G3 l1 (.lst (xs.reverse))) b = some (.tup ys) := fun b ys e => (upd_ne (ne_of e h1 (by intro z; cases z))).trans e
      have kB := keepPut kA hl1 (o := .lst (xs.reverse))
      have SB := S3.put (o := .lst (xs.reverse)) n1d n1c
      refine ⟨_, rfl, .inl ⟨rfl, _, .inl (.inl h1)⟩, _, _, rfl, rfl, h1, ?_⟩
      exact rest _ _ ⟨_, _, _, ps.reverse, rfl, SB, kB, upd_same, h2.rev.tk tk1, by rw [List.length_reverse]; exact ha, by rw [List.length_reverse]; exact hl2, by rw [List.length_reverse]; omega⟩
    clear h1 h2 ha hl2 hmx kA S3
    rintro σ' G ⟨v4, v5, xs, ps, rfl, S3, kA, h1, h2, ha, hl2, hmx⟩
    refine cut (t := tIfS _ _ _) (fun σ' G => ∃ (v4 v5 : Option V) (xs : List V) (ps : List Pt), σ' = [some (.ref d), some (.ref l1), some (.int (at_ : Nat)), some (.int kd), v4, v5] ∧ St1 K G d c ∧ Keep d H G ∧ G l1 = some (.lst xs) ∧ PsAt G xs ps ∧ at_ < ps.length ∧ 2 ≤ ps.length ∧ ps.length ≤ 10) ?_ (fun rest => ?_)
    rotate_left
    · refine ⟨_, rfl, rfl, _, rfl, ?_⟩
      by_cases e : kd = 1
      rotate_left
      · exact eqN e (rest _ _ ⟨_, _, xs, ps, rfl, S3, kA, h1, h2, ha, hl2, by omega⟩)
      refine eqY e ?_
      obtain ⟨q, e1, e2, e3⟩ := h2.get ha
      have tk1 : ∀ b ys, G b = some (.tup ys) → (upd G l1 (.lst (xs.take at_ ++ [.ref q] ++ xs.drop at_))) b = some (.tup ys) := fun b ys e => (upd_ne (ne_of e h1 (by intro z; cases z))).trans e
      have kB := keepPut kA hl1 (o := .lst (xs.take at_ ++ [.ref q] ++ xs.drop at_))
      have SB := S3.put (o := .lst (xs.take at_ ++ [.ref q] ++ xs.drop at_)) n1d n1c
      refine ⟨_, rfl, .inl ⟨rfl, _, .inl (.inl h1)⟩, _, rfl, _, rfl, _, rfl, _, _, _, _, rfl, rfl, .inl (.inl h1), atI_nat e1, _, xs, at_, _, rfl, rfl, h1, small1000 (by rw [h2.len]; omega), (by omega), (by omega), ?_⟩
      rw [Int.toNat_natCast]
      refine rest _ _ ⟨_, _, _, ps.take at_ ++ [ps[at_]] ++ ps.drop at_, rfl, SB, kB, upd_same, (h2.ins (i := at_) e2 e3).tk tk1, ?_, ?_, ?_⟩
      all_goals simp only [List.length_append, List.length_take, List.length_drop, List.length_cons, List.length_nil]; omega
    clear h1 h2 ha hl2 hmx kA S3
    rintro σ' G ⟨v4, v5, xs, ps, rfl, S3, kA, h1, h2, ha, hl2, hmx⟩
    refine cut (t := tIfS _ _ _) (fun σ' G => ∃ (v4 v5 : Option V) (xs : List V) (ps : List Pt), σ' = [some (.ref d), some (.ref l1), some (.int (at_ : Nat)), some (.int kd), v4, v5] ∧ St1 K G d c ∧ Keep d H G ∧ G l1 = some (.lst xs) ∧ PsAt G xs ps ∧ at_ < ps.length ∧ 2 ≤ ps.length ∧ ps.length ≤ 11) ?_ (fun rest => ?_)
    rotate_left
    · refine ⟨_, rfl, rfl, _, rfl, ?_⟩
      by_cases e : kd = 2
      rotate_left
      · exact eqN e (rest _ _ ⟨_, _, xs, ps, rfl, S3, kA, h1, h2, ha, hl2, by omega⟩)
      refine eqY e ?_
      obtain ⟨q, e1, e2, e3⟩ := h2.get ha
      obtain ⟨u, ub, u1, u2⟩ : ∃ (u : Addr) (pu : Pt), atI xs ((at_ : Int) - 1) = some (.ref u) ∧ G u = some (ptO pu) ∧ PtB pu := by
        by_cases z : at_ = 0
        · obtain ⟨u, v1, v2, v3⟩ := h2.get (i := ps.length - 1) (by omega)
          refine ⟨u, _, ?_, v2, v3⟩
          rw [z]
          exact atI_back (by rw [List.getLast?_eq_getElem?, h2.len]; exact v1)
        · obtain ⟨u, v1, v2, v3⟩ := h2.get (i := at_ - 1) (by omega)
          refine ⟨u, _, ?_, v2, v3⟩
          rw [show (at_ : Int) - 1 = ((at_ - 1 : Nat) : Int) by omega]
          exact atI_nat v1
      obtain ⟨u2, u3⟩ := u2
      have u2 : G u = some (.tup [.int ub.1, .int ub.2]) := u2
      have e2' : G q = some (.tup [.int ps[at_].1, .int ps[at_].2]) := e2
      refine ⟨_, rfl, _, rfl, _, _, rfl, rfl, _, _, _, _, rfl, rfl, .inl (.inl h1), u1, ?_⟩
      refine nm ?_
      dsimp only [List.set]
      refine ⟨_, rfl, .inl ⟨rfl, _, .inl (.inl h1)⟩, _, rfl, _, rfl, _, _, _, _, rfl, rfl, .inl (.inl u2), rfl, _, rfl, _, rfl, _, _, _, _, rfl, rfl, .inl (.inl h1), atI_nat e1, _, _, _, _, rfl, rfl, .inl (.inl e2'), rfl, _, _, rfl, rfl, _, _, rfl, rfl, log_of (by decide) (by decide), _, rfl, _, _, _, _, rfl, rfl, .inl (.inl u2), rfl, _, rfl, _, rfl, _, _, _, _, rfl, rfl, .inl (.inl h1), atI_nat e1, _, _, _, _, rfl, rfl, .inl (.inl e2'), rfl, _, _, rfl, rfl, _, _, rfl, rfl, log_of (by decide) (by decide), szOk rfl, fun t ht => ?_⟩
      have s1 := same_new (o := ptO ((ub.1 + ps[at_].1) / 2, (ub.2 + ps[at_].2) / 2)) ht
      have et : (upd G t (ptO ((ub.1 + ps[at_].1) / 2, (ub.2 + ps[at_].2) / 2))) t = some (ptO ((ub.1 + ps[at_].1) / 2, (ub.2 + ps[at_].2) / 2)) := upd_same
      have h1 := s1 _ _ h1
      have h2 := h2.tk fun b ys e => s1 _ _ e
      have S3 := S3.same s1
      have kA := kA.trans (Keep.of s1)
      have bt : PtB ((ub.1 + ps[at_].1) / 2, (ub.2 + ps[at_].2) / 2) := by
        obtain ⟨a1, a2, a3, a4⟩ := u3
        obtain ⟨b1, b2, b3, b4⟩ := e3
        exact ⟨by show -100000 ≤ (ub.1 + ps[at_].1) / 2; omega, by show (ub.1 + ps[at_].1) / 2 ≤ 100000; omega, by show -100000 ≤ (ub.2 + ps[at_].2) / 2; omega, by show (ub.2 + ps[at_].2) / 2 ≤ 100000; omega⟩
      have tk1 : ∀ b ys, (upd G t (ptO ((ub.1 + ps[at_].1) / 2, (ub.2 + ps[at_].2) / 2))) b = some (.tup ys) → (upd (upd G t (ptO ((ub.1 + ps[at_].1) / 2, (ub.2 + ps[at_].2) / 2))) l1 (.lst (xs.take at_ ++ [.ref t] ++ xs.drop at_))) b = some (.tup ys) := fun b ys e => (upd_ne (ne_of e h1 (by intro z; cases z))).trans e
      have kB := keepPut kA hl1 (o := .lst (xs.take at_ ++ [.ref t] ++ xs.drop at_))
      have SB := S3.put (o := .lst (xs.take at_ ++ [.ref t] ++ xs.drop at_)) n1d n1c
      refine ⟨_, xs, at_, _, rfl, rfl, h1, small1000 (by rw [h2.len]; omega), (by omega), (by omega), ?_⟩
      rw [Int.toNat_natCast]
      refine rest _ _ ⟨_, _, _, ps.take at_ ++ [((ub.1 + ps[at_].1) / 2, (ub.2 + ps[at_].2) / 2)] ++ ps.drop at_, rfl, SB, kB, upd_same, (h2.ins (i := at_) et bt).tk tk1, ?_, ?_, ?_⟩
      all_goals simp only [List.length_append, List.length_take, List.length_drop, List.length_cons, List.length_nil]; omega
    clear h1 h2 ha hl2 hmx kA S3
    rintro σ' G ⟨v4, v5, xs, ps, rfl, S3, kA, h1, h2, ha, hl2, hmx⟩
    refine cut (t := tIfS _ _ _) (fun σ' G => ∃ (v4 v5 : Option V) (xs : List V) (ps : List Pt), σ' = [some (.ref d), some (.ref l1), some (.int (at_ : Nat)), some (.int kd), v4, v5] ∧ St1 K G d c ∧ Keep d H G ∧ G l1 = some (.lst xs) ∧ PsAt G xs ps ∧ at_ < ps.length ∧ 2 ≤ ps.length ∧ ps.length ≤ 11) ?_ (fun rest => ?_)
    rotate_left
    · refine ⟨_, rfl, rfl, _, rfl, ?_⟩
      by_cases e : kd = 3
      rotate_left
      · exact eqN e (rest _ _ ⟨_, _, xs, ps, rfl, S3, kA, h1, h2, ha, hl2, by omega⟩)
      refine eqY e ?_
      obtain ⟨q, e1, e2, e3⟩ := h2.get ha
      obtain ⟨u, v1, v2, v3⟩ := h2.get (i := 0) (by omega)
      refine ⟨_, rfl, _, _, _, _, rfl, rfl, .inl (.inl h1), atI_nat (j := 0) v1, ?_⟩
      refine nm ?_
      dsimp only [List.set]
      refine ⟨_, rfl, _, rfl, _, _, _, _, rfl, rfl, .inl (.inl h1), atI_nat e1, _, rfl, _, _, _, 0, rfl, rfl, h1, ixN0 (by rw [h2.len]; omega), ?_⟩
      have tk1 : ∀ b ys, G b = some (.tup ys) → (upd G l1 (.lst (xs.set 0 (.ref q)))) b = some (.tup ys) := fun b ys e => (upd_ne (ne_of e h1 (by intro z; cases z))).trans e
      have kB := keepPut kA hl1 (o := .lst (xs.set 0 (.ref q)))
      have SB := S3.put (o := .lst (xs.set 0 (.ref q))) n1d n1c
      have h3 := (h2.set (i := 0) e2 e3).tk tk1
      have h4 : (upd G l1 (.lst (xs.set 0 (.ref q)))) l1 = some (.lst (xs.set 0 (.ref q))) := upd_same
      have v4' := tk1 _ _ v2
      generalize upd G l1 (.lst (xs.set 0 (.ref q))) = G5 at kB SB h3 h4 v4' ⊢
      refine ⟨_, rfl, _, rfl, _, rfl, _, _, _, at_, rfl, rfl, h4, ixNn (by rw [List.length_set, h2.len]; omega), ?_⟩
      have tk2 : ∀ b ys, G5 b = some (.tup ys) → (upd G5 l1 (.lst ((xs.set 0 (.ref q)).set at_ (.ref u)))) b = some (.tup ys) := fun b ys e => (upd_ne (ne_of e h4 (by intro z; cases z))).trans e
      exact rest _ _ ⟨_, _, _, _, rfl, SB.put n1d n1c, (keepPut kB hl1), upd_same, (h3.set (i := at_) v4' v3).tk tk2, by rw [List.length_set, List.length_set]; exact ha, by rw [List.length_set, List.length_set]; exact hl2, by rw [List.length_set, List.length_set]; omega⟩
    clear h1 h2 ha hl2 hmx kA S3
    rintro σ' G ⟨v4, v5, xs, ps, rfl, S3, kA, h1, h2, ha, hl2, hmx⟩
    refine ⟨_, rfl, _, _, rfl, .inl ⟨.inl (.inl h1), fun z hz => ?_⟩⟩
    have s1 := same_new (o := .tup xs) hz
    obtain ⟨ad, g, Z⟩ := (h2.tk fun b ys e => s1 _ _ e).zat (z := z) upd_same (by omega)
    exact k z ad ps.length g _ Z hl2 (S3.same s1) (kA.trans (Keep.of s1))
end
end Sk

set_option Elab.async false
set_option linter.all false
set_option maxRecDepth 100000
set_option maxHeartbeats 4000000
namespace Sk
open PySem PySem.Spec PyProof.Rows L2
theorem St1.tabs_keep {K : PySem.W.Frag} {d c : Addr} {H H' : Hp} {TT : List Addr} (S : St1 K H d c) (t : Tabs TT H) (k : Keep d H H') : Tabs TT H' := fun P hP => by
  obtain ⟨ps, e, h⟩ := t P hP
  exact ⟨ps, k _ _ e (by obtain ⟨kv, hk⟩ := S.dk; exact ne_of e hk (by intro z; cases z)), h⟩
def spLaw (K : PySem.W.Frag) (TT : List Addr) : Sp := fun vs H Q _ => ∃ (a : Addr) (ns : List Int), vs = [.ref a] ∧ SqL K H a (ns.map V.int) ∧ ns.length ≤ 63 ∧ Tabs TT H ∧ ∀ H', Q (.bl true) H'
section
variable {P : Program} {w : World} {K : PySem.W.Frag} {mg : Str → Option Value} {base : Heap}
abbrev s_law_is_zone : Stmt := top 28
theorem sc_law_is_zone : FnScope ["points", "k", "m"] ["points"] (defScope s_law_is_zone) := ⟨rfl, rfl, rfl, by decide +kernel, rfl, by decide +kernel, by decide +kernel⟩
theorem ok_law_is_zone {f : Addr} {fd : FuncData} (F : Fun K "_law_is_zone" "_law_is_zone" s_law_is_zone f fd) (T : TxtA mg)
    (D_law_cross : Def P w K mg base 1 "_law_cross" ["o", "a", "b"] (spLCross)) : FnOk P w K mg base CX0 2 f fd ["points"] (spLIsZone) := by
  refine F.ok sc_law_is_zone (fun vs H Q E h => ?_) (fun cdv A outer s H vs Q E hr h => ?_)
  · obtain ⟨_, _, _, _, rfl, _⟩ := h
    rfl
  · obtain ⟨z, ad, n, g, rfl, Z, k⟩ := h
    refine ⟨_, (pss_cons (ps_if (PW.pt (pw_or (pt_cmpR op_lt (pe_callB (r := rLenK K) call_len_seq (by rfl) T.len boot_len (pa_cons (pv 0) pa_nil)) pe_int (nomark _)) (pw_or1 (pt_cmpR op_gt (pe_callB (r := rLenK K) call_len_seq (by rfl) T.len boot_len (pa_cons (pv 0) pa_nil)) pe_int (nomark _))))) (pss_one (ps_ret pe_bl))
      pss_nil)
    (pss_cons (ps_for PassesOwn.never rfl (pi_range1 (by rfl) T.range (pa_cons (pe_callB (r := rLenK K) call_len_seq (by rfl) T.len boot_len (pa_cons (pv 0) pa_nil)) pa_nil)) (pg_name (i := 1) sc_law_is_zone.nd rfl (Or.inl rfl))
      (pss_one (ps_for PassesOwn.never rfl (pi_range1 (by rfl) T.range (pa_cons (pe_callB (r := rLenK K) call_len_seq (by rfl) T.len boot_len (pa_cons (pv 0) pa_nil)) pa_nil)) (pg_name (i := 2) sc_law_is_zone.nd rfl (Or.inl rfl))
      (pss_one (ps_if (PW.pt (pw_and (pt_cmpR op_ne (pv 2) (pv 1) (nomark _)) (pw_and1 (pt_cmpR op_ne (pv 2) (pe_op op_mod (pe_callTy call_int1 (by rfl) T.int boot_int (pa_cons (pe_op op_add (pv 1) pe_int) pa_nil)) (pe_callB (r := rLenK K) call_len_seq (by rfl) T.len boot_len (pa_cons (pv 0) pa_nil))) (nomark _))))) (pss_one (ps_if (pt_cmpR op_le (pe_def D_law_cross (hr.mono (by decide)) (by rfl) (pa_cons (pe_ix (r := rIxT K) ix_tup (pv 0) (pv 1) (fun _ _ => rfl)) (pa_cons (pe_ix (r := rIxT K) ix_tup (pv 0) (pe_op op_mod (pe_callTy call_int1 (by rfl) T.int boot_int (pa_cons (pe_op op_add (pv 1) pe_int) pa_nil)) (pe_callB (r := rLenK K) call_len_seq (by rfl) T.len boot_len (pa_cons (pv 0) pa_nil))) (fun _ _ => rfl)) (pa_cons (pe_ix (r := rIxT K) ix_tup (pv 0) (pv 2) (fun _ _ => rfl)) pa_nil)))) pe_int (nomark _)) (pss_one (ps_ret pe_bl))
      pss_nil))
      pss_nil)))))
    (pss_one (ps_ret pe_bl)))), ?_⟩
    rw [show L2.start ["points", "k", "m"] [V.ref z] = [some (V.ref z), none, none] from rfl]
    have hn := Z.n
    have no : ¬ IsZone n g → Q (.bl false) H := fun e => k false ⟨fun w => Bool.noConfusion w, fun w => absurd w e⟩
    refine ⟨_, rfl, _, _, rfl, .inr (.inl (.inl Z.t)), _, _, rfl, rfl, _, rfl, ?_⟩
    rw [refs_len]
    by_cases c1 : (n : Int) < 3
    · exact ifY c1 (no fun w => by have := w.1; omega)
    refine ifN c1 ?_
    refine ⟨_, rfl, _, _, rfl, .inr (.inl (.inl Z.t)), _, _, rfl, rfl, _, rfl, ?_⟩
    rw [refs_len]
    by_cases c2 : (n : Int) > 8
    · exact ifY c2 (no fun w => by have := w.2.1; omega)
    refine ifN c2 ?_
    refine nxQ ?_
    dsimp only
    refine ⟨_, rfl, _, _, rfl, .inr (.inl (.inl Z.t)), _, rfl, by rw [refs_len]; omega, by rw [refs_len]; omega, ?_⟩
    rw [refs_len]
    refine for_range (n := ((n : Nat) : Int).toNat) (fun i σ G => ∃ (v1 v2 : Option V), σ = [some (.ref z), v1, v2] ∧ G = H ∧ ∀ k m, k < i → m < n → m ≠ k → m ≠ (k + 1) % n → 0 < cr3 (g k) (g ((k + 1) % n)) (g m))
      ⟨none, none, rfl, rfl, fun k m h => absurd h (Nat.not_lt_zero k)⟩ ?_ ?_
    rotate_left
    · rintro σ G ⟨v1, v2, rfl, rfl, all⟩
      rw [Int.toNat_natCast] at all
      exact k true ⟨fun _ => ⟨by omega, by omega, fun k m h => all k m h⟩, fun _ => rfl⟩
    rintro i σ G hi ⟨v1, v2, rfl, rfl, all⟩
    have hin : i < n := by omega
    have bn : (i + 1) % n < n := Nat.mod_lt _ (by omega)
    have eN := (show (0 + (i : Int) + 1) % ((n : Nat) : Int) = (((i + 1) % n : Nat) : Int) by rw [Int.zero_add]; norm_cast)
    refine nm ?_
    dsimp only [List.set]
    refine ⟨_, rfl, _, _, rfl, .inr (.inl (.inl Z.t)), _, rfl, by rw [refs_len]; omega, by rw [refs_len]; omega, ?_⟩
    rw [refs_len]
    refine for_range (n := ((n : Nat) : Int).toNat) (fun j σ G' => ∃ (v2 : Option V), σ = [some (.ref z), some (.int (0 + (i : Int))), v2] ∧ G' = G ∧ ∀ m, m < j → m ≠ i → m ≠ (i + 1) % n → 0 < cr3 (g i) (g ((i + 1) % n)) (g m))
      ⟨_, rfl, rfl, fun m h => absurd h (Nat.not_lt_zero m)⟩ ?_ ?_
    rotate_left
    · rintro σ G' ⟨v2, rfl, rfl, row⟩
      rw [Int.toNat_natCast] at row
      refine ⟨_, _, rfl, rfl, fun k m hk hm a b => ?_⟩
      by_cases e : k = i
      · subst e
        exact row m hm a b
      · exact all k m (by omega) hm a b
    rintro j σ G' hj ⟨v2, rfl, rfl, row⟩
    have hjn : j < n := by omega
    refine nm ?_
    dsimp only [List.set]
    refine ⟨_, rfl, _, rfl, rfl, _, rfl, ?_⟩
    have go : (j = i ∨ j = (i + 1) % n) → ∃ (v2 : Option V), [some (.ref z), some (V.int (0 + (i : Int))), some (V.int (0 + (j : Int)))] = [some (.ref z), some (V.int (0 + (i : Int))), v2] ∧ G' = G' ∧ ∀ m, m < j + 1 → m ≠ i → m ≠ (i + 1) % n → 0 < cr3 (g i) (g ((i + 1) % n)) (g m) := fun w => ⟨_, rfl, rfl, fun m hm a b => row m (by omega) a b⟩
    by_cases c3 : j = i
    · exact neN (by omega) (go (.inl c3))
    refine ifNotN (fun z => c3 (by have := V.int.inj z; omega)) ?_
    refine ⟨_, rfl, _, rfl, _, _, rfl, rfl, .inl ⟨_, rfl, _, rfl, _, _, rfl, .inr (.inl (.inl Z.t)), _, _, rfl, rfl, (by rw [refs_len]; omega), rfl, _, rfl, ?_⟩⟩
    by_cases c4 : j = (i + 1) % n
    · exact neN (by rw [refs_len, eN]; omega) (go (.inr c4))
    refine ifNotN (fun z => c4 (by have q : 0 + (j : Int) = (0 + (i : Int) + 1) % ((refs ad n).length : Int) := V.int.inj z; rw [refs_len, eN] at q; omega)) ?_
    have ea : atI (refs ad n) (((0 + (i : Int)) + 1) % ((refs ad n).length : Int)) = some (.ref (ad ((i + 1) % n))) := by
      rw [refs_len, eN]
      exact atI_nat (refs_at bn)
    refine ⟨_, rfl, _, rfl, _, _, _, _, rfl, rfl, .inl (.inl Z.t), atI0 (refs_at hin), _, rfl, _, rfl, _, _, rfl, rfl, .inl ⟨_, rfl, _, rfl, _, _, rfl, .inr (.inl (.inl Z.t)), _, _, rfl, rfl, (by rw [refs_len]; omega), _, _, _, _, rfl, rfl, .inl (.inl Z.t), ea, _, rfl, _, rfl, _, _, _, _, rfl, rfl, .inl (.inl Z.t), atI0 (refs_at hjn), ?_⟩⟩
    have b300 : ∀ {x : Int}, BdN 20 x → BdN 300 x := fun h => h.mono (by decide)
    refine ⟨ad i, ad ((i + 1) % n), ad j, _, _, _, _, _, _, rfl, Z.p i hin, Z.p _ bn, Z.p j hjn, b300 (Z.b i hin).b1, b300 (Z.b i hin).b2, b300 (Z.b _ bn).b1, b300 (Z.b _ bn).b2, b300 (Z.b j hjn).b1, b300 (Z.b j hjn).b2, ?_⟩
    refine ⟨_, _, rfl, rfl, _, rfl, ?_⟩
    by_cases c5 : cr3 (g i) (g ((i + 1) % n)) (g j) ≤ 0
    · refine ifY c5 (no fun w => ?_)
      have := w.2.2 i j hin hjn c3 c4
      omega
    · refine ifN c5 ⟨_, rfl, rfl, fun m hm a b => ?_⟩
      by_cases e : m = j
      · rw [e]; omega
      · exact row m (by omega) a b
abbrev s_law_touches : Stmt := top 29
theorem sc_law_touches : FnScope ["zone", "segment", "d", "corners", "a", "b", "k", "after", "sides", "point"] ["zone", "segment"] (defScope s_law_touches) := ⟨rfl, rfl, rfl, by decide +kernel, rfl, by decide +kernel, by decide +kernel⟩
theorem ok_law_touches {f : Addr} {fd : FuncData} (F : Fun K "_law_touches" "_law_touches" s_law_touches f fd) (T : TxtA mg)
    (D_law_cross : Def P w K mg base 1 "_law_cross" ["o", "a", "b"] (spLCross)) : FnOk P w K mg base CX0 2 f fd ["zone", "segment"] (spLTouches) := by
  refine F.ok sc_law_touches (fun vs H Q E h => ?_) (fun cdv A outer s H vs Q E hr h => ?_)
  · obtain ⟨_, _, _, _, _, _, rfl, _⟩ := h
    rfl
  · obtain ⟨z, sa, ad, n, g, s, rfl, Z, n3, ha, hs, k⟩ := h
    refine ⟨_, (pss_cons (ps_set (i := 2) sc_law_touches.nd rfl (Or.inr rfl) (pe_ix (r := rIxT K) ix_tup (pv 1) pe_int (fun _ _ => rfl)))
    (pss_cons (ps_setLc (i := 3) (own := [("point", 9)]) (g := gName 9) (by rfl) sc_law_touches.nd rfl rfl (sw_true rfl rfl rfl (by decide +kernel)) (pi_tup (pv 0)) (blkOk_by (own := [("point", 9)]) (N := ["zone", "segment", "d", "corners", "a", "b", "k", "after", "sides", "point"]) (sc := defScope s_law_touches) (by decide +kernel)) (fun _ _ _ _ _ => (pg_name (i := 9) sc_law_touches.nd rfl (Or.inl rfl))) (fun _ _ _ _ _ => pts_nil) (fun _ _ _ _ _ => (pe_tup (pa_cons (pe_op op_mulW (pe_ix (r := rIxT K) ix_tup (pv 9) pe_int (fun _ _ => rfl)) (pv 2)) (pa_cons (pe_op op_mulW (pe_ix (r := rIxT K) ix_tup (pv 9) pe_int (fun _ _ => rfl)) (pv 2)) pa_nil)))))
    (pss_cons (ps_set (i := 4) sc_law_touches.nd rfl (Or.inr rfl) (pe_tup (pa_cons (pe_ix (r := rIxT K) ix_tup (pv 1) pe_int (fun _ _ => rfl)) (pa_cons (pe_ix (r := rIxT K) ix_tup (pv 1) pe_int (fun _ _ => rfl)) pa_nil))))
    (pss_cons (ps_set (i := 5) sc_law_touches.nd rfl (Or.inr rfl) (pe_tup (pa_cons (pe_ix (r := rIxT K) ix_tup (pv 1) pe_int (fun _ _ => rfl)) (pa_cons (pe_ix (r := rIxT K) ix_tup (pv 1) pe_int (fun _ _ => rfl)) pa_nil))))
    (pss_cons (ps_for PassesOwn.never rfl (pi_range1 (by rfl) T.range (pa_cons (pe_callB (r := rLenK K) call_len_seq (by rfl) T.len boot_len (pa_cons (pv 3) pa_nil)) pa_nil)) (pg_name (i := 6) sc_law_touches.nd rfl (Or.inl rfl))
      (pss_cons (ps_set (i := 7) sc_law_touches.nd rfl (Or.inl rfl) (pe_ix (r := rIxL K) ix_list (pv 3) (pe_op op_mod (pe_callTy call_int1 (by rfl) T.int boot_int (pa_cons (pe_op op_add (pv 6) pe_int) pa_nil)) (pe_callB (r := rLenK K) call_len_seq (by rfl) T.len boot_len (pa_cons (pv 3) pa_nil))) (fun _ _ => rfl)))
    (pss_one (ps_if (PW.pt (pw_and (pt_cmpR op_lt (pe_def D_law_cross (hr.mono (by decide)) (by rfl) (pa_cons (pe_ix (r := rIxL K) ix_list (pv 3) (pv 6) (fun _ _ => rfl)) (pa_cons (pv 7) (pa_cons (pv 4) pa_nil)))) pe_int (nomark _)) (pw_and1 (pt_cmpR op_lt (pe_def D_law_cross (hr.mono (by decide)) (by rfl) (pa_cons (pe_ix (r := rIxL K) ix_list (pv 3) (pv 6) (fun _ _ => rfl)) (pa_cons (pv 7) (pa_cons (pv 5) pa_nil)))) pe_int (nomark _))))) (pss_one (ps_ret pe_bl))
      pss_nil))))
    (pss_cons (ps_setLc (i := 8) (own := [("point", 9)]) (g := gName 9) (by rfl) sc_law_touches.nd rfl rfl (sw_true rfl rfl rfl (by decide +kernel)) (pi_list (pv 3)) (blkOk_by (own := [("point", 9)]) (N := ["zone", "segment", "d", "corners", "a", "b", "k", "after", "sides", "point"]) (sc := defScope s_law_touches) (by decide +kernel)) (fun _ _ _ _ _ => (pg_name (i := 9) sc_law_touches.nd rfl (Or.inl rfl))) (fun _ _ _ _ _ => pts_nil) (fun _ _ _ _ _ => (pe_def D_law_cross (hr.mono (by decide)) (by rfl) (pa_cons (pv 4) (pa_cons (pv 5) (pa_cons (pv 9) pa_nil))))))
    (pss_one (ps_ret (pe_chain op_le op_le (pe_callB (cr_min rfl) (by rfl) T.min boot_min (pa_cons (pv 8) pa_nil)) pe_int (pe_callB (cr_max rfl) (by rfl) T.max boot_max (pa_cons (pv 8) pa_nil))))))))))), ?_⟩
    rw [show L2.start ["zone", "segment", "d", "corners", "a", "b", "k", "after", "sides", "point"] [V.ref z, V.ref sa] = [some (V.ref z), some (V.ref sa), none, none, none, none, none, none, none, none] from rfl]
    have hn := Z.n
    have ha : H sa = some (.tup [.int s.ax, .int s.ay, .int s.bx, .int s.bw, .int s.d]) := ha
    refine ⟨_, rfl, _, _, _, _, rfl, rfl, .inl (.inl ha), rfl, ?_⟩
    refine nm ?_
    dsimp only [List.set]
    refine ⟨_, rfl, z, rfl, ⟨_, .inl (.inl Z.t)⟩, fun co hco => ?_⟩
    refine lc_tup (K := K) (a := z) (xs := refs ad n) (fun i G => Same H G ∧ ∃ cd : Nat → Addr, G co = some (.lst (refs cd i)) ∧ ∀ j, j < i → G (cd j) = some (ptO (scl s.d (g j)))) ⟨same_new hco, fun _ => 0, upd_same, fun j h => absurd h (Nat.not_lt_zero j)⟩ (fun i G _ h => .inl (.inl (h.1 _ _ Z.t))) ?_ ?_
    · rintro i y G hy ⟨sm, cd, h1, h2⟩
      obtain ⟨hin, rfl⟩ := refs_get hy
      have e2 : G (ad i) = some (.tup [.int (g i).1, .int (g i).2]) := sm _ _ (Z.p i hin)
      refine ⟨rfl, ?_⟩
      refine ⟨_, rfl, _, _, _, _, rfl, rfl, .inl (.inl e2), rfl, _, rfl, _, _, rfl, rfl, wmB (Z.b i hin).b1 hs.d (by decide) (by decide), _, rfl, _, _, _, _, rfl, rfl, .inl (.inl e2), rfl, _, rfl, _, _, rfl, rfl, wmB (Z.b i hin).b2 hs.d (by decide) (by decide), szOk rfl, fun t ht => ?_⟩
      have s1 := same_new (o := ptO (scl s.d (g i))) ht
      have et : (upd G t (ptO (scl s.d (g i)))) t = some (ptO (scl s.d (g i))) := upd_same
      have tl : co ≠ t := ne_of_none h1 ht
      have h1' := s1 _ _ h1
      refine ⟨refs cd i, h1', small1000 (by rw [refs_len]; omega), fun b o e => ?_, fun j => if j = i then t else cd j, ?_, fun j hj => ?_⟩
      · rw [upd_ne (ne_of_none e hco)]
        exact s1 _ _ (sm _ _ e)
      · rw [upd_same]
        congr 2
        unfold refs
        rw [List.range_succ, List.map_append]
        congr 1
        · refine List.map_congr_left fun j hj => ?_
          show V.ref (cd j) = V.ref (if j = i then t else cd j)
          rw [if_neg (by have := List.mem_range.mp hj; omega)]
        · show [V.ref t] = [V.ref (if i = i then t else cd i)]
          rw [if_pos rfl]
      · show upd _ co _ (if j = i then t else cd j) = _
        by_cases e : j = i
        · rw [if_pos e, upd_ne (Ne.symm tl), e]
          exact et
        · rw [if_neg e]
          have z := h2 j (by omega)
          rw [upd_ne (ne_of z h1 (by intro z; cases z))]
          exact s1 _ _ z
    rintro G ⟨sm, cd, h1, h2⟩
    rw [refs_len] at h1 h2
    have ha1 := sm _ _ ha
    refine nm ?_
    dsimp only [List.set]
    refine ⟨_, rfl, _, _, _, _, rfl, rfl, .inl (.inl ha1), rfl, _, rfl, _, _, _, _, rfl, rfl, .inl (.inl ha1), rfl, szOk rfl, fun pa hpa => ?_⟩
    have s1 := same_new (o := .tup [.int s.ax, .int s.ay]) hpa
    have ea : (upd G pa (.tup [.int s.ax, .int s.ay])) pa = some (ptO (s.ax, s.ay)) := upd_same
    have ha2 := s1 _ _ ha1
    have h1 := s1 _ _ h1
    have h2 := fun j hj => s1 _ _ (h2 j hj)
    have sm := sm.trans s1
    generalize upd G pa (.tup [.int s.ax, .int s.ay]) = G1 at s1 ea ha2 h1 h2 sm ⊢
    refine nm ?_
    dsimp only [List.set]
    refine ⟨_, rfl, _, _, _, _, rfl, rfl, .inl (.inl ha2), rfl, _, rfl, _, _, _, _, rfl, rfl, .inl (.inl ha2), rfl, szOk rfl, fun pb hpb => ?_⟩
    have s2 := same_new (o := .tup [.int s.bx, .int s.bw]) hpb
    have eb : (upd G1 pb (.tup [.int s.bx, .int s.bw])) pb = some (ptO (s.bx, s.bw)) := upd_same
    have ea := s2 _ _ ea
    have h1 := s2 _ _ h1
    have h2 := fun j hj => s2 _ _ (h2 j hj)
    have sm := sm.trans s2
    generalize upd G1 pb (.tup [.int s.bx, .int s.bw]) = G2 at s2 ea eb h1 h2 sm ⊢
    clear s1 s2 hpa hpb ha1 ha2
    refine nm ?_
    dsimp only [List.set]
    have bc : ∀ j, j < n → BdN 300 (scl s.d (g j)).1 ∧ BdN 300 (scl s.d (g j)).2 := fun j hj => ⟨((Z.b j hj).b1.mul hs.d).mono (by decide), ((Z.b j hj).b2.mul hs.d).mono (by decide)⟩
    have b1 : BdN 300 s.ax := hs.ax.mono (by decide)
    have b2 : BdN 300 s.ay := hs.ay.mono (by decide)
    have b3 : BdN 300 s.bx := hs.bx.mono (by decide)
    have b4 : BdN 300 s.bw := hs.bw.mono (by decide)
    have no : ¬ LwP n g s → ∀ G, Same H G → Q (.bl false) G := fun e G q => k false _ ⟨fun w => Bool.noConfusion w, fun w => absurd w e⟩ q
    refine ⟨_, rfl, _, _, rfl, .inl (.inl (.inl h1)), _, rfl, by rw [refs_len]; omega, by rw [refs_len]; omega, ?_⟩
    rw [refs_len]
    refine for_range (n := ((n : Nat) : Int).toNat) (fun i σ G => ∃ (v6 v7 : Option V), σ = [some (.ref z), some (.ref sa), some (.int s.d), some (.ref co), some (.ref pa), some (.ref pb), v6, v7, none, none] ∧ G = G2 ∧ ∀ k, k < i → ¬ (cr3 (scl s.d (g k)) (scl s.d (g ((k + 1) % n))) (s.ax, s.ay) < 0 ∧ cr3 (scl s.d (g k)) (scl s.d (g ((k + 1) % n))) (s.bx, s.bw) < 0))
      ⟨none, none, rfl, rfl, fun k h => absurd h (Nat.not_lt_zero k)⟩ ?_ ?_
    · rintro i σ G hi ⟨v6, v7, rfl, rfl, all⟩
      have hin : i < n := by omega
      have bn : (i + 1) % n < n := Nat.mod_lt _ (by omega)
      have ei : atI (refs cd n) (((0 + (i : Int)) + 1) % ((refs cd n).length : Int)) = some (.ref (cd ((i + 1) % n))) := by
        rw [refs_len, (show (0 + (i : Int) + 1) % ((n : Nat) : Int) = (((i + 1) % n : Nat) : Int) by rw [Int.zero_add]; norm_cast)]
        exact atI_nat (refs_at bn)
      refine nm ?_
      dsimp only [List.set]
      refine ⟨_, rfl, _, rfl, _, _, rfl, rfl, .inl ⟨_, rfl, _, rfl, _, _, rfl, .inl (.inl (.inl h1)), _, _, rfl, rfl, (by rw [refs_len]; omega), _, _, _, _, rfl, rfl, .inl (.inl h1), ei, ?_⟩⟩
      refine nm ?_
      dsimp only [List.set]
      refine ⟨_, rfl, _, rfl, _, _, _, _, rfl, rfl, .inl (.inl h1), atI0 (refs_at hin), _, rfl, _, rfl, cd i, cd ((i + 1) % n), pa, _, _, _, _, _, _, rfl, h2 i hin, h2 _ bn, ea, (bc i hin).1, (bc i hin).2, (bc _ bn).1, (bc _ bn).2, b1, b2, ?_⟩
      refine ⟨_, _, rfl, rfl, _, rfl, ?_⟩
      have nxt : ¬ (cr3 (scl s.d (g i)) (scl s.d (g ((i + 1) % n))) (s.ax, s.ay) < 0 ∧ cr3 (scl s.d (g i)) (scl s.d (g ((i + 1) % n))) (s.bx, s.bw) < 0) → ∀ k, k < i + 1 → ¬ (cr3 (scl s.d (g k)) (scl s.d (g ((k + 1) % n))) (s.ax, s.ay) < 0 ∧ cr3 (scl s.d (g k)) (scl s.d (g ((k + 1) % n))) (s.bx, s.bw) < 0) := fun w k hk => by
        by_cases e : k = i
        · rw [e]; exact w
        · exact all k (by omega)
      by_cases c1 : cr3 (scl s.d (g i)) (scl s.d (g ((i + 1) % n))) (s.ax, s.ay) < 0
      rotate_left
      · exact ifN c1 ⟨_, _, rfl, rfl, nxt fun w => c1 w.1⟩
      refine ifY c1 ?_
      refine ⟨_, rfl, _, rfl, _, _, _, _, rfl, rfl, .inl (.inl h1), atI0 (refs_at hin), _, rfl, _, rfl, cd i, cd ((i + 1) % n), pb, _, _, _, _, _, _, rfl, h2 i hin, h2 _ bn, eb, (bc i hin).1, (bc i hin).2, (bc _ bn).1, (bc _ bn).2, b3, b4, ?_⟩
      refine ⟨_, _, rfl, rfl, _, rfl, ?_⟩
      by_cases c2 : cr3 (scl s.d (g i)) (scl s.d (g ((i + 1) % n))) (s.bx, s.bw) < 0
      · exact ifY c2 (no (fun w => w.1 i hin ⟨c1, c2⟩) _ sm)
      · exact ifN c2 ⟨_, _, rfl, rfl, nxt fun w => c2 w.2⟩
    rintro σ G ⟨v6, v7, rfl, rfl, all⟩
    rw [Int.toNat_natCast] at all
    refine ⟨_, rfl, co, rfl, ⟨_, .inl (.inl h1)⟩, fun sd hsd => ?_⟩
    refine lc_list (K := K) (a := co) (xs := refs cd n) (fun i G' => Same G G' ∧ G' sd = some (.lst ((List.range i).map fun j => V.int (cr3 (s.ax, s.ay) (s.bx, s.bw) (scl s.d (g j)))))) ⟨same_new hsd, upd_same⟩ (fun i G' _ h => .inl (.inl (h.1 _ _ h1))) ?_ ?_
    · rintro i y G' hy ⟨sm2, hA⟩
      obtain ⟨hin, rfl⟩ := refs_get hy
      refine ⟨rfl, yes_if ?_⟩
      refine ⟨_, rfl, _, rfl, _, rfl, pa, pb, cd i, _, _, _, _, _, _, rfl, sm2 _ _ ea, sm2 _ _ eb, sm2 _ _ (h2 i hin), b1, b2, b3, b4, (bc i hin).1, (bc i hin).2, ?_⟩
      refine ⟨_, hA, small1000 (by rw [List.length_map, List.length_range]; omega), fun b o e => ?_, by rw [upd_same, List.range_succ, List.map_append]; rfl⟩
      rw [upd_ne (ne_of_none e hsd)]
      exact sm2 _ _ e
    rintro G3 ⟨sm2, hA⟩
    rw [refs_len] at hA
    have sm3 := sm.trans sm2
    refine nm ?_
    dsimp only [List.set]
    have hA : G3 sd = some (.lst (((List.range n).map fun j => cr3 (s.ax, s.ay) (s.bx, s.bw) (scl s.d (g j))).map V.int)) := by rw [hA, List.map_map]; rfl
    have mem : ∀ x, x ∈ ((List.range n).map fun j => cr3 (s.ax, s.ay) (s.bx, s.bw) (scl s.d (g j))) ↔ ∃ j, j < n ∧ cr3 (s.ax, s.ay) (s.bx, s.bw) (scl s.d (g j)) = x := fun x => by
      rw [List.mem_map]
      exact ⟨fun ⟨j, hj, e⟩ => ⟨j, List.mem_range.mp hj, e⟩, fun ⟨j, hj, e⟩ => ⟨j, List.mem_range.mpr hj, e⟩⟩
    have ln : ((List.range n).map fun j => cr3 (s.ax, s.ay) (s.bx, s.bw) (scl s.d (g j))).length = n := by rw [List.length_map, List.length_range]
    generalize ((List.range n).map fun j => cr3 (s.ax, s.ay) (s.bx, s.bw) (scl s.d (g j))) = ws at hA mem ln
    refine ⟨_, rfl, sd, ws, rfl, .inl (.inl hA), by omega, fun mi mi1 mi2 => ?_⟩
    refine ⟨_, _, rfl, rfl, _, rfl, ?_⟩
    by_cases c1 : mi ≤ 0
    rotate_left
    · refine ifN c1 (no (fun w => ?_) _ sm3)
      obtain ⟨j, hj, e⟩ := w.2.1
      have := mi2 _ ((mem _).mpr ⟨j, hj, rfl⟩)
      have e : cr3 (s.ax, s.ay) (s.bx, s.bw) (scl s.d (g j)) ≤ 0 := e
      omega
    refine ifY c1 ?_
    refine ⟨_, rfl, sd, ws, rfl, .inl (.inl hA), by omega, fun mx mx1 mx2 => ?_⟩
    refine ⟨_, _, rfl, rfl, ?_⟩
    obtain ⟨j1, hj1, e1⟩ := (mem _).mp mi1
    obtain ⟨j2, hj2, e2⟩ := (mem _).mp mx1
    refine k (decide (0 ≤ mx)) _ ?_ sm3
    rw [decide_eq_true_iff]
    constructor
    · intro h
      exact ⟨all, ⟨j1, hj1, by show cr3 _ _ _ ≤ 0; rw [e1]; exact c1⟩, ⟨j2, hj2, by show 0 ≤ cr3 _ _ _; rw [e2]; exact h⟩⟩
    · rintro ⟨_, _, ⟨j, hj, e⟩⟩
      have := mx2 _ ((mem _).mpr ⟨j, hj, rfl⟩)
      have e : 0 ≤ cr3 (s.ax, s.ay) (s.bx, s.bw) (scl s.d (g j)) := e
      omega
abbrev s_law : Stmt := top 30
theorem sc_law : FnScope ["script", "state", "points", "due", "segment", "expected", "turned"] ["script"] (defScope s_law) := ⟨rfl, rfl, rfl, by decide +kernel, rfl, by decide +kernel, by decide +kernel⟩
theorem ok_law {f : Addr} {fd : FuncData} {TT : List Addr} (F : Fun K "law" "law" s_law f fd) (T : TxtA mg)
    (D_law_start : Def P w K mg base 1 "_law_start" ["script"] (spStart K))
    (D_law_draw : Def P w K mg base 1 "_law_draw" ["state", "bound"] (spDraw K))
    (D_law_pick : Def P w K mg base 2 "_law_pick" ["state", "things"] (spPick K))
    (D_law_ring : Def P w K mg base 3 "_law_ring" ["state"] (spRing K))
    (D_law_spoilt : Def P w K mg base 3 "_law_spoilt" ["state", "points"] (spSpoilt K))
    (D_law_is_zone : Def P w K mg base 2 "_law_is_zone" ["points"] (spLIsZone))
    (D_is_zone : Def P w K mg base 4 "is_zone" ["points"] (spIsZoneP TT))
    (D_law_is : Def P w K mg base 1 "_law_is" ["actual", "due"] (spIsB))
    (D_law_segment : Def P w K mg base 3 "_law_segment" ["state", "size"] (spSegment K))
    (D_law_touches : Def P w K mg base 2 "_law_touches" ["zone", "segment"] (spLTouches))
    (D_touches : Def P w K mg base 9 "touches" ["zone", "segment"] (spZS TT (fun n g s => InP n g s ∨ BoP n g s))) : FnOk P w K mg base CX0 10 f fd ["script"] (spLaw K TT) := by
  refine F.ok sc_law (fun vs H Q E h => ?_) (fun cdv A outer s H vs Q E hr h => ?_)
  · obtain ⟨_, _, rfl, _⟩ := h
    rfl
  · obtain ⟨a, ns0, rfl, hS, hl0, hT, kk⟩ := h
    refine ⟨_, (pss_cons (ps_set (i := 1) sc_law.nd rfl (Or.inl rfl) (pe_def D_law_start (hr.mono (by decide)) (by rfl) (pa_cons (pv 0) pa_nil)))
    (pss_cons (ps_set (i := 2) sc_law.nd rfl (Or.inl rfl) (pe_def D_law_spoilt (hr.mono (by decide)) (by rfl) (pa_cons (pv 1) (pa_cons (pe_def D_law_ring (hr.mono (by decide)) (by rfl) (pa_cons (pv 1) pa_nil)) pa_nil))))
    (pss_cons (ps_set (i := 3) sc_law.nd rfl (Or.inl rfl) (pe_def D_law_is_zone (hr.mono (by decide)) (by rfl) (pa_cons (pv 2) pa_nil)))
    (pss_cons (ps_if (pt_not (pt_val (pe_def D_law_is (hr.mono (by decide)) (by rfl) (pa_cons (pe_def D_is_zone (hr.mono (by decide)) (by rfl) (pa_cons (pv 2) pa_nil)) (pa_cons (pv 3) pa_nil))))) (pss_one (ps_ret pe_bl))
      pss_nil)
    (pss_cons (ps_set (i := 4) sc_law.nd rfl (Or.inl rfl) (pe_def D_law_segment (hr.mono (by decide)) (by rfl) (pa_cons (pv 1) (pa_cons (pe_def D_law_pick (hr.mono (by decide)) (by rfl) (pa_cons (pv 1) (pa_cons (pe_lst (pa_cons pe_int (pa_cons pe_int (pa_cons pe_int pa_nil)))) pa_nil))) pa_nil))))
    (pss_cons (ps_if (PW.pt (pw_and (pt_val (pv 3)) (pw_and1 (pt_cmpR op_eq (pe_def D_law_draw (hr.mono (by decide)) (by rfl) (pa_cons (pv 1) (pa_cons pe_int pa_nil))) pe_int (nomark _))))) (pss_one (ps_set (i := 4) sc_law.nd rfl (Or.inl rfl) (pe_tup (pa_cons (pe_ix (r := rIxT K) ix_tup (pe_ix (r := rIxT K) ix_tup (pv 2) pe_int (fun _ _ => rfl)) pe_int (fun _ _ => rfl)) (pa_cons (pe_ix (r := rIxT K) ix_tup (pe_ix (r := rIxT K) ix_tup (pv 2) pe_int (fun _ _ => rfl)) pe_int (fun _ _ => rfl)) (pa_cons (pe_ix (r := rIxT K) ix_tup (pv 4) pe_int (fun _ _ => rfl)) (pa_cons (pe_ix (r := rIxT K) ix_tup (pv 4) pe_int (fun _ _ => rfl)) (pa_cons pe_int pa_nil))))))))
      pss_nil)
    (pss_cons (ps_if (pt_not (pt_val (pv 3))) (pss_one (ps_ret pe_bl))
      pss_nil)
    (pss_cons (ps_set (i := 5) sc_law.nd rfl (Or.inl rfl) (pe_def D_law_touches (hr.mono (by decide)) (by rfl) (pa_cons (pv 2) (pa_cons (pv 4) pa_nil))))
    (pss_cons (ps_set (i := 6) sc_law.nd rfl (Or.inl rfl) (pe_tup (pa_cons (pe_ix (r := rIxT K) ix_tup (pv 4) pe_int (fun _ _ => rfl)) (pa_cons (pe_ix (r := rIxT K) ix_tup (pv 4) pe_int (fun _ _ => rfl)) (pa_cons (pe_ix (r := rIxT K) ix_tup (pv 4) pe_int (fun _ _ => rfl)) (pa_cons (pe_ix (r := rIxT K) ix_tup (pv 4) pe_int (fun _ _ => rfl)) (pa_cons (pe_ix (r := rIxT K) ix_tup (pv 4) pe_int (fun _ _ => rfl)) pa_nil)))))))
    (pss_one (ps_ret (pe_and (pe_def D_law_is (hr.mono (by decide)) (by rfl) (pa_cons (pe_def D_touches (hr.mono (by decide)) (by rfl) (pa_cons (pv 2) (pa_cons (pv 4) pa_nil))) (pa_cons (pv 5) pa_nil))) (pe_one (pe_def D_law_is (hr.mono (by decide)) (by rfl) (pa_cons (pe_def D_touches (hr.mono (by decide)) (by rfl) (pa_cons (pv 2) (pa_cons (pv 6) pa_nil))) (pa_cons (pv 5) pa_nil)))))))))))))))), ?_⟩
    rw [show L2.start ["script", "state", "points", "due", "segment", "expected", "turned"] [V.ref a] = [some (V.ref a), none, none, none, none, none, none] from rfl]
    refine ⟨_, rfl, a, ns0, rfl, hS, hl0, fun d c G0 hd0 hc0 S0 sm0 => ?_⟩
    have T0 := Same.tabs sm0 hT
    refine nm ?_
    dsimp only [List.set]
    refine ⟨_, rfl, _, rfl, d, c, rfl, S0, fun l xs ps G1 hl hl1 P1 p2 p9 S1 kp1 => ?_⟩
    have T1 := S0.tabs_keep T0 kp1
    refine ⟨d, c, l, xs, ps, rfl, S1, hl1, P1, p2, p9, fun z ad n g G2 Z n2 S2 kp2 => ?_⟩
    have T2 := S1.tabs_keep T1 kp2
    clear hl hl1 P1 S0 S1 kp1 kp2 T0 T1 sm0 hd0 hc0
    refine nm ?_
    dsimp only [List.set]
    refine ⟨_, rfl, z, ad, n, g, rfl, Z, fun v hv => ?_⟩
    refine nm ?_
    dsimp only [List.set]
    refine ⟨_, rfl, z, ad, n, g, rfl, Z, T2, fun v2 G3 hv2 s3 => ?_⟩
    have ev : v2 = v := by
      rw [Bool.eq_iff_iff, hv, hv2]
    have Z := Z.st s3 T2
    have T3 := s3.tabs T2
    have S3 := s3.st1 T2 S2
    refine ⟨_, rfl, v2, v, rfl, ?_⟩
    rw [decide_eq_true ev]
    refine ⟨_, rfl, iteF ?_⟩
    refine nxQ ?_
    dsimp only
    clear s3 T2 S2 hv2 ev
    refine ⟨_, rfl, _, rfl, szOk rfl, fun q hq => ?_⟩
    refine ⟨d, c, _, _, rfl, S3.new hq, .inl (.inl upd_same), (fun z => nomatch z), (by show 3 ≤ 1000; decide), fun pv_ G4 hpv S4 kp4 => ?_⟩
    obtain ⟨sz, rfl, sz1, sz2⟩ : ∃ z : Int, pv_ = .int z ∧ 1 ≤ z ∧ z ≤ 1000000 := by
      simp only [List.mem_cons, List.not_mem_nil, or_false] at hpv
      rcases hpv with rfl | rfl | rfl <;> exact ⟨_, rfl, by decide, by decide⟩
    have sq := same_new (o := .lst [.int 10, .int 60, .int 100000]) hq
    have T4 := (S3.new (o := .lst [.int 10, .int 60, .int 100000]) hq).tabs_keep (Same.tabs sq T3) kp4
    have Z := (Z.same sq).tk fun b ys e => kp4.t (S3.new hq) e
    refine ⟨d, c, sz, rfl, S4, sz1, sz2, fun sg s G5 S5 kp5 hsg bsg d1 => ?_⟩
    have T5 := S4.tabs_keep T4 kp5
    have Z := Z.tk fun b ys e => kp5.t S4 e
    clear T3 T4 S3 S4 kp4 kp5 sq hq hpv
    refine nm ?_
    dsimp only [List.set]
    refine cut (t := tIfS _ _ _) (fun σ' G => ∃ (sg : Addr) (s : Seg), σ' = [some (.ref a), some (.ref d), some (.ref z), some (.bl v), some (.ref sg), none, none] ∧ Tabs TT G ∧ ZAt G z ad n g ∧ G sg = some s.tup ∧ SegBd 200 100 s ∧ 1 ≤ s.d) ?_ (fun rest => ?_)
    rotate_left
    · refine ⟨_, rfl, _, rfl, ?_⟩
      cases v with
      | false => exact iteF (rest _ _ ⟨sg, s, rfl, T5, Z, hsg, bsg, d1⟩)
      | true =>
        refine iteT ⟨_, rfl, d, c, 3, rfl, S5, (by omega), (by omega), fun x6 G6 x6a x6b S6 kp6 => ?_⟩
        have T6 := S5.tabs_keep T5 kp6
        have Z := Z.tk fun b ys e => kp6.t S5 e
        have hsg := kp6.t S5 hsg
        refine ⟨rfl, _, rfl, ?_⟩
        by_cases e6 : x6 = 0
        rotate_left
        · exact eqN e6 (rest _ _ ⟨sg, s, rfl, T6, Z, hsg, bsg, d1⟩)
        refine eqY e6 ?_
        have n1 : 0 < n := by omega
        have ep : G6 (ad 0) = some (.tup [.int (g 0).1, .int (g 0).2]) := Z.p 0 n1
        have es : G6 sg = some (.tup [.int s.ax, .int s.ay, .int s.bx, .int s.bw, .int s.d]) := hsg
        refine ⟨_, rfl, _, _, _, _, rfl, rfl, .inl (.inl Z.t), atI_nat (j := 0) (refs_at n1), _, _, _, _, rfl, rfl, .inl (.inl ep), rfl, _, rfl, _, _, _, _, rfl, rfl, .inl (.inl Z.t), atI_nat (j := 0) (refs_at n1), _, _, _, _, rfl, rfl, .inl (.inl ep), rfl, _, rfl, _, _, _, _, rfl, rfl, .inl (.inl es), rfl, _, rfl, _, _, _, _, rfl, rfl, .inl (.inl es), rfl, szOk rfl, fun t ht => ?_⟩
        have s7 := same_new (o := (Seg.mk (g 0).1 (g 0).2 s.bx s.bw 1).tup) ht
        have b0 := Z.b 0 n1
        exact rest _ _ ⟨t, ⟨(g 0).1, (g 0).2, s.bx, s.bw, 1⟩, rfl, Same.tabs s7 T6, Z.same s7, upd_same, ⟨b0.b1.mono (by decide), b0.b2.mono (by decide), bsg.bx, bsg.bw, BdN.of (by show -((2 ^ 100 : Nat) : Int) ≤ (1 : Int); decide) (by show (1 : Int) ≤ ((2 ^ 100 : Nat) : Int); decide)⟩, Int.le_refl 1⟩
    rintro σ' G ⟨sg, s, rfl, T, Z, hsg, bsg, d1⟩
    clear T5 S5
    refine ⟨_, rfl, ?_⟩
    cases v with
    | false => exact ⟨_, rfl, iteT (kk G)⟩
    | true =>
    refine ⟨_, rfl, iteF ?_⟩
    refine nxQ ?_
    dsimp only
    have IZ := hv.mp rfl
    refine ⟨_, rfl, _, rfl, z, sg, ad, n, g, s, rfl, Z, IZ.1, hsg, bsg, fun w G1 hw s1 => ?_⟩
    have T := Same.tabs s1 T
    have Z := Z.same s1
    have hsg : G1 sg = some (.tup [.int s.ax, .int s.ay, .int s.bx, .int s.bw, .int s.d]) := s1 _ _ hsg
    refine nm ?_
    dsimp only [List.set]
    refine ⟨_, rfl, _, _, _, _, rfl, rfl, .inl (.inl hsg), rfl, _, rfl, _, _, _, _, rfl, rfl, .inl (.inl hsg), rfl, _, rfl, _, _, _, _, rfl, rfl, .inl (.inl hsg), rfl, _, rfl, _, _, _, _, rfl, rfl, .inl (.inl hsg), rfl, _, rfl, _, _, _, _, rfl, rfl, .inl (.inl hsg), rfl, szOk rfl, fun tu htu => ?_⟩
    have s2 := same_new (o := s.turn.tup) htu
    have etu : (upd G1 tu s.turn.tup) tu = some s.turn.tup := upd_same
    have T := Same.tabs s2 T
    have Z := Z.same s2
    have hsg : (upd G1 tu s.turn.tup) sg = some s.tup := s2 _ _ hsg
    have bt : SegBd 200 100 s.turn := ⟨bsg.bx, bsg.bw, bsg.ax, bsg.ay, bsg.d⟩
    change _ at etu
    refine nm ?_
    dsimp only [List.set]
    refine ⟨_, rfl, _, rfl, z, sg, ad, n, g, s, rfl, Z, hsg, bsg, T, fun v1 G3 hv1 s3 => ?_⟩
    have e1 : v1 = w := by rw [Bool.eq_iff_iff, hv1, hw]; exact zone_eq IZ d1
    refine ⟨_, rfl, v1, w, rfl, _, rfl, ?_⟩
    rw [decide_eq_true e1]
    refine iteT ⟨_, rfl, _, rfl, z, tu, ad, n, g, s.turn, rfl, Z.st s3 T, s3.t T etu, bt, s3.tabs T, fun v2 G4 hv2 s4 => ?_⟩
    have e2 : v2 = w := by rw [Bool.eq_iff_iff, hv2, hw]; exact (zone_eq (s := s.turn) IZ d1).trans LwP.turn
    refine ⟨_, rfl, v2, w, rfl, ?_⟩
    rw [decide_eq_true e2]
    exact kk G4
end
end Sk

set_option Elab.async false
set_option linter.all false
set_option maxRecDepth 100000
set_option maxHeartbeats 4000000
namespace Sk
open PySem PySem.Spec PyProof.Rows L2
/-! the end -/
theorem all_mk {l : PySem.W.OpenLaw} {w : World} {K : PySem.W.Frag} {h : Heap} {mg : Str → Option Value} {fa f1 f2 f3 f4 f5 f6 f7 f8 f9 f10 f11 f12 f13 f14 f15 f16 f17 f18 f19 f20 f21 f22 f23 f24 tc12 tp12 tc13 tp13 tc14 tp14 tc16 tp16 : Addr} (X : K.In h) (G : h.Ns mainGlobals mg) (hfa : mg "law" = some (.ref fa))
    {od1 an1 od2 an2 od3 an3 od4 an4 od5 an5 od6 an6 od7 an7 od8 an8 od9 an9 od10 an10 od11 an11 od12 an12 od13 an13 od14 an14 od15 an15 od16 an16 od17 an17 od18 an18 od19 an19 od20 an20 od21 an21 od22 an22 od23 an23 od24 an24 : Option Addr} {sl1 sl2 sl3 sl4 sl5 sl6 sl7 sl8 sl9 sl10 sl11 sl12 sl13 sl14 sl15 sl16 sl17 sl18 sl19 sl20 sl21 sl22 sl23 sl24 : Array (Option Value)} {oc1 kV1 dc1 pm1 ct1 cd1 oc2 kV2 dc2 pm2 ct2 cd2 oc3 kV3 dc3 pm3 ct3 cd3 oc4 kV4 dc4 pm4 ct4 cd4 oc5 kV5 dc5 pm5 ct5 cd5 oc6 kV6 dc6 pm6 ct6 cd6 oc7 kV7 dc7 pm7 ct7 cd7 oc8 kV8 dc8 pm8 ct8 cd8 oc9 kV9 dc9 pm9 ct9 cd9 oc10 kV10 dc10 pm10 ct10 cd10 oc11 kV11 dc11 pm11 ct11 cd11 oc12 kV12 dc12 pm12 ct12 oc13 kV13 dc13 pm13 ct13 oc14 kV14 dc14 pm14 ct14 oc15 kV15 dc15 pm15 ct15 cd15 oc16 kV16 dc16 pm16 ct16 oc17 kV17 dc17 pm17 ct17 cd17 oc18 kV18 dc18 pm18 ct18 cd18 oc19 kV19 dc19 pm19 ct19 cd19 oc20 kV20 dc20 pm20 ct20 cd20 oc21 kV21 dc21 pm21 ct21 cd21 oc22 kV22 dc22 pm22 ct22 cd22 oc23 kV23 dc23 pm23 ct23 cd23 oc24 kV24 dc24 pm24 ct24 cd24 ov12 ov13 ov14 ov16 : Value} {oo12 oo13 oo14 oo16 : Option Addr} {os12 os13 os14 os16 : Array (Option Value)} {fv12 fv13 fv14 fv16 : Array Value}
    (a1 : PySem.W.nsIn K mainGlobals "_law_start" = some (some (.ref f1))) (l1 : K.lookup f1 = some ⟨oc1, od1, .func (PySem.W.fnOf "_law_start" "_law_start" (defArgs s_law_start) (defBody s_law_start) (defScope s_law_start) .none kV1 dc1 pm1 an1 cd1 ct1), sl1⟩) (c1 : PySem.W.codeIn K cd1 "_law_start" = true) (k1 : PySem.W.keepIn K (.ref f1) = true)
    (a2 : PySem.W.nsIn K mainGlobals "_law_draw" = some (some (.ref f2))) (l2 : K.lookup f2 = some ⟨oc2, od2, .func (PySem.W.fnOf "_law_draw" "_law_draw" (defArgs s_law_draw) (defBody s_law_draw) (defScope s_law_draw) .none kV2 dc2 pm2 an2 cd2 ct2), sl2⟩) (c2 : PySem.W.codeIn K cd2 "_law_draw" = true) (k2 : PySem.W.keepIn K (.ref f2) = true)
    (a3 : PySem.W.nsIn K mainGlobals "_law_pick" = some (some (.ref f3))) (l3 : K.lookup f3 = some ⟨oc3, od3, .func (PySem.W.fnOf "_law_pick" "_law_pick" (defArgs s_law_pick) (defBody s_law_pick) (defScope s_law_pick) .none kV3 dc3 pm3 an3 cd3 ct3), sl3⟩) (c3 : PySem.W.codeIn K cd3 "_law_pick" = true) (k3 : PySem.W.keepIn K (.ref f3) = true)
    (a4 : PySem.W.nsIn K mainGlobals "_enlarged" = some (some (.ref f4))) (l4 : K.lookup f4 = some ⟨oc4, od4, .func (PySem.W.fnOf "_enlarged" "_enlarged" (defArgs s_enlarged) (defBody s_enlarged) (defScope s_enlarged) .none kV4 dc4 pm4 an4 cd4 ct4), sl4⟩) (c4 : PySem.W.codeIn K cd4 "_enlarged" = true) (k4 : PySem.W.keepIn K (.ref f4) = true)
    (a5 : PySem.W.nsIn K mainGlobals "_turn" = some (some (.ref f5))) (l5 : K.lookup f5 = some ⟨oc5, od5, .func (PySem.W.fnOf "_turn" "_turn" (defArgs s_turn) (defBody s_turn) (defScope s_turn) .none kV5 dc5 pm5 an5 cd5 ct5), sl5⟩) (c5 : PySem.W.codeIn K cd5 "_turn" = true) (k5 : PySem.W.keepIn K (.ref f5) = true)
    (a6 : PySem.W.nsIn K mainGlobals "_parted" = some (some (.ref f6))) (l6 : K.lookup f6 = some ⟨oc6, od6, .func (PySem.W.fnOf "_parted" "_parted" (defArgs s_parted) (defBody s_parted) (defScope s_parted) .none kV6 dc6 pm6 an6 cd6 ct6), sl6⟩) (c6 : PySem.W.codeIn K cd6 "_parted" = true) (k6 : PySem.W.keepIn K (.ref f6) = true)
    (a7 : PySem.W.nsIn K mainGlobals "_cross" = some (some (.ref f7))) (l7 : K.lookup f7 = some ⟨oc7, od7, .func (PySem.W.fnOf "_cross" "_cross" (defArgs s_cross) (defBody s_cross) (defScope s_cross) .none kV7 dc7 pm7 an7 cd7 ct7), sl7⟩) (c7 : PySem.W.codeIn K cd7 "_cross" = true) (k7 : PySem.W.keepIn K (.ref f7) = true)
    (a8 : PySem.W.nsIn K mainGlobals "_square" = some (some (.ref f8))) (l8 : K.lookup f8 = some ⟨oc8, od8, .func (PySem.W.fnOf "_square" "_square" (defArgs s_square) (defBody s_square) (defScope s_square) .none kV8 dc8 pm8 an8 cd8 ct8), sl8⟩) (c8 : PySem.W.codeIn K cd8 "_square" = true) (k8 : PySem.W.keepIn K (.ref f8) = true)
    (a9 : PySem.W.nsIn K mainGlobals "_squares" = some (some (.ref f9))) (l9 : K.lookup f9 = some ⟨oc9, od9, .func (PySem.W.fnOf "_squares" "_squares" (defArgs s_squares) (defBody s_squares) (defScope s_squares) .none kV9 dc9 pm9 an9 cd9 ct9), sl9⟩) (c9 : PySem.W.codeIn K cd9 "_squares" = true) (k9 : PySem.W.keepIn K (.ref f9) = true)
    (a10 : PySem.W.nsIn K mainGlobals "_side" = some (some (.ref f10))) (l10 : K.lookup f10 = some ⟨oc10, od10, .func (PySem.W.fnOf "_side" "_side" (defArgs s_side) (defBody s_side) (defScope s_side) .none kV10 dc10 pm10 an10 cd10 ct10), sl10⟩) (c10 : PySem.W.codeIn K cd10 "_side" = true) (k10 : PySem.W.keepIn K (.ref f10) = true)
    (a11 : PySem.W.nsIn K mainGlobals "_edges" = some (some (.ref f11))) (l11 : K.lookup f11 = some ⟨oc11, od11, .func (PySem.W.fnOf "_edges" "_edges" (defArgs s_edges) (defBody s_edges) (defScope s_edges) .none kV11 dc11 pm11 an11 cd11 ct11), sl11⟩) (c11 : PySem.W.codeIn K cd11 "_edges" = true) (k11 : PySem.W.keepIn K (.ref f11) = true)
    (a12 : PySem.W.nsIn K mainGlobals "meet" = some (some (.ref f12))) (l12 : K.lookup f12 = some ⟨oc12, od12, .func (PySem.W.fnOf "meet" "meet" (defArgs s_meet) (defBody s_meet) (defScope s_meet) .none kV12 dc12 pm12 an12 (.ref tc12) ct12), sl12⟩) (c12 : PySem.W.codeIn K (.ref tc12) "meet" = true) (k12 : PySem.W.keepIn K (.ref f12) = true)
    (lc12 : K.lookup tc12 = some ⟨ov12, oo12, .fields fv12, os12⟩) (hv12 : fv12[11]? = some (.ref tp12)) (np12 : K.lookup tp12 = none) (w12 : PySem.W.CodeHd h tc12 tp12 ∧ h.get? tp12 = some { cls := .none, data := .fields #[] })
    (a13 : PySem.W.nsIn K mainGlobals "_begins_inside" = some (some (.ref f13))) (l13 : K.lookup f13 = some ⟨oc13, od13, .func (PySem.W.fnOf "_begins_inside" "_begins_inside" (defArgs s_begins_inside) (defBody s_begins_inside) (defScope s_begins_inside) .none kV13 dc13 pm13 an13 (.ref tc13) ct13), sl13⟩) (c13 : PySem.W.codeIn K (.ref tc13) "_begins_inside" = true) (k13 : PySem.W.keepIn K (.ref f13) = true)
    (lc13 : K.lookup tc13 = some ⟨ov13, oo13, .fields fv13, os13⟩) (hv13 : fv13[11]? = some (.ref tp13)) (np13 : K.lookup tp13 = none) (w13 : PySem.W.CodeHd h tc13 tp13 ∧ h.get? tp13 = some { cls := .none, data := .fields #[] })
    (a14 : PySem.W.nsIn K mainGlobals "_meets_border" = some (some (.ref f14))) (l14 : K.lookup f14 = some ⟨oc14, od14, .func (PySem.W.fnOf "_meets_border" "_meets_border" (defArgs s_meets_border) (defBody s_meets_border) (defScope s_meets_border) .none kV14 dc14 pm14 an14 (.ref tc14) ct14), sl14⟩) (c14 : PySem.W.codeIn K (.ref tc14) "_meets_border" = true) (k14 : PySem.W.keepIn K (.ref f14) = true)
    (lc14 : K.lookup tc14 = some ⟨ov14, oo14, .fields fv14, os14⟩) (hv14 : fv14[11]? = some (.ref tp14)) (np14 : K.lookup tp14 = none) (w14 : PySem.W.CodeHd h tc14 tp14 ∧ h.get? tp14 = some { cls := .none, data := .fields #[] })
    (a15 : PySem.W.nsIn K mainGlobals "touches" = some (some (.ref f15))) (l15 : K.lookup f15 = some ⟨oc15, od15, .func (PySem.W.fnOf "touches" "touches" (defArgs s_touches) (defBody s_touches) (defScope s_touches) .none kV15 dc15 pm15 an15 cd15 ct15), sl15⟩) (c15 : PySem.W.codeIn K cd15 "touches" = true) (k15 : PySem.W.keepIn K (.ref f15) = true)
    (a16 : PySem.W.nsIn K mainGlobals "is_zone" = some (some (.ref f16))) (l16 : K.lookup f16 = some ⟨oc16, od16, .func (PySem.W.fnOf "is_zone" "is_zone" (defArgs s_is_zone) (defBody s_is_zone) (defScope s_is_zone) .none kV16 dc16 pm16 an16 (.ref tc16) ct16), sl16⟩) (c16 : PySem.W.codeIn K (.ref tc16) "is_zone" = true) (k16 : PySem.W.keepIn K (.ref f16) = true)
    (lc16 : K.lookup tc16 = some ⟨ov16, oo16, .fields fv16, os16⟩) (hv16 : fv16[11]? = some (.ref tp16)) (np16 : K.lookup tp16 = none) (w16 : PySem.W.CodeHd h tc16 tp16 ∧ h.get? tp16 = some { cls := .none, data := .fields #[] })
    (a17 : PySem.W.nsIn K mainGlobals "_law_is" = some (some (.ref f17))) (l17 : K.lookup f17 = some ⟨oc17, od17, .func (PySem.W.fnOf "_law_is" "_law_is" (defArgs s_law_is) (defBody s_law_is) (defScope s_law_is) .none kV17 dc17 pm17 an17 cd17 ct17), sl17⟩) (c17 : PySem.W.codeIn K cd17 "_law_is" = true) (k17 : PySem.W.keepIn K (.ref f17) = true)
    (a18 : PySem.W.nsIn K mainGlobals "_law_cross" = some (some (.ref f18))) (l18 : K.lookup f18 = some ⟨oc18, od18, .func (PySem.W.fnOf "_law_cross" "_law_cross" (defArgs s_law_cross) (defBody s_law_cross) (defScope s_law_cross) .none kV18 dc18 pm18 an18 cd18 ct18), sl18⟩) (c18 : PySem.W.codeIn K cd18 "_law_cross" = true) (k18 : PySem.W.keepIn K (.ref f18) = true)
    (a19 : PySem.W.nsIn K mainGlobals "_law_segment" = some (some (.ref f19))) (l19 : K.lookup f19 = some ⟨oc19, od19, .func (PySem.W.fnOf "_law_segment" "_law_segment" (defArgs s_law_segment) (defBody s_law_segment) (defScope s_law_segment) .none kV19 dc19 pm19 an19 cd19 ct19), sl19⟩) (c19 : PySem.W.codeIn K cd19 "_law_segment" = true) (k19 : PySem.W.keepIn K (.ref f19) = true)
    (a20 : PySem.W.nsIn K mainGlobals "_law_ring" = some (some (.ref f20))) (l20 : K.lookup f20 = some ⟨oc20, od20, .func (PySem.W.fnOf "_law_ring" "_law_ring" (defArgs s_law_ring) (defBody s_law_ring) (defScope s_law_ring) .none kV20 dc20 pm20 an20 cd20 ct20), sl20⟩) (c20 : PySem.W.codeIn K cd20 "_law_ring" = true) (k20 : PySem.W.keepIn K (.ref f20) = true)
    (a21 : PySem.W.nsIn K mainGlobals "_law_spoilt" = some (some (.ref f21))) (l21 : K.lookup f21 = some ⟨oc21, od21, .func (PySem.W.fnOf "_law_spoilt" "_law_spoilt" (defArgs s_law_spoilt) (defBody s_law_spoilt) (defScope s_law_spoilt) .none kV21 dc21 pm21 an21 cd21 ct21), sl21⟩) (c21 : PySem.W.codeIn K cd21 "_law_spoilt" = true) (k21 : PySem.W.keepIn K (.ref f21) = true)
    (a22 : PySem.W.nsIn K mainGlobals "_law_is_zone" = some (some (.ref f22))) (l22 : K.lookup f22 = some ⟨oc22, od22, .func (PySem.W.fnOf "_law_is_zone" "_law_is_zone" (defArgs s_law_is_zone) (defBody s_law_is_zone) (defScope s_law_is_zone) .none kV22 dc22 pm22 an22 cd22 ct22), sl22⟩) (c22 : PySem.W.codeIn K cd22 "_law_is_zone" = true) (k22 : PySem.W.keepIn K (.ref f22) = true)
    (a23 : PySem.W.nsIn K mainGlobals "_law_touches" = some (some (.ref f23))) (l23 : K.lookup f23 = some ⟨oc23, od23, .func (PySem.W.fnOf "_law_touches" "_law_touches" (defArgs s_law_touches) (defBody s_law_touches) (defScope s_law_touches) .none kV23 dc23 pm23 an23 cd23 ct23), sl23⟩) (c23 : PySem.W.codeIn K cd23 "_law_touches" = true) (k23 : PySem.W.keepIn K (.ref f23) = true)
    (a24 : PySem.W.nsIn K mainGlobals "law" = some (some (.ref f24))) (l24 : K.lookup f24 = some ⟨oc24, od24, .func (PySem.W.fnOf "law" "law" (defArgs s_law) (defBody s_law) (defScope s_law) .none kV24 dc24 pm24 an24 cd24 ct24), sl24⟩) (c24 : PySem.W.codeIn K cd24 "law" = true) (k24 : PySem.W.keepIn K (.ref f24) = true)
    (z1 : PySem.W.nsIn K mainGlobals "abs" = some none) (z2 : PySem.W.nsIn K mainGlobals "int" = some none) (z3 : PySem.W.nsIn K mainGlobals "len" = some none) (z4 : PySem.W.nsIn K mainGlobals "bool" = some none) (z5 : PySem.W.nsIn K mainGlobals "isinstance" = some none) (z6 : PySem.W.nsIn K mainGlobals "max" = some none) (z7 : PySem.W.nsIn K mainGlobals "min" = some none) (z8 : PySem.W.nsIn K mainGlobals "range" = some none) (z9 : PySem.W.nsIn K mainGlobals "tuple" = some none) (z10 : PySem.W.nsIn K mainGlobals "list" = some none) (z11 : PySem.W.nsIn K mainGlobals "sum" = some none) (z12 : PySem.W.nsIn K mainGlobals "any" = some none) (z13 : PySem.W.nsIn K mainGlobals "all" = some none) (z14 : PySem.W.nsIn K mainGlobals "sorted" = some none) (z15 : PySem.W.nsIn K mainGlobals "dict" = some none) (z16 : PySem.W.nsIn K mainGlobals "enumerate" = some none) :
    LamX.LawAtS l w K CX0 10 63 "script" mg fa h := by
  have e := hfa.symm.trans (PySem.W.mg_of X G a24)
  cases e
  have F1 := fun_mk (st := s_law_start) l1 c1 k1
  have F2 := fun_mk (st := s_law_draw) l2 c2 k2
  have F3 := fun_mk (st := s_law_pick) l3 c3 k3
  have F4 := fun_mk (st := s_enlarged) l4 c4 k4
  have F5 := fun_mk (st := s_turn) l5 c5 k5
  have F6 := fun_mk (st := s_parted) l6 c6 k6
  have F7 := fun_mk (st := s_cross) l7 c7 k7
  have F8 := fun_mk (st := s_square) l8 c8 k8
  have F9 := fun_mk (st := s_squares) l9 c9 k9
  have F10 := fun_mk (st := s_side) l10 c10 k10
  have F11 := fun_mk (st := s_edges) l11 c11 k11
  have F12 := fun_mk (st := s_meet) l12 c12 k12
  have F13 := fun_mk (st := s_begins_inside) l13 c13 k13
  have F14 := fun_mk (st := s_meets_border) l14 c14 k14
  have F15 := fun_mk (st := s_touches) l15 c15 k15
  have F16 := fun_mk (st := s_is_zone) l16 c16 k16
  have F17 := fun_mk (st := s_law_is) l17 c17 k17
  have F18 := fun_mk (st := s_law_cross) l18 c18 k18
  have F19 := fun_mk (st := s_law_segment) l19 c19 k19
  have F20 := fun_mk (st := s_law_ring) l20 c20 k20
  have F21 := fun_mk (st := s_law_spoilt) l21 c21 k21
  have F22 := fun_mk (st := s_law_is_zone) l22 c22 k22
  have F23 := fun_mk (st := s_law_touches) l23 c23 k23
  have F24 := fun_mk (st := s_law) l24 c24 k24
  have b1 := F1.binds (ps := ["script"]) fun _ _ _ _ _ _ us hl => match us, hl with | [_], _ => rfl
  have b2 := F2.binds (ps := ["state", "bound"]) fun _ _ _ _ _ _ us hl => match us, hl with | [_, _], _ => rfl
  have b3 := F3.binds (ps := ["state", "things"]) fun _ _ _ _ _ _ us hl => match us, hl with | [_, _], _ => rfl
  have b4 := F4.binds (ps := ["segment", "factor"]) fun _ _ _ _ _ _ us hl => match us, hl with | [_, _], _ => rfl
  have b5 := F5.binds (ps := ["segment", "x", "y"]) fun _ _ _ _ _ _ us hl => match us, hl with | [_, _, _], _ => rfl
  have b6 := F6.binds (ps := ["segment", "ends"]) fun _ _ _ _ _ _ us hl => match us, hl with | [_, _], _ => rfl
  have b7 := F7.binds (ps := ["first", "second"]) fun _ _ _ _ _ _ us hl => match us, hl with | [_, _], _ => rfl
  have b8 := F8.binds (ps := ["x", "y", "segment"]) fun _ _ _ _ _ _ us hl => match us, hl with | [_, _, _], _ => rfl
  have b9 := F9.binds (ps := ["first", "second"]) fun _ _ _ _ _ _ us hl => match us, hl with | [_, _], _ => rfl
  have b10 := F10.binds (ps := ["start", "end", "x", "y", "d"]) fun _ _ _ _ _ _ us hl => match us, hl with | [_, _, _, _, _], _ => rfl
  have b11 := F11.binds (ps := ["zone"]) fun _ _ _ _ _ _ us hl => match us, hl with | [_], _ => rfl
  have b12 := F12.binds (ps := ["first", "second"]) fun _ _ _ _ _ _ us hl => match us, hl with | [_, _], _ => rfl
  have b13 := F13.binds (ps := ["zone", "segment"]) fun _ _ _ _ _ _ us hl => match us, hl with | [_, _], _ => rfl
  have b14 := F14.binds (ps := ["zone", "segment"]) fun _ _ _ _ _ _ us hl => match us, hl with | [_, _], _ => rfl
  have b15 := F15.binds (ps := ["zone", "segment"]) fun _ _ _ _ _ _ us hl => match us, hl with | [_, _], _ => rfl
  have b16 := F16.binds (ps := ["points"]) fun _ _ _ _ _ _ us hl => match us, hl with | [_], _ => rfl
  have b17 := F17.binds (ps := ["actual", "due"]) fun _ _ _ _ _ _ us hl => match us, hl with | [_, _], _ => rfl
  have b18 := F18.binds (ps := ["o", "a", "b"]) fun _ _ _ _ _ _ us hl => match us, hl with | [_, _, _], _ => rfl
  have b19 := F19.binds (ps := ["state", "size"]) fun _ _ _ _ _ _ us hl => match us, hl with | [_, _], _ => rfl
  have b20 := F20.binds (ps := ["state"]) fun _ _ _ _ _ _ us hl => match us, hl with | [_], _ => rfl
  have b21 := F21.binds (ps := ["state", "points"]) fun _ _ _ _ _ _ us hl => match us, hl with | [_, _], _ => rfl
  have b22 := F22.binds (ps := ["points"]) fun _ _ _ _ _ _ us hl => match us, hl with | [_], _ => rfl
  have b23 := F23.binds (ps := ["zone", "segment"]) fun _ _ _ _ _ _ us hl => match us, hl with | [_, _], _ => rfl
  have T : TxtA mg := { abs := PySem.W.mg_none_of X G z1, int := PySem.W.mg_none_of X G z2, len := PySem.W.mg_none_of X G z3, bool := PySem.W.mg_none_of X G z4, isinstance := PySem.W.mg_none_of X G z5, max := PySem.W.mg_none_of X G z6, min := PySem.W.mg_none_of X G z7, range := PySem.W.mg_none_of X G z8, tuple := PySem.W.mg_none_of X G z9, list := PySem.W.mg_none_of X G z10, sum := PySem.W.mg_none_of X G z11, any := PySem.W.mg_none_of X G z12, all := PySem.W.mg_none_of X G z13, sorted := PySem.W.mg_none_of X G z14, dict := PySem.W.mg_none_of X G z15, enumerate := PySem.W.mg_none_of X G z16 }
  refine ⟨PySem.W.fnOf "law" "law" (defArgs s_law) (defBody s_law) (defScope s_law) .none kV24 dc24 pm24 an24 cd24 ct24, [(tc12, tp12), (tc13, tp13), (tc14, tp14), (tc16, tp16)], spLaw K [tp12, tp13, tp14, tp16], fun p hp => ?_, fun p hp => ?_, fun p hp => ?_, fun s v => .of_eq rfl, fun H a ns hl hb hH hS => ⟨a, ns, rfl, hS, hl, fun P hP => ?_, fun _ => rfl⟩, fun base _ _ hTB => ?_⟩
  · simp only [List.mem_cons, List.not_mem_nil, or_false] at hp
    rcases hp with rfl | rfl | rfl | rfl
    · exact w12.2
    · exact w13.2
    · exact w14.2
    · exact w16.2
  · simp only [List.mem_cons, List.not_mem_nil, or_false] at hp
    rcases hp with rfl | rfl | rfl | rfl
    · exact np12
    · exact np13
    · exact np14
    · exact np16
  · simp only [List.mem_cons, List.not_mem_nil, or_false] at hp
    rcases hp with rfl | rfl | rfl | rfl
    · exact w12.1
    · exact w13.1
    · exact w14.1
    · exact w16.1
  · simp only [List.mem_cons, List.not_mem_nil, or_false] at hP
    rcases hP with hP | hP | hP | hP
    · rw [hP]; exact ⟨#[], hH (tc12, tp12) (by simp), True.intro⟩
    · rw [hP]; exact ⟨#[], hH (tc13, tp13) (by simp), True.intro⟩
    · rw [hP]; exact ⟨#[], hH (tc14, tp14) (by simp), True.intro⟩
    · rw [hP]; exact ⟨#[], hH (tc16, tp16) (by simp), True.intro⟩
  have D1 : Def l.prog w K mg base 1 "_law_start" ["script"] (spStart K) := .mk' F1 b1 (PySem.W.mg_of X G a1) (ok_law_start F1 T.toTxt0)
  have D2 : Def l.prog w K mg base 1 "_law_draw" ["state", "bound"] (spDraw K) := .mk' F2 b2 (PySem.W.mg_of X G a2) (ok_law_draw F2 T.toTxt0)
  have D3 : Def l.prog w K mg base 2 "_law_pick" ["state", "things"] (spPick K) := .mk' F3 b3 (PySem.W.mg_of X G a3) (ok_law_pick F3 T.toTxt0 D2)
  have D4 : Def l.prog w K mg base 1 "_enlarged" ["segment", "factor"] (spEnl) := .mk' F4 b4 (PySem.W.mg_of X G a4) (ok_enlarged F4 T)
  have D5 : Def l.prog w K mg base 1 "_turn" ["segment", "x", "y"] (spTurn) := .mk' F5 b5 (PySem.W.mg_of X G a5) (ok_turn F5 T)
  have D6 : Def l.prog w K mg base 2 "_parted" ["segment", "ends"] (spParted) := .mk' F6 b6 (PySem.W.mg_of X G a6) (ok_parted F6 T D5)
  have D7 : Def l.prog w K mg base 3 "_cross" ["first", "second"] (spCross) := .mk' F7 b7 (PySem.W.mg_of X G a7) (ok_cross F7 T D6)
  have D8 : Def l.prog w K mg base 2 "_square" ["x", "y", "segment"] (spSquare) := .mk' F8 b8 (PySem.W.mg_of X G a8) (ok_square F8 T D5)
  have D9 : Def l.prog w K mg base 4 "_squares" ["first", "second"] (spSquares) := .mk' F9 b9 (PySem.W.mg_of X G a9) (ok_squares F9 T D4 D7 D8)
  have D10 : Def l.prog w K mg base 1 "_side" ["start", "end", "x", "y", "d"] (spSide) := .mk' F10 b10 (PySem.W.mg_of X G a10) (ok_side F10 T)
  have D11 : Def l.prog w K mg base 1 "_edges" ["zone"] (spEdges) := .mk' F11 b11 (PySem.W.mg_of X G a11) (ok_edges F11 T)
  have D12 : Def l.prog w K mg base 5 "meet" ["first", "second"] (spMeet [tp12, tp13, tp14, tp16]) := .mk' F12 b12 (PySem.W.mg_of X G a12) (ok_meet F12 T rfl (hTB (tc12, tp12) (by simp)) (by simp) D9)
  have D13 : Def l.prog w K mg base 4 "_begins_inside" ["zone", "segment"] (spZS [tp12, tp13, tp14, tp16] InP) := .mk' F13 b13 (PySem.W.mg_of X G a13) (ok_begins_inside F13 T rfl (hTB (tc13, tp13) (by simp)) (by simp) D11 D10)
  have D14 : Def l.prog w K mg base 8 "_meets_border" ["zone", "segment"] (spZS [tp12, tp13, tp14, tp16] BoP) := .mk' F14 b14 (PySem.W.mg_of X G a14) (ok_meets_border F14 T rfl (hTB (tc14, tp14) (by simp)) (by simp) D11 D12)
  have D15 : Def l.prog w K mg base 9 "touches" ["zone", "segment"] (spZS [tp12, tp13, tp14, tp16] (fun n g s => InP n g s ∨ BoP n g s)) := .mk' F15 b15 (PySem.W.mg_of X G a15) (ok_touches F15 T D13 D14)
  have D16 : Def l.prog w K mg base 4 "is_zone" ["points"] (spIsZoneP [tp12, tp13, tp14, tp16]) := .mk' F16 b16 (PySem.W.mg_of X G a16) (ok_is_zone F16 T rfl (hTB (tc16, tp16) (by simp)) (by simp) D10)
  have D17 : Def l.prog w K mg base 1 "_law_is" ["actual", "due"] (spIsB) := .mk' F17 b17 (PySem.W.mg_of X G a17) (ok_law_is F17 T)
  have D18 : Def l.prog w K mg base 1 "_law_cross" ["o", "a", "b"] (spLCross) := .mk' F18 b18 (PySem.W.mg_of X G a18) (ok_law_cross F18 T)
  have D19 : Def l.prog w K mg base 3 "_law_segment" ["state", "size"] (spSegment K) := .mk' F19 b19 (PySem.W.mg_of X G a19) (ok_law_segment F19 T D2 D3)
  have D20 : Def l.prog w K mg base 3 "_law_ring" ["state"] (spRing K) := .mk' F20 b20 (PySem.W.mg_of X G a20) (ok_law_ring F20 T D2 D3)
  have D21 : Def l.prog w K mg base 3 "_law_spoilt" ["state", "points"] (spSpoilt K) := .mk' F21 b21 (PySem.W.mg_of X G a21) (ok_law_spoilt F21 T D2)
  have D22 : Def l.prog w K mg base 2 "_law_is_zone" ["points"] (spLIsZone) := .mk' F22 b22 (PySem.W.mg_of X G a22) (ok_law_is_zone F22 T D18)
  have D23 : Def l.prog w K mg base 2 "_law_touches" ["zone", "segment"] (spLTouches) := .mk' F23 b23 (PySem.W.mg_of X G a23) (ok_law_touches F23 T D18)
  exact ok_law F24 T D1 D2 D3 D20 D21 D22 D16 D17 D19 D23 D15
end Sk
open PySem PySem.W PyProof.Rows
set_option maxRecDepth 100000 in
set_option maxHeartbeats 0 in
theorem PySem.Challenge.cw_skyapart_k04_zones_holds : PySem.Challenge.rw_skyapart_k04_zones.Holds := by
  w_on; o_law; k_head; (case hw => w_witness2)
  k_fill
  refine Sk.walk_tabs (l := PySem.Challenge.rw_skyapart_k04_zones) (n := 63) (k := 10) (x := "script") (CX := fun _ => L2.CX0) rfl (by decide) rfl ⟨rfl, by decide, by decide⟩ (fun w h Y => PySem.W.kIn_of Y) ?F (fun _ _ _ _ _ z => z)
  case F =>
    intro w mg fa h KX G hmg hT
    refine' Sk.all_mk KX G hmg ?a1 ?l1 ?c1 ?k1 ?a2 ?l2 ?c2 ?k2 ?a3 ?l3 ?c3 ?k3 ?a4 ?l4 ?c4 ?k4 ?a5 ?l5 ?c5 ?k5 ?a6 ?l6 ?c6 ?k6 ?a7 ?l7 ?c7 ?k7 ?a8 ?l8 ?c8 ?k8 ?a9 ?l9 ?c9 ?k9 ?a10 ?l10 ?c10 ?k10 ?a11 ?l11 ?c11 ?k11 ?a12 ?l12 ?c12 ?k12 ?lc12 ?hv12 ?np12 ?w12 ?a13 ?l13 ?c13 ?k13 ?lc13 ?hv13 ?np13 ?w13 ?a14 ?l14 ?c14 ?k14 ?lc14 ?hv14 ?np14 ?w14 ?a15 ?l15 ?c15 ?k15 ?a16 ?l16 ?c16 ?k16 ?lc16 ?hv16 ?np16 ?w16 ?a17 ?l17 ?c17 ?k17 ?a18 ?l18 ?c18 ?k18 ?a19 ?l19 ?c19 ?k19 ?a20 ?l20 ?c20 ?k20 ?a21 ?l21 ?c21 ?k21 ?a22 ?l22 ?c22 ?k22 ?a23 ?l23 ?c23 ?k23 ?a24 ?l24 ?c24 ?k24 ?z1 ?z2 ?z3 ?z4 ?z5 ?z6 ?z7 ?z8 ?z9 ?z10 ?z11 ?z12 ?z13 ?z14 ?z15 ?z16
    (case a1 => k_is); (case l1 => k_is); (case c1 => k_is); (case k1 => k_is)
    (case a2 => k_is); (case l2 => k_is); (case c2 => k_is); (case k2 => k_is)
    (case a3 => k_is); (case l3 => k_is); (case c3 => k_is); (case k3 => k_is)
    (case a4 => k_is); (case l4 => k_is); (case c4 => k_is); (case k4 => k_is)
    (case a5 => k_is); (case l5 => k_is); (case c5 => k_is); (case k5 => k_is)
    (case a6 => k_is); (case l6 => k_is); (case c6 => k_is); (case k6 => k_is)
    (case a7 => k_is); (case l7 => k_is); (case c7 => k_is); (case k7 => k_is)
    (case a8 => k_is); (case l8 => k_is); (case c8 => k_is); (case k8 => k_is)
    (case a9 => k_is); (case l9 => k_is); (case c9 => k_is); (case k9 => k_is)
    (case a10 => k_is); (case l10 => k_is); (case c10 => k_is); (case k10 => k_is)
    (case a11 => k_is); (case l11 => k_is); (case c11 => k_is); (case k11 => k_is)
    (case a12 => k_is); (case l12 => k_is); (case c12 => k_is); (case k12 => k_is)
    (case lc12 => k_is); (case hv12 => exact rfl); (case np12 => kernel_rfl); (case w12 => exact hT "meet" _ _ _ rfl (by kernel_rfl))
    (case a13 => k_is); (case l13 => k_is); (case c13 => k_is); (case k13 => k_is)
    (case lc13 => k_is); (case hv13 => exact rfl); (case np13 => kernel_rfl); (case w13 => exact hT "_begins_inside" _ _ _ rfl (by kernel_rfl))
    (case a14 => k_is); (case l14 => k_is); (case c14 => k_is); (case k14 => k_is)
    (case lc14 => k_is); (case hv14 => exact rfl); (case np14 => kernel_rfl); (case w14 => exact hT "_meets_border" _ _ _ rfl (by kernel_rfl))
    (case a15 => k_is); (case l15 => k_is); (case c15 => k_is); (case k15 => k_is)
    (case a16 => k_is); (case l16 => k_is); (case c16 => k_is); (case k16 => k_is)
    (case lc16 => k_is); (case hv16 => exact rfl); (case np16 => kernel_rfl); (case w16 => exact hT "is_zone" _ _ _ rfl (by kernel_rfl))
    (case a17 => k_is); (case l17 => k_is); (case c17 => k_is); (case k17 => k_is)
    (case a18 => k_is); (case l18 => k_is); (case c18 => k_is); (case k18 => k_is)
    (case a19 => k_is); (case l19 => k_is); (case c19 => k_is); (case k19 => k_is)
    (case a20 => k_is); (case l20 => k_is); (case c20 => k_is); (case k20 => k_is)
    (case a21 => k_is); (case l21 => k_is); (case c21 => k_is); (case k21 => k_is)
    (case a22 => k_is); (case l22 => k_is); (case c22 => k_is); (case k22 => k_is)
    (case a23 => k_is); (case l23 => k_is); (case c23 => k_is); (case k23 => k_is)
    (case a24 => k_is); (case l24 => k_is); (case c24 => k_is); (case k24 => k_is)
    (case z1 => k_is); (case z2 => k_is); (case z3 => k_is); (case z4 => k_is)
    (case z5 => k_is); (case z6 => k_is); (case z7 => k_is); (case z8 => k_is)
    (case z9 => k_is); (case z10 => k_is); (case z11 => k_is); (case z12 => k_is)
    (case z13 => k_is); (case z14 => k_is); (case z15 => k_is); (case z16 => k_is)
