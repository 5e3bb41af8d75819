import PyProof.Rows.All
import Wide.All
import OpenK.AllK
import Wide.FinOn
import HandS.Base
import HandS.Call
import HandS.List
import HandS.Comp
import HandS.Ends
import HandS.Dict
import HandS.Iter
import HandS.Words
import HandS.WordsList
import HandS.Wide
import HandS.Gcd
import HandS.IsInst
import Flt.RightSqrt
import HandS.GenList
import HandS.AnyAll
import HandS.EndTab
import HandS.Zip
import HandS.Nested
import HandS.Flow
import HandS.EndOwn
import KE.KNest
import PyProof.ConsumeS
import PySem.Challenge.RW_skyapart_k03_distance_rounded_down
set_option Elab.async false
set_option linter.all false
set_option maxRecDepth 100000
set_option maxHeartbeats 4000000
namespace Sk
open PySem PySem.Spec PyProof.Rows L2

/-! a def of the text, ready to be called by its name -/
structure Def (P : Program) (w : World) (K : PySem.W.Frag) (mg : Str → Option Value) (base : Heap) (k : Nat) (x : Str) (ps : List Str) (sp : Sp) : Prop where
  ex : ∃ (f : Addr) (fd : FuncData), FnOk P w K mg base CX0 k f fd ps sp ∧ mg x = some (.ref f) ∧ PySem.W.keepIn K (.ref f) = true ∧ Binds K fd ps []
theorem Def.mk' {P : Program} {w : World} {K : PySem.W.Frag} {mg : Str → Option Value} {base : Heap} {k : Nat} {x qual : Str} {st : Stmt} {f : Addr} {fd : FuncData} {ps : List Str} {sp : Sp}
    (F : Fun K x qual st f fd) (b : Binds K fd ps []) (m : mg x = some (.ref f)) (G : FnOk P w K mg base CX0 k f fd ps sp) : Def P w K mg base k x ps sp := ⟨f, fd, G, m, F.kp, b⟩
theorem pe_def {X : Cx} {k : Nat} {x : Str} {ps : List Str} {sp : Sp} {p pos : Pos} {e : Expr} {es : List Expr} {t : TA} (D : Def X.prog X.w X.K X.mg X.base k x ps sp) (hr : Room k X.A) (hg : Gl X x)
    (ha : PA X (e :: es) t) (hdb : (x == ("__debug__" : Str)) = false := by decide) (he : starEach (e :: es) X.env = (false, eval e X.env) :: starEach es X.env := by rfl) (hpl : (backTo pos (starEach es X.env)).any (·.1) = false := by rfl) :
    PE X (.Call (.Name x p) (e :: es) [] pos) (tCall sp [] E0 t) := by
  obtain ⟨f, fd, F, m, kp, b⟩ := D.ex
  exact pe_call F hr hg m kp b .nil pass0 ha hdb he hpl
/-- a call's reading: the values of the arguments as they are -/
theorem sp_nil {sp : Sp} {vs : List V} {H : Hp} {Q : VK} {E : XK} (h : sp vs H Q E) : sp (vs ++ []) H Q E := by
  rw [List.append_nil]
  exact h

/-! heaps -/
/-- all but what stands at d is as it was -/
def Keep (d : Addr) (H H' : Hp) : Prop := ∀ c o, H c = some o → c ≠ d → H' c = some o
theorem Keep.refl (d : Addr) (H : Hp) : Keep d H H := fun _ _ h _ => h
theorem Keep.trans {d : Addr} {H H1 H2 : Hp} (a : Keep d H H1) (b : Keep d H1 H2) : Keep d H H2 := fun c o h n => b c o (a c o h n) n
theorem Keep.of {d : Addr} {H H1 : Hp} (a : Same H H1) : Keep d H H1 := fun c o h _ => a c o h
theorem Keep.upd (d : Addr) (H : Hp) (o : HO) : Keep d H (upd H d o) := fun c u h n => by
  rw [upd_ne n]
  exact h
theorem same_new {H : Hp} {p : Addr} {o : HO} (h : H p = none) : Same H (upd H p o) := fun b x e => by
  rw [upd_ne (ne_of_none e h)]
  exact e
theorem lst_ne {H : Hp} {a d : Addr} {xs : List V} {o : HO} (h : H d = some (.dK o')) (ha : H a = some (.lst xs)) : a ≠ d := ne_of ha h (by intro z; cases z)
/-- a list to be read stays, if it isn't the dict at d -/
theorem Keep.seq {K : PySem.W.Frag} {d : Addr} {kvs : List (Key × V)} {H H' : Hp} {a : Addr} {xs : List V} (k : Keep d H H') (hd : H d = some (.dK kvs)) (h : SqL K H a xs) : SqL K H' a xs := by
  rcases h with (h | ⟨o, h⟩) | h
  · exact .inl (.inl (k _ _ h (ne_of h hd (by intro z; cases z))))
  · exact .inl (.inr ⟨o, k _ _ h (ne_of h hd (by intro z; cases z))⟩)
  · exact .inr h
theorem Keep.tup {K : PySem.W.Frag} {d : Addr} {kvs : List (Key × V)} {H H' : Hp} {a : Addr} {xs : List V} (k : Keep d H H') (hd : H d = some (.dK kvs)) (h : SqT K H a xs) : SqT K H' a xs := by
  rcases h with (h | ⟨o, h⟩) | h
  · exact .inl (.inl (k _ _ h (ne_of h hd (by intro z; cases z))))
  · exact .inl (.inr ⟨o, k _ _ h (ne_of h hd (by intro z; cases z))⟩)
  · exact .inr h
theorem Keep.lst {d : Addr} {kvs : List (Key × V)} {H H' : Hp} {a : Addr} {xs : List V} (k : Keep d H H') (hd : H d = some (.dK kvs)) (h : H a = some (.lst xs)) : H' a = some (.lst xs) := k _ _ h (ne_of h hd (by intro z; cases z))
theorem Keep.tp {d : Addr} {kvs : List (Key × V)} {H H' : Hp} {a : Addr} {xs : List V} (k : Keep d H H') (hd : H d = some (.dK kvs)) (h : H a = some (.tup xs)) : H' a = some (.tup xs) := k _ _ h (ne_of h hd (by intro z; cases z))
theorem same_tup {K : PySem.W.Frag} {H H' : Hp} {a : Addr} {xs : List V} (e : Same H H') (h : SqT K H a xs) : SqT K H' a xs := by
  rcases h with (h | ⟨o, h⟩) | h
  · exact .inl (.inl (e _ _ h))
  · exact .inl (.inr ⟨o, e _ _ h⟩)
  · exact .inr h

/-! the state of the draws -/
theorem k01 : ¬ ("cells" : Str) = "at" := by decide +kernel
theorem k02 : ¬ ("cells" : Str) = "left" := by decide +kernel
theorem k03 : ¬ ("cells" : Str) = "mix" := by decide +kernel
theorem k10 : ¬ ("at" : Str) = "cells" := by decide +kernel
theorem k12 : ¬ ("at" : Str) = "left" := by decide +kernel
theorem k13 : ¬ ("at" : Str) = "mix" := by decide +kernel
theorem k20 : ¬ ("left" : Str) = "cells" := by decide +kernel
theorem k21 : ¬ ("left" : Str) = "at" := by decide +kernel
theorem k23 : ¬ ("left" : Str) = "mix" := by decide +kernel
theorem k30 : ¬ ("mix" : Str) = "cells" := by decide +kernel
theorem k31 : ¬ ("mix" : Str) = "at" := by decide +kernel
theorem k32 : ¬ ("mix" : Str) = "left" := by decide +kernel
theorem kr {a b : Str} (h : ¬ a = b) : ¬ (Sum.inr a : Key) = Sum.inr b := fun z => h (Sum.inr.inj z)
def stK (c : Addr) (i l m : Int) : List (Key × V) := [(.inr "cells", .ref c), (.inr "at", .int i), (.inr "left", .int l), (.inr "mix", .int m)]
theorem g_cells (c : Addr) (i l m : Int) : valV (stK c i l m) (.inr "cells") = some (.ref c) := valV_pos rfl
theorem g_at (c : Addr) (i l m : Int) : valV (stK c i l m) (.inr "at") = some (.int i) := by
  unfold stK
  rw [valV_neg (kr k01), valV_pos rfl]
theorem g_left (c : Addr) (i l m : Int) : valV (stK c i l m) (.inr "left") = some (.int l) := by
  unfold stK
  rw [valV_neg (kr k02), valV_neg (kr k12), valV_pos rfl]
theorem g_mix (c : Addr) (i l m : Int) : valV (stK c i l m) (.inr "mix") = some (.int m) := by
  unfold stK
  rw [valV_neg (kr k03), valV_neg (kr k13), valV_neg (kr k23), valV_pos rfl]
theorem put_any {kvs : List (Key × V)} {k : Key} {v y : V} (h : valV kvs k = some v) : putK kvs k y = kvs.map (fun kv => if kv.1 = k then (kv.1, y) else kv) := by
  unfold putK
  rw [valV_any, h]
  exact if_pos rfl
theorem p_at (c : Addr) (i l m j : Int) : putK (stK c i l m) (.inr "at") (.int j) = stK c j l m := by
  rw [put_any (g_at c i l m)]
  unfold stK
  simp only [List.map_cons, List.map_nil, if_neg (kr k01), if_neg (kr k21), if_neg (kr k31), if_true]
theorem p_left (c : Addr) (i l m j : Int) : putK (stK c i l m) (.inr "left") (.int j) = stK c i j m := by
  rw [put_any (g_left c i l m)]
  unfold stK
  simp only [List.map_cons, List.map_nil, if_neg (kr k02), if_neg (kr k12), if_neg (kr k32), if_true]
theorem p_mix (c : Addr) (i l m j : Int) : putK (stK c i l m) (.inr "mix") (.int j) = stK c i l j := by
  rw [put_any (g_mix c i l m)]
  unfold stK
  simp only [List.map_cons, List.map_nil, if_neg (kr k03), if_neg (kr k13), if_neg (kr k23), if_true]
theorem merge_st (c : Addr) (i l m : Int) : mergeK [] (stK c i l m) = stK c i l m := by
  have e0 : putK ([] : List (Key × V)) (.inr "cells" : Key) (.ref c) = [((.inr "cells" : Key), V.ref c)] := rfl
  have e1 : putK [((.inr "cells" : Key), V.ref c)] (.inr "at" : Key) (.int i) = [((.inr "cells" : Key), V.ref c), (.inr "at", .int i)] := by
    rw [putK_new _ (by rw [valV_neg (kr k01)]; rfl)]
    all_goals rfl
  have e2 : putK [((.inr "cells" : Key), V.ref c), (.inr "at", .int i)] (.inr "left") (.int l) = [((.inr "cells" : Key), V.ref c), (.inr "at", .int i), (.inr "left", .int l)] := by
    rw [putK_new _ (by rw [valV_neg (kr k02), valV_neg (kr k12)]; rfl)]
    all_goals rfl
  have e3 : putK [((.inr "cells" : Key), V.ref c), (.inr "at", .int i), (.inr "left", .int l)] (.inr "mix") (.int m) = stK c i l m := by
    rw [putK_new _ (by rw [valV_neg (kr k03), valV_neg (kr k13), valV_neg (kr k23)]; rfl)]
    all_goals rfl
  show putK (putK (putK (putK ([] : List (Key × V)) (.inr "cells" : Key) (.ref c)) (.inr "at" : Key) (.int i)) (.inr "left" : Key) (.int l)) (.inr "mix" : Key) (.int m) = stK c i l m
  rw [e0, e1, e2, e3]
/-- the dict of the draws stands at d -/
structure StAt (K : PySem.W.Frag) (H : Hp) (d : Addr) (c : Addr) (ns : List Int) (i l m : Int) : Prop where
  dc : H d = some (.dK (stK c i l m))
  cs : H c = some (.lst (ns.map V.int))
  nn : ∀ x ∈ ns, 0 ≤ x
  i0 : 0 ≤ i
  l0 : 0 ≤ l
  m0 : 0 ≤ m
  m1 : m < 2147483648
def St1 (K : PySem.W.Frag) (H : Hp) (d c : Addr) : Prop := ∃ ns i l m, StAt K H d c ns i l m
theorem St1.dk {K : PySem.W.Frag} {H : Hp} {d c : Addr} (S : St1 K H d c) : ∃ kvs, H d = some (.dK kvs) := let ⟨_, _, _, _, S⟩ := S; ⟨_, S.dc⟩
theorem St1.cl {K : PySem.W.Frag} {H : Hp} {d c : Addr} (S : St1 K H d c) : ∃ xs, H c = some (.lst xs) := let ⟨_, _, _, _, S⟩ := S; ⟨_, S.cs⟩
/-- the state stands on where both its objects stand -/
theorem St1.of {K : PySem.W.Frag} {H H' : Hp} {d c : Addr} (S : St1 K H d c) (e1 : H' d = H d) (e2 : H' c = H c) : St1 K H' d c := by
  obtain ⟨ns, i, l, m, S⟩ := S
  exact ⟨ns, i, l, m, e1.trans S.dc, e2.trans S.cs, S.nn, S.i0, S.l0, S.m0, S.m1⟩
theorem St1.same {K : PySem.W.Frag} {H H' : Hp} {d c : Addr} (S : St1 K H d c) (e : Same H H') : St1 K H' d c := by
  obtain ⟨ns, i, l, m, S⟩ := S
  exact ⟨ns, i, l, m, e _ _ S.dc, e _ _ S.cs, S.nn, S.i0, S.l0, S.m0, S.m1⟩
theorem St1.new {K : PySem.W.Frag} {H : Hp} {d c a : Addr} {o : HO} (S : St1 K H d c) (h : H a = none) : St1 K (upd H a o) d c := S.same (same_new h)
theorem St1.nd {K : PySem.W.Frag} {H : Hp} {d c a : Addr} (S : St1 K H d c) (h : H a = none) : a ≠ d := let ⟨_, e⟩ := S.dk; (ne_of_none e h).symm
theorem St1.nc {K : PySem.W.Frag} {H : Hp} {d c a : Addr} (S : St1 K H d c) (h : H a = none) : a ≠ c := let ⟨_, e⟩ := S.cl; (ne_of_none e h).symm
theorem St1.put {K : PySem.W.Frag} {H : Hp} {d c a : Addr} {o : HO} (S : St1 K H d c) (h1 : a ≠ d) (h2 : a ≠ c) : St1 K (upd H a o) d c := S.of (upd_ne h1.symm) (upd_ne h2.symm)
theorem StAt.put {K : PySem.W.Frag} {H : Hp} {d c : Addr} {ns : List Int} {i l m i' l' m' : Int} (S : StAt K H d c ns i l m) (h0 : 0 ≤ i') (h1 : 0 ≤ l') (h2 : 0 ≤ m') (h3 : m' < 2147483648) :
    StAt K (upd H d (.dK (stK c i' l' m'))) d c ns i' l' m' := ⟨upd_same, (Keep.upd d H _).lst S.dc S.cs, S.nn, h0, h1, h2, h3⟩
section
variable {H : Hp} {d c : Addr} {i l m j : Int}
theorem dg_cells (h : H d = some (.dK (stK c i l m))) : DGet H d (.str "cells") (some (.ref c)) := g_cells c i l m ▸ DGet.k (k := .inr "cells") h
theorem dg_at (h : H d = some (.dK (stK c i l m))) : DGet H d (.str "at") (some (.int i)) := g_at c i l m ▸ DGet.k (k := .inr "at") h
theorem dg_left (h : H d = some (.dK (stK c i l m))) : DGet H d (.str "left") (some (.int l)) := g_left c i l m ▸ DGet.k (k := .inr "left") h
theorem dg_mix (h : H d = some (.dK (stK c i l m))) : DGet H d (.str "mix") (some (.int m)) := g_mix c i l m ▸ DGet.k (k := .inr "mix") h
theorem st_few : (stK c i l m).length < sizeLine := Nat.lt_of_le_of_lt (show 4 ≤ 1000 by decide) (by decide)
theorem dp_at (h : H d = some (.dK (stK c i l m))) : DPut H d (.str "at") (.int j) (upd H d (.dK (stK c j l m))) := p_at c i l m j ▸ DPut.k (k := .inr "at") h st_few
theorem dp_left (h : H d = some (.dK (stK c i l m))) : DPut H d (.str "left") (.int j) (upd H d (.dK (stK c i j m))) := p_left c i l m j ▸ DPut.k (k := .inr "left") h st_few
theorem dp_mix (h : H d = some (.dK (stK c i l m))) : DPut H d (.str "mix") (.int j) (upd H d (.dK (stK c i l j))) := p_mix c i l m j ▸ DPut.k (k := .inr "mix") h st_few
end
/-! what follows is shown once, for both ways of an if ahead of it -/
theorem cut {t u : TS} {D : Ends} {σ : L2.St} {H : Hp} (I : L2.St → Hp → Prop) (h2 : ∀ σ' H', I σ' H' → u D σ' H') (h1 : (∀ σ' H', I σ' H' → u D σ' H') → t { D with nx := u D } σ H) : tSeq t u D σ H := h1 h2

/-! the promises of the draws -/
/-- the bound's bound -/
def big : Int := 10000000000000000000000000000000000000000000000000000000000000000000000
def spStart (K : PySem.W.Frag) : Sp := fun vs H Q _ => ∃ (a : Addr) (ns : List Int), vs = [.ref a] ∧ SqL K H a (ns.map V.int) ∧ ns.length ≤ 63 ∧ ∀ d c H', H d = none → H c = none → St1 K H' d c → Same H H' → Q (.ref d) H'
def spDraw (K : PySem.W.Frag) : Sp := fun vs H Q _ => ∃ (d c : Addr) (b : Int), vs = [.ref d, .int b] ∧ St1 K H d c ∧ 0 < b ∧ b ≤ 10000000000000000000000000000000000000000000000000000000000000000000000 ∧
  ∀ n H', 0 ≤ n → n < b → St1 K H' d c → Keep d H H' → Q (.int n) H'
def spPick (K : PySem.W.Frag) : Sp := fun vs H Q _ => ∃ (d c l : Addr) (xs : List V), vs = [.ref d, .ref l] ∧ St1 K H d c ∧ SqL K H l xs ∧ xs ≠ [] ∧ xs.length ≤ 1000 ∧
  ∀ v H', v ∈ xs → St1 K H' d c → Keep d H H' → Q v H'
/-- a value's kind -/
def isInt : V → Bool | .int _ => true | _ => false
def isBl : V → Bool | .bl _ => true | _ => false
def spIsNum : Sp := fun vs H Q _ => ∃ n : Int, vs = [.int n] ∧ Q (.bl true) H
theorem log_of {b : Int} (h0 : 0 < b) (h1 : b ≤ 10000000000000000000000000000000000000000000000000000000000000000000000) : CDivW l b := wide_div (b := 300) h0 (by
  have : (b.natAbs : Int) = b := by omega
  have e : (2 : Nat) ^ 300 = 2037035976334486086268445688409378161051468393665936250636140449354381299763336706183397376 := by decide +kernel
  rw [e]
  omega) (by decide) (by decide)
/-! tests whose answer is known -/
theorem ifN {c A B : Prop} [Decidable c] (h : ¬ c) (q : B) : if decide c = true then A else B := by
  rw [decide_eq_false h]
  exact iteF q
theorem ifY {c A B : Prop} [Decidable c] (h : c) (q : A) : if decide c = true then A else B := by
  rw [decide_eq_true h]
  exact iteT q
theorem wm {i j : Int} (hi : i.natAbs < 2 ^ 250) (hj : j.natAbs < 2 ^ 250) : CMulW i j := wide_mul hi hj (by decide) (by decide) (by decide)
theorem ltge (a b : Int) : a < b ∨ b ≤ a := by omega
theorem nm {i : Nat} {x : V} {σ : L2.St} {H : Hp} {k : L2.St → Hp → Prop} (h : k (σ.set i (some x)) H) : gName i x σ H k := h
/-! math.isqrt -/
def rIsqrt : List V → Hp → VK → Prop := fun vs H Q => ∃ n : Int, vs = [.int n] ∧ 0 ≤ n ∧ n.natAbs < 2 ^ 250 ∧ ∀ r : Int, 0 ≤ r → r * r ≤ n → n < (r + 1) * (r + 1) → Q (.int r) H
theorem cr_isqrt {X : Cx} : CallR X (.builtin "math.isqrt") rIsqrt := by
  intro pins s σ H vs us Q I r h
  obtain ⟨a, rfl, h0, h1, q⟩ := h
  obtain ⟨u, rfl, t, rfl⟩ := vals1 r
  have hl : a.toNat.log2 < 250 := by
    have e : a.toNat = a.natAbs := by omega
    rw [e]
    exact PySem.Flt.log2_lt_of (by decide) h1
  obtain ⟨z1, z2⟩ := PySem.Float64.isqrt_spec a.toNat
  refine call_function_meets PySem.W.MGF.kind_isqrt PySem.W.MGF.plain_isqrt PySem.W.MGF.entry_isqrt (PySem.W.MGF.args_isqrt _) (PySem.W.mg_run_isqrt a t (by omega) (by omega) (by omega)).meets ?_
  refine ⟨.int ((Float64.isqrt a.toNat : Nat) : Int), H, I.tok _, ⟨_, rfl⟩, q _ (Int.natCast_nonneg _) ?_ ?_⟩
  · have := Int.ofNat_le.mpr z1
    rw [Int.natCast_mul] at this
    omega
  · have := Int.ofNat_lt.mpr z2
    rw [Int.natCast_mul, Int.natCast_add] at this
    have e : ((a.toNat : Nat) : Int) = a := by omega
    rw [e] at this
    exact this
theorem szOk {xs : List V} (h : Nat.ble xs.length 1000 = true) : xs.length ≤ sizeLine := Nat.le_trans (Nat.le_of_ble_eq_true h) (by decide)
theorem eqN {a b : Int} {A B : Prop} (h : a ≠ b) (q : B) : if decide (V.int a = V.int b) = true then A else B := ifN (fun z => h (V.int.inj z)) q
theorem eqY {a b : Int} {A B : Prop} (h : a = b) (q : A) : if decide (V.int a = V.int b) = true then A else B := ifY (congrArg V.int h) q
theorem neN {a b : Int} {A B : Prop} (h : a = b) (q : B) : if (!decide (V.int a = V.int b)) = true then A else B := iteNS (congrArg V.int h) q
/-! tracked things behind a call that changes the state alone -/
section
variable {K : PySem.W.Frag} {d c : Addr} {H H' : Hp}
theorem Keep.l (k : Keep d H H') (S : St1 K H d c) {a : Addr} {xs : List V} (h : H a = some (.lst xs)) : H' a = some (.lst xs) := let ⟨_, e⟩ := S.dk; k.lst e h
theorem Keep.t (k : Keep d H H') (S : St1 K H d c) {a : Addr} {xs : List V} (h : H a = some (.tup xs)) : H' a = some (.tup xs) := let ⟨_, e⟩ := S.dk; k.tp e h
theorem Keep.sl (k : Keep d H H') (S : St1 K H d c) {a : Addr} {xs : List V} (h : SqL K H a xs) : SqL K H' a xs := let ⟨_, e⟩ := S.dk; k.seq e h
theorem Keep.st (k : Keep d H H') (S : St1 K H d c) {a : Addr} {xs : List V} (h : SqT K H a xs) : SqT K H' a xs := let ⟨_, e⟩ := S.dk; k.tup e h
end
theorem sq0 (x : Int) : 0 ≤ x * x := by
  rcases ltge x 0 with z | z
  · have := Int.mul_nonneg (show 0 ≤ -x by omega) (show 0 ≤ -x by omega)
    rw [Int.neg_mul_neg] at this
    exact this
  · exact Int.mul_nonneg z z
theorem atI0 {α : Type} {xs : List α} {j : Nat} {v : α} (h : xs[j]? = some v) : atI xs (0 + (j : Int)) = some v := by
  rw [Int.zero_add]
  exact atI_nat h
theorem atI_back {α : Type} {xs : List α} {v : α} (h : xs.getLast? = some v) : atI xs (-1) = some v := by
  obtain ⟨ys, rfl⟩ := List.getLast?_eq_some_iff.mp h
  exact atI_last ys v
theorem eqvN {d : PyData} {A B : Prop} (h : d.canLay0 = true) (q : B) : if (!PyData.eqv d d) = true then A else B := by
  rw [SeqAt.eqv_refl d h]
  exact q
theorem getInt {ns : List Int} {i : Nat} {y : V} (h : (ns.map V.int)[i]? = some y) : ∃ x, y = .int x ∧ x ∈ ns ∧ i < ns.length ∧ ns.take (i + 1) = ns.take i ++ [x] := by
  rw [List.getElem?_map] at h
  cases e : ns[i]? with
  | none => rw [e] at h; cases h
  | some x =>
    rw [e] at h
    exact ⟨x, (Option.some.inj h).symm, List.mem_of_getElem? e, (List.getElem?_eq_some_iff.mp e).1, by rw [List.take_add_one, e]; rfl⟩
/-- the built-in names that the text has not bound -/
structure Txt0 (mg : Str → Option Value) : Prop where
  abs : mg "abs" = none
  int : mg "int" = none
  len : mg "len" = none
  bool : mg "bool" = none
  isinstance : mg "isinstance" = none
structure TxtA (mg : Str → Option Value) : Prop extends Txt0 mg where
  max : mg "max" = none
  min : mg "min" = none
  range : mg "range" = none
  tuple : mg "tuple" = none
  list : mg "list" = none
  sum : mg "sum" = none
  any : mg "any" = none
  all : mg "all" = none
  sorted : mg "sorted" = none
  dict : mg "dict" = none
  enumerate : mg "enumerate" = none
theorem getMap {α : Type} {f : α → V} {ns : List α} {i : Nat} {y : V} (h : (ns.map f)[i]? = some y) : ∃ x, y = f x ∧ x ∈ ns ∧ i < ns.length ∧ ns.take (i + 1) = ns.take i ++ [x] := by
  rw [List.getElem?_map] at h
  cases e : ns[i]? with
  | none => rw [e] at h; cases h
  | some x =>
    rw [e] at h
    exact ⟨x, (Option.some.inj h).symm, List.mem_of_getElem? e, (List.getElem?_eq_some_iff.mp e).1, by rw [List.take_add_one, e]; rfl⟩
theorem sq_le {x b : Int} (h0 : -b ≤ x) (h1 : x ≤ b) : x * x ≤ b * b := by
  rcases ltge x 0 with z | z
  · have := Int.mul_le_mul (show -x ≤ b by omega) (show -x ≤ b by omega) (show 0 ≤ -x by omega) (show 0 ≤ b by omega)
    rw [Int.neg_mul_neg] at this
    exact this
  · exact Int.mul_le_mul h1 h1 z (by omega)
/-- 2 ^ (24 - i) -/
def pw (i : Nat) : Int := (2 ^ (24 - i) : Nat)
theorem pw_step {i : Nat} (h : i < 24) : pw i = 2 * pw (i + 1) := by
  unfold pw
  rw [show 24 - i = (24 - (i + 1)) + 1 by omega, Nat.pow_succ]
  omega
theorem mapAt {α : Type} {f : α → V} {ns : List α} {i : Nat} (h : i < ns.length) : (ns.map f)[i]? = some (f ns[i]) := by simp [h]
theorem at_mod {α : Type} {f : α → V} {ns : List α} {z m : Int} (hm : m = (ns.length : Int)) (h : 0 < ns.length) : ∃ x, x ∈ ns ∧ atI (ns.map f) (z % m) = some (f x) := by
  obtain ⟨j, hj⟩ : ∃ j : Nat, z % m = (j : Int) := ⟨(z % m).toNat, by have := Int.emod_nonneg z (show m ≠ 0 by omega); omega⟩
  have hj2 : j < ns.length := by have := Int.emod_lt_of_pos z (show 0 < m by omega); omega
  exact ⟨ns[j], List.getElem_mem hj2, by rw [hj]; exact atI_nat (mapAt hj2)⟩
/-- all that stood, but at d -/
theorem Keep.none {d a : Addr} {H H' : Hp} (k : Keep d H H') (n : a ≠ d) (h : H' a = none) : H a = none := by
  cases e : H a with
  | none => rfl
  | some o => rw [k _ _ e n] at h; cases h
theorem atI_lastn {α : Type} {xs : List α} {v : α} {m : Int} (hm : m = (xs.length : Int) - 1) (h : xs.getLast? = some v) : atI xs m = some v := by
  obtain ⟨ys, rfl⟩ := List.getLast?_eq_some_iff.mp h
  rw [hm, List.length_append, List.length_singleton]
  have e : ((ys.length + 1 : Nat) : Int) - 1 = ((ys.length : Nat) : Int) := by omega
  rw [e]
  exact atI_nat (by simp)
theorem sq_swap (a b : Int) : (a - b) * (a - b) = (b - a) * (b - a) := by
  have e : a - b = -(b - a) := by omega
  rw [e, Int.neg_mul_neg]
def rLenK (K : PySem.W.Frag) : List V → Hp → VK → Prop := fun xs H Q => ∃ p ys, xs = [V.ref p] ∧ (SqL K H p ys ∨ SqT K H p ys) ∧ Q (.int ys.length) H
end Sk

set_option Elab.async false
set_option linter.all false
set_option maxRecDepth 100000
set_option maxHeartbeats 4000000
namespace Sk
open PySem PySem.Spec PyProof.Rows L2 GenW GxR
/-! generator expressions whose elements may call own defs -/
/-! ### one run of a generator's code -/
def Run1 (M : Model) (A : Around) (Z : End → Shared → Prop) (c : Code) (t : Sem PySem.Fin) (fs : List Frame) (s : Shared) : Prop :=
  ∀ (Γ : PySem.Ctx) (p : Pos), Γ.code = c → Γ.Woken A → ∃ e s', Runs M Γ p t fs s e s' ∧ Z e s'
section
variable {M : Model} {A : Around} {Z : End → Shared → Prop} {c : Code} {fs : List Frame} {s : Shared}
theorem run1_wrap {α : Type} {m : Sem α} {K : α → Sem PySem.Fin} {J : Value → Sem PySem.Fin} {gd lv}
    (h : wpAny M (A.over c fs) m (fun a s' => Run1 M A Z c (K a) fs s') (fun x s' => Run1 M A Z c (J x) fs s') s) : Run1 M A Z c (m.wrap K J gd lv) fs s := by
  intro Γ p e w
  subst e
  exact runs_wrap_of_wp K J gd lv m (h (Γ.over fs) p (w.over fs)) (fun a p' s' q => q Γ p' rfl w) fun x p' s' q => q Γ p' rfl w
theorem run1_bind {α β : Type} {m : Sem α} {K : α → Sem β} {K' : β → Sem PySem.Fin} {J' : Value → Sem PySem.Fin} {gd lv}
    (h : wpAny M (A.over c fs) m (fun a s' => Run1 M A Z c ((K a).wrap K' J' gd lv) fs s') (fun x s' => Run1 M A Z c (J' x) fs s') s) : Run1 M A Z c ((m >>= K).wrap K' J' gd lv) fs s := by
  rw [Sem.bind_eq_wrap', Sem.wrap_wrap]
  exact run1_wrap h
theorem run1_at {p' : Pos} {k : Unit → Sem PySem.Fin} (h : Run1 M A Z c (k ()) fs s) : Run1 M A Z c (.at p' k) fs s :=
  run1_wrap (m := standAt p') (K := k) (J := .raise) (gd := id) (lv := id) (wpAny_standAt h)
theorem run1_again {c' : Code} (q : c'.quiet = true) (h : Run1 M A Z c' (M.den c') fs s) : Run1 M A Z c (.pure (.again c')) fs s := by
  intro Γ p e w
  subst e
  obtain ⟨e, s', r, z⟩ := h (Γ.goto c') p rfl (w.goto c')
  exact ⟨e, s', Runs.head (c₁ := c') (fun _ _ x => .again q x) r, z⟩
theorem run1_end (r : Result) (h : Z (.ret r) s) : Run1 M A Z c (leafOf r) [] s := by
  intro Γ p e w
  exact ⟨.ret r, s, Runs.leaf r, h⟩
theorem run1_yield {v g l} {k : Resume → Sem PySem.Fin} (hfs : splitAtGen fs = none) (h : ∀ p, Z (.susp v g l k c p fs) s) : Run1 M A Z c (.yield v g l k) fs s := by
  intro Γ p e w
  subst e
  exact ⟨_, s, Runs.yield' fs hfs, h p⟩
end
/-- a generator's state, woken by None -/
def Goes1 (M : Model) (A : Around) (Z : End → Shared → Prop) (gs : GenState) (s : Shared) : Prop :=
  match gs with
  | .fresh c => Run1 M A Z c (M.den c) [] s
  | .suspended k _ c _ fs _ => Run1 M A Z c (k (.send .none)) fs s
  | _ => False
theorem bare_of {e : End} (h : e.quiet = true) : e.genState.bare = true := End.bare_of_quiet h
theorem wp_resume1 {M : Model} {A : Around} {Z : End → Shared → Prop} {E : Value → Shared → Prop} {s : Shared} {g : Nat} {gs : GenState} {l : List Value} {α : Type} {k : GenResult → Sem α} {Q : α → Shared → Prop} (hg : s.gens[g]? = some gs)
    (go : Goes1 M A Z gs (s.setGen g .running)) (hZ : ∀ e s1, Z e s1 → s.gens.size ≤ s1.gens.size → e.quiet = true ∧ wpAny M A (k e.result) Q E (s1.setGen g e.genState)) : wpAny M A (.resume g (.send .none) l k) Q E s := by
  intro Γ p hΓ
  rw [Sem.wp_resume]
  have wk : ∀ c, (Γ.wake c p).Woken A := fun c => hΓ.wake c p
  have sz : (s.setGen g .running).gens.size = s.gens.size := setGen_size s g .running
  cases gs with
  | fresh c =>
    obtain ⟨e, s1, r, z⟩ := go (Γ.wake c p) p rfl (wk c)
    obtain ⟨q1, q2⟩ := hZ e s1 z (by have := runs_gsz r; rw [sz] at this; exact this)
    exact ⟨_, _, by unfold Wakes; rw [hg]; exact ⟨e, s1, r, q1, rfl, rfl⟩, q2 Γ p hΓ⟩
  | suspended k0 l0 c p0 fs cl =>
    obtain ⟨e, s1, r, z⟩ := go (Γ.wake c p) p0 rfl (wk c)
    obtain ⟨q1, q2⟩ := hZ e s1 z (by have := runs_gsz r; rw [sz] at this; exact this)
    exact ⟨_, _, by unfold Wakes; rw [hg]; exact ⟨e, s1, r, q1, rfl, rfl⟩, q2 Γ p hΓ⟩
  | running => exact go.elim
  | finished => exact go.elim
/-- next(g): what the code's run comes to -/
theorem next1 {P : Program} {w : World} {A : Around} {E : Value → Shared → Prop} {s : Shared} {a : Addr} {g : Nat} {gs : GenState} {Z : End → Shared → Prop} {Q : Option Value → Shared → Prop} (hh : A.handled = none) (hl : s.heap.NoLimit) (hroom : A.depth < recursionLimit)
    (hg : s.heap.IsGen a g) (hgs : s.gens[g]? = some gs) (go : Goes1 (model P w) A.in1 Z gs (s.setGen g .running))
    (hY : ∀ e s1, Z e s1 → s.gens.size ≤ s1.gens.size → (e = .ret (.ok .next) ∧ ∀ h', (∀ b o, s1.heap.get? b = some o → h'.get? b = some o) → Q none { s1.setGen g .finished with heap := h' }) ∨
      (∃ v l k c p fs, e = .susp v false l k c p fs ∧ e.quiet = true ∧ Q (some v) (s1.setGen g e.genState))) : wpAny (model P w) A (pyNext (.ref a)) Q E s := by
  unfold pyNext
  refine wpAny_bind (wpAny_attempt (wpAny_callSpecial?_slot (name := Str.ofString "__next__") hg.typeIs slot_gen_next (wpAny_call_entry slot_gen_next hg.typeIs entry_gen_next ?_ (args_gen_next _))))
  show wpAny _ A.in1 (Builtin.Generator.genWake (.ref a) (.send .none)) _ _ s
  unfold Builtin.Generator.genWake
  refine wpAny_bind (wpAny_holding (wpAny_genNumber hg (wpAny_bind (wpAny_genState hgs ?_))))
  cases gs with
  | running => exact go.elim
  | finished => exact go.elim
  | _ =>
    refine wpAny_bind (wpAny_roomToWake hl hroom ?_)
    show wpAny _ A.in1 (.resume g (.send .none) [] _) _ _ s
    refine wp_resume1 hgs go fun e s1 z hsz => ?_
    rcases hY e s1 z hsz with ⟨rfl, q⟩ | ⟨v, l, k, c, p, fs, rfl, q1, q⟩
    · refine ⟨rfl, ?_⟩
      show wpAny _ A.in1 (newExc (.type "StopIteration") [] >>= _) _ _ _
      refine wpAny_bind ?_
      simp only [newExc, newTuple]
      refine wpAny_bind (wpAny_newObj_type ?_ (by size_fits))
      refine wpAny_bind (m := firstArgMember _ _) (wpAny_of_eq (a := Value.none) (by first | rfl | (simp only [firstArgMember]; rfl)) ?_)
      refine wpAny_newObj_type ?_ (by size_fits)
      simp only [raiseNew]
      refine wpAny_bind (wpAny_bind (wpAny_handled ?_))
      first | rw [show A.in1.handled = none from hh] | rw [hh]
      refine wpAny_throw ?_
      refine wpAny_bind (wpAny_isInstance (T := "StopIteration") (b := true) ⟨_, Heap.get?_push_size _ rfl, rfl⟩ isSubtype_stop ?_)
      exact wpAny_pure (q _ fun b o hb => Heap.get?_push_of_some _ (Heap.get?_push_of_some _ hb))
    · exact ⟨q1, wpAny_pure ⟨v, rfl, wpAny_pure q⟩⟩

/-! ### the generator's frame -/
abbrev gcx (X : Cx) (s : Shared) (H : Hp) (cenv : Env) (fp : List Addr) (A : Around) : Cx :=
  { X with A := A, s_0 := s, H_0 := H, env := cenv, outer := X.stack, stack := cenv :: X.stack, ex := fp, fn := fun _ => false, calm := true, pn := [], xe := fun _ _ => False }
/-- its scope: no cells of its own -/
structure GScp (scope : Scope) : Prop where
  co : scope.isCoroutine = false
  kind : scope.kind = .function
  nocell : ∀ y ∈ scope.names, y.2 ≠ .cell
  dot : scope.names.lookup (".0" : Str) = some NameKind.local
section
variable {X : Cx} {pins : List (Addr × Obj)} {σ : L2.St} {H : Hp} {s : Shared}
theorem blk_free {N : List Str} {scope : Scope} {own : List (Str × Nat)} (ok : BlkOk N X.env.scope scope own) (o : X.Ok) : ∀ y ∈ scope.names, y.2 = .free → ∃ c, X.env.cells.lookup y.1 = some c := fun y hy e =>
  (ok.free y hy e).elim (fun z => o.has _ (.inl z)) fun z => o.has _ (.inr z)
theorem gen_start {scope : Scope} {own : List (Str × Nat)} {fp : List Addr} {code : Value} {A : Around} {h' : Heap} {g' : Array GenState} {d' : Drawn} {t' : Nat} {m : Str → Option Value} (I : Inv X pins σ H s) (ok : BlkOk X.N X.env.scope scope own) (G : GScp scope) (hN : X.N.Nodup)
    (hfp : ∀ b ∈ fp, FpOk X pins H b ∧ b < s.heap.objs.size) (hd : A.handled = none) (hfr : A.frames = some (genEnv scope (cloFrom X.env.cells scope.names []) s.heap.objs.size code builtinsNs X.env :: X.stack))
    (hns : h'.Ns s.heap.objs.size m) (kp : ∀ b o, s.heap.get? b = some o → h'.get? b = some o) (hg : AllBare g') :
    Inv (gcx X s H (genEnv scope (cloFrom X.env.cells scope.names []) s.heap.objs.size code builtinsNs X.env) fp A) [] (wipe σ (own.map (·.2))) H { s with heap := h', gens := g', drawn := d', toks := t' } := by
  have hfree := blk_free ok I.ok
  have cm : ∀ {y c}, (cloFrom X.env.cells scope.names []).lookup y = some c → X.env.cells.lookup y = some c := fun e => NdefX.clo_cm hfree e
  have frk : ∀ y, scope.names.lookup y = some .free → ∃ c, (cloFrom X.env.cells scope.names []).lookup y = some c ∧ X.env.cells.lookup y = some c := fun y e => by
    have hy : (y, NameKind.free) ∈ scope.names := PySem.mem_of_lookup e
    obtain ⟨c, hc⟩ := hfree _ hy rfl
    exact ⟨c, NdefX.clo_has hfree hy hc, hc⟩
  have okG : (gcx X s H (genEnv scope (cloFrom X.env.cells scope.names []) s.heap.objs.size code builtinsNs X.env) fp A).Ok :=
    { mod := I.ok.mod, kind := G.kind, glob := I.ok.glob, blt := rfl, above := Nat.le_refl _
      inj := fun y z c e1 e2 => I.ok.inj y z c (cm e1) (cm e2)
      has := fun y hy => by
        have hy : scope.names.lookup y = some .cell ∨ scope.names.lookup y = some .free := hy
        rcases hy with hy | hy
        · exact absurd rfl (G.nocell _ (PySem.mem_of_lookup hy))
        · obtain ⟨c, e, _⟩ := frk y hy
          exact ⟨c, e⟩
      cab := fun y c z _ => by cases z
      hd := fun _ => hd
      frames := hfr
      stk := .inr ⟨rfl, rfl⟩
      exf := fun b hb => ⟨Nat.ne_of_lt (hfp b hb).2, fun y c e => (hfp b hb).1.2.2.2.2.1 y c (cm e)⟩
      bs := I.bs
      bsz := Nat.le_trans I.ok.bsz I.sz
      noex := fun b o e hb => by
        rcases (hfp b hb).1.2.2.2.1 with z | z
        · exact I.ok.noex b o e z
        · exact Nat.lt_irrefl _ (Nat.lt_of_lt_of_le (Heap.lt_size e) (Nat.le_trans I.ok.bsz z))
      exfs := fun b hb z => by
        rcases List.mem_cons.mp (I.stkSub b z) with z | z
        · exact (hfp b hb).1.2.1 z
        · exact (hfp b hb).1.2.2.1 z
      funs := I.stack
      frf := I.stkFree }
  refine ⟨okG, rfl, hg, Un.kept kp, ⟨m, hns, fun i y v e1 e2 e3 => ?_⟩, fun y c e => ?_, I.hok.fresh (Nat.le_refl _), fun y c e => I.freeC y c (cm e), fun p hp => absurd (show p ∈ ([] : List (Addr × Obj)) ++ [] from hp) (by simp), I.hok.kept kp, by rw [wipe_length]; exact I.len⟩
  · obtain ⟨e2, hne⟩ := wipe_some e2
    have no : ∀ k, scope.names.lookup y = some k → k = .local ∨ k = .cell → False := fun k hk hh => by
      rcases ok.own _ (PySem.mem_of_lookup hk) hh with z | z
      · obtain ⟨p, hp, hpy⟩ := List.mem_map.mp z
        have q := ok.ix p hp
        have hpy : p.1 = y := hpy
        rw [hpy] at q
        exact hne (List.mem_map.mpr ⟨p, hp, nodup_ix hN q e1⟩)
      · exact z (List.mem_of_getElem? e1)
    have e3 : scope.names.lookup y = some .local ∨ scope.names.lookup y = some .cell ∨ scope.names.lookup y = some .free := e3
    have hfr2 : scope.names.lookup y = some .free := by
      rcases e3 with z | z | z
      · exact (no _ z (.inl rfl)).elim
      · exact (no _ z (.inr rfl)).elim
      · exact z
    obtain ⟨c, c1, c2⟩ := frk y hfr2
    obtain ⟨m0, hn0, hl⟩ := I.loc
    have k := ok.free _ (PySem.mem_of_lookup hfr2) rfl
    obtain ⟨u, r, q⟩ := hl i y v e1 e2 (k.elim (fun z => .inr (.inl z)) fun z => .inr (.inr z))
    refine ⟨u, r, .inr ⟨.inr hfr2, c, c1, ?_⟩⟩
    rcases q with ⟨z, _⟩ | ⟨_, c', e', z⟩
    · have z : X.env.scope.names.lookup y = some .local := z
      rcases k with k | k <;> rw [show X.env.scope.names.lookup y = _ from k] at z <;> cases z
    · rw [c2] at e'
      cases e'
      exact z.keeps kp
  · obtain ⟨v, z⟩ := I.cell y c (cm e)
    exact ⟨v, z.keeps kp⟩
end

/-! ### asleep and awake -/
/-- what the consumer may do while the generator sleeps: its own objects at Sx, new objects -/
structure Aft (Sx : List Addr) (s s' : Shared) : Prop where
  os : s'.os = s.os
  bare : AllBare s'.gens
  keep : ∀ b o, b ∉ Sx → s.heap.get? b = some o → s'.heap.get? b = some o
  own : ∀ b ∈ Sx, ∃ o, s'.heap.get? b = some o ∧ ∀ v, o.data ≠ .cell v
/-- the consumer's word: what is out so far, the next value, the heap, going on -/
abbrev Eats := List V → V → Hp → Prop → Prop
structure GEx where
  X : Cx
  s4 : Shared
  H1 : Hp
  cenv : Env
  fp : List Addr
  B : Around
  σ0 : L2.St
  ge : Expr
  it : Addr
  a : Addr
  g : Nat
  Sx : List Addr
  C : Eats
  F : List V → Hp → Prop
abbrev GEx.loop (Y : GEx) : Code := .compLoop Y.ge 0 (.ref Y.it) .none Y.cenv
abbrev GEx.Xg (Y : GEx) : Cx := gcx Y.X Y.s4 Y.H1 Y.cenv Y.fp (Y.B.over Y.loop [])
abbrev GEx.pn (Y : GEx) (s : Shared) : List (Addr × Obj) := pinsAt (Y.a :: Y.Sx) s.heap
abbrev GEx.M (Y : GEx) : Model := model Y.X.prog Y.X.w
/-- a run's end: over, or a value is handed out and R holds of what sleeps -/
def GEx.Z (Y : GEx) (R : List V → Hp → GenState → Shared → Prop) (ys : List V) (s0 : Shared) (e : End) (s1 : Shared) : Prop :=
  (e = .ret (.ok .next) ∧ ∃ σ' H', Inv Y.Xg (Y.pn s0) σ' H' s1 ∧ Y.F ys H') ∨
  ∃ v l k c p fs y σ' H', e = .susp v false l k c p fs ∧ e.quiet = true ∧ Inv Y.Xg (Y.pn s0) σ' H' s1 ∧ RelV y v ∧ Y.C ys y H' (R (ys ++ [y]) H' e.genState s1)
/-- asleep: at most n more values -/
def GEx.Rdy (Y : GEx) : Nat → List V → Hp → GenState → Shared → Prop
  | 0 => fun ys H gs s => ∀ s', Aft Y.Sx s s' → Goes1 Y.M Y.B (Y.Z (fun _ _ _ _ => False) ys s') gs (s'.setGen Y.g .running)
  | n + 1 => fun ys H gs s => ∀ s', Aft Y.Sx s s' → Goes1 Y.M Y.B (Y.Z (Y.Rdy n) ys s') gs (s'.setGen Y.g .running)
def GEx.Rp (Y : GEx) : Nat → List V → Hp → GenState → Shared → Prop
  | 0 => fun _ _ _ _ => False
  | n + 1 => Y.Rdy n
theorem GEx.rdy_iff (Y : GEx) (n : Nat) (ys : List V) (H : Hp) (gs : GenState) (s : Shared) : Y.Rdy n ys H gs s ↔ ∀ s', Aft Y.Sx s s' → Goes1 Y.M Y.B (Y.Z (Y.Rp n) ys s') gs (s'.setGen Y.g .running) := by
  cases n <;> rfl
/-- the addresses are new -/
structure GEx.Ok (Y : GEx) : Prop where
  new : ∀ b ∈ Y.a :: Y.Sx, Y.s4.heap.objs.size < b
  loc : Y.cenv.locals = Y.s4.heap.objs.size
  cel : ∀ y c, Y.cenv.cells.lookup y = some c → c < Y.s4.heap.objs.size
  fps : ∀ b ∈ Y.fp, b < Y.s4.heap.objs.size
  aS : Y.a ∉ Y.Sx
  co : Y.cenv.scope.isCoroutine = false
theorem setGen_os (s : Shared) (g : Nat) (x : GenState) : (s.setGen g x).os = s.os := rfl
theorem setGen_heap (s : Shared) (g : Nat) (x : GenState) : (s.setGen g x).heap = s.heap := rfl
section
variable {Y : GEx} {σ σ' : L2.St} {H : Hp} {s s0 s1 : Shared} {pins : List (Addr × Obj)}
theorem GEx.Ok.fpOk (O : Y.Ok) (I : Inv Y.Xg (Y.pn s0) σ H s) (hn : ∀ b ∈ Y.fp, H b = none) : ∀ b ∈ Y.fp, FpOk Y.Xg (Y.pn s0) H b := fun b hb =>
  ⟨hn b hb, (I.ok.exf b hb).1, I.ok.exfs b hb, .inl hb, fun x c e => (I.ok.exf b hb).2 x c e, fun p hp => by
    have hp : p ∈ Y.pn s0 := by
      rcases List.mem_append.mp hp with z | z
      · cases z
      · exact z
    have h1 := O.new p.1 (of_pinsAt hp).1
    have h2 := O.fps b hb
    exact fun z => Nat.lt_irrefl _ (Nat.lt_trans h2 (z ▸ h1))⟩
/-- what is pinned while it runs -/
theorem GEx.Ok.pinned (O : Y.Ok) (I : Inv Y.Xg (Y.pn s0) σ H s) {b : Addr} {o : Obj} (hb : b ∈ Y.a :: Y.Sx) (e : s0.heap.get? b = some o) : s.heap.get? b = some o ∧ H b = none :=
  let z := I.pin (b, o) (List.mem_append_right _ (mem_pinsAt hb e))
  ⟨z.1, z.2.1⟩
/-- woken again -/
theorem GEx.Ok.woken (O : Y.Ok) (I : Inv Y.Xg (Y.pn s0) σ H s) (there : ∀ b ∈ Y.a :: Y.Sx, ∃ o, s0.heap.get? b = some o) (ag : ∃ o, s0.heap.get? Y.a = some o ∧ ∀ v, o.data ≠ .cell v) (A : Aft Y.Sx s s1) (x : GenState) (hx : x.bare = true) :
    Inv Y.Xg (Y.pn s1) σ H (s1.setGen Y.g x) := by
  have hT : ∀ b ∈ Y.a :: Y.Sx, H b = none := fun b hb => by
    obtain ⟨o, e⟩ := there b hb
    exact (O.pinned I hb e).2
  have I0 : Inv Y.Xg [] σ H s := I.pins_of fun p hp => absurd (show p ∈ ([] : List (Addr × Obj)) ++ [] from hp) (by simp)
  have nt : ∀ b u, H b = some u → b ∉ Y.Sx := fun b u q hb => by rw [hT b (List.mem_cons_of_mem _ hb)] at q; cases q
  obtain ⟨z1, z2, z3, z4⟩ := A
  obtain ⟨hh, g', d, t, o⟩ := s1
  have ho : o = s.os := z1
  subst ho
  have J : Inv Y.Xg [] σ H { s with heap := hh, gens := (({ heap := hh, gens := g', drawn := d, toks := t, os := s.os } : Shared).setGen Y.g x).gens, drawn := d, toks := t } := by
    refine I0.step (h' := hh) (g' := (({ heap := hh, gens := g', drawn := d, toks := t, os := s.os } : Shared).setGen Y.g x).gens) (t' := t) (d' := d) (ch := Y.Sx) (fun b hb => ?_) (fun b ob _ _ hc q _ => z3 b ob hc q) (fun b ob _ _ hc q _ => ⟨ob.slots, z3 b ob hc q⟩)
      (fun _ _ _ _ n => n) (fun b ob hc q => ⟨ob, z3 b ob hc q⟩) (fun _ _ q => q) (fun _ _ _ q => q) (fun b ps q => ⟨#[], by rw [q]; simp⟩) (fun m hm => ?_) (fun b u q => ?_) (allBare_setGen z2 hx)
    · have h1 := O.new b (List.mem_cons_of_mem _ hb)
      refine ⟨.inr (Nat.le_of_lt h1), fun z => ?_, fun y c e z => ?_, fun p hp => absurd (show p ∈ ([] : List (Addr × Obj)) ++ [] from hp) (by simp)⟩
      · have z : b = Y.cenv.locals := z
        rw [z, O.loc] at h1
        exact Nat.lt_irrefl _ h1
      · have h2 := O.cel y c e
        rw [z] at h2
        exact Nat.lt_irrefl _ (Nat.lt_trans h1 h2)
    · obtain ⟨ob, es, ep, ho, r⟩ := hm
      refine ⟨ob, es, ep, z3 _ ob (fun hb => ?_) ho, r⟩
      have h1 := O.new _ (List.mem_cons_of_mem _ hb)
      have h1 : Y.s4.heap.objs.size < Y.cenv.locals := h1
      rw [O.loc] at h1
      exact Nat.lt_irrefl _ h1
    · refine (I0.hok b u q).stay (fun c v hc y => z3 c v ?_ y) (fun _ y => y) fun _ _ y => y
      rcases hc with y | y
      · rw [y]; exact nt b u q
      · exact nt c _ y
  refine J.pins_of fun p hp => ?_
  have hp : p ∈ pinsAt (Y.a :: Y.Sx) hh := hp
  obtain ⟨hb, e⟩ := of_pinsAt hp
  have h1 := O.new _ hb
  refine ⟨e, hT _ hb, fun z => ?_, fun z => ?_, ?_⟩
  · have z : p.1 = Y.cenv.locals := z
    rw [z, O.loc] at h1
    exact Nat.lt_irrefl _ h1
  · obtain ⟨_, ob, hob, _⟩ := J.ok.funs.mem z
    exact absurd (Nat.lt_trans h1 (Heap.lt_size hob)) (Nat.lt_irrefl _)
  · rcases List.mem_cons.mp hb with z | z
    · obtain ⟨oa, ea, da⟩ := ag
      have q := (O.pinned I List.mem_cons_self ea).1
      have q2 := z3 _ oa O.aS q
      rw [z] at e
      rw [e] at q2
      cases q2
      exact da
    · obtain ⟨ob, eb, db⟩ := z4 _ z
      have eb : hh.get? p.1 = some ob := eb
      rw [e] at eb
      cases eb
      exact db
end

/-! ### the turns -/
def GStep (W : Nat → Nat → List V → Hp → Prop) (J : It) (g : TG) (tt : TT) (te : TE) (vs : List Nat) (σ0 : L2.St) (C : Eats) (F : List V → Hp → Prop) : Prop :=
  ∀ i m ys H, W i m ys H → (J.stop i H ∧ F ys H) ∨ (J.go i H ∧ ∃ Nx : List V → Hp → Prop, (∀ ys' H', Nx ys' H' → ∃ m', m' < m ∧ W (i + 1) m' ys' H') ∧
    ∀ x H', J.yld i H x H' → g x σ0 H' fun σ2 H2 => wipe σ2 vs = σ0 ∧ tt σ2 H2 fun b H3 => if b = true then te σ2 H3 fun y H4 => C ys y H4 (Nx (ys ++ [y]) H4) else Nx ys H3)
def EatsMono (C : Eats) : Prop := ∀ ys y H (p q : Prop), (p → q) → C ys y H p → C ys y H q
section
variable {ge elt iter tg : Expr} {cs : List Comprehension} {ifs : List Expr} {scope : Scope} {gpos : Pos}
theorem turn_one {it acc : Value} {env : Env} (h : ge = .GeneratorExp elt cs scope gpos) : compTurn ge 0 it acc env = compTurn (.GeneratorExp elt cs scope gpos) 0 it acc env := by rw [h]
theorem den_one {P : Program} {w : World} {it acc : Value} {env : Env} (h : ge = .GeneratorExp elt cs scope gpos) : (model P w).den (.compLoop ge 0 it acc env) = (compTurn ge 0 it acc env).onRaise (leaving env) := by subst h; rfl
theorem den_start {P : Program} {w : World} {it acc : Value} {env : Env} (h : ge = .GeneratorExp elt cs scope gpos) : (model P w).den (.compStart ge 0 it acc env) = (compStart ge 0 it acc env).onRaise (leaving env) := by subst h; rfl
theorem quiet_loop {d : Nat} {it acc : Value} {env : Env} : (Code.compLoop ge d it acc env).quiet = true := by rfl
end
theorem gen_turns {Y : GEx} {elt tg iter : Expr} {ifs : List Expr} {scope : Scope} {gpos : Pos} (hge : Y.ge = .GeneratorExp elt [⟨tg, iter, ifs, 0⟩] scope gpos) {J : It} {tn : Nat → Heap → Prop} {g : TG} {tt : TT} {te : TE} {vs : List Nat} {W : Nat → Nat → List V → Hp → Prop} (O : Y.Ok) (T : Turn Y.X.prog Y.X.w Y.X.K tg J Y.fp Y.it tn) (hg : PG Y.Xg tg g) (ht : PTs Y.Xg ifs tt) (he : PE Y.Xg elt te)
    (hC : EatsMono Y.C) (st : GStep W J g tt te vs Y.σ0 Y.C Y.F) : ∀ (m n : Nat) (i : Nat) (ys : List V) (H : Hp) (s0 s : Shared), m ≤ n → (∀ b ∈ Y.a :: Y.Sx, ∃ o, s0.heap.get? b = some o) → (∃ o, s0.heap.get? Y.a = some o ∧ ∀ v, o.data ≠ .cell v) → Inv Y.Xg (Y.pn s0) Y.σ0 H s → tn i s.heap → (∀ b ∈ Y.fp, H b = none) → W i m ys H →
      Run1 Y.M Y.B (Y.Z (Y.Rp n) ys s0) Y.loop (Y.M.den Y.loop) [] s := by
  intro m
  induction m using Nat.strongRecOn with
  | ind m ih =>
    intro n i ys H s0 s hmn there ag I stt fr w
    have hco := O.co
    rw [den_one hge, turn_one hge, compTurn_gen, ← hge, Sem.onRaise_eq_wrap]
    refine run1_bind (wpAny_standAt ?_)
    rcases st i m ys H w with ⟨stop, fin⟩ | ⟨go, Nx, hN, step⟩
    · refine run1_bind (wpAny_mono (T.done Y.Xg rfl rfl rfl rfl i (Y.pn s0) s Y.σ0 H (fun _ _ => False) I (O.fpOk I fr) stt stop) (fun r s1 ⟨hr, I1⟩ => ?_) fun _ _ z => z.elim)
      subst hr
      exact run1_end (.ok .next) (.inl ⟨rfl, Y.σ0, H, I1, fin⟩)
    · refine run1_bind (wpAny_mono (T.item Y.Xg rfl rfl rfl rfl i (Y.pn s0) s Y.σ0 H (fun _ _ => False) I (O.fpOk I fr) stt go) (fun r s1 ⟨u, hr, h1⟩ => ?_) fun _ _ z => z.elim)
      subst hr
      refine run1_bind (wpAny_mono h1 (fun _ s2 ⟨x, H2, I2, r2, y2, st2, fr2⟩ => ?_) fun _ _ z => z.elim)
      have I2' := I2.pinned (O.fpOk I2 fr2) (T.obj _ _ st2)
      refine run1_bind (wpAny_mono (hg.run _ s2 Y.σ0 H2 x u _ I2' r2 (step x H2 y2)) (fun _ s3 ⟨σ3, H3, I3, hw3, q3⟩ => ?_) fun _ _ z => z.elim)
      refine run1_bind (wpAny_mono (ht.run _ s3 σ3 H3 _ I3 q3) (fun b s4 ⟨H4, I4, q4⟩ => ?_) fun _ _ z => z.elim)
      have fpin : ∀ {s' : Shared} {H' : Hp}, Inv Y.Xg (Y.pn s0 ++ pinsAt Y.fp s2.heap) σ3 H' s' → tn (i + 1) s'.heap ∧ ∀ b ∈ Y.fp, H' b = none := fun {s' H'} I' => by
        have pin' : ∀ b ∈ Y.fp, ∀ o, s2.heap.get? b = some o → s'.heap.get? b = some o ∧ H' b = none := fun b hb o e =>
          let z := I'.pin (b, o) (List.mem_append_right _ (List.mem_append_right _ (mem_pinsAt hb e)))
          ⟨z.1, z.2.1⟩
        refine ⟨T.keep _ _ _ st2 fun b hb o e => (pin' b hb o e).1, fun b hb => ?_⟩
        obtain ⟨o, e, _⟩ := T.obj _ _ st2 b hb
        exact (pin' b hb o e).2
      have wk : ∀ {s' : Shared} {H' : Hp} {pins : List (Addr × Obj)}, Inv Y.Xg pins σ3 H' s' → Inv Y.Xg pins Y.σ0 H' s' := fun {s' H' pins} I' => by
        have hl : Y.σ0.length = σ3.length := by rw [← hw3, wipe_length]
        refine I'.weak hl fun j v e => ?_
        rw [← hw3] at e
        exact (wipe_some e).1
      cases b with
      | false =>
        simp only [Bool.false_eq_true, if_false] at q4 ⊢
        obtain ⟨m', hm, w'⟩ := hN ys H4 q4
        exact run1_again rfl (ih m' hm n (i + 1) ys H4 s0 s4 (by omega) there ag (wk I4.unpinned) (fpin I4).1 (fpin I4).2 w')
      | true =>
        simp only [if_true] at q4 ⊢
        have hy : ∀ v, yieldOut Y.cenv v = yieldValue v := fun v => by simp only [yieldOut, hco, Bool.false_eq_true, if_false]
        simp only [hy]
        rw [Sem.bind_eq_wrap', Sem.bind_eq_wrap', Sem.wrap_wrap, Sem.wrap_wrap]
        refine run1_wrap (wpAny_mono (he.run _ s4 σ3 H4 _ I4 q4) (fun v s5 ⟨y, H5, I5, r5, c5⟩ => ?_) fun _ _ z => z.elim)
        refine run1_at (run1_yield rfl fun p => .inr ⟨v, _, _, _, p, _, y, σ3, H5, rfl, rfl, I5.unpinned, r5, hC _ _ _ _ _ (fun nx => ?_) c5⟩)
        obtain ⟨m', hm, w'⟩ := hN _ H5 nx
        obtain ⟨n', rfl⟩ : ∃ k, n = k + 1 := ⟨n - 1, by omega⟩
        refine (Y.rdy_iff n' _ _ _ _).mpr fun s6 A6 => ?_
        have there6 : ∀ b ∈ Y.a :: Y.Sx, ∃ o, s6.heap.get? b = some o := fun b hb => by
          rcases List.mem_cons.mp hb with z | z
          · obtain ⟨o, e⟩ := there b hb
            exact ⟨o, A6.keep b o (by rw [z]; exact O.aS) (O.pinned I5.unpinned hb e).1⟩
          · obtain ⟨o, e, _⟩ := A6.own b z
            exact ⟨o, e⟩
        have ag6 : ∃ o, s6.heap.get? Y.a = some o ∧ ∀ v, o.data ≠ .cell v := by
          obtain ⟨o, e, d⟩ := ag
          exact ⟨o, A6.keep _ o O.aS (O.pinned I5.unpinned List.mem_cons_self e).1, d⟩
        have I6 := O.woken (wk I5.unpinned) there ag A6 .running rfl
        show Run1 _ _ _ _ _ [] _
        have st6 : tn (i + 1) s6.heap := T.keep _ _ _ (fpin I5).1 fun b hb o e => A6.keep b o (fun z => Nat.lt_irrefl _ (Nat.lt_trans (O.fps b hb) (O.new b (List.mem_cons_of_mem _ z)))) e
        exact run1_again rfl (ih m' hm n' (i + 1) _ H5 s6 (s6.setGen Y.g .running) (by omega) there6 ag6 I6 st6 (fpin I5).2 w')
/-! ### two clauses -/
theorem run1_call {M : Model} {A : Around} {Z : End → Shared → Prop} {c c' : Code} {fs : List Frame} {s : Shared} {h g l} {k : Result → Sem PySem.Fin} (hc : ∀ p, Run1 M A Z c' (M.den c') (.ret k h g l c p [] :: fs) s) : Run1 M A Z c (.call c' h g l k) fs s := by
  intro Γ p e w
  subst e
  obtain ⟨e, s', r, z⟩ := hc p (Γ.goto c') p rfl (w.goto c')
  exact ⟨e, s', runs_call_seg r, z⟩
theorem run1_leaf {M : Model} {A : Around} {Z : End → Shared → Prop} {c c1 : Code} {fs : List Frame} {s : Shared} {k h g l p1 kp} (r : Result) (hk : Run1 M A Z c1 (k r) fs s) : Run1 M A Z c (leafOf r) (.ret k h g l c1 p1 kp :: fs) s := by
  intro Γ p e w
  subst e
  obtain ⟨e, s', hr, z⟩ := hk (Γ.goto c1) p1 rfl (w.goto c1)
  exact ⟨e, s', Runs.pop r hr, z⟩
section
variable {ge elt : Expr} {cs : List Comprehension} {scope : Scope} {gpos : Pos}
theorem den_in {P : Program} {w : World} {it acc : Value} {env : Env} (h : ge = .GeneratorExp elt cs scope gpos) : (model P w).den (.compLoop ge 1 it acc env) = (compTurn ge 1 it acc env).onRaise (fun x => do noteFrame x env; theTreesLotGoes x) := by subst h; rfl
theorem den_in0 {P : Program} {w : World} {it acc : Value} {env : Env} (h : ge = .GeneratorExp elt cs scope gpos) : (model P w).den (.compStart ge 1 it acc env) = (compStart ge 1 it acc env).onRaise (fun x => do noteFrame x env; standAt theWindowsPlace) := by subst h; rfl
theorem over_in {B : Around} {it it1 acc acc1 : Value} {env : Env} {fs : List Frame} {k : Result → Sem PySem.Fin} {g : Bool} {l kp : List Value} {p : Pos} (h : ge = .GeneratorExp elt cs scope gpos) :
    B.over (.compLoop ge 1 it1 acc1 env) (.ret k none g l (.compLoop ge 0 it acc env) p kp :: fs) = B.over (.compLoop ge 0 it acc env) fs ∧ B.over (.compStart ge 1 it1 acc1 env) (.ret k none g l (.compLoop ge 0 it acc env) p kp :: fs) = B.over (.compLoop ge 0 it acc env) fs := by
  subst h
  exact ⟨over_loop rfl rfl, over_loop rfl rfl⟩
end
def GStep2 (W : Nat → Nat → List V → Hp → Prop) (J : It) (g : TG) (tt : TT) (wi1 : TI) (g1 : TG) (tt1 : TT) (te : TE) (vs vs1 : List Nat) (σ0 : L2.St) (C : Eats) (F : List V → Hp → Prop) : Prop :=
  ∀ i m ys H, W i m ys H → (J.stop i H ∧ F ys H) ∨ (J.go i H ∧ ∀ x H', J.yld i H x H' → g x σ0 H' fun σ2 H2 => wipe σ2 vs = σ0 ∧ tt σ2 H2 fun b H3 => if b = true then wi1 σ2 H3 fun J1 H4 =>
      ∃ W1 : Nat → Nat → List V → Hp → Prop, (∃ m1, m1 < m ∧ W1 0 m1 ys H4) ∧ ∀ i1 m1 ys H, W1 i1 m1 ys H → (J1.stop i1 H ∧ ∃ m', m' ≤ m1 ∧ m' < m ∧ W (i + 1) m' ys H) ∨ (J1.go i1 H ∧ ∃ N1 : List V → Hp → Prop, (∀ ys' H', N1 ys' H' → ∃ m', m' < m1 ∧ W1 (i1 + 1) m' ys' H') ∧
        ∀ x1 H', J1.yld i1 H x1 H' → g1 x1 (wipe σ2 vs1) H' fun σ3 H5 => wipe σ3 vs1 = wipe σ2 vs1 ∧ tt1 σ3 H5 fun b1 H6 => if b1 = true then te σ3 H6 fun y H7 => C ys y H7 (N1 (ys ++ [y]) H7) else N1 ys H6)
    else ∃ m', m' < m ∧ W (i + 1) m' ys H3)
/-- what stays true of the inner iterator -/
structure InIt (Y : GEx) (fp1 : List Addr) : Prop where
  loc : ∀ b ∈ fp1, b ≠ Y.cenv.locals
  fs : ∀ b ∈ fp1, b ∉ frs Y.X.stack
  sz : ∀ b ∈ fp1, b ∈ Y.fp ∨ Y.s4.heap.objs.size ≤ b
  cel : ∀ b ∈ fp1, ∀ x c, Y.cenv.cells.lookup x = some c → c ≠ b
  own : ∀ b ∈ fp1, b ∉ Y.a :: Y.Sx
  out : ∀ b ∈ fp1, b ∉ Y.fp
section
variable {Y : GEx} {σ : L2.St} {H : Hp} {s s0 : Shared} {fp1 : List Addr}
theorem InIt.fpOk (N : InIt Y fp1) {h : Heap} (hn : ∀ b ∈ fp1, H b = none) : ∀ b ∈ fp1, FpOk Y.Xg (Y.pn s0 ++ pinsAt Y.fp h) H b := fun b hb =>
  ⟨hn b hb, N.loc b hb, N.fs b hb, N.sz b hb, N.cel b hb, fun p hp z => by
    have hp : p ∈ Y.pn s0 ++ pinsAt Y.fp h := by
      rcases List.mem_append.mp hp with y | y
      · cases y
      · exact y
    rcases List.mem_append.mp hp with y | y
    · exact N.own b hb (z ▸ (of_pinsAt y).1)
    · exact N.out b hb (z ▸ (of_pinsAt y).1)⟩
end
theorem gen_inner {Y : GEx} {elt tg iter tg1 iter1 : Expr} {ifs ifs1 : List Expr} {scope : Scope} {gpos : Pos} (hge : Y.ge = .GeneratorExp elt [⟨tg, iter, ifs, 0⟩, ⟨tg1, iter1, ifs1, 0⟩] scope gpos) {J J1 : It} {tn tn1 : Nat → Heap → Prop} {g1 : TG} {tt1 : TT} {te : TE} {vs vs1 : List Nat} {fp1 : List Addr} {it1 : Addr} {i : Nat} {σ2 : L2.St}
    {W1 : Nat → Nat → List V → Hp → Prop} {Wo : Nat → List V → Hp → Prop} {k : Result → Sem PySem.Fin} {l kp : List Value} {p : Pos} (O : Y.Ok) (T : Turn Y.X.prog Y.X.w Y.X.K tg J Y.fp Y.it tn) (T1 : Turn Y.X.prog Y.X.w Y.X.K tg1 J1 fp1 it1 tn1) (N : InIt Y fp1) (hσ : wipe σ2 vs = Y.σ0) (hvs : ∀ v ∈ vs1, v ∈ vs) (hg : PG Y.Xg tg1 g1) (ht : PTs Y.Xg ifs1 tt1) (he : PE Y.Xg elt te) (hC : EatsMono Y.C)
    (st : ∀ i1 m1 ys H, W1 i1 m1 ys H → (J1.stop i1 H ∧ ∃ m', m' ≤ m1 ∧ Wo m' ys H) ∨ (J1.go i1 H ∧ ∃ N1 : List V → Hp → Prop, (∀ ys' H', N1 ys' H' → ∃ m', m' < m1 ∧ W1 (i1 + 1) m' ys' H') ∧
        ∀ x1 H', J1.yld i1 H x1 H' → g1 x1 (wipe σ2 vs1) H' fun σ3 H5 => wipe σ3 vs1 = wipe σ2 vs1 ∧ tt1 σ3 H5 fun b1 H6 => if b1 = true then te σ3 H6 fun y H7 => Y.C ys y H7 (N1 (ys ++ [y]) H7) else N1 ys H6))
    (cont : ∀ (m' n : Nat) (ys : List V) (H : Hp) (s0 s : Shared), m' ≤ n → (∀ b ∈ Y.a :: Y.Sx, ∃ o, s0.heap.get? b = some o) → (∃ o, s0.heap.get? Y.a = some o ∧ ∀ v, o.data ≠ .cell v) → Inv Y.Xg (Y.pn s0) Y.σ0 H s → tn i s.heap → (∀ b ∈ Y.fp, H b = none) → Wo m' ys H → Run1 Y.M Y.B (Y.Z (Y.Rp n) ys s0) Y.loop (k (.ok .next)) [] s) :
    ∀ (m1 n i1 : Nat) (ys : List V) (H : Hp) (s0 s : Shared), m1 ≤ n → (∀ b ∈ Y.a :: Y.Sx, ∃ o, s0.heap.get? b = some o) → (∃ o, s0.heap.get? Y.a = some o ∧ ∀ v, o.data ≠ .cell v) → Inv Y.Xg (Y.pn s0) (wipe σ2 vs1) H s → tn i s.heap → (∀ b ∈ Y.fp, H b = none) → tn1 i1 s.heap → (∀ b ∈ fp1, H b = none) → W1 i1 m1 ys H →
      Run1 Y.M Y.B (Y.Z (Y.Rp n) ys s0) (.compLoop Y.ge 1 (.ref it1) .none Y.cenv) (Y.M.den (.compLoop Y.ge 1 (.ref it1) .none Y.cenv)) [.ret k none false l Y.loop p kp] s := by
  intro m1
  induction m1 using Nat.strongRecOn with
  | ind m1 ih =>
    intro n i1 ys H s0 s hmn there ag I stt fr st1 fr1 w
    have hco := O.co
    have ov := over_in (B := Y.B) (it := .ref Y.it) (it1 := .ref it1) (acc := .none) (acc1 := .none) (env := Y.cenv) (fs := []) (k := k) (g := false) (l := l) (kp := kp) (p := p) hge
    rw [den_in hge, Sem.onRaise_eq_wrap]
    have ct : compTurn Y.ge 1 (.ref it1) .none Y.cenv = compTurn (.GeneratorExp elt [⟨tg, iter, ifs, 0⟩, ⟨tg1, iter1, ifs1, 0⟩] scope gpos) 1 (.ref it1) .none Y.cenv := by rw [← hge]
    rw [ct]
    unfold compTurn
    simp only [List.getElem?_cons_succ, List.getElem?_cons_zero, List.getElem?_nil, bne_self_eq_false, Bool.false_eq_true, if_false]
    rw [← hge]
    have II := I.pinned (O.fpOk I fr) (T.obj _ _ stt)
    refine run1_bind (wpAny_standAt ?_)
    rcases st i1 m1 ys H w with ⟨stop, m', hm', wo⟩ | ⟨go, N1, hN, step⟩
    · refine run1_bind ?_
      rw [ov.1]
      refine wpAny_mono (T1.done Y.Xg rfl rfl rfl rfl i1 _ s _ H (fun _ _ => False) II (N.fpOk fr1) st1 stop) (fun r s1 ⟨hr, I1⟩ => ?_) fun _ _ z => z.elim
      subst hr
      have J1 : Inv Y.Xg (Y.pn s0) Y.σ0 H s1 := by
        refine (I1.unpinned).weak (by rw [← hσ, wipe_length, wipe_length]) fun j v e => ?_
        rw [← hσ] at e
        obtain ⟨e, hv⟩ := wipe_some e
        rw [wipe_out fun z => hv (hvs j z)]
        exact e
      have pin' : ∀ b ∈ Y.fp, ∀ o, s.heap.get? b = some o → s1.heap.get? b = some o := fun b hb o e => (I1.pin (b, o) (List.mem_append_right _ (List.mem_append_right _ (mem_pinsAt hb e)))).1
      exact run1_leaf (.ok .next) (cont m' n ys H s0 s1 (by omega) there ag J1 (T.keep _ _ _ stt pin') fr wo)
    · refine run1_bind ?_
      rw [ov.1]
      refine wpAny_mono (T1.item Y.Xg rfl rfl rfl rfl i1 _ s _ H (fun _ _ => False) II (N.fpOk fr1) st1 go) (fun r s1 ⟨u, hr, h1⟩ => ?_) fun _ _ z => z.elim
      subst hr
      refine run1_bind ?_
      rw [ov.1]
      refine wpAny_mono h1 (fun _ s2 ⟨x, H2, I2, r2, y2, st2, fr2⟩ => ?_) fun _ _ z => z.elim
      have I2' := I2.pinned (N.fpOk fr2) (T1.obj _ _ st2)
      refine run1_bind ?_
      rw [ov.1]
      refine wpAny_mono (hg.run _ s2 _ H2 x u _ I2' r2 (step x H2 y2)) (fun _ s3 ⟨σ3, H3, I3, hw3, q3⟩ => ?_) fun _ _ z => z.elim
      refine run1_bind ?_
      rw [ov.1]
      refine wpAny_mono (ht.run _ s3 σ3 H3 _ I3 q3) (fun b s4 ⟨H4, I4, q4⟩ => ?_) fun _ _ z => z.elim
      -- behind the turn
      have back : ∀ {s' : Shared} {H' : Hp}, Inv Y.Xg ((Y.pn s0 ++ pinsAt Y.fp s.heap) ++ pinsAt fp1 s2.heap) σ3 H' s' → Inv Y.Xg (Y.pn s0) (wipe σ2 vs1) H' s' ∧ tn i s'.heap ∧ (∀ b ∈ Y.fp, H' b = none) ∧ tn1 (i1 + 1) s'.heap ∧ ∀ b ∈ fp1, H' b = none := fun {s' H'} I' => by
        have p0 : ∀ b ∈ Y.fp, ∀ o, s.heap.get? b = some o → s'.heap.get? b = some o ∧ H' b = none := fun b hb o e => by
          have z := I'.pin (b, o) (List.mem_append_right _ (List.mem_append_left _ (List.mem_append_right _ (mem_pinsAt hb e))))
          exact ⟨z.1, z.2.1⟩
        have p1 : ∀ b ∈ fp1, ∀ o, s2.heap.get? b = some o → s'.heap.get? b = some o ∧ H' b = none := fun b hb o e => by
          have z := I'.pin (b, o) (List.mem_append_right _ (List.mem_append_right _ (mem_pinsAt hb e)))
          exact ⟨z.1, z.2.1⟩
        refine ⟨(I'.unpinned.unpinned).weak (by rw [← hw3, wipe_length]) fun j v e => ?_, T.keep _ _ _ stt fun b hb o e => (p0 b hb o e).1, fun b hb => ?_, T1.keep _ _ _ st2 fun b hb o e => (p1 b hb o e).1, fun b hb => ?_⟩
        · rw [← hw3] at e
          exact (wipe_some e).1
        · obtain ⟨o, e, _⟩ := T.obj _ _ stt b hb
          exact (p0 b hb o e).2
        · obtain ⟨o, e, _⟩ := T1.obj _ _ st2 b hb
          exact (p1 b hb o e).2
      cases b with
      | false =>
        simp only [Bool.false_eq_true, if_false] at q4 ⊢
        obtain ⟨m', hm, w'⟩ := hN ys H4 q4
        obtain ⟨b1, b2, b3, b4, b5⟩ := back I4
        exact run1_again rfl (ih m' hm n (i1 + 1) ys H4 s0 s4 (by omega) there ag b1 b2 b3 b4 b5 w')
      | true =>
        simp only [if_true] at q4 ⊢
        have hy : ∀ v, yieldOut Y.cenv v = yieldValue v := fun v => by simp only [yieldOut, hco, Bool.false_eq_true, if_false]
        simp only [hy]
        rw [Sem.bind_eq_wrap', Sem.bind_eq_wrap', Sem.wrap_wrap, Sem.wrap_wrap]
        refine run1_wrap ?_
        rw [ov.1]
        refine wpAny_mono (he.run _ s4 σ3 H4 _ I4 q4) (fun v s5 ⟨y, H5, I5, r5, c5⟩ => ?_) fun _ _ z => z.elim
        refine run1_at (run1_yield rfl fun p => .inr ⟨v, _, _, _, p, _, y, σ3, H5, rfl, rfl, I5.unpinned.unpinned, r5, hC _ _ _ _ _ (fun nx => ?_) c5⟩)
        obtain ⟨m', hm, w'⟩ := hN _ H5 nx
        obtain ⟨n', rfl⟩ : ∃ k, n = k + 1 := ⟨n - 1, by omega⟩
        obtain ⟨b1, b2, b3, b4, b5⟩ := back I5
        refine (Y.rdy_iff n' _ _ _ _).mpr fun s6 A6 => ?_
        have there6 : ∀ b ∈ Y.a :: Y.Sx, ∃ o, s6.heap.get? b = some o := fun b hb => by
          rcases List.mem_cons.mp hb with z | z
          · obtain ⟨o, e⟩ := there b hb
            exact ⟨o, A6.keep b o (by rw [z]; exact O.aS) (O.pinned b1 hb e).1⟩
          · obtain ⟨o, e, _⟩ := A6.own b z
            exact ⟨o, e⟩
        have ag6 : ∃ o, s6.heap.get? Y.a = some o ∧ ∀ v, o.data ≠ .cell v := by
          obtain ⟨o, e, d⟩ := ag
          exact ⟨o, A6.keep _ o O.aS (O.pinned b1 List.mem_cons_self e).1, d⟩
        have I6 := O.woken b1 there ag A6 .running rfl
        have st6 : tn i s6.heap := T.keep _ _ _ b2 fun b hb o e => A6.keep b o (fun z => Nat.lt_irrefl _ (Nat.lt_trans (O.fps b hb) (O.new b (List.mem_cons_of_mem _ z)))) e
        have st7 : tn1 (i1 + 1) s6.heap := T1.keep _ _ _ b4 fun b hb o e => A6.keep b o (fun z => N.own b hb (List.mem_cons_of_mem _ z)) e
        exact run1_again rfl (ih m' hm n' (i1 + 1) _ H5 s6 (s6.setGen Y.g .running) (by omega) there6 ag6 I6 st6 b3 st7 b5 w')
theorem gen_turns2 {Y : GEx} {elt tg iter tg1 iter1 : Expr} {ifs ifs1 : List Expr} {scope : Scope} {gpos : Pos} (hge : Y.ge = .GeneratorExp elt [⟨tg, iter, ifs, 0⟩, ⟨tg1, iter1, ifs1, 0⟩] scope gpos) {J : It} {tn : Nat → Heap → Prop} {g g1 : TG} {tt tt1 : TT} {te : TE} {wi1 : TI} {vs vs1 : List Nat} {W : Nat → Nat → List V → Hp → Prop}
    (O : Y.Ok) (T : Turn Y.X.prog Y.X.w Y.X.K tg J Y.fp Y.it tn) (hvs : ∀ v ∈ vs1, v ∈ vs) (hg : PG Y.Xg tg g) (ht : PTs Y.Xg ifs tt) (hi1 : PI Y.Xg tg1 iter1 wi1) (hs1 : ∀ x, foldedSetIterable iter1 Y.cenv x = pure x) (hg1 : PG Y.Xg tg1 g1) (ht1 : PTs Y.Xg ifs1 tt1) (he : PE Y.Xg elt te) (hC : EatsMono Y.C)
    (st : GStep2 W J g tt wi1 g1 tt1 te vs vs1 Y.σ0 Y.C Y.F) : ∀ (m n : Nat) (i : Nat) (ys : List V) (H : Hp) (s0 s : Shared), m ≤ n → (∀ b ∈ Y.a :: Y.Sx, ∃ o, s0.heap.get? b = some o) → (∃ o, s0.heap.get? Y.a = some o ∧ ∀ v, o.data ≠ .cell v) → Inv Y.Xg (Y.pn s0) Y.σ0 H s → tn i s.heap → (∀ b ∈ Y.fp, H b = none) → W i m ys H →
      Run1 Y.M Y.B (Y.Z (Y.Rp n) ys s0) Y.loop (Y.M.den Y.loop) [] s := by
  intro m
  induction m using Nat.strongRecOn with
  | ind m ih =>
    intro n i ys H s0 s hmn there ag I stt fr w
    rw [den_one hge, Sem.onRaise_eq_wrap]
    have ct : compTurn Y.ge 0 (.ref Y.it) .none Y.cenv = compTurn (.GeneratorExp elt [⟨tg, iter, ifs, 0⟩, ⟨tg1, iter1, ifs1, 0⟩] scope gpos) 0 (.ref Y.it) .none Y.cenv := by rw [← hge]
    rw [ct]
    unfold compTurn
    simp only [List.getElem?_cons_succ, List.getElem?_cons_zero, List.getElem?_nil, bne_self_eq_false, Bool.false_eq_true, if_false]
    rw [← hge]
    refine run1_bind (wpAny_standAt ?_)
    rcases st i m ys H w with ⟨stop, fin⟩ | ⟨go, step⟩
    · refine run1_bind (wpAny_mono (T.done Y.Xg rfl rfl rfl rfl i (Y.pn s0) s Y.σ0 H (fun _ _ => False) I (O.fpOk I fr) stt stop) (fun r s1 ⟨hr, I1⟩ => ?_) fun _ _ z => z.elim)
      subst hr
      exact run1_end (.ok .next) (.inl ⟨rfl, Y.σ0, H, I1, fin⟩)
    · refine run1_bind (wpAny_mono (T.item Y.Xg rfl rfl rfl rfl i (Y.pn s0) s Y.σ0 H (fun _ _ => False) I (O.fpOk I fr) stt go) (fun r s1 ⟨u, hr, h1⟩ => ?_) fun _ _ z => z.elim)
      subst hr
      refine run1_bind (wpAny_mono h1 (fun _ s2 ⟨x, H2, I2, r2, y2, st2, fr2⟩ => ?_) fun _ _ z => z.elim)
      have I2' := I2.pinned (O.fpOk I2 fr2) (T.obj _ _ st2)
      refine run1_bind (wpAny_mono (hg.run _ s2 Y.σ0 H2 x u _ I2' r2 (step x H2 y2)) (fun _ s3 ⟨σ3, H3, I3, hw3, q3⟩ => ?_) fun _ _ z => z.elim)
      refine run1_bind (wpAny_mono (ht.run _ s3 σ3 H3 _ I3 q3) (fun b s4 ⟨H4, I4, q4⟩ => ?_) fun _ _ z => z.elim)
      have fpin : ∀ {s' : Shared} {H' : Hp}, Inv Y.Xg (Y.pn s0 ++ pinsAt Y.fp s2.heap) σ3 H' s' → tn (i + 1) s'.heap ∧ ∀ b ∈ Y.fp, H' b = none := fun {s' H'} I' => by
        have pin' : ∀ b ∈ Y.fp, ∀ o, s2.heap.get? b = some o → s'.heap.get? b = some o ∧ H' b = none := fun b hb o e => by
          have z := I'.pin (b, o) (List.mem_append_right _ (List.mem_append_right _ (mem_pinsAt hb e)))
          exact ⟨z.1, z.2.1⟩
        refine ⟨T.keep _ _ _ st2 fun b hb o e => (pin' b hb o e).1, fun b hb => ?_⟩
        obtain ⟨o, e, _⟩ := T.obj _ _ st2 b hb
        exact (pin' b hb o e).2
      have wk : ∀ {s' : Shared} {H' : Hp} {pins : List (Addr × Obj)}, Inv Y.Xg pins σ3 H' s' → Inv Y.Xg pins Y.σ0 H' s' := fun {s' H' pins} I' => by
        have hl : Y.σ0.length = σ3.length := by rw [← hw3, wipe_length]
        refine I'.weak hl fun j v e => ?_
        rw [← hw3] at e
        exact (wipe_some e).1
      cases b with
      | false =>
        simp only [Bool.false_eq_true, if_false] at q4 ⊢
        obtain ⟨m', hm, w'⟩ := q4
        exact run1_again rfl (ih m' hm n (i + 1) ys H4 s0 s4 (by omega) there ag (wk I4.unpinned) (fpin I4).1 (fpin I4).2 w')
      | true =>
        simp only [if_true] at q4 ⊢
        refine run1_bind (wpAny_mono (hi1.run _ s4 σ3 H4 _ I4 q4) (fun xv s5 h5 => ?_) fun _ _ z => z.elim)
        refine run1_bind (wpAny_standAt (run1_bind (wpAny_of_eq (hs1 xv) (run1_bind (wpAny_holding (wpAny_mono h5 (fun itv s6 h6 => ?_) fun _ _ z => z.elim))))))
        obtain ⟨it1, fp1, tn1, J1, H6, rfl, I6, T1, st1, f1, W1, ⟨m1, hm1, w1⟩, st'⟩ := h6
        have N : InIt Y fp1 :=
          { loc := fun b hb => (f1 b hb).2.1
            fs := fun b hb => (f1 b hb).2.2.1
            sz := fun b hb => (f1 b hb).2.2.2.1
            cel := fun b hb => (f1 b hb).2.2.2.2.1
            own := fun b hb z => by
              obtain ⟨o, e⟩ := there b z
              exact (f1 b hb).2.2.2.2.2 (b, o) (List.mem_append_right _ (List.mem_append_left _ (mem_pinsAt z e))) rfl
            out := fun b hb z => by
              obtain ⟨o, e, _⟩ := T.obj _ _ st2 b z
              exact (f1 b hb).2.2.2.2.2 (b, o) (List.mem_append_right _ (List.mem_append_right _ (mem_pinsAt z e))) rfl }
        have I7 : Inv Y.Xg (Y.pn s0) (wipe σ3 vs1) H6 s6 := (I6.unpinned).weak (wipe_length _ _) fun j v e => (wipe_some e).1
        rw [Sem.bind_eq_wrap', Sem.wrap_wrap]
        unfold runOwn run
        rw [Sem.onRaise_eq_wrap, Sem.wrap_wrap]
        show Run1 _ _ _ _ (.call (.compStart Y.ge 1 (.ref it1) .none Y.cenv) none false [] _) [] s6
        refine run1_call fun p => ?_
        have inner := fun (k : Result → Sem PySem.Fin) hk => gen_inner (Wo := fun m' ys H => m' < m ∧ W (i + 1) m' ys H) (k := k) (l := []) (kp := []) (p := p) hge O T T1 N hw3 hvs hg1 ht1 he hC (fun i1 m1 ys H w1 => by
          rcases st' i1 m1 ys H w1 with ⟨z1, m', z2, z3, z4⟩ | z
          · exact .inl ⟨z1, m', z2, z3, z4⟩
          · exact .inr z) hk m1 n 0 ys H6 s0 s6 (by omega) there ag I7 (fpin I6).1 (fpin I6).2 st1 (fun b hb => (f1 b hb).1) w1
        rw [den_in0 hge]
        have e : (clausesOf Y.ge)[1]? = some ⟨tg1, iter1, ifs1, 0⟩ := by rw [hge]; rfl
        unfold compStart
        rw [Sem.onRaise_eq_wrap, e]
        refine run1_bind (wpAny_askSetting ?_)
        split
        · exact run1_again rfl (inner _ fun m' n' ys' H' s0' s' h1 h2 h3 h4 h5 h6 h7 => run1_again rfl (ih m' h7.1 n' (i + 1) ys' H' s0' s' h1 h2 h3 h4 h5 h6 h7.2))
        · refine run1_bind (wpAny_rule (run1_bind (wpAny_standAt (run1_bind (T1.self _ 0 s6 _ _ st1 (run1_again rfl (inner _ fun m' n' ys' H' s0' s' h1 h2 h3 h4 h5 h6 h7 => ?_)))))))
          exact run1_again rfl (ih m' h7.1 n' (i + 1) ys' H' s0' s' h1 h2 h3 h4 h5 h6 h7.2)
/-- from the start -/
theorem gen_first {Y : GEx} {elt tg iter : Expr} {ifs : List Expr} {scope : Scope} {gpos : Pos} {cs : List Comprehension} (hge : Y.ge = .GeneratorExp elt (⟨tg, iter, ifs, 0⟩ :: cs) scope gpos) {J : It} {tn : Nat → Heap → Prop} {Z : End → Shared → Prop} (T : Turn Y.X.prog Y.X.w Y.X.K tg J Y.fp Y.it tn) (s : Shared) (stt : tn 0 s.heap)
    (loop : Run1 Y.M Y.B Z Y.loop (Y.M.den Y.loop) [] s) : Run1 Y.M Y.B Z (.compStart Y.ge 0 (.ref Y.it) .none Y.cenv) (Y.M.den (.compStart Y.ge 0 (.ref Y.it) .none Y.cenv)) [] s := by
  rw [den_start hge]
  have e : (clausesOf Y.ge)[0]? = some ⟨tg, iter, ifs, 0⟩ := by rw [hge]; rfl
  unfold compStart
  rw [Sem.onRaise_eq_wrap, e]
  show Run1 _ _ _ _ ((ask >>= _).wrap _ _ _ _) [] s
  refine run1_bind (wpAny_askSetting ?_)
  split
  · exact run1_again rfl loop
  · first
      | exact run1_bind (wpAny_rule (run1_bind (wpAny_standAt (run1_bind (T.self _ 0 s _ _ stt (run1_again rfl loop))))))
      | (refine run1_bind (wpAny_rule ?_); show Run1 _ _ _ _ ((standAt iter.pos >>= _).wrap _ _ _ _) [] s; exact run1_bind (wpAny_standAt (run1_bind (T.self _ 0 s _ _ stt (run1_again rfl loop)))))

/-! ### making it -/
/-- the generator a (number g) in s5, made at s4 over the iterator it -/
structure Made (X : Cx) (pins : List (Addr × Obj)) (σ : L2.St) (ge tg : Expr) (scope : Scope) (J : It) (H2 : Hp) (s4 : Shared) (cenv : Env) (fp : List Addr) (it : Addr) (tn : Nat → Heap → Prop) (a g : Addr) (s5 : Shared) : Prop where
  inv : Inv X pins σ H2 s4
  fps : ∀ b ∈ fp, FpOk X pins H2 b ∧ b < s4.heap.objs.size
  turn : Turn X.prog X.w X.K tg J fp it tn
  at0 : tn 0 s4.heap
  env : ∃ code, cenv = genEnv scope (cloFrom X.env.cells scope.names []) s4.heap.objs.size code builtinsNs X.env
  os : s5.os = s4.os
  gens : s5.gens = s4.gens.push (.fresh (.compStart ge 0 (.ref it) .none cenv))
  num : g = s4.gens.size
  drawn : s5.drawn = s4.drawn
  isg : s5.heap.IsGen a g
  new : s4.heap.objs.size < a
  lt : s5.heap.objs.size = a + 1
  keep : ∀ b o, s4.heap.get? b = some o → s5.heap.get? b = some o
  ns : ∃ m, s5.heap.Ns s4.heap.objs.size m
section
variable {X : Cx} {pins : List (Addr × Obj)} {σ : L2.St} {H : Hp} {s : Shared}
theorem make_any {M : Model} {A : Around} {E : Value → Shared → Prop} {s : Shared} {env : Env} {elt tg iter : Expr} {ifs : List Expr} {cs : List Comprehension} {scope : Scope} {cl : List (Str × Addr)} {pos : Pos} {Q : Value → Shared → Prop} (G : GScp scope) (hcl : closureFor scope env = pure cl) (hroom : A.depth < recursionLimit)
    (h : wpAny M A (eval iter env) (fun xv s1 => wpAny M A (pyIter xv) (fun it s2 => s2.heap.NoLimit ∧ wpAny M A (genexprCode env pos (env.qual ++ "<genexpr>") scope) (fun code s3 => wpAny M A (builtinsFor env.globals env.builtins) (fun bi s4 =>
      ∀ h', h'.Ns s4.heap.objs.size (fun y => if y = ".0" then some it else none) → Heap.SameBut s4.heap.objs.size (s4.heap.push { cls := .type "frame", data := .dict #[] }) h' →
        Q (.ref h'.objs.size) { s4 with gens := s4.gens.push (.fresh (.compStart (.GeneratorExp elt (⟨tg, iter, ifs, 0⟩ :: cs) scope pos) 0 it .none (genEnv scope cl s4.heap.objs.size code bi env))), toks := s4.toks + 1 + 1 + 1, heap := h'.push { cls := .type "generator", data := .fields #[.int s4.gens.size 0, .str "<genexpr>" (s4.toks + 1), .str (env.qual ++ "<genexpr>") (s4.toks + 1 + 1)] } }) E s3) E s2) E s1) E s)
    (hs : ∀ x, genFold iter env x = pure x) : wpAny M A (eval (.GeneratorExp elt (⟨tg, iter, ifs, 0⟩ :: cs) scope pos) env) Q E s := by
  rw [arm_eval_GeneratorExp]
  simp only [G.co, Bool.false_eq_true, if_false]
  refine wpAny_bind (thn h fun xv s1 h1 => wpAny_bind (wpAny_standAt (wpAny_bind (wpAny_of_eq (a := xv) ?_ ?_))))
  · have := hs xv
    unfold genFold at this
    cases iter <;> exact this
  refine wpAny_bind (wpAny_holding (thn h1 fun it s2 h2 => wpAny_bind (wpAny_enterFrame h2.1 hroom ?_)))
  rw [hcl]
  refine wpAny_bind (wpAny_pure (wpAny_bind (thn h2.2 fun code s3 h3 => wpAny_bind (thn h3 fun bi s4 h4 => ?_))))
  have hb : ∀ y ∈ ([((".0" : Str), it)] : List (Str × Value)), scope.names.lookup y.1 = some NameKind.local := fun y hy => by
    rw [List.mem_singleton.mp hy]
    exact G.dot
  refine wpAny_bind (wpAny_newFunctionEnv G.nocell hb (fun h' hn' hs' => ?_) G.kind)
  have e : (fun y : Str => ([((".0" : Str), it)] : List (Str × Value)).reverse.lookup y) = fun y : Str => if y = (".0" : Str) then some it else none := by
    funext y
    by_cases hy : y = ".0"
    · subst hy
      simp
    · have : (y == (".0" : Str)) = false := by simpa using hy
      simp [List.lookup, this, hy]
  rw [e] at hn'
  simp only [newGenerator, newFields]
  exact wpAny_bind (wpAny_newGen (wpAny_bind (wpAny_mkText (wpAny_bind (wpAny_mkText (wpAny_newObj_type (h4 h' hn' hs') (by size_fits)))))))
theorem gen_made {c P : Addr} {elt tg iter : Expr} {ifs : List Expr} {cs : List Comprehension} {scope : Scope} {own : List (Str × Nat)} {gpos : Pos} {wi : TI} {k : Nat} {R : It → Hp → Prop} {Q' : Value → Shared → Prop} (hr : Room k X.A) (TB : LamX.TabB X.base X.mg c P) (hcode : X.env.code = .ref c)
    (G : GScp scope) (ok : BlkOk X.N X.env.scope scope own) (hi : PI X tg iter wi) (hs : ∀ v, genFold iter X.env v = pure v) (I : Inv X pins σ H s) (h : wi σ H fun J H1 => TabG H1 P ∧ R J H1)
    (hQ : ∀ J H1 H2 s4 cenv fp it tn a g s5, R J H1 → Tabbed P H1 H2 → Made X pins σ (.GeneratorExp elt (⟨tg, iter, ifs, 0⟩ :: cs) scope gpos) tg scope J H2 s4 cenv fp it tn a g s5 → Q' (.ref a) s5) :
    wpAny (model X.prog X.w) X.A (eval (.GeneratorExp elt (⟨tg, iter, ifs, 0⟩ :: cs) scope gpos) X.env) Q' X.xe s := by
  refine make_any G (closure_ok (blk_free ok I.ok)) hr.depth ?_ hs
  refine thn (hi.run pins s σ H _ I h) fun xv s1 h1 => thn h1 fun itv s2 h2 => ?_
  obtain ⟨it, fp, tn, J, H1, rfl, I2, T, st2, f2, ⟨ps, hP, htr⟩, q⟩ := h2
  refine ⟨I2.nolimit, ?_⟩
  have hPs : s2.heap.get? P = some { cls := .none, data := .fields ps } := I2.hok P _ hP
  have cd : PySem.W.CodeHd s2.heap c P := TB.code.keeps fun b u e => I2.bk b u e
  have nfP : ∀ b ∈ fp, b ≠ P := fun b hb z => by
    have e := (f2 b hb).1
    rw [z, hP] at e
    cases e
  have cont : ∀ (code : Value) (h3 : Heap) (tk : Nat) (ps' : Array Value), Heap.ExtBut P s2.heap h3 → h3.get? P = some { cls := .none, data := .fields ps' } → (∃ more, ps' = ps ++ more) → TriplesOk ps'.toList →
      wpAny (model X.prog X.w) X.A (builtinsFor X.env.globals X.env.builtins) (fun bi s₄ => ∀ h', h'.Ns s₄.heap.objs.size (fun y => if y = ".0" then some (.ref it) else none) → Heap.SameBut s₄.heap.objs.size (s₄.heap.push { cls := .type "frame", data := .dict #[] }) h' →
          Q' (.ref h'.objs.size) { s₄ with
            gens := s₄.gens.push (.fresh (.compStart (.GeneratorExp elt (⟨tg, iter, ifs, 0⟩ :: cs) scope gpos) 0 (.ref it) .none (genEnv scope (cloFrom X.env.cells scope.names []) s₄.heap.objs.size code bi X.env))),
            toks := s₄.toks + 1 + 1 + 1,
            heap := h'.push { cls := .type "generator", data := .fields #[.int s₄.gens.size 0, .str "<genexpr>" (s₄.toks + 1), .str (X.env.qual ++ "<genexpr>") (s₄.toks + 1 + 1)] } }) X.xe { s2 with heap := h3, toks := tk } := by
    intro code h3 tk ps' hx hP3 hmore ht3
    obtain ⟨bm, ob, e1, e2, e3, e4, e5, e6, e7, e8⟩ := TB.bm
    have keep3 : ∀ b u, b ≠ P → s2.heap.get? b = some u → h3.get? b = some u := fun b u hb e => hx b u hb e
    refine wpAny_builtinsFor (m := X.mg) (by rw [I2.ok.glob]; exact (I2.mod.glob.keeps I2.bk).extBut hx TB.gP) e1 e2 (keep3 _ _ e4 (I2.bk _ _ e5)) e6 e7 e8 ?_
    intro h' hn' hs'
    obtain ⟨more, em⟩ := hmore
    have J4 := inv_tab (more := more) (h' := h3) (g' := s2.gens) (d' := s2.drawn) (t' := tk) I2 hP (fun b u hb e => keep3 b u hb e) (by rw [← em]; exact hP3) I2.bare
    have J4 : Inv X pins σ (upd H1 P (.tbl (ps ++ more))) { s2 with heap := h3, toks := tk } := J4
    have keep' : ∀ b o, h3.get? b = some o → h'.get? b = some o := fun b o e => hs'.extBut b o (Nat.ne_of_lt (Heap.lt_size e)) (Heap.get?_push_of_some _ e)
    have hsz : h'.objs.size = h3.objs.size + 1 := by rw [hs'.1, Heap.size_push]
    have nfpH : ∀ b ∈ fp, upd H1 P (.tbl (ps ++ more)) b = none := fun b hb => by rw [upd_ne (nfP b hb)]; exact (f2 b hb).1
    refine hQ J H1 (upd H1 P (.tbl (ps ++ more))) { s2 with heap := h3, toks := tk } (genEnv scope (cloFrom X.env.cells scope.names []) h3.objs.size code builtinsNs X.env) fp it tn _ s2.gens.size _ q ⟨⟨ps ++ more, upd_same, by rw [← em]; exact ht3⟩, fun b hb => upd_ne hb⟩
      { inv := J4, fps := fun b hb => ?_, turn := T, at0 := ?_, env := ⟨code, rfl⟩, os := rfl, gens := rfl, num := rfl, drawn := rfl, isg := ⟨_, _, _, Heap.get?_push_size _ rfl, rfl, rfl, rfl⟩, new := ?_, lt := ?_, keep := fun b o e => Heap.get?_push_of_some _ (keep' b o e), ns := ⟨_, hn'.push _⟩ }
    · obtain ⟨o, e, _⟩ := T.obj _ _ st2 b hb
      exact ⟨⟨nfpH b hb, (f2 b hb).2⟩, Heap.lt_size (keep3 b o (nfP b hb) e)⟩
    · exact T.keep _ _ _ st2 fun b hb o e => keep3 b o (nfP b hb) e
    · show h3.objs.size < h'.objs.size
      rw [hsz]; exact Nat.lt_succ_self _
    · exact Heap.size_push ..
  cases hf : codeAmong gpos ps.toList with
  | none =>
    refine wpAny_genexprCodeX hcode (cd.code hPs htr) (cd.tab hPs) hf fun c' h' tk hx hge hlt hco' _ htab' _ => ?_
    obtain ⟨o1, vs, f1, tf, fl, tg, inF, tx, tt, op, _, _, _, _, _, _, _, _, _, htr', _⟩ := hco'
    exact cont _ h' tk _ hx htab'.2 ⟨_, rfl⟩ htr'
  | some cv =>
    refine wpAny_genexprCode_hit hcode (cd.code hPs htr) hf ?_
    exact cont cv s2.heap s2.toks ps (Heap.ExtBut.refl _ _) hPs ⟨#[], by simp⟩ htr
end

/-! ### ready -/
theorem Aft.refl {s : Shared} (hb : AllBare s.gens) : Aft [] s s := ⟨rfl, hb, fun _ _ _ e => e, fun b z => by cases z⟩
theorem over_fr {B : Around} {ge elt : Expr} {cs : List Comprehension} {scope : Scope} {gpos : Pos} {it : Value} {cenv : Env} {l : List Env} (hge : ge = .GeneratorExp elt cs scope gpos) (h : B.frames = some l) :
    (B.over (.compLoop ge 0 it .none cenv) []).frames = some (cenv :: l) := by
  subst hge
  obtain ⟨b1, b2, b3, b4, b5⟩ := B
  cases h
  rfl
/-- room in the generator's frame -/
structure NearA (B A : Around) : Prop where
  hd : B.handled = A.handled
  fr : B.frames = A.frames
  dp : B.depth ≤ A.depth + 2
  un : B.units ≤ A.units + 12
theorem NearA.room {B A : Around} {k : Nat} {ge elt : Expr} {cs : List Comprehension} {scope : Scope} {gpos : Pos} {it : Value} {cenv : Env} (hge : ge = .GeneratorExp elt cs scope gpos) (n : NearA B A) (r : Room (k + 1) A) : Room k (B.over (.compLoop ge 0 it .none cenv) []) := by
  subst hge
  obtain ⟨n1, n2, n3, n4⟩ := n
  obtain ⟨r1, r2, r3⟩ := r
  refine ⟨?_, ?_, ?_⟩
  · show B.handled = none
    rw [n1]; exact r1
  · show B.depth + 0 + 1 + 3 * k + 5 < _
    omega
  · show B.units + 0 + 3 + 16 * k + 200 < _
    omega
theorem nearA2 (A : Around) : NearA A.in1.in1 A := ⟨rfl, rfl, Nat.le_add_right _ _, by show A.units + 1 + 1 ≤ _; omega⟩
section
variable {X : Cx} {pins : List (Addr × Obj)} {σ : L2.St} {H2 : Hp} {s4 s5 : Shared}
abbrev mkY (X : Cx) (s4 : Shared) (H2 : Hp) (cenv : Env) (fp : List Addr) (B : Around) (σ0 : L2.St) (ge : Expr) (it a : Addr) (g : Nat) (Sx : List Addr) (C : Eats) (F : List V → Hp → Prop) : GEx :=
  ⟨X, s4, H2, cenv, fp, B, σ0, ge, it, a, g, Sx, C, F⟩
theorem gen_rdy0 {ge elt tg iter : Expr} {ifs : List Expr} {cs : List Comprehension} {scope : Scope} {own : List (Str × Nat)} {gpos : Pos} {J : It} {cenv : Env} {fp : List Addr} {it a g : Addr} {tn : Nat → Heap → Prop} {B : Around} {k : Nat} {C : Eats} {F : List V → Hp → Prop} {Sx : List Addr} (hge : ge = .GeneratorExp elt (⟨tg, iter, ifs, 0⟩ :: cs) scope gpos)
    (hr : Room (k + 1) X.A) (hB : NearA B X.A) (G : GScp scope) (ok : BlkOk X.N X.env.scope scope own) (hN : X.N.Nodup) (M : Made X pins σ ge tg scope J H2 s4 cenv fp it tn a g s5)
    (hS : ∀ b ∈ Sx, a < b) (m : Nat) (turns : (mkY X s4 H2 cenv fp B (wipe σ (own.map (·.2))) ge it a g Sx C F).Ok → Room k (B.over (.compLoop ge 0 (.ref it) .none cenv) []) → ∀ s0 s, (∀ b ∈ a :: Sx, ∃ o, s0.heap.get? b = some o) → (∃ o, s0.heap.get? a = some o ∧ ∀ v, o.data ≠ .cell v) →
      Inv (mkY X s4 H2 cenv fp B (wipe σ (own.map (·.2))) ge it a g Sx C F).Xg ((mkY X s4 H2 cenv fp B (wipe σ (own.map (·.2))) ge it a g Sx C F).pn s0) (wipe σ (own.map (·.2))) H2 s → tn 0 s.heap → (∀ b ∈ fp, H2 b = none) →
      Run1 (model X.prog X.w) B ((mkY X s4 H2 cenv fp B (wipe σ (own.map (·.2))) ge it a g Sx C F).Z ((mkY X s4 H2 cenv fp B (wipe σ (own.map (·.2))) ge it a g Sx C F).Rp m) [] s0) (.compLoop ge 0 (.ref it) .none cenv) ((model X.prog X.w).den (.compLoop ge 0 (.ref it) .none cenv)) [] s) :
    (mkY X s4 H2 cenv fp B (wipe σ (own.map (·.2))) ge it a g Sx C F).Ok ∧
    (mkY X s4 H2 cenv fp B (wipe σ (own.map (·.2))) ge it a g Sx C F).Rdy m [] H2 (.fresh (.compStart ge 0 (.ref it) .none cenv)) s5 := by
  obtain ⟨code, hce⟩ := M.env
  have hfree := blk_free ok M.inv.ok
  have O : (mkY X s4 H2 cenv fp B (wipe σ (own.map (·.2))) ge it a g Sx C F).Ok :=
    { new := fun b hb => by
        rcases List.mem_cons.mp hb with z | z
        · rw [z]; exact M.new
        · exact Nat.lt_trans M.new (hS b z)
      loc := by
        show cenv.locals = _
        rw [hce]; rfl
      cel := fun y c e => by
        have e : cenv.cells.lookup y = some c := e
        rw [hce] at e
        obtain ⟨v, z⟩ := M.inv.cell y c (NdefX.clo_cm hfree e)
        exact z.lt
      fps := fun b hb => (M.fps b hb).2
      aS := fun z => Nat.lt_irrefl _ (hS _ z)
      co := by
        show cenv.scope.isCoroutine = false
        rw [hce]; exact G.co }
  refine ⟨O, (GEx.rdy_iff _ m _ _ _ _).mpr fun s6 A6 => ?_⟩
  have R := hB.room (k := k) (it := Value.ref it) (cenv := cenv) hge hr
  have hfrm : (B.over (.compLoop ge 0 (.ref it) .none cenv) []).frames = some (cenv :: X.stack) := over_fr hge (by rw [hB.fr]; exact M.inv.ok.frames)
  have hS2 : ∀ b o, s5.heap.get? b = some o → b < a + 1 := fun b o e => by
    have := Heap.lt_size e
    rw [M.lt] at this
    exact this
  have kp5 : ∀ b o, s5.heap.get? b = some o → s6.heap.get? b = some o := fun b o e => A6.keep b o (fun z => by
    have h1 := hS b z
    have h2 := hS2 b o e
    exact Nat.lt_irrefl _ (Nat.lt_of_lt_of_le h1 (Nat.le_of_lt_succ h2))) e
  have kp : ∀ b o, s4.heap.get? b = some o → s6.heap.get? b = some o := fun b o e => kp5 b o (M.keep b o e)
  have agn : ∃ o, s6.heap.get? a = some o ∧ ∀ v, o.data ≠ .cell v := by
    obtain ⟨o, n1, n2, e, c, d, _⟩ := M.isg
    exact ⟨o, kp5 _ _ e, fun v z => by rw [d] at z; cases z⟩
  have there : ∀ b ∈ a :: Sx, ∃ o, s6.heap.get? b = some o := fun b hb => by
    rcases List.mem_cons.mp hb with z | z
    · obtain ⟨o, e, _⟩ := agn
      exact ⟨o, by rw [z]; exact e⟩
    · obtain ⟨o, e, _⟩ := A6.own b z
      exact ⟨o, e⟩
  obtain ⟨mm, hns⟩ := M.ns
  have hns6 : s6.heap.Ns s4.heap.objs.size mm := by
    obtain ⟨ob, es, ep, ho, r⟩ := hns
    exact ⟨ob, es, ep, kp5 _ ob ho, r⟩
  have ho6 : s6.os = s4.os := A6.os.trans M.os
  have I0 := gen_start (code := code) (A := B.over (.compLoop ge 0 (.ref it) .none cenv) []) (g' := (s6.setGen g .running).gens) (d' := s6.drawn) (t' := s6.toks) M.inv ok G hN M.fps R.hd (by rw [← hce]; exact hfrm) hns6 kp (allBare_setGen A6.bare rfl)
  rw [← hce] at I0
  have I1 : Inv (mkY X s4 H2 cenv fp B (wipe σ (own.map (·.2))) ge it a g Sx C F).Xg [] (wipe σ (own.map (·.2))) H2 (s6.setGen g .running) := by
    obtain ⟨h6, g6, d6, t6, o6⟩ := s6
    have ho6 : o6 = s4.os := ho6
    subst ho6
    exact I0
  have I2 : Inv (mkY X s4 H2 cenv fp B (wipe σ (own.map (·.2))) ge it a g Sx C F).Xg ((mkY X s4 H2 cenv fp B (wipe σ (own.map (·.2))) ge it a g Sx C F).pn s6) (wipe σ (own.map (·.2))) H2 (s6.setGen g .running) := by
    refine I1.pins_of fun p hp => ?_
    have hp : p ∈ pinsAt (a :: Sx) s6.heap := hp
    obtain ⟨hb, e⟩ := of_pinsAt hp
    have h1 := O.new _ hb
    refine ⟨e, M.inv.hok.fresh (Nat.le_of_lt h1), fun z => ?_, fun z => ?_, ?_⟩
    · have z : p.1 = cenv.locals := z
      rw [z, show cenv.locals = _ from O.loc] at h1
      exact Nat.lt_irrefl _ h1
    · obtain ⟨_, ob, hob, _⟩ := I1.ok.funs.mem z
      exact absurd (Nat.lt_trans h1 (Heap.lt_size hob)) (Nat.lt_irrefl _)
    · rcases List.mem_cons.mp hb with z | z
      · obtain ⟨oa, ea, da⟩ := agn
        rw [z, ea] at e
        cases e
        exact da
      · obtain ⟨ob, eb, db⟩ := A6.own _ z
        rw [e] at eb
        cases eb
        exact db
  have st6 := M.turn.keep _ _ _ M.at0 fun b hb o e => kp b o e
  have stY : tn 0 (s6.setGen g .running).heap := st6
  exact gen_first (Y := mkY X s4 H2 cenv fp B (wipe σ (own.map (·.2))) ge it a g Sx C F) hge M.turn (s6.setGen g .running) stY (turns O R s6 (s6.setGen g .running) there agn I2 stY fun b hb => (M.fps b hb).1.1)
theorem gen_rdy {elt tg iter : Expr} {ifs : List Expr} {scope : Scope} {own : List (Str × Nat)} {gpos : Pos} {J : It} {cenv : Env} {fp : List Addr} {it a g : Addr} {tn : Nat → Heap → Prop} {B : Around} {k : Nat} {gt : TG} {tt : TT} {te : TE} {W : Nat → Nat → List V → Hp → Prop} {C : Eats} {F : List V → Hp → Prop} {Sx : List Addr}
    (hr : Room (k + 1) X.A) (hB : NearA B X.A) (G : GScp scope) (ok : BlkOk X.N X.env.scope scope own) (hN : X.N.Nodup) (M : Made X pins σ (.GeneratorExp elt [⟨tg, iter, ifs, 0⟩] scope gpos) tg scope J H2 s4 cenv fp it tn a g s5)
    (hg : ∀ A, Room k A → PG (gcx X s4 H2 cenv fp A) tg gt) (ht : ∀ A, Room k A → PTs (gcx X s4 H2 cenv fp A) ifs tt) (he : ∀ A, Room k A → PE (gcx X s4 H2 cenv fp A) elt te)
    (hS : ∀ b ∈ Sx, a < b) (hC : EatsMono C) (st : GStep W J gt tt te (own.map (·.2)) (wipe σ (own.map (·.2))) C F) (m : Nat) (w0 : W 0 m [] H2) :
    (mkY X s4 H2 cenv fp B (wipe σ (own.map (·.2))) (.GeneratorExp elt [⟨tg, iter, ifs, 0⟩] scope gpos) it a g Sx C F).Ok ∧
    (mkY X s4 H2 cenv fp B (wipe σ (own.map (·.2))) (.GeneratorExp elt [⟨tg, iter, ifs, 0⟩] scope gpos) it a g Sx C F).Rdy m [] H2 (.fresh (.compStart (.GeneratorExp elt [⟨tg, iter, ifs, 0⟩] scope gpos) 0 (.ref it) .none cenv)) s5 :=
  gen_rdy0 rfl hr hB G ok hN M hS m fun O R s0 s th ag I stt fr =>
    gen_turns (Y := mkY X s4 H2 cenv fp B (wipe σ (own.map (·.2))) (.GeneratorExp elt [⟨tg, iter, ifs, 0⟩] scope gpos) it a g Sx C F) rfl O M.turn (hg _ R) (ht _ R) (he _ R) hC st m m 0 [] H2 s0 s (Nat.le_refl _) th ag I stt fr w0
theorem gen_rdy2 {elt tg iter tg1 iter1 : Expr} {ifs ifs1 : List Expr} {scope : Scope} {own : List (Str × Nat)} {vs1 : List Nat} {gpos : Pos} {J : It} {cenv : Env} {fp : List Addr} {it a g : Addr} {tn : Nat → Heap → Prop} {B : Around} {k : Nat} {gt g1 : TG} {tt tt1 : TT} {te : TE} {wi1 : TI} {W : Nat → Nat → List V → Hp → Prop} {C : Eats} {F : List V → Hp → Prop} {Sx : List Addr}
    (hr : Room (k + 1) X.A) (hB : NearA B X.A) (G : GScp scope) (ok : BlkOk X.N X.env.scope scope own) (hN : X.N.Nodup) (hvs : ∀ v ∈ vs1, v ∈ own.map (·.2)) (M : Made X pins σ (.GeneratorExp elt [⟨tg, iter, ifs, 0⟩, ⟨tg1, iter1, ifs1, 0⟩] scope gpos) tg scope J H2 s4 cenv fp it tn a g s5)
    (hg : ∀ A, Room k A → PG (gcx X s4 H2 cenv fp A) tg gt) (ht : ∀ A, Room k A → PTs (gcx X s4 H2 cenv fp A) ifs tt) (hi1 : ∀ A, Room k A → PI (gcx X s4 H2 cenv fp A) tg1 iter1 wi1) (hs1 : ∀ x, foldedSetIterable iter1 cenv x = pure x) (hg1 : ∀ A, Room k A → PG (gcx X s4 H2 cenv fp A) tg1 g1) (ht1 : ∀ A, Room k A → PTs (gcx X s4 H2 cenv fp A) ifs1 tt1) (he : ∀ A, Room k A → PE (gcx X s4 H2 cenv fp A) elt te)
    (hS : ∀ b ∈ Sx, a < b) (hC : EatsMono C) (st : GStep2 W J gt tt wi1 g1 tt1 te (own.map (·.2)) vs1 (wipe σ (own.map (·.2))) C F) (m : Nat) (w0 : W 0 m [] H2) :
    (mkY X s4 H2 cenv fp B (wipe σ (own.map (·.2))) (.GeneratorExp elt [⟨tg, iter, ifs, 0⟩, ⟨tg1, iter1, ifs1, 0⟩] scope gpos) it a g Sx C F).Ok ∧
    (mkY X s4 H2 cenv fp B (wipe σ (own.map (·.2))) (.GeneratorExp elt [⟨tg, iter, ifs, 0⟩, ⟨tg1, iter1, ifs1, 0⟩] scope gpos) it a g Sx C F).Rdy m [] H2 (.fresh (.compStart (.GeneratorExp elt [⟨tg, iter, ifs, 0⟩, ⟨tg1, iter1, ifs1, 0⟩] scope gpos) 0 (.ref it) .none cenv)) s5 :=
  gen_rdy0 rfl hr hB G ok hN M hS m fun O R s0 s th ag I stt fr =>
    gen_turns2 (Y := mkY X s4 H2 cenv fp B (wipe σ (own.map (·.2))) (.GeneratorExp elt [⟨tg, iter, ifs, 0⟩, ⟨tg1, iter1, ifs1, 0⟩] scope gpos) it a g Sx C F) rfl O M.turn hvs (hg _ R) (ht _ R) (hi1 _ R) hs1 (hg1 _ R) (ht1 _ R) (he _ R) hC st m m 0 [] H2 s0 s (Nat.le_refl _) th ag I stt fr w0
end
/-- out of the generator's frame -/
theorem GEx.out {Y : GEx} {pins ps : List (Addr × Obj)} {σ σ' : L2.St} {H' : Hp} {s1 s2 : Shared} (I4 : Inv Y.X pins σ Y.H1 Y.s4) (hf : ∀ b ∈ Y.fp, FpOk Y.X pins Y.H1 b) (I : Inv Y.Xg ps σ' H' s1) (A : Aft [] s1 s2) : Inv Y.X pins σ H' s2 := by
  have k : ∀ b o, s1.heap.get? b = some o → s2.heap.get? b = some o := fun b o e => A.keep b o (by simp) e
  exact I4.call' (ch := Y.fp) (A.os.trans I.os) (I.base.trans (Un.kept k)) (I.hok.kept k) A.bare fun b hb => ⟨(hf b hb).2.2.2.1, (hf b hb).2.1, (hf b hb).2.2.2.2.1, (hf b hb).2.2.2.2.2⟩
/-- next(g) -/
theorem GEx.next {Y : GEx} {A : Around} {Q : Option Value → Shared → Prop} {E : Value → Shared → Prop} {n : Nat} {ys : List V} {H : Hp} {gs : GenState} {sp s : Shared} (O : Y.Ok) (hB : Y.B = A.in1) (hh : A.handled = none) (hroom : A.depth < recursionLimit) (nl : s.heap.NoLimit)
    (rd : Y.Rdy n ys H gs sp) (af : Aft Y.Sx sp s) (hg : s.heap.IsGen Y.a Y.g) (hgs : s.gens[Y.g]? = some gs) (hlt : Y.g < s.gens.size)
    (qN : ∀ σ' H' s1 s2, Inv Y.Xg (Y.pn s) σ' H' s1 → Y.F ys H' → Aft [] s1 s2 → Q none s2)
    (qS : ∀ v y σ' H' s1 gs', Inv Y.Xg (Y.pn s) σ' H' s1 → RelV y v → Y.C ys y H' (Y.Rp n (ys ++ [y]) H' gs' s1) → gs'.bare = true → s.gens.size ≤ s1.gens.size → Q (some v) (s1.setGen Y.g gs')) : wpAny Y.M A (pyNext (.ref Y.a)) Q E s := by
  have go := (GEx.rdy_iff Y n ys H gs sp).mp rd s af
  rw [hB] at go
  refine next1 hh nl hroom hg hgs go fun e s1 z hsz => ?_
  rcases z with ⟨rfl, σ', H', I, f⟩ | ⟨v, l, k, c, p, fs, y, σ', H', rfl, q, I, r, cc⟩
  · exact .inl ⟨rfl, fun h' kk => qN σ' H' s1 _ I f ⟨rfl, allBare_setGen I.bare rfl, fun b o _ e => kk b o e, fun b z => by cases z⟩⟩
  · exact .inr ⟨v, l, k, c, p, fs, rfl, q, qS v y σ' H' s1 _ I r cc (bare_of q) hsz⟩

/-! ### all, any -/
/-- stop at the first value that is e -/
def eTill (e : Bool) (Qd : Bool → Hp → Prop) : Eats := fun _ y H go => ∃ b, y = .bl b ∧ if b = e then Qd e H else go
theorem eTill_mono {e : Bool} {Qd : Bool → Hp → Prop} : EatsMono (eTill e Qd) := fun ys y H p q h ⟨b, hb, z⟩ => ⟨b, hb, by
  by_cases hbe : b = e
  · rw [if_pos hbe] at z ⊢; exact z
  · rw [if_neg hbe] at z ⊢; exact h z⟩
section
variable {Y : GEx} {Qd : Bool → Hp → Prop} {R : Result → Shared → Prop} {A : Around}
theorem all_loop1 (O : Y.Ok) (hB : Y.B = A.in1.in1) (hS : Y.Sx = []) (hC : Y.C = eTill false Qd) (hF : Y.F = fun _ H => Qd true H) (hh : A.handled = none) (hroom : A.depth < recursionLimit)
    (hR : ∀ k ps σ' H' s1 s2, Inv Y.Xg ps σ' H' s1 → Aft [] s1 s2 → Qd k H' → R (.ok (.ret (.bool k))) s2) : ∀ (n : Nat) (ys : List V) (H : Hp) (gs : GenState) (sp s : Shared), Y.Rdy n ys H gs sp → Aft Y.Sx sp s → s.heap.IsGen Y.a Y.g → s.gens[Y.g]? = some gs → s.heap.NoLimit →
      codeAny Y.M A (.builtin "all.loop" ⟨[.ref Y.a], []⟩) R s := by
  intro n
  induction n with
  | zero =>
    intro ys H gs sp s rd af hg hgs nl
    refine codeAny_builtin PySem.F.entry_all_loop ?_
    rw [Around.under_plainId PySem.F.plain_all_loop _]
    show wpAny _ A.in1 (pyNext (.ref Y.a) >>= _) _ _ s
    refine wpAny_bind (GEx.next O hB hh hroom nl rd af hg hgs (Array.getElem?_eq_some_iff.mp hgs).1 (fun σ' H' s1 s2 I f a => ?_) fun v y σ' H' s1 gs' I r c hb hsz => ?_)
    · rw [hF] at f
      exact wpAny_bind (wpAny_rule (wpAny_pure (hR true _ σ' H' s1 s2 I a f)))
    · rw [hC] at c
      obtain ⟨b, rfl, c⟩ := c
      obtain rfl : v = .bool b := r
      refine wpAny_bind (wpAny_holding (wpAny_truthy_bool ?_))
      refine wpAny_bind (wpAny_letGo ?_)
      cases b with
      | true => exact (show False from c).elim
      | false =>
        simp only [Bool.false_eq_true, if_false]
        exact wpAny_bind (wpAny_rule (wpAny_pure (hR false _ σ' H' s1 _ I ⟨rfl, allBare_setGen I.bare hb, fun _ _ _ e => e, fun b z => by cases z⟩ c)))
  | succ n ih =>
    intro ys H gs sp s rd af hg hgs nl
    refine codeAny_builtin PySem.F.entry_all_loop ?_
    rw [Around.under_plainId PySem.F.plain_all_loop _]
    show wpAny _ A.in1 (pyNext (.ref Y.a) >>= _) _ _ s
    refine wpAny_bind (GEx.next O hB hh hroom nl rd af hg hgs (Array.getElem?_eq_some_iff.mp hgs).1 (fun σ' H' s1 s2 I f a => ?_) fun v y σ' H' s1 gs' I r c hb hsz => ?_)
    · rw [hF] at f
      exact wpAny_bind (wpAny_rule (wpAny_pure (hR true _ σ' H' s1 s2 I a f)))
    · rw [hC] at c
      obtain ⟨b, rfl, c⟩ := c
      obtain rfl : v = .bool b := r
      refine wpAny_bind (wpAny_holding (wpAny_truthy_bool ?_))
      refine wpAny_bind (wpAny_letGo ?_)
      cases b with
      | true =>
        simp only [if_true]
        obtain ⟨o, n1, n2, e, r⟩ := hg
        refine wpAny_pure ⟨plainId_quiet PySem.F.plain_all_loop _, ih _ H' gs' s1 (s1.setGen Y.g gs') c (by rw [hS]; exact ⟨rfl, allBare_setGen I.bare hb, fun _ _ _ e => e, fun b z => by cases z⟩) ⟨o, n1, n2, (O.pinned I List.mem_cons_self e).1, r⟩ (setGen_at (Nat.lt_of_lt_of_le (Array.getElem?_eq_some_iff.mp hgs).1 hsz)) I.nolimit⟩
      | false =>
        simp only [Bool.false_eq_true, if_false]
        exact wpAny_bind (wpAny_rule (wpAny_pure (hR false _ σ' H' s1 _ I ⟨rfl, allBare_setGen I.bare hb, fun _ _ _ e => e, fun b z => by cases z⟩ c)))
theorem any_loop1 (O : Y.Ok) (hB : Y.B = A.in1.in1) (hS : Y.Sx = []) (hC : Y.C = eTill true Qd) (hF : Y.F = fun _ H => Qd false H) (hh : A.handled = none) (hroom : A.depth < recursionLimit)
    (hR : ∀ k ps σ' H' s1 s2, Inv Y.Xg ps σ' H' s1 → Aft [] s1 s2 → Qd k H' → R (.ok (.ret (.bool k))) s2) : ∀ (n : Nat) (ys : List V) (H : Hp) (gs : GenState) (sp s : Shared), Y.Rdy n ys H gs sp → Aft Y.Sx sp s → s.heap.IsGen Y.a Y.g → s.gens[Y.g]? = some gs → s.heap.NoLimit →
      codeAny Y.M A (.builtin "any.loop" ⟨[.ref Y.a], []⟩) R s := by
  intro n
  induction n with
  | zero =>
    intro ys H gs sp s rd af hg hgs nl
    refine codeAny_builtin PySem.F.entry_any_loop ?_
    rw [Around.under_plainId PySem.F.plain_any_loop _]
    show wpAny _ A.in1 (pyNext (.ref Y.a) >>= _) _ _ s
    refine wpAny_bind (GEx.next O hB hh hroom nl rd af hg hgs (Array.getElem?_eq_some_iff.mp hgs).1 (fun σ' H' s1 s2 I f a => ?_) fun v y σ' H' s1 gs' I r c hb hsz => ?_)
    · rw [hF] at f
      exact wpAny_bind (wpAny_rule (wpAny_pure (hR false _ σ' H' s1 s2 I a f)))
    · rw [hC] at c
      obtain ⟨b, rfl, c⟩ := c
      obtain rfl : v = .bool b := r
      refine wpAny_bind (wpAny_holding (wpAny_truthy_bool ?_))
      refine wpAny_bind (wpAny_letGo ?_)
      cases b with
      | false => exact (show False from c).elim
      | true =>
        simp only [if_true]
        exact wpAny_bind (wpAny_rule (wpAny_pure (hR true _ σ' H' s1 _ I ⟨rfl, allBare_setGen I.bare hb, fun _ _ _ e => e, fun b z => by cases z⟩ c)))
  | succ n ih =>
    intro ys H gs sp s rd af hg hgs nl
    refine codeAny_builtin PySem.F.entry_any_loop ?_
    rw [Around.under_plainId PySem.F.plain_any_loop _]
    show wpAny _ A.in1 (pyNext (.ref Y.a) >>= _) _ _ s
    refine wpAny_bind (GEx.next O hB hh hroom nl rd af hg hgs (Array.getElem?_eq_some_iff.mp hgs).1 (fun σ' H' s1 s2 I f a => ?_) fun v y σ' H' s1 gs' I r c hb hsz => ?_)
    · rw [hF] at f
      exact wpAny_bind (wpAny_rule (wpAny_pure (hR false _ σ' H' s1 s2 I a f)))
    · rw [hC] at c
      obtain ⟨b, rfl, c⟩ := c
      obtain rfl : v = .bool b := r
      refine wpAny_bind (wpAny_holding (wpAny_truthy_bool ?_))
      refine wpAny_bind (wpAny_letGo ?_)
      cases b with
      | false =>
        simp only [Bool.false_eq_true, if_false]
        obtain ⟨o, n1, n2, e, r⟩ := hg
        refine wpAny_pure ⟨plainId_quiet PySem.F.plain_any_loop _, ih _ H' gs' s1 (s1.setGen Y.g gs') c (by rw [hS]; exact ⟨rfl, allBare_setGen I.bare hb, fun _ _ _ e => e, fun b z => by cases z⟩) ⟨o, n1, n2, (O.pinned I List.mem_cons_self e).1, r⟩ (setGen_at (Nat.lt_of_lt_of_le (Array.getElem?_eq_some_iff.mp hgs).1 hsz)) I.nolimit⟩
      | true =>
        simp only [if_true]
        exact wpAny_bind (wpAny_rule (wpAny_pure (hR true _ σ' H' s1 _ I ⟨rfl, allBare_setGen I.bare hb, fun _ _ _ e => e, fun b z => by cases z⟩ c)))
end
section
variable {X : Cx}
/-- all (e = false), any (e = true) of elt for target in iter if ..; the running def's table at P may have grown -/
def tTill (e : Bool) (P : Addr) (wi : TI) (g : TG) (tt : TT) (te : TE) (vs : List Nat) : TE := fun σ H Q => wi σ H fun J H1 => TabG H1 P ∧ ∀ H2, Tabbed P H1 H2 →
  ∃ W : Nat → Nat → Hp → Prop, (∃ m, W 0 m H2) ∧ ∀ i m H, W i m H → (J.stop i H ∧ Q (.bl (!e)) H) ∨ (J.go i H ∧ ∃ Nx : Hp → Prop, (∀ H', Nx H' → ∃ m', m' < m ∧ W (i + 1) m' H') ∧
    ∀ x H', J.yld i H x H' → g x (wipe σ vs) H' fun σ2 H2 => wipe σ2 vs = wipe σ vs ∧ tt σ2 H2 fun b H3 => if b = true then te σ2 H3 fun y H4 => ∃ b, y = .bl b ∧ if b = e then Q (.bl e) H4 else Nx H4 else Nx H3)
abbrev RetQ (Q : Value → Shared → Prop) (E : Value → Shared → Prop) : Result → Shared → Prop := fun r s' => match r with | .ok (.ret v) => Q v s' | .ok _ => False | .error e => E e s'
theorem call_allP {P : Program} {w : World} {A : Around} {Q : Value → Shared → Prop} {E : Value → Shared → Prop} {s : Shared} {a g : Addr} (hg : s.heap.IsGen a g)
    (h : codeAny (model P w) A (.builtin "all.loop" ⟨[.ref a], []⟩) (RetQ Q E) s) : wpAny (model P w) A (call (.builtin "all") [.ref a]) Q E s := by
  refine call_function_tree PySem.F.kind_all PySem.F.plain_all PySem.F.entry_all (PySem.F.args_all1 _) ?_
  unfold Builtin.«all»
  refine wpAny_bind (wpAny_pure ?_)
  exact wpAny_bind (wpAny_pyIter_gen hg (wpAny_pure ⟨plainId_quiet PySem.F.plain_all_loop _, h⟩))
theorem call_anyP {P : Program} {w : World} {A : Around} {Q : Value → Shared → Prop} {E : Value → Shared → Prop} {s : Shared} {a g : Addr} (hg : s.heap.IsGen a g)
    (h : codeAny (model P w) A (.builtin "any.loop" ⟨[.ref a], []⟩) (RetQ Q E) s) : wpAny (model P w) A (call (.builtin "any") [.ref a]) Q E s := by
  refine call_function_tree PySem.F.kind_any PySem.F.plain_any PySem.F.entry_any (PySem.F.args_any1 _) ?_
  unfold Builtin.«any»
  refine wpAny_bind (wpAny_pure ?_)
  exact wpAny_bind (wpAny_pyIter_gen hg (wpAny_pure ⟨plainId_quiet PySem.F.plain_any_loop _, h⟩))
/-- the places where the generator's frame may stand -/
abbrev GPG (X : Cx) (k : Nat) (scope : Scope) (tg : Expr) (g : TG) : Prop := ∀ (s : Shared) (H : Hp) (C : Addr) (cl : List (Str × Addr)) (code : Value) (fp : List Addr) (A : Around), Room k A → PG (gcx X s H (genEnv scope cl C code builtinsNs X.env) fp A) tg g
abbrev GPT (X : Cx) (k : Nat) (scope : Scope) (ifs : List Expr) (t : TT) : Prop := ∀ (s : Shared) (H : Hp) (C : Addr) (cl : List (Str × Addr)) (code : Value) (fp : List Addr) (A : Around), Room k A → PTs (gcx X s H (genEnv scope cl C code builtinsNs X.env) fp A) ifs t
abbrev GPE (X : Cx) (k : Nat) (scope : Scope) (e : Expr) (t : TE) : Prop := ∀ (s : Shared) (H : Hp) (C : Addr) (cl : List (Str × Addr)) (code : Value) (fp : List Addr) (A : Around), Room k A → PE (gcx X s H (genEnv scope cl C code builtinsNs X.env) fp A) e t
theorem tTill_step {e : Bool} {J : It} {g : TG} {tt : TT} {te : TE} {vs : List Nat} {σ : L2.St} {Q : VK} {W : Nat → Nat → Hp → Prop}
    (h : ∀ i m H, W i m H → (J.stop i H ∧ Q (.bl (!e)) H) ∨ (J.go i H ∧ ∃ Nx : Hp → Prop, (∀ H', Nx H' → ∃ m', m' < m ∧ W (i + 1) m' H') ∧
      ∀ x H', J.yld i H x H' → g x (wipe σ vs) H' fun σ2 H2 => wipe σ2 vs = wipe σ vs ∧ tt σ2 H2 fun b H3 => if b = true then te σ2 H3 fun y H4 => ∃ b, y = .bl b ∧ if b = e then Q (.bl e) H4 else Nx H4 else Nx H3)) :
    GStep (fun i m _ H => W i m H) J g tt te vs (wipe σ vs) (eTill e fun b H => Q (.bl b) H) (fun _ H => Q (.bl (!e)) H) := fun i m ys H w => by
  rcases h i m H w with z | ⟨go, Nx, hN, st⟩
  · exact .inl z
  · exact .inr ⟨go, fun _ H => Nx H, fun _ H' nx => hN H' nx, st⟩
section
variable {c P : Addr} {elt tg iter : Expr} {ifs : List Expr} {scope : Scope} {own : List (Str × Nat)} {p pos gpos : Pos} {wi : TI} {g : TG} {tt : TT} {te : TE} {k : Nat}
theorem pe_allG (hr : Room (k + 1) X.A) (hn : X.N.Nodup) (hgl : Gl X "all") (hm : X.mg "all" = none) (TB : LamX.TabB X.base X.mg c P) (hcode : X.env.code = .ref c) (G : GScp scope) (ok : BlkOk X.N X.env.scope scope own) (hi : PI X tg iter wi)
    (hg : GPG X k scope tg g) (ht : GPT X k scope ifs tt) (he : GPE X k scope elt te) (hb : bootBuiltins "all" = some (.builtin "all") := by first | rfl | decide +kernel) (hs : ∀ v, genFold iter X.env v = pure v := by intro _; rfl)
    (hst : starEach [.GeneratorExp elt [⟨tg, iter, ifs, 0⟩] scope gpos] X.env = (false, eval (.GeneratorExp elt [⟨tg, iter, ifs, 0⟩] scope gpos) X.env) :: starEach [] X.env := by rfl) :
    PE X (.Call (.Name "all" p) [.GeneratorExp elt [⟨tg, iter, ifs, 0⟩] scope gpos] [] pos) (tTill false P wi g tt te (own.map (·.2))) := by
  refine ⟨fun pins s σ H Q I h => ?_⟩
  refine wpAny_Call_Name_kw (ld_blt I hgl hm hb ?_)
  refine PyProof.Rows.callWith_builtin1 ?_ hst (by rfl)
  rw [hst]
  show wpAny _ _ (spliced ((false, eval (.GeneratorExp elt [⟨tg, iter, ifs, 0⟩] scope gpos) X.env) :: backTo pos (starEach [] X.env))) _ _ s
  refine Calls.spliced_cons (gen_made (R := fun J H1 => _) hr TB hcode G ok hi hs I h fun J H1 H2 s4 cenv fp it tn a gn s5 q tb M => ?_)
  refine Calls.spliced_nil (call_allP M.isg ?_)
  obtain ⟨W, ⟨m, w0⟩, st⟩ := q H2 tb
  obtain ⟨code, hce⟩ := M.env
  subst hce
  obtain ⟨O, rd⟩ := gen_rdy (B := X.A.in1.in1) (Sx := []) hr (nearA2 _) G ok hn M (fun A r => hg _ _ _ _ _ _ A r) (fun A r => ht _ _ _ _ _ _ A r) (fun A r => he _ _ _ _ _ _ A r) (fun b z => by cases z) eTill_mono (tTill_step st) m w0
  refine all_loop1 (Qd := fun b H => Q (.bl b) H) (Y := mkY X s4 H2 _ fp X.A.in1.in1 (wipe σ (own.map (·.2))) (.GeneratorExp elt [⟨tg, iter, ifs, 0⟩] scope gpos) it a gn [] (eTill false fun b H => Q (.bl b) H) (fun _ H => Q (.bl (!false)) H)) O rfl rfl rfl rfl hr.hd hr.depth (fun k ps σ' H' s1 s2 I' af q => ?_) m [] H2 _ s5 s5 rd (Aft.refl ?_) M.isg ?_ ?_
  · exact ⟨.bl k, H', GEx.out (Y := mkY X s4 H2 _ fp X.A.in1.in1 (wipe σ (own.map (·.2))) (.GeneratorExp elt [⟨tg, iter, ifs, 0⟩] scope gpos) it a gn [] (eTill false fun b H => Q (.bl b) H) (fun _ H => Q (.bl (!false)) H)) M.inv (fun b hb => (M.fps b hb).1) I' af, rfl, q⟩
  · rw [M.gens]
    exact M.inv.bare.push rfl
  · show s5.gens[gn]? = _
    rw [M.gens, M.num]
    simp
  · exact M.inv.nolimit.keeps M.keep
theorem pe_anyG (hr : Room (k + 1) X.A) (hn : X.N.Nodup) (hgl : Gl X "any") (hm : X.mg "any" = none) (TB : LamX.TabB X.base X.mg c P) (hcode : X.env.code = .ref c) (G : GScp scope) (ok : BlkOk X.N X.env.scope scope own) (hi : PI X tg iter wi)
    (hg : GPG X k scope tg g) (ht : GPT X k scope ifs tt) (he : GPE X k scope elt te) (hb : bootBuiltins "any" = some (.builtin "any") := by first | rfl | decide +kernel) (hs : ∀ v, genFold iter X.env v = pure v := by intro _; rfl)
    (hst : starEach [.GeneratorExp elt [⟨tg, iter, ifs, 0⟩] scope gpos] X.env = (false, eval (.GeneratorExp elt [⟨tg, iter, ifs, 0⟩] scope gpos) X.env) :: starEach [] X.env := by rfl) :
    PE X (.Call (.Name "any" p) [.GeneratorExp elt [⟨tg, iter, ifs, 0⟩] scope gpos] [] pos) (tTill true P wi g tt te (own.map (·.2))) := by
  refine ⟨fun pins s σ H Q I h => ?_⟩
  refine wpAny_Call_Name_kw (ld_blt I hgl hm hb ?_)
  refine PyProof.Rows.callWith_builtin1 ?_ hst (by rfl)
  rw [hst]
  show wpAny _ _ (spliced ((false, eval (.GeneratorExp elt [⟨tg, iter, ifs, 0⟩] scope gpos) X.env) :: backTo pos (starEach [] X.env))) _ _ s
  refine Calls.spliced_cons (gen_made (R := fun J H1 => _) hr TB hcode G ok hi hs I h fun J H1 H2 s4 cenv fp it tn a gn s5 q tb M => ?_)
  refine Calls.spliced_nil (call_anyP M.isg ?_)
  obtain ⟨W, ⟨m, w0⟩, st⟩ := q H2 tb
  obtain ⟨code, hce⟩ := M.env
  subst hce
  obtain ⟨O, rd⟩ := gen_rdy (B := X.A.in1.in1) (Sx := []) hr (nearA2 _) G ok hn M (fun A r => hg _ _ _ _ _ _ A r) (fun A r => ht _ _ _ _ _ _ A r) (fun A r => he _ _ _ _ _ _ A r) (fun b z => by cases z) eTill_mono (tTill_step st) m w0
  refine any_loop1 (Qd := fun b H => Q (.bl b) H) (Y := mkY X s4 H2 _ fp X.A.in1.in1 (wipe σ (own.map (·.2))) (.GeneratorExp elt [⟨tg, iter, ifs, 0⟩] scope gpos) it a gn [] (eTill true fun b H => Q (.bl b) H) (fun _ H => Q (.bl (!true)) H)) O rfl rfl rfl rfl hr.hd hr.depth (fun k ps σ' H' s1 s2 I' af q => ?_) m [] H2 _ s5 s5 rd (Aft.refl ?_) M.isg ?_ ?_
  · exact ⟨.bl k, H', GEx.out (Y := mkY X s4 H2 _ fp X.A.in1.in1 (wipe σ (own.map (·.2))) (.GeneratorExp elt [⟨tg, iter, ifs, 0⟩] scope gpos) it a gn [] (eTill true fun b H => Q (.bl b) H) (fun _ H => Q (.bl (!true)) H)) M.inv (fun b hb => (M.fps b hb).1) I' af, rfl, q⟩
  · rw [M.gens]
    exact M.inv.bare.push rfl
  · show s5.gens[gn]? = _
    rw [M.gens, M.num]
    simp
  · exact M.inv.nolimit.keeps M.keep
end
/-- .. of two clauses -/
def tTill2 (e : Bool) (P : Addr) (wi : TI) (g : TG) (tt : TT) (wi1 : TI) (g1 : TG) (tt1 : TT) (te : TE) (vs vs1 : List Nat) : TE := fun σ H Q => wi σ H fun J H1 => TabG H1 P ∧ ∀ H2, Tabbed P H1 H2 →
  ∃ W : Nat → Nat → Hp → Prop, (∃ m, W 0 m H2) ∧ ∀ i m H, W i m H → (J.stop i H ∧ Q (.bl (!e)) H) ∨ (J.go i H ∧ ∀ x H', J.yld i H x H' → g x (wipe σ vs) H' fun σ2 H2 => wipe σ2 vs = wipe σ vs ∧ tt σ2 H2 fun b H3 => if b = true then wi1 σ2 H3 fun J1 H4 =>
      ∃ W1 : Nat → Nat → Hp → Prop, (∃ m1, m1 < m ∧ W1 0 m1 H4) ∧ ∀ i1 m1 H, W1 i1 m1 H → (J1.stop i1 H ∧ ∃ m', m' ≤ m1 ∧ m' < m ∧ W (i + 1) m' H) ∨ (J1.go i1 H ∧ ∃ N1 : Hp → Prop, (∀ H', N1 H' → ∃ m', m' < m1 ∧ W1 (i1 + 1) m' H') ∧
        ∀ x1 H', J1.yld i1 H x1 H' → g1 x1 (wipe σ2 vs1) H' fun σ3 H5 => wipe σ3 vs1 = wipe σ2 vs1 ∧ tt1 σ3 H5 fun b1 H6 => if b1 = true then te σ3 H6 fun y H7 => ∃ b, y = .bl b ∧ if b = e then Q (.bl e) H7 else N1 H7 else N1 H6)
    else ∃ m', m' < m ∧ W (i + 1) m' H3)
theorem tTill2_step {e : Bool} {J : It} {wi1 : TI} {g g1 : TG} {tt tt1 : TT} {te : TE} {vs vs1 : List Nat} {σ : L2.St} {Q : VK} {W : Nat → Nat → Hp → Prop}
    (h : ∀ i m H, W i m H → (J.stop i H ∧ Q (.bl (!e)) H) ∨ (J.go i H ∧ ∀ x H', J.yld i H x H' → g x (wipe σ vs) H' fun σ2 H2 => wipe σ2 vs = wipe σ vs ∧ tt σ2 H2 fun b H3 => if b = true then wi1 σ2 H3 fun J1 H4 =>
      ∃ W1 : Nat → Nat → Hp → Prop, (∃ m1, m1 < m ∧ W1 0 m1 H4) ∧ ∀ i1 m1 H, W1 i1 m1 H → (J1.stop i1 H ∧ ∃ m', m' ≤ m1 ∧ m' < m ∧ W (i + 1) m' H) ∨ (J1.go i1 H ∧ ∃ N1 : Hp → Prop, (∀ H', N1 H' → ∃ m', m' < m1 ∧ W1 (i1 + 1) m' H') ∧
        ∀ x1 H', J1.yld i1 H x1 H' → g1 x1 (wipe σ2 vs1) H' fun σ3 H5 => wipe σ3 vs1 = wipe σ2 vs1 ∧ tt1 σ3 H5 fun b1 H6 => if b1 = true then te σ3 H6 fun y H7 => ∃ b, y = .bl b ∧ if b = e then Q (.bl e) H7 else N1 H7 else N1 H6)
    else ∃ m', m' < m ∧ W (i + 1) m' H3)) (hmono : ∀ σ2 H3 (R R' : It → Hp → Prop), (∀ J H, R J H → R' J H) → wi1 σ2 H3 R → wi1 σ2 H3 R')
    (gm : ∀ v σ H (R R' : L2.St → Hp → Prop), (∀ σ H, R σ H → R' σ H) → g v σ H R → g v σ H R') (tm : ∀ σ H (R R' : Bool → Hp → Prop), (∀ b H, R b H → R' b H) → tt σ H R → tt σ H R') :
    GStep2 (fun i m _ H => W i m H) J g tt wi1 g1 tt1 te vs vs1 (wipe σ vs) (eTill e fun b H => Q (.bl b) H) (fun _ H => Q (.bl (!e)) H) := fun i m ys H w => by
  rcases h i m H w with z | ⟨go, st⟩
  · exact .inl z
  · refine .inr ⟨go, fun x H' y => gm _ _ _ _ _ (fun σ2 H2 q => ⟨q.1, tm _ _ _ _ (fun b H3 q2 => ?_) q.2⟩) (st x H' y)⟩
    cases b with
    | false => exact q2
    | true =>
      refine hmono _ _ _ _ (fun J1 H4 q3 => ?_) q2
      obtain ⟨W1, ⟨m1, h1, w1⟩, st1⟩ := q3
      refine ⟨fun i m _ H => W1 i m H, ⟨m1, h1, w1⟩, fun i1 m2 ys2 H5 w2 => ?_⟩
      rcases st1 i1 m2 H5 w2 with z | ⟨go1, N1, hN, s1⟩
      · exact .inl z
      · exact .inr ⟨go1, fun _ H => N1 H, fun _ H' n => hN H' n, s1⟩
section
variable {c P : Addr} {elt tg iter tg1 iter1 : Expr} {ifs ifs1 : List Expr} {scope : Scope} {own : List (Str × Nat)} {vs1 : List Nat} {p pos gpos : Pos} {wi wi1 : TI} {g g1 : TG} {tt tt1 : TT} {te : TE} {k : Nat}
/-- the places where the second clause's iterator is made -/
abbrev GPI (X : Cx) (k : Nat) (scope : Scope) (tg e : Expr) (t : TI) : Prop := ∀ (s : Shared) (H : Hp) (C : Addr) (cl : List (Str × Addr)) (code : Value) (fp : List Addr) (A : Around), Room k A → PI (gcx X s H (genEnv scope cl C code builtinsNs X.env) fp A) tg e t
theorem pe_anyG2 (hr : Room (k + 1) X.A) (hn : X.N.Nodup) (hgl : Gl X "any") (hm : X.mg "any" = none) (TB : LamX.TabB X.base X.mg c P) (hcode : X.env.code = .ref c) (G : GScp scope) (ok : BlkOk X.N X.env.scope scope own) (hvs : ∀ v ∈ vs1, v ∈ own.map (·.2)) (hi : PI X tg iter wi)
    (hg : GPG X k scope tg g) (ht : GPT X k scope ifs tt) (hi1 : GPI X k scope tg1 iter1 wi1) (hg1 : GPG X k scope tg1 g1) (ht1 : GPT X k scope ifs1 tt1) (he : GPE X k scope elt te)
    (hmono : ∀ σ2 H3 (R R' : It → Hp → Prop), (∀ J H, R J H → R' J H) → wi1 σ2 H3 R → wi1 σ2 H3 R') (gm : ∀ v σ H (R R' : L2.St → Hp → Prop), (∀ σ H, R σ H → R' σ H) → g v σ H R → g v σ H R') (tm : ∀ σ H (R R' : Bool → Hp → Prop), (∀ b H, R b H → R' b H) → tt σ H R → tt σ H R')
    (hb : bootBuiltins "any" = some (.builtin "any") := by first | rfl | decide +kernel) (hs : ∀ v, genFold iter X.env v = pure v := by intro _; rfl) (hs1 : ∀ (C : Addr) (cl : List (Str × Addr)) (code : Value) x, foldedSetIterable iter1 (genEnv scope cl C code builtinsNs X.env) x = pure x := by intro _ _ _ _; rfl)
    (hst : starEach [.GeneratorExp elt [⟨tg, iter, ifs, 0⟩, ⟨tg1, iter1, ifs1, 0⟩] scope gpos] X.env = (false, eval (.GeneratorExp elt [⟨tg, iter, ifs, 0⟩, ⟨tg1, iter1, ifs1, 0⟩] scope gpos) X.env) :: starEach [] X.env := by rfl) :
    PE X (.Call (.Name "any" p) [.GeneratorExp elt [⟨tg, iter, ifs, 0⟩, ⟨tg1, iter1, ifs1, 0⟩] scope gpos] [] pos) (tTill2 true P wi g tt wi1 g1 tt1 te (own.map (·.2)) vs1) := by
  refine ⟨fun pins s σ H Q I h => ?_⟩
  refine wpAny_Call_Name_kw (ld_blt I hgl hm hb ?_)
  refine PyProof.Rows.callWith_builtin1 ?_ hst (by rfl)
  rw [hst]
  show wpAny _ _ (spliced ((false, eval (.GeneratorExp elt [⟨tg, iter, ifs, 0⟩, ⟨tg1, iter1, ifs1, 0⟩] scope gpos) X.env) :: backTo pos (starEach [] X.env))) _ _ s
  refine Calls.spliced_cons (gen_made (R := fun J H1 => _) hr TB hcode G ok hi hs I h fun J H1 H2 s4 cenv fp it tn a gn s5 q tb M => ?_)
  refine Calls.spliced_nil (call_anyP M.isg ?_)
  obtain ⟨W, ⟨m, w0⟩, st⟩ := q H2 tb
  obtain ⟨code, hce⟩ := M.env
  subst hce
  obtain ⟨O, rd⟩ := gen_rdy2 (B := X.A.in1.in1) (Sx := []) hr (nearA2 _) G ok hn hvs M (fun A r => hg _ _ _ _ _ _ A r) (fun A r => ht _ _ _ _ _ _ A r) (fun A r => hi1 _ _ _ _ _ _ A r) (hs1 _ _ _) (fun A r => hg1 _ _ _ _ _ _ A r) (fun A r => ht1 _ _ _ _ _ _ A r) (fun A r => he _ _ _ _ _ _ A r) (fun b z => by cases z) eTill_mono (tTill2_step st hmono gm tm) m w0
  refine any_loop1 (Qd := fun b H => Q (.bl b) H) (Y := mkY X s4 H2 _ fp X.A.in1.in1 (wipe σ (own.map (·.2))) (.GeneratorExp elt [⟨tg, iter, ifs, 0⟩, ⟨tg1, iter1, ifs1, 0⟩] scope gpos) it a gn [] (eTill true fun b H => Q (.bl b) H) (fun _ H => Q (.bl (!true)) H)) O rfl rfl rfl rfl hr.hd hr.depth (fun k ps σ' H' s1 s2 I' af q => ?_) m [] H2 _ s5 s5 rd (Aft.refl ?_) M.isg ?_ ?_
  · exact ⟨.bl k, H', GEx.out (Y := mkY X s4 H2 _ fp X.A.in1.in1 (wipe σ (own.map (·.2))) (.GeneratorExp elt [⟨tg, iter, ifs, 0⟩, ⟨tg1, iter1, ifs1, 0⟩] scope gpos) it a gn [] (eTill true fun b H => Q (.bl b) H) (fun _ H => Q (.bl (!true)) H)) M.inv (fun b hb => (M.fps b hb).1) I' af, rfl, q⟩
  · rw [M.gens]
    exact M.inv.bare.push rfl
  · show s5.gens[gn]? = _
    rw [M.gens, M.num]
    simp
  · exact M.inv.nolimit.keeps M.keep
end
end

/-! ### the forms one uses -/
def gscpB (sc : Scope) : Bool := !sc.isCoroutine && decide (sc.kind = .function) && (sc.names.all fun y => !decide (y.2 = .cell)) && decide (sc.names.lookup (".0" : Str) = some NameKind.local)
theorem gscp_by {sc : Scope} (h : gscpB sc = true) : GScp sc := by
  unfold gscpB at h
  simp only [Bool.and_eq_true, Bool.not_eq_true', decide_eq_true_eq, List.all_eq_true, decide_eq_false_iff_not] at h
  obtain ⟨⟨⟨h1, h2⟩, h3⟩, h4⟩ := h
  exact ⟨h1, h2, h3, h4⟩
section
variable {e : Bool} {K : PySem.W.Frag} {a : Addr} {xs : List V} {g : TG} {tt : TT} {te : TE} {vs : List Nat} {σ : L2.St} {H2 : Hp} {Q : VK}
/-- over a list that the element leaves as it is -/
theorem till_list (Pv : Nat → Hp → Prop) (h0 : Pv 0 H2) (hl : ∀ i H, i ≤ xs.length → Pv i H → SqL K H a xs)
    (hs : ∀ i x H, xs[i]? = some x → Pv i H → g x (wipe σ vs) H fun σ2 H2 => wipe σ2 vs = wipe σ vs ∧ tt σ2 H2 fun b H3 => if b = true then te σ2 H3 fun y H4 => ∃ b, y = .bl b ∧ if b = e then Q (.bl e) H4 else Pv (i + 1) H4 else Pv (i + 1) H3) (hd : ∀ H, Pv xs.length H → Q (.bl (!e)) H) :
    ∃ W : Nat → Nat → Hp → Prop, (∃ m, W 0 m H2) ∧ ∀ i m H, W i m H → ((Itl K a).stop i H ∧ Q (.bl (!e)) H) ∨ ((Itl K a).go i H ∧ ∃ Nx : Hp → Prop, (∀ H', Nx H' → ∃ m', m' < m ∧ W (i + 1) m' H') ∧
      ∀ x H', (Itl K a).yld i H x H' → g x (wipe σ vs) H' fun σ2 H2 => wipe σ2 vs = wipe σ vs ∧ tt σ2 H2 fun b H3 => if b = true then te σ2 H3 fun y H4 => ∃ b, y = .bl b ∧ if b = e then Q (.bl e) H4 else Nx H4 else Nx H3) := by
  refine ⟨fun i m H => m = xs.length - i ∧ i ≤ xs.length ∧ Pv i H, ⟨xs.length, by simp, Nat.zero_le _, h0⟩, fun i m H w => ?_⟩
  obtain ⟨hm, hi, p⟩ := w
  have q := hl i H hi p
  rcases Nat.lt_or_ge i xs.length with z | z
  · refine .inr ⟨⟨xs, xs[i], q, by simp [z]⟩, Pv (i + 1), fun H' p' => ⟨xs.length - (i + 1), by omega, rfl, z, p'⟩, fun x H' y => ?_⟩
    obtain ⟨rfl, y⟩ := y
    exact hs i x _ (y xs q) p
  · obtain rfl : i = xs.length := by omega
    exact .inl ⟨⟨xs, q, Nat.le_refl _⟩, hd H p⟩
/-- over a tuple -/
theorem till_tup (Pv : Nat → Hp → Prop) (h0 : Pv 0 H2) (hl : ∀ i H, i ≤ xs.length → Pv i H → SqT K H a xs)
    (hs : ∀ i x H, xs[i]? = some x → Pv i H → g x (wipe σ vs) H fun σ2 H2 => wipe σ2 vs = wipe σ vs ∧ tt σ2 H2 fun b H3 => if b = true then te σ2 H3 fun y H4 => ∃ b, y = .bl b ∧ if b = e then Q (.bl e) H4 else Pv (i + 1) H4 else Pv (i + 1) H3) (hd : ∀ H, Pv xs.length H → Q (.bl (!e)) H) :
    ∃ W : Nat → Nat → Hp → Prop, (∃ m, W 0 m H2) ∧ ∀ i m H, W i m H → ((Itt K a).stop i H ∧ Q (.bl (!e)) H) ∨ ((Itt K a).go i H ∧ ∃ Nx : Hp → Prop, (∀ H', Nx H' → ∃ m', m' < m ∧ W (i + 1) m' H') ∧
      ∀ x H', (Itt K a).yld i H x H' → g x (wipe σ vs) H' fun σ2 H2 => wipe σ2 vs = wipe σ vs ∧ tt σ2 H2 fun b H3 => if b = true then te σ2 H3 fun y H4 => ∃ b, y = .bl b ∧ if b = e then Q (.bl e) H4 else Nx H4 else Nx H3) := by
  refine ⟨fun i m H => m = xs.length - i ∧ i ≤ xs.length ∧ Pv i H, ⟨xs.length, by simp, Nat.zero_le _, h0⟩, fun i m H w => ?_⟩
  obtain ⟨hm, hi, p⟩ := w
  have q := hl i H hi p
  rcases Nat.lt_or_ge i xs.length with z | z
  · refine .inr ⟨⟨xs, xs[i], q, by simp [z]⟩, Pv (i + 1), fun H' p' => ⟨xs.length - (i + 1), by omega, rfl, z, p'⟩, fun x H' y => ?_⟩
    obtain ⟨rfl, y⟩ := y
    exact hs i x _ (y xs q) p
  · obtain rfl : i = xs.length := by omega
    exact .inl ⟨⟨xs, q, Nat.le_refl _⟩, hd H p⟩
/-- two clauses, both over lists: the outer one -/
def W2 (n ny : Nat) (Pv : Nat → Hp → Prop) (i m : Nat) (H : Hp) : Prop := i ≤ n ∧ m = (n - i) * (ny + 2) ∧ Pv i H
variable {wi1 : TI} {g1 : TG} {tt1 : TT} {vs1 : List Nat} {ny : Nat}
theorem till2_list (ny : Nat) (Pv : Nat → Hp → Prop) (h0 : Pv 0 H2) (hl : ∀ i H, i ≤ xs.length → Pv i H → SqL K H a xs)
    (hs : ∀ i x H, i < xs.length → xs[i]? = some x → Pv i H → g x (wipe σ vs) H fun σ2 H2 => wipe σ2 vs = wipe σ vs ∧ tt σ2 H2 fun b H3 => if b = true then wi1 σ2 H3 fun J1 H4 =>
      ∃ W1 : Nat → Nat → Hp → Prop, (∃ m1, m1 < (xs.length - i) * (ny + 2) ∧ W1 0 m1 H4) ∧ ∀ i1 m1 H, W1 i1 m1 H → (J1.stop i1 H ∧ ∃ m', m' ≤ m1 ∧ m' < (xs.length - i) * (ny + 2) ∧ W2 xs.length ny Pv (i + 1) m' H) ∨ (J1.go i1 H ∧ ∃ N1 : Hp → Prop, (∀ H', N1 H' → ∃ m', m' < m1 ∧ W1 (i1 + 1) m' H') ∧
        ∀ x1 H', J1.yld i1 H x1 H' → g1 x1 (wipe σ2 vs1) H' fun σ3 H5 => wipe σ3 vs1 = wipe σ2 vs1 ∧ tt1 σ3 H5 fun b1 H6 => if b1 = true then te σ3 H6 fun y H7 => ∃ b, y = .bl b ∧ if b = e then Q (.bl e) H7 else N1 H7 else N1 H6)
      else ∃ m', m' < (xs.length - i) * (ny + 2) ∧ W2 xs.length ny Pv (i + 1) m' H3) (hd : ∀ H, Pv xs.length H → Q (.bl (!e)) H) :
    ∃ W : Nat → Nat → Hp → Prop, (∃ m, W 0 m H2) ∧ ∀ i m H, W i m H → ((Itl K a).stop i H ∧ Q (.bl (!e)) H) ∨ ((Itl K a).go i H ∧ ∀ x H', (Itl K a).yld i H x H' → g x (wipe σ vs) H' fun σ2 H2 => wipe σ2 vs = wipe σ vs ∧ tt σ2 H2 fun b H3 => if b = true then wi1 σ2 H3 fun J1 H4 =>
      ∃ W1 : Nat → Nat → Hp → Prop, (∃ m1, m1 < m ∧ W1 0 m1 H4) ∧ ∀ i1 m1 H, W1 i1 m1 H → (J1.stop i1 H ∧ ∃ m', m' ≤ m1 ∧ m' < m ∧ W (i + 1) m' H) ∨ (J1.go i1 H ∧ ∃ N1 : Hp → Prop, (∀ H', N1 H' → ∃ m', m' < m1 ∧ W1 (i1 + 1) m' H') ∧
        ∀ x1 H', J1.yld i1 H x1 H' → g1 x1 (wipe σ2 vs1) H' fun σ3 H5 => wipe σ3 vs1 = wipe σ2 vs1 ∧ tt1 σ3 H5 fun b1 H6 => if b1 = true then te σ3 H6 fun y H7 => ∃ b, y = .bl b ∧ if b = e then Q (.bl e) H7 else N1 H7 else N1 H6)
    else ∃ m', m' < m ∧ W (i + 1) m' H3) := by
  refine ⟨W2 xs.length ny Pv, ⟨_, Nat.zero_le _, rfl, h0⟩, fun i m H w => ?_⟩
  obtain ⟨hi, hm, p⟩ := w
  subst hm
  have q := hl i H hi p
  rcases Nat.lt_or_ge i xs.length with z | z
  · refine .inr ⟨⟨xs, xs[i], q, by simp [z]⟩, fun x H' y => ?_⟩
    obtain ⟨rfl, y⟩ := y
    exact hs i x _ z (y xs q) p
  · obtain rfl : i = xs.length := by omega
    exact .inl ⟨⟨xs, q, Nat.le_refl _⟩, hd H p⟩
/-- .. the inner one -/
theorem till2_in {n i : Nat} {b : Addr} {ys : List V} {σ2 : L2.St} {H4 : Hp} {Pv : Nat → Hp → Prop} (hi : i < n) (Pw : Nat → Hp → Prop) (h0 : Pw 0 H4) (hl : ∀ j H, j ≤ ys.length → Pw j H → SqL K H b ys)
    (hs : ∀ j x H, ys[j]? = some x → Pw j H → g1 x (wipe σ2 vs1) H fun σ3 H5 => wipe σ3 vs1 = wipe σ2 vs1 ∧ tt1 σ3 H5 fun b1 H6 => if b1 = true then te σ3 H6 fun y H7 => ∃ b, y = .bl b ∧ if b = e then Q (.bl e) H7 else Pw (j + 1) H7 else Pw (j + 1) H6) (hd : ∀ H, Pw ys.length H → Pv (i + 1) H) :
    ∃ W1 : Nat → Nat → Hp → Prop, (∃ m1, m1 < (n - i) * (ys.length + 2) ∧ W1 0 m1 H4) ∧ ∀ i1 m1 H, W1 i1 m1 H → ((Itl K b).stop i1 H ∧ ∃ m', m' ≤ m1 ∧ m' < (n - i) * (ys.length + 2) ∧ W2 n ys.length Pv (i + 1) m' H) ∨ ((Itl K b).go i1 H ∧ ∃ N1 : Hp → Prop, (∀ H', N1 H' → ∃ m', m' < m1 ∧ W1 (i1 + 1) m' H') ∧
        ∀ x1 H', (Itl K b).yld i1 H x1 H' → g1 x1 (wipe σ2 vs1) H' fun σ3 H5 => wipe σ3 vs1 = wipe σ2 vs1 ∧ tt1 σ3 H5 fun b1 H6 => if b1 = true then te σ3 H6 fun y H7 => ∃ b, y = .bl b ∧ if b = e then Q (.bl e) H7 else N1 H7 else N1 H6) := by
  have e1 : (n - i) * (ys.length + 2) = (n - (i + 1)) * (ys.length + 2) + (ys.length + 2) := by
    rw [show n - i = (n - (i + 1)) + 1 by omega, Nat.add_mul, Nat.one_mul]
  refine ⟨fun j m1 H => j ≤ ys.length ∧ m1 = (n - (i + 1)) * (ys.length + 2) + (ys.length - j) + 1 ∧ Pw j H, ⟨_, ?_, Nat.zero_le _, rfl, h0⟩, fun j m1 H w => ?_⟩
  · rw [e1]; omega
  · obtain ⟨hj, hm, p⟩ := w
    have q := hl j H hj p
    rcases Nat.lt_or_ge j ys.length with z | z
    · refine .inr ⟨⟨ys, ys[j], q, by simp [z]⟩, Pw (j + 1), fun H' p' => ⟨_, ?_, z, rfl, p'⟩, fun x H' y => ?_⟩
      · rw [hm]; omega
      · obtain ⟨rfl, y⟩ := y
        exact hs j x _ (y ys q) p
    · obtain rfl : j = ys.length := by omega
      exact .inl ⟨⟨ys, q, Nat.le_refl _⟩, (n - (i + 1)) * (ys.length + 2), by omega, by rw [e1]; omega, hi, rfl, hd H p⟩
end
theorem tYes_mono : ∀ (σ : L2.St) (H : Hp) (R R' : Bool → Hp → Prop), (∀ b H, R b H → R' b H) → tYes σ H R → tYes σ H R' := fun _ _ _ _ h q => h _ _ q
theorem gName_mono {i : Nat} : ∀ (v : V) (σ : L2.St) (H : Hp) (R R' : L2.St → Hp → Prop), (∀ σ H, R σ H → R' σ H) → gName i v σ H R → gName i v σ H R' := fun _ _ _ _ _ h q => h _ _ q
theorem iListV_mono {K : PySem.W.Frag} {i : Nat} : ∀ (σ : L2.St) (H : Hp) (R R' : It → Hp → Prop), (∀ J H, R J H → R' J H) → iList K (tVar i) σ H R → iList K (tVar i) σ H R' := fun _ _ _ _ h ⟨v, e, a, ea, s, q⟩ => ⟨v, e, a, ea, s, h _ _ q⟩
theorem yes_if {σ : L2.St} {H : Hp} {A B : Hp → Prop} (h : A H) : tYes σ H (fun b H3 => if b = true then A H3 else B H3) := by
  show (if true = true then A H else B H)
  exact (if_pos rfl).mpr h
end Sk

set_option Elab.async false
set_option linter.all false
set_option maxRecDepth 100000
set_option maxHeartbeats 4000000
namespace Sk
open PySem PySem.Spec PyProof.Rows L2 GenW GxR
/-! tables of code objects, and the end of a law with several of them -/
def Tabs (T : List Addr) (H : Hp) : Prop := ∀ P ∈ T, TabG H P
/-- all that stood stands, but the tables may have grown -/
structure SameT (T : List Addr) (H H' : Hp) : Prop where
  keep : ∀ b o, H b = some o → b ∉ T → H' b = some o
  tabs : Tabs T H → Tabs T H'
theorem SameT.refl (T : List Addr) (H : Hp) : SameT T H H := ⟨fun _ _ e _ => e, id⟩
theorem SameT.trans {T : List Addr} {H H1 H2 : Hp} (a : SameT T H H1) (b : SameT T H1 H2) : SameT T H H2 := ⟨fun c o e n => b.keep c o (a.keep c o e n) n, fun t => b.tabs (a.tabs t)⟩
theorem SameT.of {T : List Addr} {H H' : Hp} (s : Same H H') : SameT T H H' := ⟨fun c o e _ => s c o e, fun t P hP => by
  obtain ⟨ps, e, r⟩ := t P hP
  exact ⟨ps, s _ _ e, r⟩⟩
theorem SameT.tabbed {T : List Addr} {P : Addr} {H H' : Hp} (hP : P ∈ T) (t : Tabbed P H H') : SameT T H H' := ⟨fun c o e n => by
    rw [t.2 c fun z => n (by rw [z]; exact hP)]
    exact e, fun s Q hQ => by
    by_cases z : Q = P
    · rw [z]; exact t.1
    · obtain ⟨ps, e, r⟩ := s Q hQ
      exact ⟨ps, by rw [t.2 Q z]; exact e, r⟩⟩
theorem tabs_out {T : List Addr} {H : Hp} {a : Addr} {o : HO} (t : Tabs T H) (e : H a = some o) (n : ∀ ps, o ≠ .tbl ps) : a ∉ T := fun h => by
  obtain ⟨ps, e', _⟩ := t a h
  rw [e] at e'
  exact n ps (Option.some.inj e')
section
variable {T : List Addr} {H H' : Hp} {a : Addr}
theorem SameT.t {xs : List V} (s : SameT T H H') (t : Tabs T H) (e : H a = some (.tup xs)) : H' a = some (.tup xs) := s.keep a _ e (tabs_out t e fun ps z => by cases z)
theorem SameT.l {xs : List V} (s : SameT T H H') (t : Tabs T H) (e : H a = some (.lst xs)) : H' a = some (.lst xs) := s.keep a _ e (tabs_out t e fun ps z => by cases z)
theorem SameT.d {kvs : List (Key × V)} (s : SameT T H H') (t : Tabs T H) (e : H a = some (.dK kvs)) : H' a = some (.dK kvs) := s.keep a _ e (tabs_out t e fun ps z => by cases z)
theorem SameT.i {C d : Addr} {fs : List (Str × V)} (s : SameT T H H') (t : Tabs T H) (e : H a = some (.ins C d fs)) : H' a = some (.ins C d fs) := s.keep a _ e (tabs_out t e fun ps z => by cases z)
theorem Same.tabs (s : Same H H') (t : Tabs T H) : Tabs T H' := (SameT.of s).tabs t
theorem Keep.tabs {d : Addr} {kvs : List (Key × V)} (k : Keep d H H') (hd : H d = some (.dK kvs)) (t : Tabs T H) : Tabs T H' := fun P hP => by
  obtain ⟨ps, e, r⟩ := t P hP
  exact ⟨ps, k _ _ e (ne_of e hd (by intro z; cases z)), r⟩
theorem Tabs.new {p : Addr} {o : HO} (t : Tabs T H) (h : H p = none) : Tabs T (upd H p o) := Same.tabs (same_new h) t
theorem SameT.st1 {K : PySem.W.Frag} {d c : Addr} (s : SameT T H H') (t : Tabs T H) (S : St1 K H d c) : St1 K H' d c := by
  obtain ⟨ns, i, l, m, S⟩ := S
  exact ⟨ns, i, l, m, s.d t S.dc, s.l t S.cs, S.nn, S.i0, S.l0, S.m0, S.m1⟩
end
/-- a def whose code object is known -/
theorem okT {P : Program} {w : World} {K : PySem.W.Frag} {mg : Str → Option Value} {base : Heap} {x qual : Str} {st : Stmt} {f c : Addr} {fd : FuncData} {N ps : List Str} {k : Nat} {sp : Sp} (F : Fun K x qual st f fd) (hc : fd.code = .ref c) (S : FnScope N ps (defScope st)) (len : ∀ vs H Q E, sp vs H Q E → vs.length = ps.length)
    (hbody : ∀ (A : Around) (outer : List Env) (s : Shared) (H : Hp) (vs : List V) (Q : VK) (E : XK), Room k (A.deeper (envOfC qual (defScope st) s.heap.objs.size f (.ref c))) → sp vs H Q E →
      ∃ t, PSs (cxOf CX0 P w K mg base N qual (defScope st) f (.ref c) A outer s H E).nox (defBody st) t ∧ t { nx := fun _ H' => Q .non H', rt := Q } (start N vs) H) : FnOk P w K mg base CX0 (k + 1) f fd ps sp := by
  obtain ⟨oc, od, kV, doc, pm, an, cdv, ct, osl, rfl, lk, hcd⟩ := F.ex
  have e : cdv = .ref c := hc
  subst e
  refine fn_of lk hcd S len fun A outer s H vs Q E hr hsp => ?_
  obtain ⟨t, h, q⟩ := hbody A outer s H vs Q E hr hsp
  exact ⟨t, h.nox, q⟩
theorem walk_tabs {l : PySem.W.OpenLaw} {n k : Nat} {q : Program} {loose : List Str} {XP : (Str → Option Value) → Heap → Prop} {YP : World → Heap → Prop} {d : DefRec} {K : Params → PySem.W.Frag} {CX : World → CXT} {x : Str}
    (hn : l.most = some n) (hn2 : n ≤ sizeLine) (hdf : d.params.defaults = []) (hr : Room k callerA) (hY : ∀ (w : World) (h : Heap), YP w h → (K w.params).In h)
    (F : ∀ (w : World) (mg : Str → Option Value) (fa : Addr) (h : Heap), (K w.params).In h → h.Ns mainGlobals mg → mg d.name = some (.ref fa) →
      (∀ (y : Str) (e : DefRec) (c P : Addr), (recsOf q).find? (fun e => e.name == y) = some e → PySem.W.tabIn (K w.params) y = some (c, P) → PySem.W.CodeHd h c P ∧ h.get? P = some { cls := .none, data := .fields #[] }) → LamX.LawAtS l w (K w.params) (CX w) k n x mg fa h)
    (hCX : ∀ (w : World) (H : Hp) (s : Shared) (e : Value) (s' : Shared), CX w [] H s (fun _ _ _ => False) e s' → False) :
    PySem.W.WalkO q loose XP YP l.row.toRowW d [] (fun f vs => PySem.call f vs) := by
  refine Att.attach_callB hn hdf fun w s₀ s₁ mg mb fa o pm cd doc a vs ns G Y ho hd hcd hmg hobj hints hlen hbits hg => ?_
  have KX := hY w _ Y
  obtain ⟨fd, cs, sp, hT, nT, C, hb, hsp, hF⟩ := F w mg fa _ KX G.T.g hmg fun y e c P hf ht => PySem.W.tab_of G.T KX hf ht
  exact LamX.law_callTs KX G.T.g G.T.b G.T.builtins G.T.nolimit hg hT nT C G.T.bmain hobj hints (Nat.le_trans hlen hn2) hr hF hb (fun H hH hS => hsp H a ns hlen hbits hH hS) fun H e s' => hCX w H s₁ e s'
end Sk

set_option Elab.async false
set_option linter.all false
set_option maxRecDepth 100000
set_option maxHeartbeats 4000000
namespace Sk
open PySem PySem.Spec PyProof.Rows L2
/-! ### bounds -/
def BdN (n : Nat) (x : Int) : Prop := x.natAbs ≤ 2 ^ n
theorem BdN.mono {m n : Nat} {x : Int} (h : BdN m x) (hmn : m ≤ n) : BdN n x := Nat.le_trans h (Nat.pow_le_pow_right (by decide) hmn)
theorem BdN.mul {m n : Nat} {x y : Int} (h : BdN m x) (h' : BdN n y) : BdN (m + n) (x * y) := by
  unfold BdN at *
  rw [Int.natAbs_mul, Nat.pow_add]
  exact Nat.mul_le_mul h h'
theorem BdN.add {n : Nat} {x y : Int} (h : BdN n x) (h' : BdN n y) : BdN (n + 1) (x + y) := by
  unfold BdN at *
  rw [Nat.pow_succ]
  have := Int.natAbs_add_le x y
  omega
theorem BdN.sub {n : Nat} {x y : Int} (h : BdN n x) (h' : BdN n y) : BdN (n + 1) (x - y) := by
  unfold BdN at *
  rw [Nat.pow_succ]
  omega
theorem BdN.of {n : Nat} {x : Int} (h0 : -(2 ^ n : Nat) ≤ x) (h1 : x ≤ (2 ^ n : Nat)) : BdN n x := by
  unfold BdN
  omega
theorem wmB {m n : Nat} {x y : Int} (h : BdN m x) (h' : BdN n y) (hm : m < 2000) (hn : n < 2000) : CMulW x y :=
  wide_mul (a := 2000) (b := 2000) (Nat.lt_of_le_of_lt h (Nat.pow_lt_pow_right (by decide) hm)) (Nat.lt_of_le_of_lt h' (Nat.pow_lt_pow_right (by decide) hn)) (by decide) (by decide) (by decide)
/-! ### the plane -/
def trn (ax ay bx bw x y : Int) : Int := (bx - ax) * (y - ay) - (bw - ay) * (x - ax)
def dtp (ox oy ax ay bx bw : Int) : Int := (ax - ox) * (bx - ox) + (ay - oy) * (bw - oy)
/-- the square of the distance of a point from a segment, a fraction -/
def sqr (x y ax ay bx bw : Int) : Int × Int :=
  if (x - ax) * (bx - ax) + (y - ay) * (bw - ay) ≤ 0 then ((x - ax) * (x - ax) + (y - ay) * (y - ay), 1)
  else if (bx - ax) * (bx - ax) + (bw - ay) * (bw - ay) ≤ (x - ax) * (bx - ax) + (y - ay) * (bw - ay) then ((x - bx) * (x - bx) + (y - bw) * (y - bw), 1)
  else (trn ax ay bx bw x y * trn ax ay bx bw x y, (bx - ax) * (bx - ax) + (bw - ay) * (bw - ay))
def crs (ax ay bx bw cx cy dx dy : Int) : Bool := decide (trn ax ay bx bw cx cy * trn ax ay bx bw dx dy < 0) && decide (trn cx cy dx dy ax ay * trn cx cy dx dy bx bw < 0)
def sqs (ax ay bx bw cx cy dx dy : Int) : List (Int × Int) :=
  if crs ax ay bx bw cx cy dx dy = true then [(0, 1)] else [sqr ax ay cx cy dx dy, sqr bx bw cx cy dx dy, sqr cx cy ax ay bx bw, sqr dx dy ax ay bx bw]
/-- closer, from the enlarged ends -/
def cls (ax ay bx bw cx cy dx dy r : Int) : Bool := (sqs ax ay bx bw cx cy dx dy).any fun t => decide (t.1 < r * r * t.2)
structure Seg where
  ax : Int
  ay : Int
  bx : Int
  bw : Int
  d : Int
def clo (s t : Seg) (l : Int) : Bool := if l ≤ 0 then false else cls (s.ax * t.d) (s.ay * t.d) (s.bx * t.d) (s.bw * t.d) (t.ax * s.d) (t.ay * s.d) (t.bx * s.d) (t.bw * s.d) (l * s.d * t.d)
def Seg.tup (s : Seg) : HO := .tup [.int s.ax, .int s.ay, .int s.bx, .int s.bw, .int s.d]
structure SegBd (n m : Nat) (s : Seg) : Prop where
  ax : BdN n s.ax
  ay : BdN n s.ay
  bx : BdN n s.bx
  bw : BdN n s.bw
  d : BdN m s.d
/-! ### promises of the program's plane -/
/-- a segment's tuple * a factor -/
def spEnl : Sp := fun vs H Q _ => ∃ (a : Addr) (s : Seg) (f : Int), vs = [.ref a, .int f] ∧ H a = some s.tup ∧ SegBd 200 100 s ∧ BdN 100 f ∧ ∀ p, H p = none → Q (.ref p) (upd H p (.tup [.int (s.ax * f), .int (s.ay * f), .int (s.bx * f), .int (s.bw * f)]))
def spTurn : Sp := fun vs H Q _ => ∃ (a : Addr) (ax ay bx bw x y : Int), vs = [.ref a, .int x, .int y] ∧ H a = some (.tup [.int ax, .int ay, .int bx, .int bw]) ∧ BdN 300 ax ∧ BdN 300 ay ∧ BdN 300 bx ∧ BdN 300 bw ∧ BdN 300 x ∧ BdN 300 y ∧ Q (.int (trn ax ay bx bw x y)) H
def spParted : Sp := fun vs H Q _ => ∃ (a b : Addr) (ax ay bx bw cx cy dx dy : Int), vs = [.ref a, .ref b] ∧ H a = some (.tup [.int ax, .int ay, .int bx, .int bw]) ∧ H b = some (.tup [.int cx, .int cy, .int dx, .int dy]) ∧ (∀ z ∈ [ax, ay, bx, bw, cx, cy, dx, dy], BdN 300 z) ∧ Q (.bl (decide (trn ax ay bx bw cx cy * trn ax ay bx bw dx dy < 0))) H
def spCross : Sp := fun vs H Q _ => ∃ (a b : Addr) (ax ay bx bw cx cy dx dy : Int), vs = [.ref a, .ref b] ∧ H a = some (.tup [.int ax, .int ay, .int bx, .int bw]) ∧ H b = some (.tup [.int cx, .int cy, .int dx, .int dy]) ∧ (∀ z ∈ [ax, ay, bx, bw, cx, cy, dx, dy], BdN 300 z) ∧ Q (.bl (crs ax ay bx bw cx cy dx dy)) H
def spSquare : Sp := fun vs H Q _ => ∃ (a : Addr) (ax ay bx bw x y : Int), vs = [.int x, .int y, .ref a] ∧ H a = some (.tup [.int ax, .int ay, .int bx, .int bw]) ∧ BdN 300 ax ∧ BdN 300 ay ∧ BdN 300 bx ∧ BdN 300 bw ∧ BdN 300 x ∧ BdN 300 y ∧ ∀ p, H p = none → Q (.ref p) (upd H p (.tup [.int (sqr x y ax ay bx bw).1, .int (sqr x y ax ay bx bw).2]))
/-- the pairs stand at the addresses -/
def PairsAt (H : Hp) : List V → List (Int × Int) → Prop := fun vs ps => vs.length = ps.length ∧ ∀ (i : Nat) (t : Int × Int), ps[i]? = some t → ∃ p : Addr, vs[i]? = some (V.ref p) ∧ H p = some (.tup [.int t.1, .int t.2])
def segSqs (s t : Seg) : List (Int × Int) := sqs (s.ax * t.d) (s.ay * t.d) (s.bx * t.d) (s.bw * t.d) (t.ax * s.d) (t.ay * s.d) (t.bx * s.d) (t.bw * s.d)
def spSquares : Sp := fun vs H Q _ => ∃ (a b : Addr) (s t : Seg), vs = [.ref a, .ref b] ∧ H a = some s.tup ∧ H b = some t.tup ∧ SegBd 200 100 s ∧ SegBd 200 100 t ∧
  ∀ p H' xs, Same H H' → H' p = some (.lst xs) → PairsAt H' xs (segSqs s t) → Q (.ref p) H'
/-- closer; behind it the tables may have grown -/
def spCloser (TT : List Addr) : Sp := fun vs H Q _ => ∃ (a b : Addr) (s t : Seg) (l : Int), vs = [.ref a, .ref b, .int l] ∧ H a = some s.tup ∧ H b = some t.tup ∧ SegBd 200 100 s ∧ SegBd 200 100 t ∧ BdN 100 l ∧ Tabs TT H ∧
  ∀ H', SameT TT H H' → Q (.bl (clo s t l)) H'
def SegsAt (H : Hp) (vs : List V) (ss : List Seg) : Prop := vs.length = ss.length ∧ ∀ (i : Nat) (s : Seg), ss[i]? = some s → ∃ p : Addr, vs[i]? = some (V.ref p) ∧ H p = some s.tup ∧ SegBd 200 100 s
def spLines (K : PySem.W.Frag) (TT : List Addr) : Sp := fun vs H Q _ => ∃ (a b : Addr) (xs ys : List V) (ss ts : List Seg) (l : Int), vs = [.ref a, .ref b, .int l] ∧ H a = some (.lst xs) ∧ H b = some (.lst ys) ∧ SegsAt H xs ss ∧ SegsAt H ys ts ∧ BdN 100 l ∧ Tabs TT H ∧
  ∀ H', SameT TT H H' → Q (.bl (ss.any fun s => ts.any fun t => clo s t l)) H'
theorem sqr_bd {x y ax ay bx bw : Int} (h1 : BdN 300 ax) (h2 : BdN 300 ay) (h3 : BdN 300 bx) (h4 : BdN 300 bw) : BdN 1300 (sqr x y ax ay bx bw).2 := by
  unfold sqr
  split
  · exact BdN.of (by have : (0:Nat) < 2 ^ 1300 := Nat.pow_pos (by decide); omega) (by have : (1:Nat) ≤ 2 ^ 1300 := Nat.one_le_two_pow; show (1 : Int) ≤ _; omega)
  · split
    · exact BdN.of (by have : (0:Nat) < 2 ^ 1300 := Nat.pow_pos (by decide); omega) (by have : (1:Nat) ≤ 2 ^ 1300 := Nat.one_le_two_pow; show (1 : Int) ≤ _; omega)
    · exact (((h3.sub h1).mul (h3.sub h1)).add ((h4.sub h2).mul (h4.sub h2))).mono (by decide)
theorem segSqs_bd {s t : Seg} (hs : SegBd 200 100 s) (ht : SegBd 200 100 t) : ∀ u ∈ segSqs s t, BdN 1300 u.2 := by
  have e1 : ∀ {x y : Int}, BdN 200 x → BdN 100 y → BdN 300 (x * y) := fun h h' => h.mul h'
  intro u hu
  unfold segSqs sqs at hu
  split at hu
  · rw [List.mem_singleton.mp hu]
    exact BdN.of (by have : (0:Nat) < 2 ^ 1300 := Nat.pow_pos (by decide); omega) (by have : (1:Nat) ≤ 2 ^ 1300 := Nat.one_le_two_pow; show (1 : Int) ≤ _; omega)
  · simp only [List.mem_cons, List.not_mem_nil, or_false] at hu
    rcases hu with rfl | rfl | rfl | rfl
    · exact sqr_bd (e1 ht.ax hs.d) (e1 ht.ay hs.d) (e1 ht.bx hs.d) (e1 ht.bw hs.d)
    · exact sqr_bd (e1 ht.ax hs.d) (e1 ht.ay hs.d) (e1 ht.bx hs.d) (e1 ht.bw hs.d)
    · exact sqr_bd (e1 hs.ax ht.d) (e1 hs.ay ht.d) (e1 hs.bx ht.d) (e1 hs.bw ht.d)
    · exact sqr_bd (e1 hs.ax ht.d) (e1 hs.ay ht.d) (e1 hs.bx ht.d) (e1 hs.bw ht.d)
end Sk

set_option Elab.async false
set_option linter.all false
set_option maxRecDepth 100000
set_option maxHeartbeats 4000000
namespace Sk
open PySem PySem.Spec PyProof.Rows L2
/-! ### the law's own comparison is the program's -/
def ptc (px py ax ay bx bw r2 : Int) : Bool :=
  if dtp ax ay bx bw px py ≤ 0 then decide (dtp ax ay px py px py < r2)
  else if dtp ax ay bx bw bx bw ≤ dtp ax ay bx bw px py then decide (dtp bx bw px py px py < r2)
  else decide (trn ax ay bx bw px py * trn ax ay bx bw px py < r2 * dtp ax ay bx bw bx bw)
theorem ptc_eq (px py ax ay bx bw r2 : Int) : ptc px py ax ay bx bw r2 = decide ((sqr px py ax ay bx bw).1 < r2 * (sqr px py ax ay bx bw).2) := by
  unfold ptc sqr dtp
  have e1 : (bx - ax) * (px - ax) + (bw - ay) * (py - ay) = (px - ax) * (bx - ax) + (py - ay) * (bw - ay) := by grind
  rw [e1]
  by_cases c1 : (px - ax) * (bx - ax) + (py - ay) * (bw - ay) ≤ 0
  · rw [if_pos c1, if_pos c1, Int.mul_one]
  · rw [if_neg c1, if_neg c1]
    by_cases c2 : (bx - ax) * (bx - ax) + (bw - ay) * (bw - ay) ≤ (px - ax) * (bx - ax) + (py - ay) * (bw - ay)
    · rw [if_pos c2, if_pos c2, Int.mul_one]
    · rw [if_neg c2, if_neg c2]
theorem sqself {x : Int} (h : x * x = 0) : x = 0 := by
  rcases Int.mul_eq_zero.mp h with z | z <;> exact z
theorem sqr_turn (x y ax ay bx bw : Int) : sqr x y bx bw ax ay = sqr x y ax ay bx bw := by
  unfold sqr
  have e1 : (x - bx) * (ax - bx) + (y - bw) * (ay - bw) = ((bx - ax) * (bx - ax) + (bw - ay) * (bw - ay)) - ((x - ax) * (bx - ax) + (y - ay) * (bw - ay)) := by grind
  have e2 : (ax - bx) * (ax - bx) + (ay - bw) * (ay - bw) = (bx - ax) * (bx - ax) + (bw - ay) * (bw - ay) := by grind
  have e3 : trn bx bw ax ay x y * trn bx bw ax ay x y = trn ax ay bx bw x y * trn ax ay bx bw x y := by unfold trn; grind
  have n1 := sq0 (bx - ax)
  have n2 := sq0 (bw - ay)
  rw [e1, e2, e3]
  have h0 : (bx - ax) * (bx - ax) + (bw - ay) * (bw - ay) = 0 → bx = ax ∧ bw = ay := fun z => by
    have a := sqself (show (bx - ax) * (bx - ax) = 0 by omega)
    have b := sqself (show (bw - ay) * (bw - ay) = 0 by omega)
    omega
  generalize hA : (x - ax) * (bx - ax) + (y - ay) * (bw - ay) = A
  generalize hL : (bx - ax) * (bx - ax) + (bw - ay) * (bw - ay) = L at *
  by_cases c1 : A ≤ 0
  · by_cases c2 : L ≤ A
    · obtain ⟨rfl, rfl⟩ := h0 (by omega)
      rw [if_pos (by omega), if_pos c1]
    · rw [if_neg (by omega), if_pos (by omega), if_pos c1]
  · by_cases c2 : L ≤ A
    · rw [if_pos (by omega), if_neg c1, if_pos c2]
    · rw [if_neg (by omega), if_neg (by omega), if_neg c1, if_neg c2]
theorem cls_swap (ax ay bx bw cx cy dx dy r : Int) : cls cx cy dx dy ax ay bx bw r = cls ax ay bx bw cx cy dx dy r := by
  unfold cls sqs
  have e : crs cx cy dx dy ax ay bx bw = crs ax ay bx bw cx cy dx dy := by unfold crs; exact Bool.and_comm _ _
  rw [e]
  by_cases c : crs ax ay bx bw cx cy dx dy = true
  · rw [if_pos c, if_pos c]
  · rw [if_neg c, if_neg c]
    simp only [List.any_cons, List.any_nil, Bool.or_false]
    cases decide ((sqr ax ay cx cy dx dy).1 < r * r * (sqr ax ay cx cy dx dy).2) <;> cases decide ((sqr bx bw cx cy dx dy).1 < r * r * (sqr bx bw cx cy dx dy).2) <;> cases decide ((sqr cx cy ax ay bx bw).1 < r * r * (sqr cx cy ax ay bx bw).2) <;> cases decide ((sqr dx dy ax ay bx bw).1 < r * r * (sqr dx dy ax ay bx bw).2) <;> rfl
theorem cls_turn (ax ay bx bw cx cy dx dy r : Int) : cls bx bw ax ay cx cy dx dy r = cls ax ay bx bw cx cy dx dy r := by
  unfold cls sqs
  have t1 : ∀ x y, trn bx bw ax ay x y = - trn ax ay bx bw x y := fun x y => by unfold trn; grind
  have e : crs bx bw ax ay cx cy dx dy = crs ax ay bx bw cx cy dx dy := by
    unfold crs
    rw [t1, t1, Int.neg_mul_neg, Int.mul_comm (trn cx cy dx dy bx bw)]
  rw [e, sqr_turn cx cy, sqr_turn dx dy]
  by_cases c : crs ax ay bx bw cx cy dx dy = true
  · rw [if_pos c, if_pos c]
  · rw [if_neg c, if_neg c]
    simp only [List.any_cons, List.any_nil, Bool.or_false]
    cases decide ((sqr ax ay cx cy dx dy).1 < r * r * (sqr ax ay cx cy dx dy).2) <;> cases decide ((sqr bx bw cx cy dx dy).1 < r * r * (sqr bx bw cx cy dx dy).2) <;> rfl
theorem clo_swap (s t : Seg) (l : Int) : clo t s l = clo s t l := by
  unfold clo
  rw [cls_swap, show l * t.d * s.d = l * s.d * t.d by ac_rfl]
def Seg.turn (s : Seg) : Seg := ⟨s.bx, s.bw, s.ax, s.ay, s.d⟩
theorem clo_turn (s t : Seg) (l : Int) : clo s.turn t l = clo s t l := by
  unfold clo Seg.turn
  dsimp only
  rw [cls_turn]
/-- as the law has it -/
def lclo (s t : Seg) (l : Int) : Bool :=
  (decide (0 < l * l * s.d * s.d * t.d * t.d) && crs (s.ax * t.d) (s.ay * t.d) (s.bx * t.d) (s.bw * t.d) (t.ax * s.d) (t.ay * s.d) (t.bx * s.d) (t.bw * s.d)) ||
  (ptc (s.ax * t.d) (s.ay * t.d) (t.ax * s.d) (t.ay * s.d) (t.bx * s.d) (t.bw * s.d) (l * l * s.d * s.d * t.d * t.d) || ptc (s.bx * t.d) (s.bw * t.d) (t.ax * s.d) (t.ay * s.d) (t.bx * s.d) (t.bw * s.d) (l * l * s.d * s.d * t.d * t.d) ||
   (ptc (t.ax * s.d) (t.ay * s.d) (s.ax * t.d) (s.ay * t.d) (s.bx * t.d) (s.bw * t.d) (l * l * s.d * s.d * t.d * t.d) || ptc (t.bx * s.d) (t.bw * s.d) (s.ax * t.d) (s.ay * t.d) (s.bx * t.d) (s.bw * t.d) (l * l * s.d * s.d * t.d * t.d)))
theorem sqr_nn (x y ax ay bx bw : Int) : 0 ≤ (sqr x y ax ay bx bw).1 ∧ 0 ≤ (sqr x y ax ay bx bw).2 := by
  unfold sqr
  have a1 := sq0 (x - ax); have a2 := sq0 (y - ay); have a3 := sq0 (x - bx); have a4 := sq0 (y - bw); have a5 := sq0 (bx - ax); have a6 := sq0 (bw - ay); have a7 := sq0 (trn ax ay bx bw x y)
  split
  · exact ⟨by dsimp only; omega, by dsimp only; omega⟩
  · split
    · exact ⟨by dsimp only; omega, by dsimp only; omega⟩
    · exact ⟨by dsimp only; omega, by dsimp only; omega⟩
theorem lclo_eq {s t : Seg} {l : Int} (hl : 0 ≤ l) (hs : 1 ≤ s.d) (ht : 1 ≤ t.d) : lclo s t l = clo s t l := by
  unfold lclo clo
  simp only [ptc_eq]
  have er : l * s.d * t.d * (l * s.d * t.d) = l * l * s.d * s.d * t.d * t.d := by ac_rfl
  by_cases c : l ≤ 0
  · rw [if_pos c]
    obtain rfl : l = 0 := by omega
    simp only [Int.zero_mul]
    have z : ∀ x y ax ay bx bw, decide ((sqr x y ax ay bx bw).1 < 0) = false := fun x y ax ay bx bw => decide_eq_false (by have := (sqr_nn x y ax ay bx bw).1; omega)
    simp only [z]
    rfl
  · rw [if_neg c]
    have hp : 0 < l * l * s.d * s.d * t.d * t.d := by
      rw [← er]
      have h1 : 0 < l * s.d * t.d := Int.mul_pos (Int.mul_pos (by omega) (by omega)) (by omega)
      exact Int.mul_pos h1 h1
    unfold cls sqs
    rw [er, decide_eq_true hp, Bool.true_and]
    by_cases cc : crs (s.ax * t.d) (s.ay * t.d) (s.bx * t.d) (s.bw * t.d) (t.ax * s.d) (t.ay * s.d) (t.bx * s.d) (t.bw * s.d) = true
    · rw [if_pos cc, cc, Bool.true_or]
      simp only [List.any_cons, List.any_nil, Bool.or_false]
      symm
      exact decide_eq_true (by omega)
    · rw [if_neg cc]
      have cf : crs (s.ax * t.d) (s.ay * t.d) (s.bx * t.d) (s.bw * t.d) (t.ax * s.d) (t.ay * s.d) (t.bx * s.d) (t.bw * s.d) = false := by simpa using cc
      rw [cf, Bool.false_or]
      simp only [List.any_cons, List.any_nil, Bool.or_false, Bool.or_assoc]
end Sk

set_option Elab.async false
set_option linter.all false
set_option maxRecDepth 100000
set_option maxHeartbeats 4000000
namespace Sk
open PySem PySem.Spec PyProof.Rows L2 GenW GxR
/-! min over a generator expression whose element may call own defs -/
/-- the least of some -/
def mins : List Int → Int
  | [] => 0
  | z :: zs => zs.foldl (fun b z => if z < b then z else b) z
theorem mins_app {zs : List Int} {z : Int} (h : zs ≠ []) : mins (zs ++ [z]) = if z < mins zs then z else mins zs := by
  cases zs with
  | nil => exact absurd rfl h
  | cons y ys =>
    show (ys ++ [z]).foldl _ y = _
    rw [List.foldl_append]
    rfl
theorem mins_spec : ∀ {zs : List Int}, zs ≠ [] → mins zs ∈ zs ∧ ∀ z ∈ zs, mins zs ≤ z := by
  have go : ∀ (ys : List Int) (y : Int), ((ys.foldl (fun b z => if z < b then z else b) y) = y ∨ (ys.foldl (fun b z => if z < b then z else b) y) ∈ ys) ∧ (ys.foldl (fun b z => if z < b then z else b) y) ≤ y ∧ ∀ z ∈ ys, (ys.foldl (fun b z => if z < b then z else b) y) ≤ z := by
    intro ys
    induction ys with
    | nil => intro y; exact ⟨.inl rfl, Int.le_refl _, fun _ h => nomatch h⟩
    | cons x ys ih =>
      intro y
      obtain ⟨a, b, c⟩ := ih (if x < y then x else y)
      show (ys.foldl _ (if x < y then x else y) = y ∨ ys.foldl _ (if x < y then x else y) ∈ x :: ys) ∧ ys.foldl _ (if x < y then x else y) ≤ y ∧ _
      refine ⟨?_, Int.le_trans b (by split <;> omega), fun z hz => ?_⟩
      · rcases a with a | a
        · rw [a]
          split
          · exact .inr List.mem_cons_self
          · exact .inl rfl
        · exact .inr (List.mem_cons_of_mem _ a)
      · rcases List.mem_cons.mp hz with rfl | hz
        · exact Int.le_trans b (by split <;> omega)
        · exact c z hz
  intro zs h
  cases zs with
  | nil => exact absurd rfl h
  | cons y ys =>
    obtain ⟨a, b, c⟩ := go ys y
    refine ⟨?_, fun z hz => ?_⟩
    · rcases a with a | a
      · show ys.foldl _ y ∈ _
        rw [a]; exact List.mem_cons_self
      · exact List.mem_cons_of_mem _ a
    · rcases List.mem_cons.mp hz with rfl | hz
      · exact b
      · exact c z hz
/-- every value is a number -/
def eInt : Eats := fun _ y _ go => (∃ z, y = .int z) ∧ go
theorem eInt_mono : EatsMono eInt := fun _ _ _ _ _ f h => ⟨h.1, f h.2⟩
theorem int_inj {xs ys : List Int} (h : xs.map V.int = ys.map V.int) : xs = ys := (List.map_inj_right (fun a b e => V.int.inj e)).mp h
section
variable {Y : GEx} {σ : L2.St} {H : Hp} {s s0 s1 : Shared}
/-- the frame's state goes past what the consumer did -/
theorem GEx.Ok.past (O : Y.Ok) (I : Inv Y.Xg (Y.pn s0) σ H s) (there : ∀ b ∈ Y.a :: Y.Sx, ∃ o, s0.heap.get? b = some o) (A : Aft Y.Sx s s1) : Inv Y.Xg [] σ H s1 := by
  have hT : ∀ b ∈ Y.a :: Y.Sx, H b = none := fun b hb => by
    obtain ⟨o, e⟩ := there b hb
    exact (O.pinned I hb e).2
  have I0 : Inv Y.Xg [] σ H s := I.pins_of fun p hp => absurd (show p ∈ ([] : List (Addr × Obj)) ++ [] from hp) (by simp)
  have nt : ∀ b u, H b = some u → b ∉ Y.Sx := fun b u q hb => by rw [hT b (List.mem_cons_of_mem _ hb)] at q; cases q
  obtain ⟨z1, z2, z3, z4⟩ := A
  obtain ⟨hh, g', d, t, o⟩ := s1
  have ho : o = s.os := z1
  subst ho
  refine I0.step (h' := hh) (g' := g') (t' := t) (d' := d) (ch := Y.Sx) (fun b hb => ?_) (fun b ob _ _ hc q _ => z3 b ob hc q) (fun b ob _ _ hc q _ => ⟨ob.slots, z3 b ob hc q⟩)
      (fun _ _ _ _ n => n) (fun b ob hc q => ⟨ob, z3 b ob hc q⟩) (fun _ _ q => q) (fun _ _ _ q => q) (fun b ps q => ⟨#[], by rw [q]; simp⟩) (fun m hm => ?_) (fun b u q => ?_) z2
  · have h1 := O.new b (List.mem_cons_of_mem _ hb)
    refine ⟨.inr (Nat.le_of_lt h1), fun z => ?_, fun y c e z => ?_, fun p hp => absurd (show p ∈ ([] : List (Addr × Obj)) ++ [] from hp) (by simp)⟩
    · have z : b = Y.cenv.locals := z
      rw [z, O.loc] at h1
      exact Nat.lt_irrefl _ h1
    · have h2 := O.cel y c e
      rw [z] at h2
      exact Nat.lt_irrefl _ (Nat.lt_trans h1 h2)
  · obtain ⟨ob, es, ep, ho, r⟩ := hm
    refine ⟨ob, es, ep, z3 _ ob (fun hb => ?_) ho, r⟩
    have h1 := O.new _ (List.mem_cons_of_mem _ hb)
    have h1 : Y.s4.heap.objs.size < Y.cenv.locals := h1
    rw [O.loc] at h1
    exact Nat.lt_irrefl _ h1
  · refine (I0.hok b u q).stay (fun c v hc y => z3 c v ?_ y) (fun _ y => y) fun _ _ y => y
    rcases hc with y | y
    · rw [y]; exact nt b u q
    · exact nt c _ y
end
abbrev bestL (vs : Array Value) (c : Nat) : Obj := { cls := .type "list", dict := none, data := .seq vs c, slots := #[] }
section
variable {Y : GEx} {A : Around} {R : Result → Shared → Prop} {Qd : Int → Hp → Prop} {S : Addr}
theorem aft_put {s1 s2 : Shared} {x y : Array Value} {c : Nat} (hos : s2.os = s1.os) (hb : AllBare s2.gens) (e : s1.heap.get? S = some (bestL x c)) (hh : s2.heap = s1.heap.update S (Obj.mapSeq fun _ => y)) : Aft [S] s1 s2 := by
  refine ⟨hos, hb, fun b o n e' => ?_, fun b hb => ?_⟩
  · rw [hh]
    exact (Heap.get?_update_other _ _ (fun h : S = b => n (by rw [h]; exact List.mem_singleton.mpr rfl))).trans e'
  · rw [List.mem_singleton.mp hb, hh, Heap.get?_update_self _ e rfl]
    exact ⟨_, rfl, fun v z => by cases z⟩
theorem aft_id {s1 s2 : Shared} {x : Array Value} {c : Nat} (hos : s2.os = s1.os) (hb : AllBare s2.gens) (e : s1.heap.get? S = some (bestL x c)) (hh : s2.heap = s1.heap) : Aft [S] s1 s2 := by
  refine ⟨hos, hb, fun b o n e' => by rw [hh]; exact e', fun b hb => ?_⟩
  rw [List.mem_singleton.mp hb, hh, e]
  exact ⟨_, rfl, fun v z => by cases z⟩
theorem min_loop1 (O : Y.Ok) (hB : Y.B = A.in1.in1) (hS : Y.Sx = [S]) (hC : Y.C = eInt) (hF : Y.F = fun ys H => ∃ zs, ys = zs.map V.int ∧ zs ≠ [] ∧ Qd (mins zs) H) (hh : A.handled = none) (hroom : A.depth < recursionLimit)
    (hR : ∀ k t σ' H' s1, Inv Y.Xg [] σ' H' s1 → Qd k H' → R (.ok (.ret (.int k t))) s1) : ∀ (n : Nat) (zs : List Int) (H : Hp) (gs : GenState) (sp s : Shared) (t : Tok) (c : Nat), zs ≠ [] → Y.Rdy n (zs.map V.int) H gs sp → Aft Y.Sx sp s → s.heap.IsGen Y.a Y.g → s.gens[Y.g]? = some gs → s.heap.NoLimit →
      s.heap.get? S = some (bestL #[.int (mins zs) t, .int (mins zs) t] c) → codeAny Y.M A (.builtin "min.loop" ⟨[.ref Y.a, .none, .ref S], []⟩) R s := by
  have hname : (toString "min" ++ toString ".loop" : String) = "min.loop" := by decide
  have hSm : S ∈ Y.a :: Y.Sx := by rw [hS]; simp
  have main : ∀ (n : Nat) (zs : List Int) (H : Hp) (gs : GenState) (sp s : Shared) (t : Tok) (c : Nat), zs ≠ [] → Y.Rdy n (zs.map V.int) H gs sp → Aft Y.Sx sp s → s.heap.IsGen Y.a Y.g → s.gens[Y.g]? = some gs → s.heap.NoLimit →
      s.heap.get? S = some (bestL #[.int (mins zs) t, .int (mins zs) t] c) →
      (∀ (zs' : List Int) (H' : Hp) (gs' : GenState) (sp' s' : Shared) (t' : Tok) (c' : Nat), zs' ≠ [] → Y.Rp n (zs'.map V.int) H' gs' sp' → Aft Y.Sx sp' s' → s'.heap.IsGen Y.a Y.g → s'.gens[Y.g]? = some gs' → s'.heap.NoLimit →
        s'.heap.get? S = some (bestL #[.int (mins zs') t', .int (mins zs') t'] c') → codeAny Y.M A (.builtin "min.loop" ⟨[.ref Y.a, .none, .ref S], []⟩) R s') → codeAny Y.M A (.builtin "min.loop" ⟨[.ref Y.a, .none, .ref S], []⟩) R s := by
    intro n zs H gs sp s t c hne rd af hg hgs nl hSo ih
    have there : ∀ b ∈ Y.a :: Y.Sx, ∃ o, s.heap.get? b = some o := fun b hb => by
      rcases List.mem_cons.mp hb with z | z
      · obtain ⟨o, n1, n2, e, r⟩ := hg
        exact ⟨o, by rw [z]; exact e⟩
      · rw [hS] at z
        exact ⟨_, by rw [List.mem_singleton.mp z]; exact hSo⟩
    refine codeAny_builtin F.entry_min_loop ?_
    rw [Around.under_plainId F.plain_min_loop _]
    show wpAny _ A.in1 (seqItems? (.ref S) >>= _) _ _ s
    refine wpAny_bind (wpAny_seqItems hSo rfl ?_)
    show wpAny _ A.in1 (tryCatch (pyNext (.ref Y.a)) _ >>= _) _ _ s
    refine wpAny_bind (wpAny_tryCatch (GEx.next O hB hh hroom nl rd af hg hgs (Array.getElem?_eq_some_iff.mp hgs).1 (fun σ' H' s1 s2 I f a => ?_) fun v y σ' H' s1 gs' I r cc hb hsz => ?_))
    · rw [hF] at f
      obtain ⟨zs', ez, _, f⟩ := f
      obtain rfl := int_inj ez
      have e1 := (O.pinned I hSm hSo).1
      have e2 := a.keep _ _ (by simp) e1
      show wpAny _ A.in1 (updateSeq S (fun _ => #[]) >>= _) _ _ _
      refine wpAny_bind ?_
      refine wpAny_updateSeq e2 rfl (wpAny_bind (wpAny_letGo (wpAny_pure ?_)))
      refine hR _ t σ' H' _ (O.past I there ?_) f
      rw [hS]
      refine ⟨a.os, a.bare, fun b o n e' => ?_, fun b hb => ?_⟩
      · exact (Heap.get?_update_other _ _ (fun h : S = b => n (by rw [h]; exact List.mem_singleton.mpr rfl))).trans (a.keep _ _ (by simp) e')
      · rw [List.mem_singleton.mp hb]
        exact ⟨_, Heap.get?_update_self _ e2 rfl, fun v z => by cases z⟩
    · rw [hC] at cc
      obtain ⟨⟨z, rfl⟩, cc⟩ := cc
      obtain ⟨t', rfl⟩ : ∃ t', v = .int z t' := r
      have e1 := (O.pinned I hSm hSo).1
      have e2 : (s1.setGen Y.g gs').heap.get? S = _ := e1
      rw [show zs.map V.int ++ [V.int z] = (zs ++ [z]).map V.int by rw [List.map_append]; rfl] at cc
      have hg1 : (s1.setGen Y.g gs').heap.IsGen Y.a Y.g := by
        obtain ⟨o, n1, n2, e, r⟩ := hg
        exact ⟨o, n1, n2, (O.pinned I List.mem_cons_self e).1, r⟩
      have hgs1 := setGen_at (x := gs') (Nat.lt_of_lt_of_le (Array.getElem?_eq_some_iff.mp hgs).1 hsz)
      have hna : S ≠ Y.a := fun z => O.aS (by rw [← z, hS]; simp)
      show wpAny _ A.in1 (tryCatch (holding [.int z t', .int z t'] (richCompare .Lt (.int z t') (.int (mins zs) t) >>= _)) _ >>= _) _ _ _
      refine wpAny_bind (wpAny_tryCatch (wpAny_holding (wpAny_bind (CmpOf.ints_lt (P := fun j v => ∃ t, v = .int (if j = 0 then z else mins zs) t) (fun j => if j = 0 then z else mins zs) (fun j v h => h) 0 1 _ _ _ _ _ ⟨t', rfl⟩ ⟨t, rfl⟩ ?_))))
      refine wpAny_bind (wpAny_holding (wpAny_truthy_bool ?_))
      refine wpAny_bind (wpAny_letGo (wpAny_pure ?_))
      have em := mins_app (z := z) hne
      show wpAny _ A.in1 (if decide (z < mins zs) = true then _ else _) _ _ _
      by_cases hlt : z < mins zs
      · rw [if_pos (decide_eq_true hlt)]
        rw [if_pos hlt] at em
        refine wpAny_bind ?_
        refine wpAny_updateSeq e2 rfl (wpAny_bind (wpAny_letGo ?_))
        rw [hname]
        refine wpAny_pure ⟨plainId_quiet F.plain_min_loop _, ih (zs ++ [z]) H' gs' s1 _ t' c (by simp) cc ?_ ?_ hgs1 ?_ ?_⟩
        · rw [hS]
          exact aft_put (s2 := { (s1.setGen Y.g gs') with heap := s1.heap.update S (Obj.mapSeq fun _ => #[Value.int z t', Value.int z t']) }) rfl (allBare_setGen I.bare hb) e1 rfl
        · obtain ⟨o, n1, n2, e, r⟩ := hg1
          exact ⟨o, n1, n2, (Heap.get?_update_other _ _ hna).trans e, r⟩
        · exact (O.past (s1 := { (s1.setGen Y.g gs') with heap := s1.heap.update S (Obj.mapSeq fun _ => #[Value.int z t', Value.int z t']) }) I there (by rw [hS]; exact aft_put rfl (allBare_setGen I.bare hb) e1 rfl)).nolimit
        · rw [em]
          exact Heap.get?_update_self _ e2 rfl
      · rw [if_neg (by rw [decide_eq_false hlt]; exact Bool.false_ne_true)]
        rw [if_neg hlt] at em
        refine wpAny_bind (wpAny_letGo ?_)
        rw [hname]
        refine wpAny_pure ⟨plainId_quiet F.plain_min_loop _, ih (zs ++ [z]) H' gs' s1 _ t c (by simp) cc ?_ hg1 hgs1 I.nolimit ?_⟩
        · rw [hS]
          exact aft_id rfl (allBare_setGen I.bare hb) e1 rfl
        · rw [em]
          exact e2
  intro n
  induction n with
  | zero =>
    intro zs H gs sp s t c hne rd af hg hgs nl hSo
    exact main 0 zs H gs sp s t c hne rd af hg hgs nl hSo fun _ _ _ _ _ _ _ _ q => (show False from q).elim
  | succ n ih =>
    intro zs H gs sp s t c hne rd af hg hgs nl hSo
    exact main (n + 1) zs H gs sp s t c hne rd af hg hgs nl hSo fun zs' H' gs' sp' s' t' c' a1 a2 a3 a4 a5 a6 a7 => ih zs' H' gs' sp' s' t' c' a1 a2 a3 a4 a5 a6 a7
/-- .. from the start -/
theorem min_first (O : Y.Ok) (hB : Y.B = A.in1.in1) (hS : Y.Sx = [S]) (hC : Y.C = eInt) (hF : Y.F = fun ys H => ∃ zs, ys = zs.map V.int ∧ zs ≠ [] ∧ Qd (mins zs) H) (hh : A.handled = none) (hroom : A.depth < recursionLimit)
    (hR : ∀ k t σ' H' s1, Inv Y.Xg [] σ' H' s1 → Qd k H' → R (.ok (.ret (.int k t))) s1) (n : Nat) (H : Hp) (gs : GenState) (sp s : Shared) (c : Nat) (rd : Y.Rdy n [] H gs sp) (af : Aft Y.Sx sp s) (hg : s.heap.IsGen Y.a Y.g) (hgs : s.gens[Y.g]? = some gs) (nl : s.heap.NoLimit)
    (hSo : s.heap.get? S = some (bestL #[] c)) : codeAny Y.M A (.builtin "min.loop" ⟨[.ref Y.a, .none, .ref S], []⟩) R s := by
  have hname : (toString "min" ++ toString ".loop" : String) = "min.loop" := by decide
  have hSm : S ∈ Y.a :: Y.Sx := by rw [hS]; simp
  have there : ∀ b ∈ Y.a :: Y.Sx, ∃ o, s.heap.get? b = some o := fun b hb => by
    rcases List.mem_cons.mp hb with z | z
    · obtain ⟨o, n1, n2, e, r⟩ := hg
      exact ⟨o, by rw [z]; exact e⟩
    · rw [hS] at z
      exact ⟨_, by rw [List.mem_singleton.mp z]; exact hSo⟩
  refine codeAny_builtin F.entry_min_loop ?_
  rw [Around.under_plainId F.plain_min_loop _]
  show wpAny _ A.in1 (seqItems? (.ref S) >>= _) _ _ s
  refine wpAny_bind (wpAny_seqItems hSo rfl ?_)
  show wpAny _ A.in1 (tryCatch (pyNext (.ref Y.a)) _ >>= _) _ _ s
  refine wpAny_bind (wpAny_tryCatch (GEx.next O hB hh hroom nl rd af hg hgs (Array.getElem?_eq_some_iff.mp hgs).1 (fun σ' H' s1 s2 I f a => ?_) fun v y σ' H' s1 gs' I r cc hb hsz => ?_))
  · rw [hF] at f
    obtain ⟨zs', ez, ne, f⟩ := f
    cases zs' with
    | nil => exact absurd rfl ne
    | cons u us => cases ez
  · rw [hC] at cc
    obtain ⟨⟨z, rfl⟩, cc⟩ := cc
    obtain ⟨t', rfl⟩ : ∃ t', v = .int z t' := r
    have e1 := (O.pinned I hSm hSo).1
    have e2 : (s1.setGen Y.g gs').heap.get? S = _ := e1
    have hg1 : (s1.setGen Y.g gs').heap.IsGen Y.a Y.g := by
      obtain ⟨o, n1, n2, e, r⟩ := hg
      exact ⟨o, n1, n2, (O.pinned I List.mem_cons_self e).1, r⟩
    have hgs1 := setGen_at (x := gs') (Nat.lt_of_lt_of_le (Array.getElem?_eq_some_iff.mp hgs).1 hsz)
    have hna : S ≠ Y.a := fun z => O.aS (by rw [← z, hS]; simp)
    have put : Aft [S] s1 { (s1.setGen Y.g gs') with heap := s1.heap.update S (Obj.mapSeq fun _ => #[Value.int z t', Value.int z t']) } := aft_put rfl (allBare_setGen I.bare hb) e1 rfl
    show wpAny _ A.in1 (updateSeq S (fun _ => #[.int z t', .int z t']) >>= _) _ _ _
    refine wpAny_bind ?_
    refine wpAny_updateSeq e2 rfl ?_
    rw [hname]
    cases n with
    | zero => exact (show False from cc).elim
    | succ n =>
      refine wpAny_pure ⟨plainId_quiet F.plain_min_loop _, min_loop1 O hB hS hC hF hh hroom hR n [z] H' gs' s1 _ t' (c + 1) (by simp) cc (by rw [hS]; exact put) ?_ hgs1 (O.past I there (by rw [hS]; exact put)).nolimit ?_⟩
      · obtain ⟨o, n1, n2, e, r⟩ := hg1
        exact ⟨o, n1, n2, (Heap.get?_update_other _ _ hna).trans e, r⟩
      · have e3 := Heap.get?_update_self (Obj.mapSeq fun _ => #[Value.int z t', Value.int z t']) e2 rfl
        exact e3
end
section
variable {X : Cx}
theorem call_minP {P : Program} {w : World} {A : Around} {Q : Value → Shared → Prop} {E : Value → Shared → Prop} {s : Shared} {a g : Addr} (hg : s.heap.IsGen a g)
    (h : codeAny (model P w) A (.builtin "min.loop" ⟨[.ref a, .none, .ref s.heap.objs.size], []⟩) (RetQ Q E) { s with heap := s.heap.push (bestL #[] 0) }) : wpAny (model P w) A (call (.builtin "min") [.ref a]) Q E s := by
  have hname : (toString "min" ++ toString ".loop" : String) = "min.loop" := by decide
  refine call_function_tree F.kind_min F.plain_min F.entry_min (F.args_min1 _) ?_
  show wpAny _ A.in1 (Builtin.Builtins.bindParams "min" ["key", "default"] 0 ⟨[], []⟩ >>= _) _ _ s
  refine wpAny_bind (wpAny_of_eq (show Builtin.Builtins.bindParams "min" ["key", "default"] 0 ⟨[], []⟩ = pure [none, none] from rfl) ?_)
  refine wpAny_bind (wpAny_pure ?_)
  refine wpAny_bind (wpAny_pyIter_gen hg ?_)
  refine wpAny_bind (wpAny_newObj_type ?_)
  rw [hname]
  exact wpAny_pure ⟨plainId_quiet F.plain_min_loop _, h⟩
/-- one more value is out -/
def MN (Nx : List Int → Hp → Prop) (zs : List Int) (y : V) (H : Hp) : Prop := (∃ z, y = .int z) ∧ ∃ zs', zs.map V.int ++ [y] = zs'.map V.int ∧ Nx zs' H
theorem MN.of {Nx : List Int → Hp → Prop} {zs : List Int} {z : Int} {H : Hp} (h : Nx (zs ++ [z]) H) : MN Nx zs (.int z) H := ⟨⟨z, rfl⟩, zs ++ [z], by rw [List.map_append]; rfl, h⟩
def MZ (Nx : List Int → Hp → Prop) (zs : List Int) (H : Hp) : Prop := ∃ zs', zs.map V.int = zs'.map V.int ∧ Nx zs' H
/-- min of elt for target in iter if ..; W carries what is out so far -/
def tMinG (P : Addr) (wi : TI) (g : TG) (tt : TT) (te : TE) (vs : List Nat) : TE := fun σ H Q => wi σ H fun J H1 => TabG H1 P ∧ ∀ H2, Tabbed P H1 H2 →
  ∃ W : Nat → Nat → List Int → Hp → Prop, (∃ m, W 0 m [] H2) ∧ ∀ i m zs H, W i m zs H → (J.stop i H ∧ zs ≠ [] ∧ Q (.int (mins zs)) H) ∨ (J.go i H ∧ ∃ Nx : List Int → Hp → Prop, (∀ zs' H', Nx zs' H' → ∃ m', m' < m ∧ W (i + 1) m' zs' H') ∧
    ∀ x H', J.yld i H x H' → g x (wipe σ vs) H' fun σ2 H2 => wipe σ2 vs = wipe σ vs ∧ tt σ2 H2 fun b H3 => if b = true then te σ2 H3 fun y H4 => MN Nx zs y H4 else MZ Nx zs H3)
theorem tMinG_step {J : It} {g : TG} {tt : TT} {te : TE} {vs : List Nat} {σ : L2.St} {Q : VK} {W : Nat → Nat → List Int → Hp → Prop}
    (h : ∀ i m zs H, W i m zs H → (J.stop i H ∧ zs ≠ [] ∧ Q (.int (mins zs)) H) ∨ (J.go i H ∧ ∃ Nx : List Int → Hp → Prop, (∀ zs' H', Nx zs' H' → ∃ m', m' < m ∧ W (i + 1) m' zs' H') ∧
      ∀ x H', J.yld i H x H' → g x (wipe σ vs) H' fun σ2 H2 => wipe σ2 vs = wipe σ vs ∧ tt σ2 H2 fun b H3 => if b = true then te σ2 H3 fun y H4 => MN Nx zs y H4 else MZ Nx zs H3)) :
    GStep (fun i m ys H => ∃ zs, ys = zs.map V.int ∧ W i m zs H) J g tt te vs (wipe σ vs) eInt (fun ys H => ∃ zs, ys = zs.map V.int ∧ zs ≠ [] ∧ Q (.int (mins zs)) H) := fun i m ys H ⟨zs, ey, w⟩ => by
  subst ey
  rcases h i m zs H w with ⟨z1, z2, z3⟩ | ⟨go, Nx, hN, st⟩
  · exact .inl ⟨z1, zs, rfl, z2, z3⟩
  · exact .inr ⟨go, fun ys H => ∃ zs, ys = zs.map V.int ∧ Nx zs H, fun ys' H' ⟨zs', e', nx⟩ => by
      obtain ⟨m', h1, h2⟩ := hN zs' H' nx
      exact ⟨m', h1, zs', e', h2⟩, st⟩
section
variable {c P : Addr} {elt tg iter : Expr} {ifs : List Expr} {scope : Scope} {own : List (Str × Nat)} {p pos gpos : Pos} {wi : TI} {g : TG} {tt : TT} {te : TE} {k : Nat}
theorem pe_minG (hr : Room (k + 1) X.A) (hn : X.N.Nodup) (hgl : Gl X "min") (hm : X.mg "min" = none) (TB : LamX.TabB X.base X.mg c P) (hcode : X.env.code = .ref c) (G : GScp scope) (ok : BlkOk X.N X.env.scope scope own) (hi : PI X tg iter wi)
    (hg : GPG X k scope tg g) (ht : GPT X k scope ifs tt) (he : GPE X k scope elt te)
    (hb : bootBuiltins "min" = some (.builtin "min") := by first | rfl | decide +kernel) (hs : ∀ v, genFold iter X.env v = pure v := by intro _; rfl)
    (hst : starEach [.GeneratorExp elt [⟨tg, iter, ifs, 0⟩] scope gpos] X.env = (false, eval (.GeneratorExp elt [⟨tg, iter, ifs, 0⟩] scope gpos) X.env) :: starEach [] X.env := by rfl) :
    PE X (.Call (.Name "min" p) [.GeneratorExp elt [⟨tg, iter, ifs, 0⟩] scope gpos] [] pos) (tMinG P wi g tt te (own.map (·.2))) := by
  refine ⟨fun pins s σ H Q I h => ?_⟩
  refine wpAny_Call_Name_kw (ld_blt I hgl hm hb ?_)
  refine PyProof.Rows.callWith_builtin1 ?_ hst (by rfl)
  rw [hst]
  show wpAny _ _ (spliced ((false, eval (.GeneratorExp elt [⟨tg, iter, ifs, 0⟩] scope gpos) X.env) :: backTo pos (starEach [] X.env))) _ _ s
  refine Calls.spliced_cons (gen_made (R := fun J H1 => _) hr TB hcode G ok hi hs I h fun J H1 H2 s4 cenv fp it tn a gn s5 q tb M => ?_)
  refine Calls.spliced_nil (call_minP M.isg ?_)
  obtain ⟨W, ⟨m, w0⟩, st⟩ := q H2 tb
  obtain ⟨code, hce⟩ := M.env
  subst hce
  have hlt : a < s5.heap.objs.size := by rw [M.lt]; exact Nat.lt_succ_self a
  obtain ⟨O, rd⟩ := gen_rdy (B := X.A.in1.in1) (Sx := [s5.heap.objs.size]) hr (nearA2 _) G ok hn M (fun A r => hg _ _ _ _ _ _ A r) (fun A r => ht _ _ _ _ _ _ A r) (fun A r => he _ _ _ _ _ _ A r) (fun b z => by rw [List.mem_singleton.mp z]; exact hlt) eInt_mono (tMinG_step st) m ⟨[], rfl, w0⟩
  have hpush : ∀ b o, s5.heap.get? b = some o → (s5.heap.push (bestL #[] 0)).get? b = some o := fun b o e => Heap.get?_push_of_some _ e
  refine min_first (Qd := fun k H => Q (.int k) H) (S := s5.heap.objs.size) (Y := mkY X s4 H2 _ fp X.A.in1.in1 (wipe σ (own.map (·.2))) (.GeneratorExp elt [⟨tg, iter, ifs, 0⟩] scope gpos) it a gn [s5.heap.objs.size] eInt (fun ys H => ∃ zs, ys = zs.map V.int ∧ zs ≠ [] ∧ Q (.int (mins zs)) H)) O rfl rfl rfl rfl hr.hd hr.depth (fun k t σ' H' s1 I' q => ?_) m H2 _ s5 _ 0 rd ?_ ?_ ?_ ?_ (Heap.get?_push_size _ rfl)
  · exact ⟨.int k, H', GEx.out (Y := mkY X s4 H2 _ fp X.A.in1.in1 (wipe σ (own.map (·.2))) (.GeneratorExp elt [⟨tg, iter, ifs, 0⟩] scope gpos) it a gn [s5.heap.objs.size] eInt (fun ys H => ∃ zs, ys = zs.map V.int ∧ zs ≠ [] ∧ Q (.int (mins zs)) H)) M.inv (fun b hb => (M.fps b hb).1) I' (Aft.refl I'.bare), ⟨t, rfl⟩, q⟩
  · refine ⟨rfl, ?_, fun b o _ e => hpush b o e, fun b hb => ?_⟩
    · show AllBare s5.gens
      rw [M.gens]
      exact M.inv.bare.push rfl
    · rw [List.mem_singleton.mp hb]
      exact ⟨_, Heap.get?_push_size _ rfl, fun v z => by cases z⟩
  · obtain ⟨o, n1, n2, e, r⟩ := M.isg
    exact ⟨o, n1, n2, hpush _ _ e, r⟩
  · show s5.gens[gn]? = _
    rw [M.gens, M.num]
    simp
  · exact (M.inv.nolimit.keeps M.keep).push _
end
end
section
variable {K : PySem.W.Frag} {a : Addr} {xs : List V} {g : TG} {tt : TT} {te : TE} {vs : List Nat} {σ : L2.St} {H2 : Hp} {Q : VK}
/-- over a list that the element leaves as it is -/
theorem min_list (Pv : Nat → List Int → Hp → Prop) (h0 : Pv 0 [] H2) (hl : ∀ i zs H, i ≤ xs.length → Pv i zs H → SqL K H a xs)
    (hs : ∀ i zs x H, xs[i]? = some x → Pv i zs H → g x (wipe σ vs) H fun σ2 H2 => wipe σ2 vs = wipe σ vs ∧ tt σ2 H2 fun b H3 => if b = true then te σ2 H3 fun y H4 => MN (Pv (i + 1)) zs y H4 else MZ (Pv (i + 1)) zs H3) (hd : ∀ zs H, Pv xs.length zs H → zs ≠ [] ∧ Q (.int (mins zs)) H) :
    ∃ W : Nat → Nat → List Int → Hp → Prop, (∃ m, W 0 m [] H2) ∧ ∀ i m zs H, W i m zs H → ((Itl K a).stop i H ∧ zs ≠ [] ∧ Q (.int (mins zs)) H) ∨ ((Itl K a).go i H ∧ ∃ Nx : List Int → Hp → Prop, (∀ zs' H', Nx zs' H' → ∃ m', m' < m ∧ W (i + 1) m' zs' H') ∧
      ∀ x H', (Itl K a).yld i H x H' → g x (wipe σ vs) H' fun σ2 H2 => wipe σ2 vs = wipe σ vs ∧ tt σ2 H2 fun b H3 => if b = true then te σ2 H3 fun y H4 => MN Nx zs y H4 else MZ Nx zs H3) := by
  refine ⟨fun i m zs H => m = xs.length - i ∧ i ≤ xs.length ∧ Pv i zs H, ⟨xs.length, by simp, Nat.zero_le _, h0⟩, fun i m zs H w => ?_⟩
  obtain ⟨hm, hi, p⟩ := w
  have q := hl i zs H hi p
  rcases Nat.lt_or_ge i xs.length with z | z
  · refine .inr ⟨⟨xs, xs[i], q, by simp [z]⟩, Pv (i + 1), fun zs' H' p' => ⟨xs.length - (i + 1), by omega, rfl, z, p'⟩, fun x H' y => ?_⟩
    obtain ⟨rfl, y⟩ := y
    exact hs i zs x _ (y xs q) p
  · obtain rfl : i = xs.length := by omega
    exact .inl ⟨⟨xs, q, Nat.le_refl _⟩, hd zs H p⟩
end
end Sk

set_option Elab.async false
set_option linter.all false
set_option maxRecDepth 100000
set_option maxHeartbeats 4000000
namespace Sk
open PySem PySem.Spec PyProof.Rows L2
/-! ### the distance rounded down -/
theorem SegBd.mono {n m n' m' : Nat} {s : Seg} (h : SegBd n m s) (hn : n ≤ n') (hm : m ≤ m') : SegBd n' m' s := ⟨h.ax.mono hn, h.ay.mono hn, h.bx.mono hn, h.bw.mono hn, h.d.mono hm⟩
theorem bd1 {n : Nat} : BdN n 1 := by
  have : (1:Nat) ≤ 2 ^ n := Nat.one_le_two_pow
  exact BdN.of (by omega) (by omega)
theorem sqr_tight {x y ax ay bx bw : Int} (h1 : BdN 44 ax) (h2 : BdN 44 ay) (h3 : BdN 44 bx) (h4 : BdN 44 bw) (h5 : BdN 44 x) (h6 : BdN 44 y) :
    0 ≤ (sqr x y ax ay bx bw).1 ∧ BdN 182 (sqr x y ax ay bx bw).1 ∧ 1 ≤ (sqr x y ax ay bx bw).2 ∧ BdN 91 (sqr x y ax ay bx bw).2 := by
  have q1 := sq0 (x - ax); have q2 := sq0 (y - ay); have q3 := sq0 (x - bx); have q4 := sq0 (y - bw); have q5 := sq0 (trn ax ay bx bw x y)
  unfold sqr
  split
  · exact ⟨by dsimp only; omega, (((h5.sub h1).mul (h5.sub h1)).add ((h6.sub h2).mul (h6.sub h2))).mono (by decide), Int.le_refl 1, bd1⟩
  · split
    · exact ⟨by dsimp only; omega, (((h5.sub h3).mul (h5.sub h3)).add ((h6.sub h4).mul (h6.sub h4))).mono (by decide), Int.le_refl 1, bd1⟩
    · have tb : BdN 91 (trn ax ay bx bw x y) := ((h3.sub h1).mul (h6.sub h2)).sub ((h4.sub h2).mul (h5.sub h1))
      exact ⟨q5, tb.mul tb, by dsimp only; omega, ((h3.sub h1).mul (h3.sub h1)).add ((h4.sub h2).mul (h4.sub h2))⟩
theorem segSqs_tight {s t : Seg} (hs : SegBd 34 10 s) (ht : SegBd 34 10 t) : ∀ u ∈ segSqs s t, 0 ≤ u.1 ∧ BdN 182 u.1 ∧ 1 ≤ u.2 ∧ BdN 91 u.2 := by
  have e1 : ∀ {x y : Int}, BdN 34 x → BdN 10 y → BdN 44 (x * y) := fun h h' => h.mul h'
  intro u hu
  unfold segSqs sqs at hu
  split at hu
  · rw [List.mem_singleton.mp hu]
    exact ⟨Int.le_refl 0, BdN.of (by show -((2 ^ 182 : Nat) : Int) ≤ 0; have : (0:Nat) < 2 ^ 182 := Nat.pow_pos (by decide); omega) (by show (0 : Int) ≤ _; omega), Int.le_refl 1, bd1⟩
  · simp only [List.mem_cons, List.not_mem_nil, or_false] at hu
    rcases hu with rfl | rfl | rfl | rfl
    · exact sqr_tight (e1 ht.ax hs.d) (e1 ht.ay hs.d) (e1 ht.bx hs.d) (e1 ht.bw hs.d) (e1 hs.ax ht.d) (e1 hs.ay ht.d)
    · exact sqr_tight (e1 ht.ax hs.d) (e1 ht.ay hs.d) (e1 ht.bx hs.d) (e1 ht.bw hs.d) (e1 hs.bx ht.d) (e1 hs.bw ht.d)
    · exact sqr_tight (e1 hs.ax ht.d) (e1 hs.ay ht.d) (e1 hs.bx ht.d) (e1 hs.bw ht.d) (e1 ht.ax hs.d) (e1 ht.ay hs.d)
    · exact sqr_tight (e1 hs.ax ht.d) (e1 hs.ay ht.d) (e1 hs.bx ht.d) (e1 hs.bw ht.d) (e1 ht.bx hs.d) (e1 ht.bw hs.d)
theorem segSqs_ne (s t : Seg) : segSqs s t ≠ [] := by
  unfold segSqs sqs
  split <;> exact List.cons_ne_nil _ _
theorem root_lt {a D z l : Int} (hD : 0 < D) (h0 : 0 ≤ z) (h1 : z * z ≤ a / D) (h2 : a / D < (z + 1) * (z + 1)) (hl : 0 < l) : a < l * l * D ↔ z < l := by
  rw [← Int.ediv_lt_iff_lt_mul hD]
  constructor
  · intro h
    rcases (show z < l ∨ l ≤ z by omega) with c | c
    · exact c
    · have := Int.mul_le_mul c c (Int.le_of_lt hl) h0
      omega
  · intro h
    have := Int.mul_le_mul (show z + 1 ≤ l by omega) (show z + 1 ≤ l by omega) (by omega) (by omega)
    omega
def dsc (s t : Seg) (u : Int × Int) : Int := u.1 / (u.2 * (s.d * t.d) * (s.d * t.d))
/-- z is the root of a number, rounded down -/
def RootOf (z q : Int) : Prop := 0 ≤ z ∧ z * z ≤ q ∧ q < (z + 1) * (z + 1)
theorem dist_of {s t : Seg} {zs : List Int} (hs : 1 ≤ s.d) (ht : 1 ≤ t.d) (pos : ∀ u ∈ segSqs s t, 1 ≤ u.2) (hlen : zs.length = (segSqs s t).length) (hz : ∀ (i : Nat) u z, (segSqs s t)[i]? = some u → zs[i]? = some z → RootOf z (dsc s t u)) :
    0 ≤ mins zs ∧ (∃ u ∈ segSqs s t, RootOf (mins zs) (dsc s t u)) ∧ ∀ l, clo s t l = decide (mins zs < l) := by
  have ne : zs ≠ [] := fun e => segSqs_ne s t (List.eq_nil_of_length_eq_zero (by rw [← hlen, e]; rfl))
  obtain ⟨hm, hle⟩ := mins_spec ne
  obtain ⟨j, hj, ej⟩ := List.getElem_of_mem hm
  have hj2 : j < (segSqs s t).length := by omega
  have rj := hz j _ _ (List.getElem?_eq_getElem hj2) (List.getElem?_eq_getElem hj)
  rw [ej] at rj
  refine ⟨rj.1, ⟨_, List.getElem_mem hj2, rj⟩, fun l => ?_⟩
  unfold clo
  by_cases c : l ≤ 0
  · rw [if_pos c, decide_eq_false (by have := rj.1; omega)]
  rw [if_neg c]
  have hl : 0 < l := by omega
  have hsc : 0 < s.d * t.d := Int.mul_pos (by omega) (by omega)
  have key : ∀ u ∈ segSqs s t, ∀ z, RootOf z (dsc s t u) → (u.1 < l * s.d * t.d * (l * s.d * t.d) * u.2 ↔ z < l) := fun u hu z r => by
    have e : l * s.d * t.d * (l * s.d * t.d) * u.2 = l * l * (u.2 * (s.d * t.d) * (s.d * t.d)) := by ac_rfl
    rw [e]
    have := pos u hu
    exact root_lt (Int.mul_pos (Int.mul_pos (by omega) hsc) hsc) r.1 r.2.1 r.2.2 hl
  show (segSqs s t).any (fun u => decide (u.1 < l * s.d * t.d * (l * s.d * t.d) * u.2)) = _
  rw [Bool.eq_iff_iff, List.any_eq_true, decide_eq_true_eq]
  constructor
  · rintro ⟨u, hu, h⟩
    obtain ⟨i, hi, rfl⟩ := List.getElem_of_mem hu
    have hi2 : i < zs.length := by omega
    have r := hz i _ _ (List.getElem?_eq_getElem hi) (List.getElem?_eq_getElem hi2)
    have h1 := (key _ hu _ r).mp (of_decide_eq_true h)
    have := hle _ (List.getElem_mem hi2)
    omega
  · intro h
    exact ⟨_, List.getElem_mem hj2, decide_eq_true ((key _ (List.getElem_mem hj2) _ rj).mpr h)⟩
theorem dist_uniq {s t : Seg} {m m' : Int} (h : ∀ l, clo s t l = decide (m < l)) (h' : ∀ l, clo s t l = decide (m' < l)) : m = m' := by
  have a1 := (h (m + 1)).symm.trans (h' (m + 1))
  have a2 := (h (m' + 1)).symm.trans (h' (m' + 1))
  rw [decide_eq_true (show m < m + 1 by omega)] at a1
  rw [decide_eq_true (show m' < m' + 1 by omega)] at a2
  have := of_decide_eq_true a1.symm
  have := of_decide_eq_true a2
  omega
theorem root_bd {z x : Int} (h : z * z ≤ x) (h0 : 0 ≤ z) (hx : BdN 182 x) : BdN 91 z := by
  unfold BdN at *
  have h1 : z.natAbs * z.natAbs ≤ 2 ^ 91 * 2 ^ 91 := by
    rw [← Int.natAbs_mul, ← Nat.pow_add]
    have := sq0 z
    omega
  exact Nat.mul_self_le_mul_self_iff.mp h1
theorem dsc_bd {s t : Seg} {u : Int × Int} (h0 : 0 ≤ u.1) (hb : BdN 182 u.1) (h1 : 1 ≤ u.2) (hs : 1 ≤ s.d) (ht : 1 ≤ t.d) : 0 ≤ dsc s t u ∧ BdN 182 (dsc s t u) := by
  unfold dsc
  have hsc : 0 < s.d * t.d := Int.mul_pos (by omega) (by omega)
  have hD : 0 < u.2 * (s.d * t.d) * (s.d * t.d) := Int.mul_pos (Int.mul_pos (by omega) hsc) hsc
  have a := Int.ediv_nonneg h0 (Int.le_of_lt hD)
  have b := Int.ediv_le_self (u.2 * (s.d * t.d) * (s.d * t.d)) h0
  refine ⟨a, ?_⟩
  unfold BdN at *
  omega
def spRootD : Sp := fun vs H Q _ => ∃ n : Int, vs = [.int n] ∧ 0 ≤ n ∧ n.natAbs < 2 ^ 250 ∧ ∀ r, RootOf r n → Q (.int r) H
def spDist (TT : List Addr) : Sp := fun vs H Q _ => ∃ (a b : Addr) (s t : Seg), vs = [.ref a, .ref b] ∧ H a = some s.tup ∧ H b = some t.tup ∧ SegBd 34 10 s ∧ SegBd 34 10 t ∧ 1 ≤ s.d ∧ 1 ≤ t.d ∧ Tabs TT H ∧
  ∀ m H', SameT TT H H' → 0 ≤ m → BdN 92 m → (∀ l, clo s t l = decide (m < l)) → Q (.int m) H'
/-- is, of two truth values -/
theorem op_isB {X : Cx} : OpR X (compareOp .Is) (fun x y H Q => ∃ a b, x = .bl a ∧ y = .bl b ∧ Q (.bl (decide (a = b))) H) := by
  intro pins s σ H x y v u Q I rx ry h
  obtain ⟨a, b, rfl, rfl, q⟩ := h
  cases rx
  cases ry
  refine wpAny_is_plain (by cases a <;> cases b <;> rfl) (fin_bl I q ?_)
  cases a <;> cases b <;> rfl
end Sk

set_option Elab.async false
set_option linter.all false
set_option maxRecDepth 100000
set_option maxHeartbeats 4000000
namespace Sk
open PySem PySem.Spec PyProof.Rows L2
def top (i : Nat) : Stmt := PySem.Challenge.pw_skyapart_k03_distance_rounded_down.main.body.getD i (.Pass ⟨0, 0, 0, 0⟩)
abbrev s_law_start : Stmt := top 13
abbrev s_law_draw : Stmt := top 14
abbrev s_law_pick : Stmt := top 15
abbrev s_law_is_number : Stmt := top 16
section
variable {P : Program} {w : World} {K : PySem.W.Frag} {mg : Str → Option Value} {base : Heap}
theorem sc_law_start : FnScope ["script", "cell"] ["script"] (defScope s_law_start) := ⟨rfl, rfl, rfl, by decide +kernel, rfl, by decide +kernel, by decide +kernel⟩
theorem ok_law_start {f : Addr} {fd : FuncData} (F : Fun K "_law_start" "_law_start" s_law_start f fd) (T : Txt0 mg) : FnOk P w K mg base CX0 1 f fd ["script"] (spStart K) := by
  refine F.ok sc_law_start (fun vs H Q E h => ?_) (fun cdv A outer s H vs Q E hr h => ?_)
  · obtain ⟨a, ns, rfl, _⟩ := h
    rfl
  · obtain ⟨a, ns, rfl, hS, hl, k⟩ := h
    refine ⟨_, (pss_one (ps_ret (pe_disp (pps_cons pe_str (pe_lc (own := [("cell", 1)]) (g := gName 1) (by rfl) sc_law_start.nd (pi_list (pv 0)) (blkOk_by (own := [("cell", 1)]) (N := ["script", "cell"]) (sc := defScope s_law_start) (by decide +kernel)) (fun _ _ _ _ _ => (pg_name (i := 1) sc_law_start.nd rfl (Or.inl rfl))) (fun _ _ _ _ _ => pts_nil) (fun _ _ _ _ _ => (pe_callB call_abs (by rfl) T.abs boot_abs (pa_cons (pe_callTy call_int1 (by rfl) T.int boot_int (pa_cons (pv 1) pa_nil)) pa_nil)))) (pps_cons pe_str pe_int (pps_cons pe_str pe_int (pps_cons pe_str (pe_op op_add pe_int (pe_callB call_len_seq (by rfl) T.len boot_len (pa_cons (pv 0) pa_nil))) pps_nil)))) (by rfl) (by rfl) (fun z => by cases z) (by decide)))), ?_⟩
    -- the dict
    intro d hd
    have s0 : Same H (upd H d (.dK [])) := same_new hd
    refine ⟨_, rfl, a, rfl, ⟨_, s0.seq hS⟩, fun D hD => ?_⟩
    have nDd : d ≠ D := fun z => by rw [← z, upd_same] at hD; cases hD
    refine lc_list (K := K) (a := a) (xs := ns.map V.int) (fun i H' => ∃ cs : List Int, H' D = some (.lst (cs.map V.int)) ∧ cs.length = i ∧ (∀ x ∈ cs, 0 ≤ x) ∧ Same H H' ∧ H' d = some (.dK []))
      ⟨[], upd_same, rfl, (fun _ h => nomatch h), fun b o e => (same_new hD) b o (s0 b o e), by rw [upd_ne nDd, upd_same]⟩ (fun i H' _ ⟨_, _, _, _, s2, _⟩ => s2.seq hS) ?_ ?_
    · rintro i x H' hx ⟨cs, hc, hi, hn, s2, h2⟩
      obtain ⟨z, rfl⟩ : ∃ z, x = V.int z := by
        rw [List.getElem?_map] at hx
        cases e : ns[i]? with
        | none => rw [e] at hx; cases hx
        | some z => rw [e] at hx; exact ⟨z, (Option.some.inj hx).symm⟩
      have hil : i < (ns.map V.int).length := (List.getElem?_eq_some_iff.mp hx).1
      rw [List.length_map] at hil
      refine ⟨rfl, ?_⟩
      refine ⟨_, rfl, .inl ⟨_, rfl, _, rfl, _, hc, ?_, cs ++ [if z < 0 then -z else z], ?_, ?_, ?_, ?_, ?_⟩⟩
      · rw [List.length_map]; exact small1000 (by omega)
      · rw [upd_same, List.map_append]; rfl
      · rw [List.length_append, hi]; rfl
      · intro y hy
        rcases List.mem_append.mp hy with hy | hy
        · exact hn y hy
        · rw [List.mem_singleton.mp hy]; split <;> omega
      · intro b o e
        rw [upd_ne (ne_of_none e (s0.free hD))]
        exact s2 b o e
      · rw [upd_ne nDd]; exact h2
    · rintro H' ⟨cs, hc, hi, hn, s2, h2⟩
      refine ⟨_, rfl, a, _, rfl, .inl (s2.seq hS), _, _, rfl, rfl, h2, stK D 0 0 (7 + ((ns.map V.int).length : Int)), rfl, (by show 4 ≤ 15; decide), ?_⟩
      rw [merge_st]
      have hDd : D ≠ d := fun z => nDd z.symm
      refine k d D _ hd (s0.free hD) ⟨cs, 0, 0, _, upd_same, (by rw [upd_ne hDd]; exact hc), hn, by omega, by omega, ?_, ?_⟩ fun b o e => ?_
      · omega
      · rw [List.length_map]; omega
      · rw [upd_ne (ne_of_none e hd)]
        exact s2 b o e
theorem sc_law_draw : FnScope ["state", "bound", "cell", "number"] ["state", "bound"] (defScope s_law_draw) := ⟨rfl, rfl, rfl, by decide +kernel, rfl, by decide +kernel, by decide +kernel⟩
theorem ok_law_draw {f : Addr} {fd : FuncData} (F : Fun K "_law_draw" "_law_draw" s_law_draw f fd) (T : Txt0 mg) : FnOk P w K mg base CX0 1 f fd ["state", "bound"] (spDraw K) := by
  refine F.ok sc_law_draw (fun vs H Q E h => ?_) (fun cdv A outer s H vs Q E hr h => ?_)
  · obtain ⟨d, c, b, rfl, _⟩ := h
    rfl
  · obtain ⟨d, c, b, rfl, S1, b0, b1, k⟩ := h
    have hu := hu_of hr
    have hm : ∀ x : Int, 0 ≤ x % b ∧ x % b < b := fun x => ⟨Int.emod_nonneg x (by omega), Int.emod_lt_of_pos x b0⟩
    have hmx : ∀ x : Int, 0 ≤ x % 2147483647 ∧ x % 2147483647 < 2147483648 := fun x => by omega
    refine ⟨_, (pss_cons (ps_if (PW.pt (pw_and (pt_cmpR op_eq (pe_dget hu (pv 0) pe_str (fun _ _ => rfl)) pe_int (nomark _)) (pw_and1 (pt_cmpR op_lt (pe_dget hu (pv 0) pe_str (fun _ _ => rfl)) (pe_callB call_len_seq (by rfl) T.len boot_len (pa_cons (pe_dget hu (pv 0) pe_str (fun _ _ => rfl)) pa_nil)) (nomark _))))) (pss_cons (ps_set (i := 2) sc_law_draw.nd rfl (Or.inl rfl) (pe_ix ix_list (pe_dget hu (pv 0) pe_str (fun _ _ => rfl)) (pe_dget hu (pv 0) pe_str (fun _ _ => rfl)) (fun _ _ => rfl)))
    (pss_cons (ps_dput hu (pv 0) pe_str (pe_op op_add (pe_dget hu (pv 0) pe_str (fun _ _ => rfl)) pe_int) rfl)
    (pss_cons (ps_dput hu (pv 0) pe_str (pe_op op_mod (pe_callTy call_int1 (by rfl) T.int boot_int (pa_cons (pe_op op_add (pe_op op_add (pe_op op_mul (pe_dget hu (pv 0) pe_str (fun _ _ => rfl)) pe_int) (pv 2)) pe_int) pa_nil)) pe_int) rfl)
    (pss_cons (ps_if (pt_cmpR op_lt (pv 2) (pe_op op_pow pe_int pe_int) (nomark _)) (pss_one (ps_ret (pe_op op_mod (pe_callTy call_int1 (by rfl) T.int boot_int (pa_cons (pv 2) pa_nil)) (pv 1))))
      pss_nil)
    (pss_one (ps_dput hu (pv 0) pe_str (pv 2) rfl))))))
      pss_nil)
    (pss_cons (ps_if (pt_cmpR op_gt (pe_dget hu (pv 0) pe_str (fun _ _ => rfl)) pe_int (nomark _)) (pss_cons (ps_set (i := 3) sc_law_draw.nd rfl (Or.inl rfl) (pe_op op_mod (pe_callTy call_int1 (by rfl) T.int boot_int (pa_cons (pe_dget hu (pv 0) pe_str (fun _ _ => rfl)) pa_nil)) (pv 1)))
    (pss_cons (ps_dput hu (pv 0) pe_str (pe_op op_fdivW (pe_dget hu (pv 0) pe_str (fun _ _ => rfl)) (pv 1)) rfl)
    (pss_one (ps_ret (pv 3)))))
      pss_nil)
    (pss_cons (ps_dput hu (pv 0) pe_str (pe_op op_mod (pe_callTy call_int1 (by rfl) T.int boot_int (pa_cons (pe_op op_add (pe_op op_mul (pe_dget hu (pv 0) pe_str (fun _ _ => rfl)) pe_int) pe_int) pa_nil)) pe_int) rfl)
    (pss_one (ps_ret (pe_op op_mod (pe_callTy call_int1 (by rfl) T.int boot_int (pa_cons (pe_op op_mod (pe_callTy call_int1 (by rfl) T.int boot_int (pa_cons (pe_op op_add (pe_op op_mul (pe_dget hu (pv 0) pe_str (fun _ _ => rfl)) pe_int) pe_int) pa_nil)) pe_int) pa_nil)) (pv 1))))))), ?_⟩
    refine cut (fun σ' H' => ∃ v2 v3, σ' = [some (.ref d), some (.int b), v2, v3] ∧ St1 K H' d c ∧ Keep d H H') ?_ (fun rest => ?_)
    · -- the rest: from a number that is left, or from the mix
      rintro σ' H' ⟨v2, v3, rfl, ⟨ns, i, l, m, S⟩, kp⟩
      refine ⟨_, rfl, _, _, rfl, dg_left S.dc, _, _, rfl, rfl, _, rfl, ite2 (fun e => ?_) (fun e => ?_)⟩
      · refine ⟨_, rfl, _, _, rfl, dg_left S.dc, .inl ⟨_, rfl, _, rfl, _, _, rfl, rfl, b0, ?_⟩⟩
        refine ⟨_, rfl, _, _, rfl, dg_left S.dc, _, rfl, _, _, rfl, rfl, log_of b0 b1, _, rfl, _, _, rfl, dp_left S.dc, ?_⟩
        refine ⟨_, rfl, ?_⟩
        exact k _ _ (hm l).1 (hm l).2 ⟨_, _, _, _, S.put S.i0 (Int.ediv_nonneg S.l0 (by omega)) S.m0 S.m1⟩ (kp.trans (Keep.upd _ _ _))
      · refine ⟨_, rfl, _, _, rfl, dg_mix S.dc, _, _, rfl, rfl, .inr ⟨by decide, by decide⟩, _, _, rfl, rfl, .inl ⟨_, rfl, _, _, rfl, rfl, (by show (0:Int) < 2147483647; decide), _, rfl, _, _, rfl, dp_mix S.dc, ?_⟩⟩
        have S2 := S.put (i' := i) (l' := l) S.i0 S.l0 (hmx (m * 48271 + 11)).1 (hmx (m * 48271 + 11)).2
        refine ⟨_, rfl, _, _, rfl, dg_mix S2.dc, _, _, rfl, rfl, .inr ⟨by decide, by decide⟩, _, _, rfl, rfl, .inl ⟨_, rfl, _, _, rfl, rfl, (by show (0:Int) < 2147483629; decide), .inl ⟨_, rfl, _, rfl, _, _, rfl, rfl, b0, ?_⟩⟩⟩
        exact k _ _ (hm _).1 (hm _).2 ⟨_, _, _, _, S2⟩ (kp.trans (Keep.upd _ _ _))
    · -- the first if
      obtain ⟨ns, i, l, m, S⟩ := id S1
      refine ⟨_, rfl, _, _, rfl, dg_left S.dc, rfl, _, rfl, ite2 (fun e => ?_) (fun e => ?_)⟩
      · refine ⟨_, rfl, _, _, rfl, dg_at S.dc, _, rfl, _, _, rfl, dg_cells S.dc, _, _, rfl, .inl (.inl (.inl S.cs)), _, _, rfl, rfl, _, rfl, ite2 (fun e => ?_) (fun e => ?_)⟩
        · have hi : i < (ns.length : Int) := by
            have := of_decide_eq_true e
            rw [List.length_map] at this
            exact this
          obtain ⟨j, rfl⟩ : ∃ j : Nat, i = (j : Int) := ⟨i.toNat, by have := S.i0; omega⟩
          have hj : j < ns.length := by omega
          refine ⟨_, rfl, _, _, rfl, dg_cells S.dc, _, rfl, _, _, rfl, dg_at S.dc, _, _, _, _, rfl, rfl, .inl (.inl S.cs), atI_nat (j := j) (v := .int ns[j]) (by simp [hj]), ?_⟩
          have S2 := S.put (i' := (j : Int) + 1) (l' := l) (m' := m) (by omega) S.l0 S.m0 S.m1
          refine ⟨_, rfl, _, _, rfl, dg_at S.dc, _, _, rfl, rfl, _, rfl, _, _, rfl, dp_at S.dc, ?_⟩
          refine ⟨_, rfl, _, _, rfl, dg_mix S2.dc, _, _, rfl, rfl, .inr ⟨by decide, by decide⟩, _, rfl, _, _, rfl, rfl, _, _, rfl, rfl, .inl ⟨_, rfl, _, _, rfl, rfl, (by show (0:Int) < 2147483647; decide), _, rfl, _, _, rfl, dp_mix S2.dc, ?_⟩⟩
          have S3 := S2.put (i' := (j : Int) + 1) (l' := l) S2.i0 S.l0 (hmx (m * 48271 + ns[j] + 11)).1 (hmx (m * 48271 + ns[j] + 11)).2
          refine ⟨_, rfl, _, _, rfl, rfl, ⟨by decide, by decide, by decide⟩, _, _, rfl, rfl, _, rfl, ite2 (fun e => ?_) (fun e => ?_)⟩
          · refine ⟨_, rfl, .inl ⟨_, rfl, _, rfl, _, _, rfl, rfl, b0, ?_⟩⟩
            exact k _ _ (hm _).1 (hm _).2 ⟨_, _, _, _, S3⟩ ((Keep.upd _ _ _).trans (Keep.upd _ _ _))
          · refine ⟨_, rfl, _, rfl, _, _, rfl, dp_left S3.dc, ?_⟩
            have S4 := S3.put (i' := (j : Int) + 1) (l' := ns[j]) S2.i0 (S.nn _ (List.getElem_mem hj)) S3.m0 S3.m1
            exact rest _ _ ⟨_, _, rfl, ⟨_, _, _, _, S4⟩, ((Keep.upd _ _ _).trans (Keep.upd _ _ _)).trans (Keep.upd _ _ _)⟩
        · exact rest _ _ ⟨_, _, rfl, S1, Keep.refl _ _⟩
      · refine iteF ?_
        exact rest _ _ ⟨_, _, rfl, S1, Keep.refl _ _⟩
theorem sc_law_pick : FnScope ["state", "things"] ["state", "things"] (defScope s_law_pick) := ⟨rfl, rfl, rfl, by decide +kernel, rfl, by decide +kernel, by decide +kernel⟩
theorem ok_law_pick {f : Addr} {fd : FuncData} (F : Fun K "_law_pick" "_law_pick" s_law_pick f fd) (T : Txt0 mg) (D_law_draw : Def P w K mg base 1 "_law_draw" ["state", "bound"] (spDraw K)) : FnOk P w K mg base CX0 2 f fd ["state", "things"] (spPick K) := by
  refine F.ok sc_law_pick (fun vs H Q E h => ?_) (fun cdv A outer s H vs Q E hr h => ?_)
  · obtain ⟨d, c, l, xs, rfl, _⟩ := h
    rfl
  · obtain ⟨d, c, l, xs, rfl, S, hl, hn, hz, k⟩ := h
    refine ⟨_, (pss_one (ps_ret (pe_ix ix_list (pv 1) (pe_def D_law_draw (hr.mono (by decide)) (by rfl) (pa_cons (pv 0) (pa_cons (pe_callB call_len_seq (by rfl) T.len boot_len (pa_cons (pv 1) pa_nil)) pa_nil))) (fun _ _ => rfl)))), ?_⟩
    have hp : 0 < xs.length := List.length_pos_iff.mpr hn
    refine ⟨_, rfl, _, rfl, _, rfl, _, _, rfl, .inl hl, d, c, _, rfl, S, by omega, by omega, fun n H' n0 n1 S' kp => ?_⟩
    obtain ⟨kvs, hd⟩ := S.dk
    obtain ⟨j, rfl⟩ : ∃ j : Nat, n = (j : Int) := ⟨n.toNat, by omega⟩
    have hj : j < xs.length := by omega
    refine ⟨_, _, _, _, rfl, rfl, kp.seq hd hl, atI_nat (j := j) (v := xs[j]) (by simp [hj]), ?_⟩
    exact k _ _ (List.getElem_mem hj) S' kp
theorem sc_law_is_number : FnScope ["thing"] ["thing"] (defScope s_law_is_number) := ⟨rfl, rfl, rfl, by decide +kernel, rfl, by decide +kernel, by decide +kernel⟩
theorem ok_law_is_number {f : Addr} {fd : FuncData} (F : Fun K "_law_is_number" "_law_is_number" s_law_is_number f fd) (T : Txt0 mg) : FnOk P w K mg base CX0 1 f fd ["thing"] spIsNum := by
  refine F.ok sc_law_is_number (fun vs H Q E h => ?_) (fun cdv A outer s H vs Q E hr h => ?_)
  · obtain ⟨n, rfl, _⟩ := h
    rfl
  · obtain ⟨n, rfl, k⟩ := h
    refine ⟨_, (pss_one (ps_ret (pe_and (pe_callB call_isi (by rfl) T.isinstance boot_isinstance (pa_cons (pv 0) (pa_cons (pe_bltn (v := .ty "int") (by rfl) T.int boot_int rfl) pa_nil))) (pe_one (pe_not (pe_callB call_isi (by rfl) T.isinstance boot_isinstance (pa_cons (pv 0) (pa_cons (pe_bltn (v := .ty "bool") (by rfl) T.bool boot_bool rfl) pa_nil)))))))), ?_⟩
    refine ⟨_, rfl, _, _, _, _, true, rfl, ClsV.ty _, .base (.int n), kit_ty (by decide +kernel), true, rfl, ?_⟩
    refine iteT ?_
    refine ⟨_, rfl, _, _, _, _, false, rfl, ClsV.ty _, .base (.int n), kit_ty (by decide +kernel), false, rfl, ?_⟩
    exact k
end
end Sk

set_option Elab.async false
set_option linter.all false
set_option maxRecDepth 100000
set_option maxHeartbeats 4000000
namespace Sk
open PySem PySem.Spec PyProof.Rows L2
section
variable {P : Program} {w : World} {K : PySem.W.Frag} {mg : Str → Option Value} {base : Heap}
abbrev s_enlarged : Stmt := top 7
theorem sc_enlarged : FnScope ["segment", "factor", "ax", "ay", "bx", "by", "_"] ["segment", "factor"] (defScope s_enlarged) := ⟨rfl, rfl, rfl, by decide +kernel, rfl, by decide +kernel, by decide +kernel⟩
theorem ok_enlarged {f : Addr} {fd : FuncData} (F : Fun K "_enlarged" "_enlarged" s_enlarged f fd) (T : TxtA mg) : FnOk P w K mg base CX0 1 f fd ["segment", "factor"] (spEnl) := by
  refine F.ok sc_enlarged (fun vs H Q E h => ?_) (fun cdv A outer s H vs Q E hr h => ?_)
  · obtain ⟨a, s, f, rfl, _⟩ := h
    rfl
  · obtain ⟨a, s, f, rfl, ha, hs, hf, k⟩ := h
    refine ⟨_, (pss_cons (ps_asg (pv 0) (pg_tup (by rfl) (pgs_cons (pg_name (i := 2) sc_enlarged.nd rfl (Or.inl rfl)) (pgs_cons (pg_name (i := 3) sc_enlarged.nd rfl (Or.inl rfl)) (pgs_cons (pg_name (i := 4) sc_enlarged.nd rfl (Or.inl rfl)) (pgs_cons (pg_name (i := 5) sc_enlarged.nd rfl (Or.inl rfl)) (pgs_cons (pg_name (i := 6) sc_enlarged.nd rfl (Or.inl rfl)) pgs_nil)))))))
    (pss_one (ps_ret (pe_tup (pa_cons (pe_op op_mulW (pv 2) (pv 1)) (pa_cons (pe_op op_mulW (pv 3) (pv 1)) (pa_cons (pe_op op_mulW (pv 4) (pv 1)) (pa_cons (pe_op op_mulW (pv 5) (pv 1)) pa_nil)))))))), ?_⟩
    refine ⟨_, rfl, _, _, rfl, .inl (.inl ha), rfl, ?_⟩
    refine ⟨_, _, rfl, _, _, rfl, _, _, rfl, _, _, rfl, _, _, rfl, rfl, ?_⟩
    refine ⟨_, rfl, _, rfl, _, _, rfl, rfl, wmB hs.ax hf (by decide) (by decide), _, rfl, _, rfl, _, _, rfl, rfl, wmB hs.ay hf (by decide) (by decide), _, rfl, _, rfl, _, _, rfl, rfl, wmB hs.bx hf (by decide) (by decide), _, rfl, _, rfl, _, _, rfl, rfl, wmB hs.bw hf (by decide) (by decide), szOk rfl, fun p hp => ?_⟩
    exact k p hp

abbrev s_turn : Stmt := top 10
theorem sc_turn : FnScope ["segment", "x", "y", "ax", "ay", "bx", "by"] ["segment", "x", "y"] (defScope s_turn) := ⟨rfl, rfl, rfl, by decide +kernel, rfl, by decide +kernel, by decide +kernel⟩
theorem ok_turn {f : Addr} {fd : FuncData} (F : Fun K "_turn" "_turn" s_turn f fd) (T : TxtA mg) : FnOk P w K mg base CX0 1 f fd ["segment", "x", "y"] (spTurn) := by
  refine F.ok sc_turn (fun vs H Q E h => ?_) (fun cdv A outer s H vs Q E hr h => ?_)
  · obtain ⟨a, ax, ay, bx, bw, x, y, rfl, _⟩ := h
    rfl
  · obtain ⟨a, ax, ay, bx, bw, x, y, rfl, ha, h1, h2, h3, h4, h5, h6, k⟩ := h
    refine ⟨_, (pss_cons (ps_asg (pv 0) (pg_tup (by rfl) (pgs_cons (pg_name (i := 3) sc_turn.nd rfl (Or.inl rfl)) (pgs_cons (pg_name (i := 4) sc_turn.nd rfl (Or.inl rfl)) (pgs_cons (pg_name (i := 5) sc_turn.nd rfl (Or.inl rfl)) (pgs_cons (pg_name (i := 6) sc_turn.nd rfl (Or.inl rfl)) pgs_nil))))))
    (pss_one (ps_ret (pe_op op_sub (pe_op op_mulW (pe_op op_sub (pv 5) (pv 3)) (pe_op op_sub (pv 2) (pv 4))) (pe_op op_mulW (pe_op op_sub (pv 6) (pv 4)) (pe_op op_sub (pv 1) (pv 3))))))), ?_⟩
    refine ⟨_, rfl, _, _, rfl, .inl (.inl ha), rfl, ?_⟩
    refine ⟨_, _, rfl, _, _, rfl, _, _, rfl, _, _, rfl, rfl, ?_⟩
    exact ⟨_, rfl, _, rfl, _, _, rfl, rfl, _, rfl, _, rfl, _, _, rfl, rfl, _, _, rfl, rfl, wmB (h3.sub h1) (h6.sub h2) (by decide) (by decide), _, rfl, _, rfl, _, _, rfl, rfl, _, rfl, _, rfl, _, _, rfl, rfl, _, _, rfl, rfl, wmB (h4.sub h2) (h5.sub h1) (by decide) (by decide), _, _, rfl, rfl, k⟩

abbrev s_parted : Stmt := top 9
theorem sc_parted : FnScope ["segment", "ends"] ["segment", "ends"] (defScope s_parted) := ⟨rfl, rfl, rfl, by decide +kernel, rfl, by decide +kernel, by decide +kernel⟩
theorem ok_parted {f : Addr} {fd : FuncData} (F : Fun K "_parted" "_parted" s_parted f fd) (T : TxtA mg)
    (D_turn : Def P w K mg base 1 "_turn" ["segment", "x", "y"] (spTurn)) : FnOk P w K mg base CX0 2 f fd ["segment", "ends"] (spParted) := by
  refine F.ok sc_parted (fun vs H Q E h => ?_) (fun cdv A outer s H vs Q E hr h => ?_)
  · obtain ⟨a, b, ax, ay, bx, bw, cx, cy, dx, dy, rfl, _⟩ := h
    rfl
  · obtain ⟨a, b, ax, ay, bx, bw, cx, cy, dx, dy, rfl, ha, hb, hz, k⟩ := h
    refine ⟨_, (pss_one (ps_ret (pe_cmpR op_lt (pe_op op_mulW (pe_def D_turn (hr.mono (by decide)) (by rfl) (pa_cons (pv 0) (pa_cons (pe_ix (r := rIxT K) ix_tup (pv 1) pe_int (fun _ _ => rfl)) (pa_cons (pe_ix (r := rIxT K) ix_tup (pv 1) pe_int (fun _ _ => rfl)) pa_nil)))) (pe_def D_turn (hr.mono (by decide)) (by rfl) (pa_cons (pv 0) (pa_cons (pe_ix (r := rIxT K) ix_tup (pv 1) pe_int (fun _ _ => rfl)) (pa_cons (pe_ix (r := rIxT K) ix_tup (pv 1) pe_int (fun _ _ => rfl)) pa_nil))))) pe_int (nomark _)))), ?_⟩
    have B := fun z (m : z ∈ [ax, ay, bx, bw, cx, cy, dx, dy]) => hz z m
    refine ⟨_, rfl, _, rfl, _, _, _, _, rfl, rfl, (.inl (.inl hb)), rfl, _, rfl, _, _, _, _, rfl, rfl, (.inl (.inl hb)), rfl, ?_⟩
    refine ⟨a, ax, ay, bx, bw, cx, cy, rfl, ha, B _ (by simp), B _ (by simp), B _ (by simp), B _ (by simp), B _ (by simp), B _ (by simp), ?_⟩
    refine ⟨_, rfl, _, rfl, _, _, _, _, rfl, rfl, (.inl (.inl hb)), rfl, _, rfl, _, _, _, _, rfl, rfl, (.inl (.inl hb)), rfl, ?_⟩
    refine ⟨a, ax, ay, bx, bw, dx, dy, rfl, ha, B _ (by simp), B _ (by simp), B _ (by simp), B _ (by simp), B _ (by simp), B _ (by simp), ?_⟩
    have tb : ∀ x y, BdN 300 x → BdN 300 y → BdN 603 (trn ax ay bx bw x y) := fun x y h5 h6 => (((B bx (by simp)).sub (B ax (by simp))).mul (h6.sub (B ay (by simp)))).sub (((B bw (by simp)).sub (B ay (by simp))).mul (h5.sub (B ax (by simp))))
    exact ⟨_, _, rfl, rfl, wmB (tb _ _ (B _ (by simp)) (B _ (by simp))) (tb _ _ (B _ (by simp)) (B _ (by simp))) (by decide) (by decide), _, _, rfl, rfl, k⟩

abbrev s_cross : Stmt := top 8
theorem sc_cross : FnScope ["first", "second"] ["first", "second"] (defScope s_cross) := ⟨rfl, rfl, rfl, by decide +kernel, rfl, by decide +kernel, by decide +kernel⟩
theorem ok_cross {f : Addr} {fd : FuncData} (F : Fun K "_cross" "_cross" s_cross f fd) (T : TxtA mg)
    (D_parted : Def P w K mg base 2 "_parted" ["segment", "ends"] (spParted)) : FnOk P w K mg base CX0 3 f fd ["first", "second"] (spCross) := by
  refine F.ok sc_cross (fun vs H Q E h => ?_) (fun cdv A outer s H vs Q E hr h => ?_)
  · obtain ⟨a, b, ax, ay, bx, bw, cx, cy, dx, dy, rfl, _⟩ := h
    rfl
  · obtain ⟨a, b, ax, ay, bx, bw, cx, cy, dx, dy, rfl, ha, hb, hz, k⟩ := h
    refine ⟨_, (pss_one (ps_ret (pe_and (pe_def D_parted (hr.mono (by decide)) (by rfl) (pa_cons (pv 0) (pa_cons (pv 1) pa_nil))) (pe_one (pe_def D_parted (hr.mono (by decide)) (by rfl) (pa_cons (pv 1) (pa_cons (pv 0) pa_nil))))))), ?_⟩
    refine ⟨_, rfl, _, rfl, a, b, ax, ay, bx, bw, cx, cy, dx, dy, rfl, ha, hb, hz, _, rfl, ?_⟩
    have k : Q (.bl (decide (trn ax ay bx bw cx cy * trn ax ay bx bw dx dy < 0) && decide (trn cx cy dx dy ax ay * trn cx cy dx dy bx bw < 0))) H := k
    by_cases c : trn ax ay bx bw cx cy * trn ax ay bx bw dx dy < 0
    · rw [decide_eq_true c] at k ⊢
      refine iteT ⟨_, rfl, _, rfl, b, a, cx, cy, dx, dy, ax, ay, bx, bw, rfl, hb, ha, (fun z m => hz z ?_), ?_⟩
      · simp only [List.mem_cons, List.not_mem_nil, or_false] at m ⊢
        rcases m with m | m | m | m | m | m | m | m <;> simp [m]
      · rw [Bool.true_and] at k
        exact k
    · rw [decide_eq_false c] at k ⊢
      exact iteF k

abbrev s_square : Stmt := top 11
theorem sc_square : FnScope ["x", "y", "segment", "ax", "ay", "bx", "by", "dx", "dy", "along", "length", "aside"] ["x", "y", "segment"] (defScope s_square) := ⟨rfl, rfl, rfl, by decide +kernel, rfl, by decide +kernel, by decide +kernel⟩
theorem ok_square {f : Addr} {fd : FuncData} (F : Fun K "_square" "_square" s_square f fd) (T : TxtA mg)
    (D_turn : Def P w K mg base 1 "_turn" ["segment", "x", "y"] (spTurn)) : FnOk P w K mg base CX0 2 f fd ["x", "y", "segment"] (spSquare) := by
  refine F.ok sc_square (fun vs H Q E h => ?_) (fun cdv A outer s H vs Q E hr h => ?_)
  · obtain ⟨a, ax, ay, bx, bw, x, y, rfl, _⟩ := h
    rfl
  · obtain ⟨a, ax, ay, bx, bw, x, y, rfl, ha, h1, h2, h3, h4, h5, h6, k⟩ := h
    refine ⟨_, (pss_cons (ps_asg (pv 2) (pg_tup (by rfl) (pgs_cons (pg_name (i := 3) sc_square.nd rfl (Or.inl rfl)) (pgs_cons (pg_name (i := 4) sc_square.nd rfl (Or.inl rfl)) (pgs_cons (pg_name (i := 5) sc_square.nd rfl (Or.inl rfl)) (pgs_cons (pg_name (i := 6) sc_square.nd rfl (Or.inl rfl)) pgs_nil))))))
    (pss_cons (ps_par (i := 7) (j := 8) (by rfl) sc_square.nd rfl rfl (by decide) rfl rfl (pa_cons (pe_op op_sub (pv 5) (pv 3)) (pa_cons (pe_op op_sub (pv 6) (pv 4)) pa_nil)) (by rfl))
    (pss_cons (ps_set (i := 9) sc_square.nd rfl (Or.inl rfl) (pe_op op_add (pe_op op_mulW (pe_op op_sub (pv 0) (pv 3)) (pv 7)) (pe_op op_mulW (pe_op op_sub (pv 1) (pv 4)) (pv 8))))
    (pss_cons (ps_set (i := 10) sc_square.nd rfl (Or.inl rfl) (pe_op op_add (pe_op op_mulW (pv 7) (pv 7)) (pe_op op_mulW (pv 8) (pv 8))))
    (pss_cons (ps_if (pt_cmpR op_le (pv 9) pe_int (nomark _)) (pss_one (ps_ret (pe_tup (pa_cons (pe_op op_add (pe_op op_mulW (pe_op op_sub (pv 0) (pv 3)) (pe_op op_sub (pv 0) (pv 3))) (pe_op op_mulW (pe_op op_sub (pv 1) (pv 4)) (pe_op op_sub (pv 1) (pv 4)))) (pa_cons pe_int pa_nil)))))
      pss_nil)
    (pss_cons (ps_if (pt_cmpR op_ge (pv 9) (pv 10) (nomark _)) (pss_one (ps_ret (pe_tup (pa_cons (pe_op op_add (pe_op op_mulW (pe_op op_sub (pv 0) (pv 5)) (pe_op op_sub (pv 0) (pv 5))) (pe_op op_mulW (pe_op op_sub (pv 1) (pv 6)) (pe_op op_sub (pv 1) (pv 6)))) (pa_cons pe_int pa_nil)))))
      pss_nil)
    (pss_cons (ps_set (i := 11) sc_square.nd rfl (Or.inl rfl) (pe_def D_turn (hr.mono (by decide)) (by rfl) (pa_cons (pv 2) (pa_cons (pv 0) (pa_cons (pv 1) pa_nil)))))
    (pss_one (ps_ret (pe_tup (pa_cons (pe_op op_mulW (pv 11) (pv 11)) (pa_cons (pv 10) pa_nil)))))))))))), ?_⟩
    refine ⟨_, rfl, _, _, rfl, .inl (.inl ha), rfl, ?_⟩
    refine ⟨_, _, rfl, _, _, rfl, _, _, rfl, _, _, rfl, rfl, ?_⟩
    refine ⟨_, rfl, _, rfl, _, _, rfl, rfl, _, rfl, _, rfl, _, _, rfl, rfl, _, _, rfl, ?_⟩
    refine ⟨_, rfl, _, rfl, _, _, rfl, rfl, _, rfl, _, _, rfl, rfl, wmB (h5.sub h1) (h3.sub h1) (by decide) (by decide), _, rfl, _, rfl, _, _, rfl, rfl, _, rfl, _, _, rfl, rfl, wmB (h6.sub h2) (h4.sub h2) (by decide) (by decide), _, _, rfl, rfl, ?_⟩
    refine ⟨_, rfl, _, rfl, _, _, rfl, rfl, wmB (h3.sub h1) (h3.sub h1) (by decide) (by decide), _, rfl, _, rfl, _, _, rfl, rfl, wmB (h4.sub h2) (h4.sub h2) (by decide) (by decide), _, _, rfl, rfl, ?_⟩
    refine ⟨_, rfl, _, _, rfl, rfl, _, rfl, ?_⟩
    unfold sqr at k
    by_cases c1 : (x - ax) * (bx - ax) + (y - ay) * (bw - ay) ≤ 0
    · rw [if_pos c1] at k
      refine ifY c1 ?_
      refine ⟨_, rfl, _, rfl, _, _, rfl, rfl, _, rfl, _, rfl, _, _, rfl, rfl, _, _, rfl, rfl, wmB (h5.sub h1) (h5.sub h1) (by decide) (by decide), _, rfl, _, rfl, _, _, rfl, rfl, _, rfl, _, rfl, _, _, rfl, rfl, _, _, rfl, rfl, wmB (h6.sub h2) (h6.sub h2) (by decide) (by decide), _, _, rfl, rfl, szOk rfl, fun p hp => ?_⟩
      exact k p hp
    rw [if_neg c1] at k
    refine ifN c1 ?_
    refine ⟨_, rfl, _, rfl, _, _, rfl, rfl, _, rfl, ?_⟩
    by_cases c2 : (bx - ax) * (bx - ax) + (bw - ay) * (bw - ay) ≤ (x - ax) * (bx - ax) + (y - ay) * (bw - ay)
    · rw [if_pos c2] at k
      refine ifY c2 ?_
      refine ⟨_, rfl, _, rfl, _, _, rfl, rfl, _, rfl, _, rfl, _, _, rfl, rfl, _, _, rfl, rfl, wmB (h5.sub h3) (h5.sub h3) (by decide) (by decide), _, rfl, _, rfl, _, _, rfl, rfl, _, rfl, _, rfl, _, _, rfl, rfl, _, _, rfl, rfl, wmB (h6.sub h4) (h6.sub h4) (by decide) (by decide), _, _, rfl, rfl, szOk rfl, fun p hp => ?_⟩
      exact k p hp
    rw [if_neg c2] at k
    refine ifN c2 ?_
    refine ⟨_, rfl, _, rfl, _, rfl, a, ax, ay, bx, bw, x, y, rfl, ha, h1, h2, h3, h4, h5, h6, ?_⟩
    have tb : BdN 603 (trn ax ay bx bw x y) := ((h3.sub h1).mul (h6.sub h2)).sub ((h4.sub h2).mul (h5.sub h1))
    refine ⟨_, rfl, _, rfl, _, _, rfl, rfl, wmB tb tb (by decide) (by decide), _, rfl, szOk rfl, fun p hp => ?_⟩
    exact k p hp

abbrev s_squares : Stmt := top 6
theorem sc_squares : FnScope ["first", "second", "ax", "ay", "bx", "by", "cx", "cy", "dx", "dy"] ["first", "second"] (defScope s_squares) := ⟨rfl, rfl, rfl, by decide +kernel, rfl, by decide +kernel, by decide +kernel⟩
theorem ok_squares {f : Addr} {fd : FuncData} (F : Fun K "_squares" "_squares" s_squares f fd) (T : TxtA mg)
    (D_enlarged : Def P w K mg base 1 "_enlarged" ["segment", "factor"] (spEnl))
    (D_cross : Def P w K mg base 3 "_cross" ["first", "second"] (spCross))
    (D_square : Def P w K mg base 2 "_square" ["x", "y", "segment"] (spSquare)) : FnOk P w K mg base CX0 4 f fd ["first", "second"] (spSquares) := by
  refine F.ok sc_squares (fun vs H Q E h => ?_) (fun cdv A outer s H vs Q E hr h => ?_)
  · obtain ⟨a, b, s, t, rfl, _⟩ := h
    rfl
  · obtain ⟨a, b, s, t, rfl, ha, hb, hs, ht, k⟩ := h
    refine ⟨_, (pss_cons (ps_asg (pe_def D_enlarged (hr.mono (by decide)) (by rfl) (pa_cons (pv 0) (pa_cons (pe_ix (r := rIxT K) ix_tup (pv 1) pe_int (fun _ _ => rfl)) pa_nil))) (pg_tup (by rfl) (pgs_cons (pg_name (i := 2) sc_squares.nd rfl (Or.inl rfl)) (pgs_cons (pg_name (i := 3) sc_squares.nd rfl (Or.inl rfl)) (pgs_cons (pg_name (i := 4) sc_squares.nd rfl (Or.inl rfl)) (pgs_cons (pg_name (i := 5) sc_squares.nd rfl (Or.inl rfl)) pgs_nil))))))
    (pss_cons (ps_asg (pe_def D_enlarged (hr.mono (by decide)) (by rfl) (pa_cons (pv 1) (pa_cons (pe_ix (r := rIxT K) ix_tup (pv 0) pe_int (fun _ _ => rfl)) pa_nil))) (pg_tup (by rfl) (pgs_cons (pg_name (i := 6) sc_squares.nd rfl (Or.inl rfl)) (pgs_cons (pg_name (i := 7) sc_squares.nd rfl (Or.inl rfl)) (pgs_cons (pg_name (i := 8) sc_squares.nd rfl (Or.inl rfl)) (pgs_cons (pg_name (i := 9) sc_squares.nd rfl (Or.inl rfl)) pgs_nil))))))
    (pss_cons (ps_if (pt_val (pe_def D_cross (hr.mono (by decide)) (by rfl) (pa_cons (pe_tup (pa_cons (pv 2) (pa_cons (pv 3) (pa_cons (pv 4) (pa_cons (pv 5) pa_nil))))) (pa_cons (pe_tup (pa_cons (pv 6) (pa_cons (pv 7) (pa_cons (pv 8) (pa_cons (pv 9) pa_nil))))) pa_nil)))) (pss_one (ps_ret (pe_lst (pa_cons (pe_tup (pa_cons pe_int (pa_cons pe_int pa_nil))) pa_nil))))
      pss_nil)
    (pss_one (ps_ret (pe_lst (pa_cons (pe_def D_square (hr.mono (by decide)) (by rfl) (pa_cons (pv 2) (pa_cons (pv 3) (pa_cons (pe_tup (pa_cons (pv 6) (pa_cons (pv 7) (pa_cons (pv 8) (pa_cons (pv 9) pa_nil))))) pa_nil)))) (pa_cons (pe_def D_square (hr.mono (by decide)) (by rfl) (pa_cons (pv 4) (pa_cons (pv 5) (pa_cons (pe_tup (pa_cons (pv 6) (pa_cons (pv 7) (pa_cons (pv 8) (pa_cons (pv 9) pa_nil))))) pa_nil)))) (pa_cons (pe_def D_square (hr.mono (by decide)) (by rfl) (pa_cons (pv 6) (pa_cons (pv 7) (pa_cons (pe_tup (pa_cons (pv 2) (pa_cons (pv 3) (pa_cons (pv 4) (pa_cons (pv 5) pa_nil))))) pa_nil)))) (pa_cons (pe_def D_square (hr.mono (by decide)) (by rfl) (pa_cons (pv 8) (pa_cons (pv 9) (pa_cons (pe_tup (pa_cons (pv 2) (pa_cons (pv 3) (pa_cons (pv 4) (pa_cons (pv 5) pa_nil))))) pa_nil)))) pa_nil)))))))))), ?_⟩
    have e1 : ∀ {x y : Int}, BdN 200 x → BdN 100 y → BdN 300 (x * y) := fun h h' => h.mul h'
    refine ⟨_, rfl, _, rfl, _, _, _, _, rfl, rfl, (.inl (.inl hb)), rfl, a, s, t.d, rfl, ha, hs, ht.d, fun p1 hp1 => ?_⟩
    have s1 := same_new (o := .tup [.int (s.ax * t.d), .int (s.ay * t.d), .int (s.bx * t.d), .int (s.bw * t.d)]) hp1
    refine ⟨_, _, rfl, .inl (.inl upd_same), rfl, ?_⟩
    refine ⟨_, _, rfl, _, _, rfl, _, _, rfl, _, _, rfl, rfl, ?_⟩
    refine ⟨_, rfl, _, rfl, _, _, _, _, rfl, rfl, (.inl (.inl (s1 _ _ ha))), rfl, b, t, s.d, rfl, s1 _ _ hb, ht, hs.d, fun p2 hp2 => ?_⟩
    have s2 := s1.trans (same_new (o := .tup [.int (t.ax * s.d), .int (t.ay * s.d), .int (t.bx * s.d), .int (t.bw * s.d)]) hp2)
    refine ⟨_, _, rfl, .inl (.inl upd_same), rfl, ?_⟩
    refine ⟨_, _, rfl, _, _, rfl, _, _, rfl, _, _, rfl, rfl, ?_⟩
    refine ⟨_, rfl, _, rfl, _, rfl, _, rfl, szOk rfl, fun p3 hp3 => ?_⟩
    have s3 := s2.trans (same_new (o := .tup [.int (s.ax * t.d), .int (s.ay * t.d), .int (s.bx * t.d), .int (s.bw * t.d)]) hp3)
    refine ⟨_, rfl, _, rfl, _, rfl, _, rfl, szOk rfl, fun p4 hp4 => ?_⟩
    have s4 := s3.trans (same_new (o := .tup [.int (t.ax * s.d), .int (t.ay * s.d), .int (t.bx * s.d), .int (t.bw * s.d)]) hp4)
    have b1 := e1 hs.ax ht.d; have b2 := e1 hs.ay ht.d; have b3 := e1 hs.bx ht.d; have b4 := e1 hs.bw ht.d
    have c1 := e1 ht.ax hs.d; have c2 := e1 ht.ay hs.d; have c3 := e1 ht.bx hs.d; have c4 := e1 ht.bw hs.d
    refine ⟨p3, p4, s.ax * t.d, s.ay * t.d, s.bx * t.d, s.bw * t.d, t.ax * s.d, t.ay * s.d, t.bx * s.d, t.bw * s.d, rfl, ?_, upd_same, (fun z m => ?_), _, rfl, ?_⟩
    · rw [upd_ne (ne_of_none (o := .tup [.int (s.ax * t.d), .int (s.ay * t.d), .int (s.bx * t.d), .int (s.bw * t.d)]) upd_same hp4)]
      exact upd_same
    · simp only [List.mem_cons, List.not_mem_nil, or_false] at m
      rcases m with rfl | rfl | rfl | rfl | rfl | rfl | rfl | rfl <;> assumption
    by_cases c : crs (s.ax * t.d) (s.ay * t.d) (s.bx * t.d) (s.bw * t.d) (t.ax * s.d) (t.ay * s.d) (t.bx * s.d) (t.bw * s.d) = true
    · rw [c]
      refine iteT ⟨szOk rfl, fun p5 hp5 => ⟨szOk rfl, fun p6 hp6 => ?_⟩⟩
      have s5 := s4.trans (same_new (o := .tup [.int 0, .int 1]) hp5)
      have s6 := s5.trans (same_new (o := .lst [.ref p5]) hp6)
      refine k p6 _ _ s6 upd_same ?_
      unfold segSqs sqs
      rw [if_pos c]
      refine ⟨rfl, fun i tt ht => ?_⟩
      match i, ht with
      | 0, ht =>
        cases ht
        exact ⟨p5, rfl, by rw [upd_ne (ne_of_none (o := .tup [.int 0, .int 1]) upd_same hp6)]; exact upd_same⟩
    · have c' : crs (s.ax * t.d) (s.ay * t.d) (s.bx * t.d) (s.bw * t.d) (t.ax * s.d) (t.ay * s.d) (t.bx * s.d) (t.bw * s.d) = false := by simpa using c
      rw [c']
      refine iteF ?_
      refine ⟨_, rfl, _, rfl, _, rfl, _, rfl, _, rfl, _, rfl, szOk rfl, fun q1 hq1 => ?_⟩
      have t1 := s4.trans (same_new (o := .tup [.int (t.ax * s.d), .int (t.ay * s.d), .int (t.bx * s.d), .int (t.bw * s.d)]) hq1)
      refine ⟨q1, _, _, _, _, _, _, rfl, upd_same, c1, c2, c3, c4, b1, b2, fun r1 hr1 => ?_⟩
      refine ⟨_, rfl, _, rfl, _, rfl, _, rfl, _, rfl, _, rfl, szOk rfl, fun q2 hq2 => ?_⟩
      refine ⟨q2, _, _, _, _, _, _, rfl, upd_same, c1, c2, c3, c4, b3, b4, fun r2 hr2 => ?_⟩
      refine ⟨_, rfl, _, rfl, _, rfl, _, rfl, _, rfl, _, rfl, szOk rfl, fun q3 hq3 => ?_⟩
      refine ⟨q3, _, _, _, _, _, _, rfl, upd_same, b1, b2, b3, b4, c1, c2, fun r3 hr3 => ?_⟩
      refine ⟨_, rfl, _, rfl, _, rfl, _, rfl, _, rfl, _, rfl, szOk rfl, fun q4 hq4 => ?_⟩
      refine ⟨q4, _, _, _, _, _, _, rfl, upd_same, b1, b2, b3, b4, c3, c4, fun r4 hr4 => ?_⟩
      refine ⟨szOk rfl, fun l hl => ?_⟩
      -- what stood stands
      have kp : ∀ {H0 : Hp} {p q : Addr} {o o' : HO}, H0 p = some o → H0 q = none → upd H0 q o' p = some o := fun h n => by rw [upd_ne (ne_of_none h n)]; exact h
      have a1 := kp (o' := .lst [.ref r1, .ref r2, .ref r3, .ref r4]) (kp (kp (kp (kp (kp (kp upd_same hq2) hr2) hq3) hr3) hq4) hr4) hl
      have a2 := kp (o' := .lst [.ref r1, .ref r2, .ref r3, .ref r4]) (kp (kp (kp (kp upd_same hq3) hr3) hq4) hr4) hl
      have a3 := kp (o' := .lst [.ref r1, .ref r2, .ref r3, .ref r4]) (kp (kp upd_same hq4) hr4) hl
      have a4 := kp (o' := .lst [.ref r1, .ref r2, .ref r3, .ref r4]) upd_same hl
      refine k l _ _ (fun b o e => kp (kp (kp (kp (kp (kp (kp (kp (t1 b o e) hr1) hq2) hr2) hq3) hr3) hq4) hr4) hl) upd_same ?_
      unfold segSqs sqs
      rw [if_neg c]
      refine ⟨rfl, fun i tt ht => ?_⟩
      match i, ht with
      | 0, ht => cases ht; exact ⟨r1, rfl, a1⟩
      | 1, ht => cases ht; exact ⟨r2, rfl, a2⟩
      | 2, ht => cases ht; exact ⟨r3, rfl, a3⟩
      | 3, ht => cases ht; exact ⟨r4, rfl, a4⟩

abbrev s_closer : Stmt := top 4
theorem sc_closer : FnScope ["first", "second", "limit", "reach", "top", "bottom"] ["first", "second", "limit"] (defScope s_closer) := ⟨rfl, rfl, rfl, by decide +kernel, rfl, by decide +kernel, by decide +kernel⟩
theorem ok_closer {f tc tp : Addr} {fd : FuncData} {TT : List Addr} (F : Fun K "closer" "closer" s_closer f fd) (T : TxtA mg) (hc : fd.code = .ref tc) (TB : LamX.TabB base mg tc tp) (hP : tp ∈ TT)
    (D_squares : Def P w K mg base 4 "_squares" ["first", "second"] (spSquares)) : FnOk P w K mg base CX0 5 f fd ["first", "second", "limit"] (spCloser TT) := by
  refine okT F hc sc_closer (fun vs H Q E h => ?_) (fun A outer s H vs Q E hr h => ?_)
  · obtain ⟨a, b, s, t, l, rfl, _⟩ := h
    rfl
  · obtain ⟨a, b, s, t, l, rfl, ha, hb, hs, ht, hl, hT, k⟩ := h
    refine ⟨_, (pss_cons (ps_if (pt_cmpR op_le (pv 2) pe_int (nomark _)) (pss_one (ps_ret pe_bl))
      pss_nil)
    (pss_cons (ps_set (i := 3) sc_closer.nd rfl (Or.inr rfl) (pe_op op_mulW (pe_op op_mulW (pv 2) (pe_ix (r := rIxT K) ix_tup (pv 0) pe_int (fun _ _ => rfl))) (pe_ix (r := rIxT K) ix_tup (pv 1) pe_int (fun _ _ => rfl))))
    (pss_one (ps_ret (pe_anyG (k := 0) (own := [("top", 4), ("bottom", 5)]) (g := (gTup K 2 (gCons (gName 4) (gCons (gName 5) gNil)))) (hr.mono (by decide)) sc_closer.nd (by rfl) T.any TB rfl (gscp_by (by decide +kernel)) (blkOk_by (own := [("top", 4), ("bottom", 5)]) (N := ["first", "second", "limit", "reach", "top", "bottom"]) (sc := defScope s_closer) (by decide +kernel)) (pi_list (pe_def D_squares (hr.mono (by decide)) (by rfl) (pa_cons (pv 0) (pa_cons (pv 1) pa_nil)))) (fun _ _ _ _ _ _ _ r => (pg_tup (by rfl) (pgs_cons (pg_name (i := 4) sc_closer.nd rfl (Or.inl rfl)) (pgs_cons (pg_name (i := 5) sc_closer.nd rfl (Or.inl rfl)) pgs_nil)))) (fun _ _ _ _ _ _ _ r => pts_nil) (fun _ _ _ _ _ _ _ r => (pe_cmpR op_lt (pv 4) (pe_op op_mulW (pe_op op_mulW (pv 3) (pv 3)) (pv 5)) (nomark _)))))))), ?_⟩
    refine ⟨_, rfl, _, _, rfl, rfl, _, rfl, ?_⟩
    unfold clo at k
    by_cases c : l ≤ 0
    · rw [if_pos c] at k
      exact ifY c (k H (SameT.refl TT H))
    rw [if_neg c] at k
    refine ifN c ?_
    refine ⟨_, rfl, _, rfl, _, _, _, _, rfl, rfl, (.inl (.inl ha)), rfl, _, _, rfl, rfl, wmB hl hs.d (by decide) (by decide), _, rfl, _, _, _, _, rfl, rfl, (.inl (.inl hb)), rfl, _, _, rfl, rfl, wmB (hl.mul hs.d) ht.d (by decide) (by decide), ?_⟩
    have hr3 : BdN 300 (l * s.d * t.d) := (hl.mul hs.d).mul ht.d
    refine nm ?_
    dsimp only
    generalize l * s.d * t.d = r at hr3 k ⊢
    refine ⟨_, rfl, _, rfl, a, b, s, t, rfl, ha, hb, hs, ht, fun p H1 xs s1 hl1 hp1 => ?_⟩
    have hT1 : Tabs TT H1 := Same.tabs s1 hT
    refine ⟨_, rfl, ⟨xs, .inl (.inl hl1)⟩, hT1 tp hP, fun H2 tb => ?_⟩
    have s2 : SameT TT H1 H2 := SameT.tabbed hP tb
    have l2 := s2.l hT1 hl1
    have st : SameT TT H H2 := (SameT.of s1).trans s2
    have k : ∀ b : Bool, b = (segSqs s t).any (fun u => decide (u.1 < r * r * u.2)) → Q (.bl b) H2 := fun b e => by
      rw [e]
      exact k H2 st
    have bdp : ∀ u ∈ segSqs s t, BdN 1300 u.2 := fun u hu => segSqs_bd hs ht u hu
    refine till_list (K := K) (a := p) (xs := xs) (fun i H' => H' = H2 ∧ ∀ u ∈ (segSqs s t).take i, ¬ u.1 < r * r * u.2) ⟨rfl, by simp⟩ (fun i H' _ h => by rw [h.1]; exact .inl (.inl l2)) (fun i x H' hx h => ?_) (fun H' h => ?_)
    · obtain ⟨rfl, hn⟩ := h
      have hil := (List.getElem?_eq_some_iff.mp hx).1
      have hil2 : i < (segSqs s t).length := by rw [← hp1.1]; exact hil
      obtain ⟨q, e1, e2⟩ := hp1.2 i (segSqs s t)[i] (by simp [hil2])
      rw [hx] at e1
      cases e1
      have e3 := s2.t hT1 e2
      refine ⟨_, _, rfl, .inl (.inl e3), rfl, ?_⟩
      refine ⟨_, _, rfl, _, _, rfl, rfl, ?_⟩
      refine ⟨rfl, yes_if ?_⟩
      have bp : BdN 1300 (segSqs s t)[i].2 := bdp _ (List.getElem_mem hil2)
      refine ⟨_, rfl, _, rfl, _, rfl, _, _, rfl, rfl, wmB hr3 hr3 (by decide) (by decide), _, rfl, _, _, rfl, rfl, wmB (hr3.mul hr3) bp (by decide) (by decide), _, _, rfl, rfl, _, rfl, ?_⟩
      by_cases c2 : (segSqs s t)[i].1 < r * r * (segSqs s t)[i].2
      · rw [decide_eq_true c2]
        refine (if_pos rfl).mpr (k true ?_)
        symm
        exact List.any_eq_true.mpr ⟨_, List.getElem_mem hil2, decide_eq_true c2⟩
      · rw [decide_eq_false c2]
        refine (if_neg Bool.false_ne_true).mpr ⟨rfl, fun u hu => ?_⟩
        rw [List.take_add_one, List.mem_append] at hu
        rcases hu with hu | hu
        · exact hn u hu
        · rw [List.getElem?_eq_getElem hil2] at hu
          obtain rfl : u = (segSqs s t)[i] := by simpa using hu
          exact c2
    · obtain ⟨rfl, hn⟩ := h
      rw [hp1.1, List.take_length] at hn
      refine k false ?_
      symm
      exact List.any_eq_false.mpr fun u hu => by simpa using hn u hu

end
end Sk

set_option Elab.async false
set_option linter.all false
set_option maxRecDepth 100000
set_option maxHeartbeats 4000000
namespace Sk
open PySem PySem.Spec PyProof.Rows L2
/-! ### promises of the law's own plane -/
def spIsB : Sp := fun vs H Q _ => ∃ a b : Bool, vs = [.bl a, .bl b] ∧ Q (.bl (decide (a = b))) H
def T2 (x y : Int) : HO := .tup [.int x, .int y]
def spLCross : Sp := fun vs H Q _ => ∃ (o a b : Addr) (ox oy ax ay bx bw : Int), vs = [.ref o, .ref a, .ref b] ∧ H o = some (.tup [.int ox, .int oy]) ∧ H a = some (.tup [.int ax, .int ay]) ∧ H b = some (.tup [.int bx, .int bw]) ∧ BdN 300 ox ∧ BdN 300 oy ∧ BdN 300 ax ∧ BdN 300 ay ∧ BdN 300 bx ∧ BdN 300 bw ∧ Q (.int (trn ox oy ax ay bx bw)) H
def spLDot : Sp := fun vs H Q _ => ∃ (o a b : Addr) (ox oy ax ay bx bw : Int), vs = [.ref o, .ref a, .ref b] ∧ H o = some (.tup [.int ox, .int oy]) ∧ H a = some (.tup [.int ax, .int ay]) ∧ H b = some (.tup [.int bx, .int bw]) ∧ BdN 300 ox ∧ BdN 300 oy ∧ BdN 300 ax ∧ BdN 300 ay ∧ BdN 300 bx ∧ BdN 300 bw ∧ Q (.int (dtp ox oy ax ay bx bw)) H
def spPtc : Sp := fun vs H Q _ => ∃ (p a b : Addr) (px py ax ay bx bw r2 : Int), vs = [.ref p, .ref a, .ref b, .int r2] ∧ H p = some (.tup [.int px, .int py]) ∧ H a = some (.tup [.int ax, .int ay]) ∧ H b = some (.tup [.int bx, .int bw]) ∧ BdN 300 px ∧ BdN 300 py ∧ BdN 300 ax ∧ BdN 300 ay ∧ BdN 300 bx ∧ BdN 300 bw ∧ BdN 700 r2 ∧ Q (.bl (ptc px py ax ay bx bw r2)) H
def spLClo : Sp := fun vs H Q _ => ∃ (a b : Addr) (s t : Seg) (l : Int), vs = [.ref a, .ref b, .int l] ∧ H a = some s.tup ∧ H b = some t.tup ∧ SegBd 200 100 s ∧ SegBd 200 100 t ∧ BdN 100 l ∧ ∀ H', Same H H' → Q (.bl (lclo s t l)) H'
def spSegment (K : PySem.W.Frag) : Sp := fun vs H Q _ => ∃ (d c : Addr) (z : Int), vs = [.ref d, .int z] ∧ St1 K H d c ∧ 1 ≤ z ∧ z ≤ 1000000 ∧ ∀ p s H', St1 K H' d c → Keep d H H' → H' p = some s.tup → SegBd 20 10 s → 1 ≤ s.d → Q (.ref p) H'
theorem Keep.tabsS {K : PySem.W.Frag} {d c : Addr} {TT : List Addr} {H H' : Hp} (k : Keep d H H') (S : St1 K H d c) (t : Tabs TT H) : Tabs TT H' := let ⟨_, e⟩ := S.dk; Keep.tabs k e t
section
variable {P : Program} {w : World} {K : PySem.W.Frag} {mg : Str → Option Value} {base : Heap}
abbrev s_law_cross : Stmt := top 17
theorem sc_law_cross : FnScope ["o", "a", "b"] ["o", "a", "b"] (defScope s_law_cross) := ⟨rfl, rfl, rfl, by decide +kernel, rfl, by decide +kernel, by decide +kernel⟩
theorem ok_law_cross {f : Addr} {fd : FuncData} (F : Fun K "_law_cross" "_law_cross" s_law_cross f fd) (T : TxtA mg) : FnOk P w K mg base CX0 1 f fd ["o", "a", "b"] (spLCross) := by
  refine F.ok sc_law_cross (fun vs H Q E h => ?_) (fun cdv A outer s H vs Q E hr h => ?_)
  · obtain ⟨o, a, b, _, _, _, _, _, _, rfl, _⟩ := h
    rfl
  · obtain ⟨o, a, b, ox, oy, ax, ay, bx, bw, rfl, h0, h1, h2, b1, b2, b3, b4, b5, b6, k⟩ := h
    refine ⟨_, (pss_one (ps_ret (pe_op op_sub (pe_op op_mulW (pe_op op_sub (pe_ix (r := rIxT K) ix_tup (pv 1) pe_int (fun _ _ => rfl)) (pe_ix (r := rIxT K) ix_tup (pv 0) pe_int (fun _ _ => rfl))) (pe_op op_sub (pe_ix (r := rIxT K) ix_tup (pv 2) pe_int (fun _ _ => rfl)) (pe_ix (r := rIxT K) ix_tup (pv 0) pe_int (fun _ _ => rfl)))) (pe_op op_mulW (pe_op op_sub (pe_ix (r := rIxT K) ix_tup (pv 1) pe_int (fun _ _ => rfl)) (pe_ix (r := rIxT K) ix_tup (pv 0) pe_int (fun _ _ => rfl))) (pe_op op_sub (pe_ix (r := rIxT K) ix_tup (pv 2) pe_int (fun _ _ => rfl)) (pe_ix (r := rIxT K) ix_tup (pv 0) pe_int (fun _ _ => rfl))))))), ?_⟩
    exact ⟨_, rfl, _, _, _, _, rfl, rfl, (.inl (.inl h1)), rfl, _, rfl, _, _, _, _, rfl, rfl, (.inl (.inl h0)), rfl, _, _, rfl, rfl, _, rfl, _, _, _, _, rfl, rfl, (.inl (.inl h2)), rfl, _, rfl, _, _, _, _, rfl, rfl, (.inl (.inl h0)), rfl, _, _, rfl, rfl, _, _, rfl, rfl, wmB (b3.sub b1) (b6.sub b2) (by decide) (by decide), _, rfl, _, _, _, _, rfl, rfl, (.inl (.inl h1)), rfl, _, rfl, _, _, _, _, rfl, rfl, (.inl (.inl h0)), rfl, _, _, rfl, rfl, _, rfl, _, _, _, _, rfl, rfl, (.inl (.inl h2)), rfl, _, rfl, _, _, _, _, rfl, rfl, (.inl (.inl h0)), rfl, _, _, rfl, rfl, _, _, rfl, rfl, wmB (b4.sub b2) (b5.sub b1) (by decide) (by decide), _, _, rfl, rfl, k⟩

abbrev s_law_dot : Stmt := top 18
theorem sc_law_dot : FnScope ["o", "a", "b"] ["o", "a", "b"] (defScope s_law_dot) := ⟨rfl, rfl, rfl, by decide +kernel, rfl, by decide +kernel, by decide +kernel⟩
theorem ok_law_dot {f : Addr} {fd : FuncData} (F : Fun K "_law_dot" "_law_dot" s_law_dot f fd) (T : TxtA mg) : FnOk P w K mg base CX0 1 f fd ["o", "a", "b"] (spLDot) := by
  refine F.ok sc_law_dot (fun vs H Q E h => ?_) (fun cdv A outer s H vs Q E hr h => ?_)
  · obtain ⟨o, a, b, _, _, _, _, _, _, rfl, _⟩ := h
    rfl
  · obtain ⟨o, a, b, ox, oy, ax, ay, bx, bw, rfl, h0, h1, h2, b1, b2, b3, b4, b5, b6, k⟩ := h
    refine ⟨_, (pss_one (ps_ret (pe_op op_add (pe_op op_mulW (pe_op op_sub (pe_ix (r := rIxT K) ix_tup (pv 1) pe_int (fun _ _ => rfl)) (pe_ix (r := rIxT K) ix_tup (pv 0) pe_int (fun _ _ => rfl))) (pe_op op_sub (pe_ix (r := rIxT K) ix_tup (pv 2) pe_int (fun _ _ => rfl)) (pe_ix (r := rIxT K) ix_tup (pv 0) pe_int (fun _ _ => rfl)))) (pe_op op_mulW (pe_op op_sub (pe_ix (r := rIxT K) ix_tup (pv 1) pe_int (fun _ _ => rfl)) (pe_ix (r := rIxT K) ix_tup (pv 0) pe_int (fun _ _ => rfl))) (pe_op op_sub (pe_ix (r := rIxT K) ix_tup (pv 2) pe_int (fun _ _ => rfl)) (pe_ix (r := rIxT K) ix_tup (pv 0) pe_int (fun _ _ => rfl))))))), ?_⟩
    exact ⟨_, rfl, _, _, _, _, rfl, rfl, (.inl (.inl h1)), rfl, _, rfl, _, _, _, _, rfl, rfl, (.inl (.inl h0)), rfl, _, _, rfl, rfl, _, rfl, _, _, _, _, rfl, rfl, (.inl (.inl h2)), rfl, _, rfl, _, _, _, _, rfl, rfl, (.inl (.inl h0)), rfl, _, _, rfl, rfl, _, _, rfl, rfl, wmB (b3.sub b1) (b5.sub b1) (by decide) (by decide), _, rfl, _, _, _, _, rfl, rfl, (.inl (.inl h1)), rfl, _, rfl, _, _, _, _, rfl, rfl, (.inl (.inl h0)), rfl, _, _, rfl, rfl, _, rfl, _, _, _, _, rfl, rfl, (.inl (.inl h2)), rfl, _, rfl, _, _, _, _, rfl, rfl, (.inl (.inl h0)), rfl, _, _, rfl, rfl, _, _, rfl, rfl, wmB (b4.sub b2) (b6.sub b2) (by decide) (by decide), _, _, rfl, rfl, k⟩

abbrev s_law_point_closer : Stmt := top 19
theorem sc_law_point_closer : FnScope ["p", "a", "b", "square", "long", "along", "area"] ["p", "a", "b", "square"] (defScope s_law_point_closer) := ⟨rfl, rfl, rfl, by decide +kernel, rfl, by decide +kernel, by decide +kernel⟩
theorem ok_law_point_closer {f : Addr} {fd : FuncData} (F : Fun K "_law_point_closer" "_law_point_closer" s_law_point_closer f fd) (T : TxtA mg)
    (D_law_dot : Def P w K mg base 1 "_law_dot" ["o", "a", "b"] (spLDot))
    (D_law_cross : Def P w K mg base 1 "_law_cross" ["o", "a", "b"] (spLCross)) : FnOk P w K mg base CX0 2 f fd ["p", "a", "b", "square"] (spPtc) := by
  refine F.ok sc_law_point_closer (fun vs H Q E h => ?_) (fun cdv A outer s H vs Q E hr h => ?_)
  · obtain ⟨p, a, b, _, _, _, _, _, _, _, rfl, _⟩ := h
    rfl
  · obtain ⟨p, a, b, px, py, ax, ay, bx, bw, r2, rfl, h0, h1, h2, b1, b2, b3, b4, b5, b6, b7, k⟩ := h
    refine ⟨_, (pss_cons (ps_set (i := 4) sc_law_point_closer.nd rfl (Or.inl rfl) (pe_def D_law_dot (hr.mono (by decide)) (by rfl) (pa_cons (pv 1) (pa_cons (pv 2) (pa_cons (pv 2) pa_nil)))))
    (pss_cons (ps_set (i := 5) sc_law_point_closer.nd rfl (Or.inl rfl) (pe_def D_law_dot (hr.mono (by decide)) (by rfl) (pa_cons (pv 1) (pa_cons (pv 2) (pa_cons (pv 0) pa_nil)))))
    (pss_cons (ps_if (pt_cmpR op_le (pv 5) pe_int (nomark _)) (pss_one (ps_ret (pe_cmpR op_lt (pe_def D_law_dot (hr.mono (by decide)) (by rfl) (pa_cons (pv 1) (pa_cons (pv 0) (pa_cons (pv 0) pa_nil)))) (pv 3) (nomark _))))
      pss_nil)
    (pss_cons (ps_if (pt_cmpR op_ge (pv 5) (pv 4) (nomark _)) (pss_one (ps_ret (pe_cmpR op_lt (pe_def D_law_dot (hr.mono (by decide)) (by rfl) (pa_cons (pv 2) (pa_cons (pv 0) (pa_cons (pv 0) pa_nil)))) (pv 3) (nomark _))))
      pss_nil)
    (pss_cons (ps_set (i := 6) sc_law_point_closer.nd rfl (Or.inl rfl) (pe_def D_law_cross (hr.mono (by decide)) (by rfl) (pa_cons (pv 1) (pa_cons (pv 2) (pa_cons (pv 0) pa_nil)))))
    (pss_one (ps_ret (pe_cmpR op_lt (pe_op op_mulW (pv 6) (pv 6)) (pe_op op_mulW (pv 3) (pv 4)) (nomark _))))))))), ?_⟩
    refine ⟨_, rfl, _, rfl, _, rfl, a, b, b, ax, ay, bx, bw, bx, bw, rfl, h1, h2, h2, b3, b4, b5, b6, b5, b6, ?_⟩
    refine ⟨_, rfl, _, rfl, _, rfl, a, b, p, ax, ay, bx, bw, px, py, rfl, h1, h2, h0, b3, b4, b5, b6, b1, b2, ?_⟩
    refine ⟨_, rfl, _, _, rfl, rfl, _, rfl, ?_⟩
    unfold ptc at k
    by_cases c1 : dtp ax ay bx bw px py ≤ 0
    · rw [if_pos c1] at k
      refine ifY c1 ?_
      exact ⟨_, rfl, _, rfl, _, rfl, a, p, p, ax, ay, px, py, px, py, rfl, h1, h0, h0, b3, b4, b1, b2, b1, b2, _, rfl, _, _, rfl, rfl, k⟩
    rw [if_neg c1] at k
    refine ifN c1 ?_
    refine ⟨_, rfl, _, rfl, _, _, rfl, rfl, _, rfl, ?_⟩
    by_cases c2 : dtp ax ay bx bw bx bw ≤ dtp ax ay bx bw px py
    · rw [if_pos c2] at k
      refine ifY c2 ?_
      exact ⟨_, rfl, _, rfl, _, rfl, b, p, p, bx, bw, px, py, px, py, rfl, h2, h0, h0, b5, b6, b1, b2, b1, b2, _, rfl, _, _, rfl, rfl, k⟩
    rw [if_neg c2] at k
    refine ifN c2 ?_
    refine ⟨_, rfl, _, rfl, _, rfl, a, b, p, ax, ay, bx, bw, px, py, rfl, h1, h2, h0, b3, b4, b5, b6, b1, b2, ?_⟩
    have tb : BdN 603 (trn ax ay bx bw px py) := ((b5.sub b3).mul (b2.sub b4)).sub ((b6.sub b4).mul (b1.sub b3))
    have db : BdN 603 (dtp ax ay bx bw bx bw) := ((b5.sub b3).mul (b5.sub b3)).add ((b6.sub b4).mul (b6.sub b4))
    exact ⟨_, rfl, _, rfl, _, _, rfl, rfl, wmB tb tb (by decide) (by decide), _, rfl, _, rfl, _, _, rfl, rfl, wmB b7 db (by decide) (by decide), _, _, rfl, rfl, k⟩

abbrev s_law_closer : Stmt := top 20
theorem sc_law_closer : FnScope ["first", "second", "limit", "d", "e", "a", "b", "p", "q", "square", "sides"] ["first", "second", "limit"] (defScope s_law_closer) := ⟨rfl, rfl, rfl, by decide +kernel, rfl, by decide +kernel, by decide +kernel⟩
theorem ok_law_closer {f : Addr} {fd : FuncData} (F : Fun K "_law_closer" "_law_closer" s_law_closer f fd) (T : TxtA mg)
    (D_law_cross : Def P w K mg base 1 "_law_cross" ["o", "a", "b"] (spLCross))
    (D_law_point_closer : Def P w K mg base 2 "_law_point_closer" ["p", "a", "b", "square"] (spPtc)) : FnOk P w K mg base CX0 3 f fd ["first", "second", "limit"] (spLClo) := by
  refine F.ok sc_law_closer (fun vs H Q E h => ?_) (fun cdv A outer s H vs Q E hr h => ?_)
  · obtain ⟨a, b, s, t, l, rfl, _⟩ := h
    rfl
  · obtain ⟨a0, b0, s, t, l, rfl, ha, hb, hs, ht, hl, k⟩ := h
    refine ⟨_, (pss_cons (ps_set (i := 3) sc_law_closer.nd rfl (Or.inl rfl) (pe_ix (r := rIxT K) ix_tup (pv 0) pe_int (fun _ _ => rfl)))
    (pss_cons (ps_set (i := 4) sc_law_closer.nd rfl (Or.inl rfl) (pe_ix (r := rIxT K) ix_tup (pv 1) pe_int (fun _ _ => rfl)))
    (pss_cons (ps_set (i := 5) sc_law_closer.nd rfl (Or.inl rfl) (pe_tup (pa_cons (pe_op op_mulW (pe_ix (r := rIxT K) ix_tup (pv 0) pe_int (fun _ _ => rfl)) (pv 4)) (pa_cons (pe_op op_mulW (pe_ix (r := rIxT K) ix_tup (pv 0) pe_int (fun _ _ => rfl)) (pv 4)) pa_nil))))
    (pss_cons (ps_set (i := 6) sc_law_closer.nd rfl (Or.inl rfl) (pe_tup (pa_cons (pe_op op_mulW (pe_ix (r := rIxT K) ix_tup (pv 0) pe_int (fun _ _ => rfl)) (pv 4)) (pa_cons (pe_op op_mulW (pe_ix (r := rIxT K) ix_tup (pv 0) pe_int (fun _ _ => rfl)) (pv 4)) pa_nil))))
    (pss_cons (ps_set (i := 7) sc_law_closer.nd rfl (Or.inl rfl) (pe_tup (pa_cons (pe_op op_mulW (pe_ix (r := rIxT K) ix_tup (pv 1) pe_int (fun _ _ => rfl)) (pv 3)) (pa_cons (pe_op op_mulW (pe_ix (r := rIxT K) ix_tup (pv 1) pe_int (fun _ _ => rfl)) (pv 3)) pa_nil))))
    (pss_cons (ps_set (i := 8) sc_law_closer.nd rfl (Or.inl rfl) (pe_tup (pa_cons (pe_op op_mulW (pe_ix (r := rIxT K) ix_tup (pv 1) pe_int (fun _ _ => rfl)) (pv 3)) (pa_cons (pe_op op_mulW (pe_ix (r := rIxT K) ix_tup (pv 1) pe_int (fun _ _ => rfl)) (pv 3)) pa_nil))))
    (pss_cons (ps_set (i := 9) sc_law_closer.nd rfl (Or.inl rfl) (pe_op op_mulW (pe_op op_mulW (pe_op op_mulW (pe_op op_mulW (pe_op op_mulW (pv 2) (pv 2)) (pv 3)) (pv 3)) (pv 4)) (pv 4)))
    (pss_cons (ps_if (pt_cmpR op_gt (pv 9) pe_int (nomark _)) (pss_cons (ps_set (i := 10) sc_law_closer.nd rfl (Or.inl rfl) (pe_lst (pa_cons (pe_def D_law_cross (hr.mono (by decide)) (by rfl) (pa_cons (pv 5) (pa_cons (pv 6) (pa_cons (pv 7) pa_nil)))) (pa_cons (pe_def D_law_cross (hr.mono (by decide)) (by rfl) (pa_cons (pv 5) (pa_cons (pv 6) (pa_cons (pv 8) pa_nil)))) (pa_cons (pe_def D_law_cross (hr.mono (by decide)) (by rfl) (pa_cons (pv 7) (pa_cons (pv 8) (pa_cons (pv 5) pa_nil)))) (pa_cons (pe_def D_law_cross (hr.mono (by decide)) (by rfl) (pa_cons (pv 7) (pa_cons (pv 8) (pa_cons (pv 6) pa_nil)))) pa_nil))))))
    (pss_one (ps_if (PW.pt (pw_and (pt_cmpR op_lt (pe_op op_mulW (pe_ix (r := rIxL K) ix_list (pv 10) pe_int (fun _ _ => rfl)) (pe_ix (r := rIxL K) ix_list (pv 10) pe_int (fun _ _ => rfl))) pe_int (nomark _)) (pw_and1 (pt_cmpR op_lt (pe_op op_mulW (pe_ix (r := rIxL K) ix_list (pv 10) pe_int (fun _ _ => rfl)) (pe_ix (r := rIxL K) ix_list (pv 10) pe_int (fun _ _ => rfl))) pe_int (nomark _))))) (pss_one (ps_ret pe_bl))
      pss_nil)))
      pss_nil)
    (pss_cons (ps_if (PW.pt (pw_or (pt_val (pe_def D_law_point_closer (hr.mono (by decide)) (by rfl) (pa_cons (pv 5) (pa_cons (pv 7) (pa_cons (pv 8) (pa_cons (pv 9) pa_nil)))))) (pw_or1 (pt_val (pe_def D_law_point_closer (hr.mono (by decide)) (by rfl) (pa_cons (pv 6) (pa_cons (pv 7) (pa_cons (pv 8) (pa_cons (pv 9) pa_nil))))))))) (pss_one (ps_ret pe_bl))
      pss_nil)
    (pss_one (ps_ret (pe_or (pe_def D_law_point_closer (hr.mono (by decide)) (by rfl) (pa_cons (pv 7) (pa_cons (pv 5) (pa_cons (pv 6) (pa_cons (pv 9) pa_nil))))) (pe_one (pe_def D_law_point_closer (hr.mono (by decide)) (by rfl) (pa_cons (pv 8) (pa_cons (pv 5) (pa_cons (pv 6) (pa_cons (pv 9) pa_nil)))))))))))))))))), ?_⟩
    have e1 : ∀ {x y : Int}, BdN 200 x → BdN 100 y → BdN 300 (x * y) := fun h h' => h.mul h'
    refine ⟨_, rfl, _, _, _, _, rfl, rfl, (.inl (.inl ha)), rfl, ?_⟩
    refine ⟨_, rfl, _, _, _, _, rfl, rfl, (.inl (.inl hb)), rfl, ?_⟩
    refine ⟨_, rfl, _, _, _, _, rfl, rfl, (.inl (.inl ha)), rfl, _, rfl, _, _, rfl, rfl, wmB hs.ax ht.d (by decide) (by decide), _, rfl, _, _, _, _, rfl, rfl, (.inl (.inl ha)), rfl, _, rfl, _, _, rfl, rfl, wmB hs.ay ht.d (by decide) (by decide), szOk rfl, fun a ha1 => ?_⟩
    have s1 := same_new (o := .tup [.int (s.ax * t.d), .int (s.ay * t.d)]) ha1
    refine ⟨_, rfl, _, _, _, _, rfl, rfl, (.inl (.inl (s1 _ _ ha))), rfl, _, rfl, _, _, rfl, rfl, wmB hs.bx ht.d (by decide) (by decide), _, rfl, _, _, _, _, rfl, rfl, (.inl (.inl (s1 _ _ ha))), rfl, _, rfl, _, _, rfl, rfl, wmB hs.bw ht.d (by decide) (by decide), szOk rfl, fun b hb1 => ?_⟩
    have s2 := s1.trans (same_new (o := .tup [.int (s.bx * t.d), .int (s.bw * t.d)]) hb1)
    refine ⟨_, rfl, _, _, _, _, rfl, rfl, (.inl (.inl (s2 _ _ hb))), rfl, _, rfl, _, _, rfl, rfl, wmB ht.ax hs.d (by decide) (by decide), _, rfl, _, _, _, _, rfl, rfl, (.inl (.inl (s2 _ _ hb))), rfl, _, rfl, _, _, rfl, rfl, wmB ht.ay hs.d (by decide) (by decide), szOk rfl, fun p hp1 => ?_⟩
    have s3 := s2.trans (same_new (o := .tup [.int (t.ax * s.d), .int (t.ay * s.d)]) hp1)
    refine ⟨_, rfl, _, _, _, _, rfl, rfl, (.inl (.inl (s3 _ _ hb))), rfl, _, rfl, _, _, rfl, rfl, wmB ht.bx hs.d (by decide) (by decide), _, rfl, _, _, _, _, rfl, rfl, (.inl (.inl (s3 _ _ hb))), rfl, _, rfl, _, _, rfl, rfl, wmB ht.bw hs.d (by decide) (by decide), szOk rfl, fun q hq1 => ?_⟩
    have s4 := s3.trans (same_new (o := .tup [.int (t.bx * s.d), .int (t.bw * s.d)]) hq1)
    have kp : ∀ {H0 : Hp} {p q : Addr} {o o' : HO}, H0 p = some o → H0 q = none → upd H0 q o' p = some o := fun h n => by rw [upd_ne (ne_of_none h n)]; exact h
    have A : _ = some (HO.tup [.int (s.ax * t.d), .int (s.ay * t.d)]) := kp (o' := .tup [.int (t.bx * s.d), .int (t.bw * s.d)]) (kp (o' := .tup [.int (t.ax * s.d), .int (t.ay * s.d)]) (kp (o' := .tup [.int (s.bx * t.d), .int (s.bw * t.d)]) upd_same hb1) hp1) hq1
    have B : _ = some (HO.tup [.int (s.bx * t.d), .int (s.bw * t.d)]) := kp (o' := .tup [.int (t.bx * s.d), .int (t.bw * s.d)]) (kp (o' := .tup [.int (t.ax * s.d), .int (t.ay * s.d)]) upd_same hp1) hq1
    have Pp : _ = some (HO.tup [.int (t.ax * s.d), .int (t.ay * s.d)]) := kp (o' := .tup [.int (t.bx * s.d), .int (t.bw * s.d)]) upd_same hq1
    have Qq : _ = some (HO.tup [.int (t.bx * s.d), .int (t.bw * s.d)]) := upd_same (a := q) (H := upd (upd (upd H a (.tup [.int (s.ax * t.d), .int (s.ay * t.d)])) b (.tup [.int (s.bx * t.d), .int (s.bw * t.d)])) p (.tup [.int (t.ax * s.d), .int (t.ay * s.d)]))
    generalize upd (upd (upd (upd H a (.tup [.int (s.ax * t.d), .int (s.ay * t.d)])) b (.tup [.int (s.bx * t.d), .int (s.bw * t.d)])) p (.tup [.int (t.ax * s.d), .int (t.ay * s.d)])) q (.tup [.int (t.bx * s.d), .int (t.bw * s.d)]) = H4 at s4 A B Pp Qq ⊢
    have q1 : BdN 200 (l * l) := hl.mul hl
    have q2 : BdN 300 (l * l * s.d) := q1.mul hs.d
    have q3 : BdN 400 (l * l * s.d * s.d) := q2.mul hs.d
    have q4 : BdN 500 (l * l * s.d * s.d * t.d) := q3.mul ht.d
    have q5 : BdN 600 (l * l * s.d * s.d * t.d * t.d) := q4.mul ht.d
    refine ⟨_, rfl, _, rfl, _, _, rfl, rfl, wmB hl hl (by decide) (by decide), _, rfl, _, _, rfl, rfl, wmB q1 hs.d (by decide) (by decide), _, rfl, _, _, rfl, rfl, wmB q2 hs.d (by decide) (by decide), _, rfl, _, _, rfl, rfl, wmB q3 ht.d (by decide) (by decide), _, rfl, _, _, rfl, rfl, wmB q4 ht.d (by decide) (by decide), ?_⟩
    refine nm ?_
    dsimp only
    have x1 := e1 hs.ax ht.d; have x2 := e1 hs.ay ht.d; have x3 := e1 hs.bx ht.d; have x4 := e1 hs.bw ht.d
    have y1 := e1 ht.ax hs.d; have y2 := e1 ht.ay hs.d; have y3 := e1 ht.bx hs.d; have y4 := e1 ht.bw hs.d
    unfold lclo at k
    generalize l * l * s.d * s.d * t.d * t.d = r2 at q5 k ⊢
    generalize s.ax * t.d = ax at A x1 k ⊢
    generalize s.ay * t.d = ay at A x2 k ⊢
    generalize s.bx * t.d = bx at B x3 k ⊢
    generalize s.bw * t.d = bw at B x4 k ⊢
    generalize t.ax * s.d = cx at Pp y1 k ⊢
    generalize t.ay * s.d = cy at Pp y2 k ⊢
    generalize t.bx * s.d = dx at Qq y3 k ⊢
    generalize t.bw * s.d = dy at Qq y4 k ⊢
    have tb : ∀ {ax ay bx bw x y : Int}, BdN 300 ax → BdN 300 ay → BdN 300 bx → BdN 300 bw → BdN 300 x → BdN 300 y → BdN 603 (trn ax ay bx bw x y) := fun h1 h2 h3 h4 h5 h6 => ((h3.sub h1).mul (h6.sub h2)).sub ((h4.sub h2).mul (h5.sub h1))
    -- what follows the first test
    refine cut (t := tIfS _ _ _) (fun σ' H' => ∃ v, σ' = [some (.ref a0), some (.ref b0), some (.int l), some (.int s.d), some (.int t.d), some (.ref a), some (.ref b), some (.ref p), some (.ref q), some (.int r2), v] ∧ Same H4 H' ∧ (decide (0 < r2) && crs ax ay bx bw cx cy dx dy) = false) ?_ (fun rest => ?_)
    · rintro σ' H' ⟨v, rfl, sH, cf⟩
      rw [cf, Bool.false_or] at k
      have A := sH _ _ A; have B := sH _ _ B; have Pp := sH _ _ Pp; have Qq := sH _ _ Qq
      have k := k H' (s4.trans sH)
      refine ⟨_, rfl, _, rfl, _, rfl, _, rfl, a, p, q, ax, ay, cx, cy, dx, dy, r2, rfl, A, Pp, Qq, x1, x2, y1, y2, y3, y4, q5.mono (by decide), _, rfl, ?_⟩
      cases c1 : ptc ax ay cx cy dx dy r2 with
      | true =>
        rw [c1] at k
        exact (if_pos rfl).mpr ((if_pos rfl).mpr k)
      | false =>
        rw [c1] at k
        refine (if_neg Bool.false_ne_true).mpr ⟨_, rfl, _, rfl, _, rfl, _, rfl, b, p, q, bx, bw, cx, cy, dx, dy, r2, rfl, B, Pp, Qq, x3, x4, y1, y2, y3, y4, q5.mono (by decide), _, rfl, ?_⟩
        cases c2 : ptc bx bw cx cy dx dy r2 with
        | true =>
          rw [c2] at k
          exact (if_pos rfl).mpr k
        | false =>
          rw [c2] at k
          refine (if_neg Bool.false_ne_true).mpr ⟨_, rfl, _, rfl, _, rfl, _, rfl, p, a, b, cx, cy, ax, ay, bx, bw, r2, rfl, Pp, A, B, y1, y2, x1, x2, x3, x4, q5.mono (by decide), _, rfl, ?_⟩
          cases c3 : ptc cx cy ax ay bx bw r2 with
          | true =>
            rw [c3] at k
            exact (if_pos rfl).mpr k
          | false =>
            rw [c3] at k
            exact (if_neg Bool.false_ne_true).mpr ⟨_, rfl, _, rfl, _, rfl, _, rfl, q, a, b, dx, dy, ax, ay, bx, bw, r2, rfl, Qq, A, B, y3, y4, x1, x2, x3, x4, q5.mono (by decide), k⟩
    · refine ⟨_, rfl, _, _, rfl, rfl, _, rfl, ?_⟩
      by_cases c : 0 < r2
      · refine ifY c ?_
        refine ⟨_, rfl, _, rfl, _, rfl, a, b, p, ax, ay, bx, bw, cx, cy, rfl, A, B, Pp, x1, x2, x3, x4, y1, y2, ?_⟩
        refine ⟨_, rfl, _, rfl, _, rfl, a, b, q, ax, ay, bx, bw, dx, dy, rfl, A, B, Qq, x1, x2, x3, x4, y3, y4, ?_⟩
        refine ⟨_, rfl, _, rfl, _, rfl, p, q, a, cx, cy, dx, dy, ax, ay, rfl, Pp, Qq, A, y1, y2, y3, y4, x1, x2, ?_⟩
        refine ⟨_, rfl, _, rfl, _, rfl, p, q, b, cx, cy, dx, dy, bx, bw, rfl, Pp, Qq, B, y1, y2, y3, y4, x3, x4, ?_⟩
        refine ⟨szOk rfl, fun ls hls => ?_⟩
        refine ⟨_, rfl, _, _, _, _, rfl, rfl, (.inl (.inl upd_same)), rfl, _, rfl, _, _, _, _, rfl, rfl, (.inl (.inl upd_same)), rfl, _, _, rfl, rfl, wmB (tb x1 x2 x3 x4 y1 y2) (tb x1 x2 x3 x4 y3 y4) (by decide) (by decide), _, _, rfl, rfl, _, rfl, ?_⟩
        have sL := same_new (o := .lst [.int (trn ax ay bx bw cx cy), .int (trn ax ay bx bw dx dy), .int (trn cx cy dx dy ax ay), .int (trn cx cy dx dy bx bw)]) hls
        by_cases d1 : trn ax ay bx bw cx cy * trn ax ay bx bw dx dy < 0
        · refine ifY d1 ?_
          refine ⟨_, rfl, _, _, _, _, rfl, rfl, (.inl (.inl upd_same)), rfl, _, rfl, _, _, _, _, rfl, rfl, (.inl (.inl upd_same)), rfl, _, _, rfl, rfl, wmB (tb y1 y2 y3 y4 x1 x2) (tb y1 y2 y3 y4 x3 x4) (by decide) (by decide), _, _, rfl, rfl, _, rfl, ?_⟩
          by_cases d2 : trn cx cy dx dy ax ay * trn cx cy dx dy bx bw < 0
          · refine ifY d2 ?_
            have e : (decide (0 < r2) && crs ax ay bx bw cx cy dx dy) = true := by
              unfold crs
              rw [decide_eq_true c, decide_eq_true d1, decide_eq_true d2]
              rfl
            rw [e, Bool.true_or] at k
            exact k _ (s4.trans sL)
          · refine ifN d2 (rest _ _ ⟨_, rfl, sL, ?_⟩)
            unfold crs
            rw [decide_eq_false d2, Bool.and_false, Bool.and_false]
        · refine ifN d1 ?_
          refine (if_neg Bool.false_ne_true).mpr (rest _ _ ⟨_, rfl, sL, ?_⟩)
          unfold crs
          rw [decide_eq_false d1, Bool.false_and, Bool.and_false]
      · refine ifN c (rest _ _ ⟨_, rfl, Same.refl _, ?_⟩)
        rw [decide_eq_false c, Bool.false_and]

abbrev s_law_segment : Stmt := top 21
theorem sc_law_segment : FnScope ["state", "size", "d", "numbers", "kind", "k"] ["state", "size"] (defScope s_law_segment) := ⟨rfl, rfl, rfl, by decide +kernel, rfl, by decide +kernel, by decide +kernel⟩
theorem ok_law_segment {f : Addr} {fd : FuncData} (F : Fun K "_law_segment" "_law_segment" s_law_segment f fd) (T : TxtA mg)
    (D_law_draw : Def P w K mg base 1 "_law_draw" ["state", "bound"] (spDraw K))
    (D_law_pick : Def P w K mg base 2 "_law_pick" ["state", "things"] (spPick K)) : FnOk P w K mg base CX0 3 f fd ["state", "size"] (spSegment K) := by
  refine F.ok sc_law_segment (fun vs H Q E h => ?_) (fun cdv A outer s H vs Q E hr h => ?_)
  · obtain ⟨d, c, z, rfl, _⟩ := h
    rfl
  · obtain ⟨d, c, z, rfl, S0, z0, z1, k⟩ := h
    refine ⟨_, (pss_cons (ps_set (i := 2) sc_law_segment.nd rfl (Or.inl rfl) (pe_op op_add pe_int (pe_def D_law_draw (hr.mono (by decide)) (by rfl) (pa_cons (pv 0) (pa_cons (pe_def D_law_pick (hr.mono (by decide)) (by rfl) (pa_cons (pv 0) (pa_cons (pe_lst (pa_cons pe_int (pa_cons pe_int (pa_cons pe_int (pa_cons pe_int (pa_cons pe_int pa_nil)))))) pa_nil))) pa_nil)))))
    (pss_cons (ps_setLc (i := 3) (own := [("k", 5)]) (g := gName 5) (by rfl) sc_law_segment.nd rfl rfl (sw_true rfl rfl rfl (by decide +kernel)) (pi_range1 (by rfl) T.range (pa_cons pe_int pa_nil)) (blkOk_by (own := [("k", 5)]) (N := ["state", "size", "d", "numbers", "kind", "k"]) (sc := defScope s_law_segment) (by decide +kernel)) (fun _ _ _ _ _ => (pg_name (i := 5) sc_law_segment.nd rfl (Or.inl rfl))) (fun _ _ _ _ _ => pts_nil) (fun _ _ _ _ _ => (pe_op op_sub (pe_def D_law_draw (hr.mono (by decide)) (by rfl) (pa_cons (pv 0) (pa_cons (pe_op op_add (pe_op op_mulW pe_int (pv 1)) pe_int) pa_nil))) (pv 1))))
    (pss_cons (ps_set (i := 4) sc_law_segment.nd rfl (Or.inl rfl) (pe_def D_law_draw (hr.mono (by decide)) (by rfl) (pa_cons (pv 0) (pa_cons pe_int pa_nil))))
    (pss_cons (ps_if (pt_cmpR op_eq (pv 4) pe_int (nomark _)) (pss_cons (ps_asg (pe_ix (r := rIxL K) ix_list (pv 3) pe_int (fun _ _ => rfl)) (pg_sub (pv 3) pe_int set_list))
    (pss_one (ps_asg (pe_ix (r := rIxL K) ix_list (pv 3) pe_int (fun _ _ => rfl)) (pg_sub (pv 3) pe_int set_list))))
      pss_nil)
    (pss_cons (ps_if (pt_cmpR op_eq (pv 4) pe_int (nomark _)) (pss_one (ps_asg (pe_ix (r := rIxL K) ix_list (pv 3) pe_int (fun _ _ => rfl)) (pg_sub (pv 3) pe_int set_list)))
      pss_nil)
    (pss_cons (ps_if (pt_cmpR op_eq (pv 4) pe_int (nomark _)) (pss_one (ps_asg (pe_ix (r := rIxL K) ix_list (pv 3) pe_int (fun _ _ => rfl)) (pg_sub (pv 3) pe_int set_list)))
      pss_nil)
    (pss_one (ps_ret (pe_tup (pa_cons (pe_ix (r := rIxL K) ix_list (pv 3) pe_int (fun _ _ => rfl)) (pa_cons (pe_ix (r := rIxL K) ix_list (pv 3) pe_int (fun _ _ => rfl)) (pa_cons (pe_ix (r := rIxL K) ix_list (pv 3) pe_int (fun _ _ => rfl)) (pa_cons (pe_ix (r := rIxL K) ix_list (pv 3) pe_int (fun _ _ => rfl)) (pa_cons (pv 2) pa_nil)))))))))))))), ?_⟩
    obtain ⟨kv0, hkv0⟩ := S0.dk
    refine ⟨_, rfl, _, rfl, szOk rfl, fun p1 hp1 => ?_⟩
    refine ⟨d, c, _, _, rfl, S0.new hp1, .inl (.inl upd_same), (fun z => nomatch z), (by show 5 ≤ 1000; decide), fun v2 H2 hv2 S2 kp2 => ?_⟩
    obtain ⟨x2, rfl, x2a, x2b⟩ : ∃ z : Int, v2 = .int z ∧ 1 ≤ z ∧ z ≤ 1000 := by
      simp only [List.mem_cons, List.not_mem_nil, or_false] at hv2
      rcases hv2 with rfl | rfl | rfl | rfl | rfl <;> exact ⟨_, rfl, by decide, by decide⟩
    refine ⟨d, c, x2, rfl, S2, (by omega), (by omega), fun x3 H3 x3a x3b S3 kp3 => ?_⟩
    refine ⟨_, _, rfl, rfl, ?_⟩
    have kA : Keep d H H3 := ((Keep.of (same_new hp1)).trans kp2).trans kp3
    refine ⟨_, rfl, by decide, by decide, fun D hD => ?_⟩
    have nD : D ≠ d := S3.nd hD
    have nDc : D ≠ c := S3.nc hD
    refine lc_range (lo := 0) (n := 4) (fun i H' => ∃ ns : List Int, H' D = some (.lst (ns.map V.int)) ∧ ns.length = i ∧ (∀ x ∈ ns, -z ≤ x ∧ x ≤ z) ∧ St1 K H' d c ∧ Keep d H H') ⟨[], upd_same, rfl, (fun _ h => nomatch h), S3.new hD, kA.trans (Keep.of (same_new hD))⟩ ?_ ?_
    · rintro i H' hi ⟨ns, hc, hn, hb, S4, k4⟩
      refine ⟨rfl, ?_⟩
      refine yes_if ?_
      refine ⟨_, rfl, _, rfl, _, _, rfl, rfl, wmB (m := 30) (n := 30) (BdN.of (by decide) (by decide)) (BdN.of (by show -(1073741824 : Int) ≤ z; omega) (by show z ≤ (1073741824 : Int); omega)) (by decide) (by decide), _, _, rfl, rfl, ?_⟩
      refine ⟨d, c, 2 * z + 1, rfl, S4, (by omega), (by omega), fun x5 H5 x5a x5b S5 kp5 => ?_⟩
      have hH : H D = none := kA.none nD hD
      refine ⟨_, rfl, _, _, rfl, rfl, ns.map V.int, kp5 _ _ hc nD, by rw [List.length_map]; exact small1000 (by omega), ns ++ [x5 - z], ?_, ?_, ?_, ?_, ?_⟩
      · rw [upd_same, List.map_append]; rfl
      · rw [List.length_append, hn]; rfl
      · intro y hy
        rcases List.mem_append.mp hy with hy | hy
        · exact hb y hy
        · rw [List.mem_singleton.mp hy]; omega
      · exact S5.put nD nDc
      · intro b o e n
        rw [upd_ne (ne_of_none e hH)]
        exact kp5 _ _ (k4 b o e n) n
    · rintro H4 ⟨ns, hc, hn, hb, S4, k4⟩
      obtain ⟨n0, n1, n2, n3, rfl⟩ : ∃ n0 n1 n2 n3, ns = [n0, n1, n2, n3] := by
        match ns, hn with
        | [n0, n1, n2, n3], _ => exact ⟨n0, n1, n2, n3, rfl⟩
      have b0 := hb n0 (by simp); have b1 := hb n1 (by simp); have b2 := hb n2 (by simp); have b3 := hb n3 (by simp)
      have hH : H D = none := kA.none nD hD
      refine ⟨_, rfl, d, c, 6, rfl, S4, (by decide), (by decide), fun x6 H6 x6a x6b S6 kp6 => ?_⟩
      have hc6 : H6 D = some (.lst [.int n0, .int n1, .int n2, .int n3]) := kp6 _ _ hc nD
      have k6 := k4.trans kp6
      let I : L2.St → Hp → Prop := fun σ' H' => ∃ m0 m1 m2 m3 : Int, ∃ vk, σ' = [some (.ref d), some (.int z), some (.int (1 + x3)), some (.ref D), some (.int x6), vk] ∧ H' D = some (.lst [.int m0, .int m1, .int m2, .int m3]) ∧ (-z ≤ m0 ∧ m0 ≤ z ∧ -z ≤ m1 ∧ m1 ≤ z ∧ -z ≤ m2 ∧ m2 ≤ z ∧ -z ≤ m3 ∧ m3 ≤ z) ∧ St1 K H' d c ∧ Keep d H H'
      have putI : ∀ (m0 m1 m2 m3 : Int) vk (H' : Hp), (-z ≤ m0 ∧ m0 ≤ z ∧ -z ≤ m1 ∧ m1 ≤ z ∧ -z ≤ m2 ∧ m2 ≤ z ∧ -z ≤ m3 ∧ m3 ≤ z) → St1 K H' d c → Keep d H H' → I [some (.ref d), some (.int z), some (.int (1 + x3)), some (.ref D), some (.int x6), vk] (upd H' D (.lst [.int m0, .int m1, .int m2, .int m3])) := fun m0 m1 m2 m3 vk H' hm S k => ⟨m0, m1, m2, m3, vk, rfl, upd_same, hm, S.put nD nDc, fun b o e n => by
        rw [upd_ne (ne_of_none e hH)]
        exact k b o e n⟩
      have seg : ∀ (m0 m1 m2 m3 : Int), (-z ≤ m0 ∧ m0 ≤ z ∧ -z ≤ m1 ∧ m1 ≤ z ∧ -z ≤ m2 ∧ m2 ≤ z ∧ -z ≤ m3 ∧ m3 ≤ z) → SegBd 20 10 ⟨m0, m1, m2, m3, 1 + x3⟩ := fun m0 m1 m2 m3 hm => by
        have e1 : ((2 ^ 20 : Nat) : Int) = 1048576 := by decide
        have e2 : ((2 ^ 10 : Nat) : Int) = 1024 := by decide
        have q : ∀ x : Int, -z ≤ x → x ≤ z → BdN 20 x := fun x h1 h2 => BdN.of (by rw [e1]; omega) (by rw [e1]; omega)
        exact ⟨q m0 (by omega) (by omega), q m1 (by omega) (by omega), q m2 (by omega) (by omega), q m3 (by omega) (by omega), BdN.of (x := 1 + x3) (by rw [e2]; omega) (by rw [e2]; omega)⟩
      refine nm ?_
      dsimp only
      refine cut (t := tIfS _ _ _) I ?_ (fun rest => ?_)
      rotate_left
      · refine ⟨_, rfl, rfl, _, rfl, ite2 (fun e => ?_) (fun e => ?_)⟩
        · refine ⟨_, rfl, _, _, _, _, rfl, rfl, (.inl (.inl hc6)), rfl, _, rfl, D, _, _, _, rfl, rfl, hc6, rfl, ?_⟩
          refine ⟨_, rfl, _, _, _, _, rfl, rfl, (.inl (.inl upd_same)), rfl, _, rfl, D, _, _, _, rfl, rfl, upd_same, rfl, ?_⟩
          have P1 := putI n0 n1 n0 n3 none H6 (by omega) S6 k6
          obtain ⟨_, _, _, _, _, _, _, _, SP, kP⟩ := P1
          exact rest _ _ (putI n0 n1 n0 n1 none _ (by omega) SP kP)
        · exact rest _ _ ⟨n0, n1, n2, n3, _, rfl, hc6, (by omega), S6, k6⟩
      · rintro σ' H' ⟨m0, m1, m2, m3, vk, rfl, hl, hm, S7, k7⟩
        refine cut (t := tIfS _ _ _) I ?_ (fun rest => ?_)
        rotate_left
        · refine ⟨_, rfl, rfl, _, rfl, ite2 (fun e => ?_) (fun e => ?_)⟩
          · refine ⟨_, rfl, _, _, _, _, rfl, rfl, (.inl (.inl hl)), rfl, _, rfl, D, _, _, _, rfl, rfl, hl, rfl, ?_⟩
            exact rest _ _ (putI m0 m1 m0 m3 vk H' (by omega) S7 k7)
          · exact rest _ _ ⟨m0, m1, m2, m3, _, rfl, hl, hm, S7, k7⟩
        · rintro σ' H' ⟨m0, m1, m2, m3, vk, rfl, hl, hm, S7, k7⟩
          refine cut (t := tIfS _ _ _) I ?_ (fun rest => ?_)
          rotate_left
          · refine ⟨_, rfl, rfl, _, rfl, ite2 (fun e => ?_) (fun e => ?_)⟩
            · refine ⟨_, rfl, _, _, _, _, rfl, rfl, (.inl (.inl hl)), rfl, _, rfl, D, _, _, _, rfl, rfl, hl, rfl, ?_⟩
              exact rest _ _ (putI m0 m1 m2 m1 vk H' (by omega) S7 k7)
            · exact rest _ _ ⟨m0, m1, m2, m3, _, rfl, hl, hm, S7, k7⟩
          · rintro σ' H' ⟨m0, m1, m2, m3, vk, rfl, hl, hm, S7, k7⟩
            refine ⟨_, rfl, _, _, _, _, rfl, rfl, (.inl (.inl hl)), rfl, _, rfl, _, _, _, _, rfl, rfl, (.inl (.inl hl)), rfl, _, rfl, _, _, _, _, rfl, rfl, (.inl (.inl hl)), rfl, _, rfl, _, _, _, _, rfl, rfl, (.inl (.inl hl)), rfl, _, rfl, szOk rfl, fun p hp => ?_⟩
            exact k p ⟨m0, m1, m2, m3, 1 + x3⟩ _ (S7.new hp) (k7.trans (Keep.of (same_new hp))) upd_same (seg m0 m1 m2 m3 hm) (by show 1 ≤ 1 + x3; omega)

end
end Sk

set_option Elab.async false
set_option linter.all false
set_option maxRecDepth 100000
set_option maxHeartbeats 4000000
namespace Sk
open PySem PySem.Spec PyProof.Rows L2
def spLaw (K : PySem.W.Frag) (TT : List Addr) : Sp := fun vs H Q _ => ∃ (a : Addr) (ns : List Int), vs = [.ref a] ∧ SqL K H a (ns.map V.int) ∧ ns.length ≤ 63 ∧ Tabs TT H ∧ ∀ H', Q (.bl true) H'
section
variable {P : Program} {w : World} {K : PySem.W.Frag} {mg : Str → Option Value} {base : Heap}
abbrev s_root_down : Stmt := top 2
theorem sc_root_down : FnScope ["n"] ["n"] (defScope s_root_down) := ⟨rfl, rfl, rfl, by decide +kernel, rfl, by decide +kernel, by decide +kernel⟩
theorem ok_root_down {f : Addr} {fd : FuncData} (F : Fun K "root_down" "root_down" s_root_down f fd) (T : TxtA mg) (Tq : mg "isqrt" = some (.builtin "math.isqrt")) : FnOk P w K mg base CX0 1 f fd ["n"] (spRootD) := by
  refine F.ok sc_root_down (fun vs H Q E h => ?_) (fun cdv A outer s H vs Q E hr h => ?_)
  · obtain ⟨n, rfl, _⟩ := h
    rfl
  · obtain ⟨n, rfl, h0, hn, k⟩ := h
    refine ⟨_, (pss_cons (ps_if (pt_cmpR op_le (pv 0) pe_int (nomark _)) (pss_one (ps_ret pe_int))
      pss_nil)
    (pss_one (ps_ret (pe_callBfun cr_isqrt (by rfl) Tq (pa_cons (pv 0) pa_nil))))), ?_⟩
    refine ⟨_, rfl, _, _, rfl, rfl, _, rfl, ite2 (fun e => ?_) (fun e => ?_)⟩
    · have e := of_decide_eq_true e
      obtain rfl : n = 0 := by omega
      exact k 0 ⟨by decide, by decide, by decide⟩
    · exact ⟨_, rfl, n, rfl, h0, hn, fun r h0 h1 h2 => k r ⟨h0, h1, h2⟩⟩

abbrev s_distance_down : Stmt := top 5
theorem sc_distance_down : FnScope ["first", "second", "scale", "top", "bottom"] ["first", "second"] (defScope s_distance_down) := ⟨rfl, rfl, rfl, by decide +kernel, rfl, by decide +kernel, by decide +kernel⟩
theorem ok_distance_down {f tc tp : Addr} {fd : FuncData} {TT : List Addr} (F : Fun K "distance_down" "distance_down" s_distance_down f fd) (T : TxtA mg) (hc : fd.code = .ref tc) (TB : LamX.TabB base mg tc tp) (hP : tp ∈ TT)
    (D_squares : Def P w K mg base 4 "_squares" ["first", "second"] (spSquares))
    (D_root_down : Def P w K mg base 1 "root_down" ["n"] (spRootD)) : FnOk P w K mg base CX0 5 f fd ["first", "second"] (spDist TT) := by
  refine okT F hc sc_distance_down (fun vs H Q E h => ?_) (fun A outer s H vs Q E hr h => ?_)
  · obtain ⟨a, b, s, t, rfl, _⟩ := h
    rfl
  · obtain ⟨a, b, s, t, rfl, ha, hb, hs, ht, ds, dt, hT, k⟩ := h
    refine ⟨_, (pss_cons (ps_set (i := 2) sc_distance_down.nd rfl (Or.inr rfl) (pe_op op_mulW (pe_ix (r := rIxT K) ix_tup (pv 0) pe_int (fun _ _ => rfl)) (pe_ix (r := rIxT K) ix_tup (pv 1) pe_int (fun _ _ => rfl))))
    (pss_one (ps_ret (pe_minG (k := 1) (own := [("top", 3), ("bottom", 4)]) (g := (gTup K 2 (gCons (gName 3) (gCons (gName 4) gNil)))) (hr.mono (by decide)) sc_distance_down.nd (by rfl) T.min TB rfl (gscp_by (by decide +kernel)) (blkOk_by (own := [("top", 3), ("bottom", 4)]) (N := ["first", "second", "scale", "top", "bottom"]) (sc := defScope s_distance_down) (by decide +kernel)) (pi_list (pe_def D_squares (hr.mono (by decide)) (by rfl) (pa_cons (pv 0) (pa_cons (pv 1) pa_nil)))) (fun _ _ _ _ _ _ _ r => (pg_tup (by rfl) (pgs_cons (pg_name (i := 3) sc_distance_down.nd rfl (Or.inl rfl)) (pgs_cons (pg_name (i := 4) sc_distance_down.nd rfl (Or.inl rfl)) pgs_nil)))) (fun _ _ _ _ _ _ _ r => pts_nil) (fun _ _ _ _ _ _ _ r => (pe_def D_root_down (r.mono (by decide)) (by rfl) (pa_cons (pe_op op_fdivW (pv 3) (pe_op op_mulW (pe_op op_mulW (pv 4) (pv 2)) (pv 2))) pa_nil))))))), ?_⟩
    refine ⟨_, rfl, _, _, _, _, rfl, rfl, (.inl (.inl ha)), rfl, _, rfl, _, _, _, _, rfl, rfl, (.inl (.inl hb)), rfl, _, _, rfl, rfl, wmB hs.d ht.d (by decide) (by decide), ?_⟩
    refine nm ?_
    dsimp only
    refine ⟨_, rfl, _, rfl, a, b, s, t, rfl, ha, hb, hs.mono (by decide) (by decide), ht.mono (by decide) (by decide), fun p H1 xs s1 hl1 hp1 => ?_⟩
    have hT1 : Tabs TT H1 := Same.tabs s1 hT
    refine ⟨_, rfl, ⟨xs, .inl (.inl hl1)⟩, hT1 tp hP, fun H2 tb => ?_⟩
    have s2 : SameT TT H1 H2 := SameT.tabbed hP tb
    have l2 := s2.l hT1 hl1
    have st : SameT TT H H2 := (SameT.of s1).trans s2
    have tight := segSqs_tight hs ht
    have hsc : BdN 20 (s.d * t.d) := hs.d.mul ht.d
    have psc : 0 < s.d * t.d := Int.mul_pos (by omega) (by omega)
    refine min_list (K := K) (a := p) (xs := xs) (fun i zs H' => H' = H2 ∧ zs.length = i ∧ ∀ (j : Nat) u z, j < i → (segSqs s t)[j]? = some u → zs[j]? = some z → RootOf z (dsc s t u)) ⟨rfl, rfl, fun _ _ _ h => absurd h (by omega)⟩ (fun i zs H' _ h => by rw [h.1]; exact .inl (.inl l2)) (fun i zs x H' hx h => ?_) (fun zs H' h => ?_)
    · obtain ⟨rfl, hlen, hn⟩ := h
      have hil := (List.getElem?_eq_some_iff.mp hx).1
      have hil2 : i < (segSqs s t).length := by rw [← hp1.1]; exact hil
      obtain ⟨q, e1, e2⟩ := hp1.2 i (segSqs s t)[i] (by simp [hil2])
      rw [hx] at e1
      cases e1
      have e3 := s2.t hT1 e2
      obtain ⟨u0, u1, u2, u3⟩ := tight _ (List.getElem_mem hil2)
      have hbD : BdN 131 ((segSqs s t)[i].2 * (s.d * t.d) * (s.d * t.d)) := (u3.mul hsc).mul hsc
      have hD : 0 < (segSqs s t)[i].2 * (s.d * t.d) * (s.d * t.d) := Int.mul_pos (Int.mul_pos (by omega) psc) psc
      obtain ⟨d0, d1⟩ := dsc_bd u0 u1 u2 ds dt
      refine ⟨_, _, rfl, .inl (.inl e3), rfl, ?_⟩
      refine ⟨_, _, rfl, _, _, rfl, rfl, ?_⟩
      refine ⟨rfl, yes_if ?_⟩
      refine ⟨_, rfl, _, rfl, _, rfl, _, _, rfl, rfl, wmB u3 hsc (by decide) (by decide), _, rfl, _, _, rfl, rfl, wmB (u3.mul hsc) hsc (by decide) (by decide), _, _, rfl, rfl, wide_div (b := 300) hD (Nat.lt_of_le_of_lt hbD (Nat.pow_lt_pow_right (by decide) (by decide))) (by decide) (by decide), ?_⟩
      refine ⟨_, rfl, d0, Nat.lt_of_le_of_lt d1 (Nat.pow_lt_pow_right (by decide) (by decide)), fun r hr => MN.of ⟨rfl, by rw [List.length_append, hlen]; rfl, fun j u z hj hu hz => ?_⟩⟩
      rcases Nat.lt_or_ge j i with c | c
      · rw [List.getElem?_append_left (by omega)] at hz
        exact hn j u z c hu hz
      · obtain rfl : j = i := by omega
        rw [List.getElem?_append_right (by omega), show j - zs.length = 0 by omega] at hz
        rw [List.getElem?_eq_getElem hil2] at hu
        cases hu
        cases hz
        exact hr
    · obtain ⟨rfl, hlen, hn⟩ := h
      have hlen2 : zs.length = (segSqs s t).length := by rw [hlen, hp1.1]
      have ne : zs ≠ [] := fun e => segSqs_ne s t (List.eq_nil_of_length_eq_zero (by rw [← hlen2, e]; rfl))
      obtain ⟨m0, ⟨u, hu, hru⟩, hc⟩ := dist_of ds dt (fun u hu => (tight u hu).2.2.1) hlen2 (fun i u z e1 e2 => hn i u z (by have := (List.getElem?_eq_some_iff.mp e2).1; omega) e1 e2)
      obtain ⟨u0, u1, u2, u3⟩ := tight u hu
      exact ⟨ne, k _ _ st m0 ((root_bd hru.2.1 hru.1 (dsc_bd u0 u1 u2 ds dt).2).mono (by decide)) hc⟩

abbrev s_law : Stmt := top 22
theorem sc_law : FnScope ["script", "state", "size", "first", "second", "move", "distance"] ["script"] (defScope s_law) := ⟨rfl, rfl, rfl, by decide +kernel, rfl, by decide +kernel, by decide +kernel⟩
theorem ok_law {f : Addr} {fd : FuncData} {TT : List Addr} (F : Fun K "law" "law" s_law f fd) (T : TxtA mg)
    (D_law_start : Def P w K mg base 1 "_law_start" ["script"] (spStart K))
    (D_law_draw : Def P w K mg base 1 "_law_draw" ["state", "bound"] (spDraw K))
    (D_law_pick : Def P w K mg base 2 "_law_pick" ["state", "things"] (spPick K))
    (D_law_is_number : Def P w K mg base 1 "_law_is_number" ["thing"] (spIsNum))
    (D_law_segment : Def P w K mg base 3 "_law_segment" ["state", "size"] (spSegment K))
    (D_law_closer : Def P w K mg base 3 "_law_closer" ["first", "second", "limit"] (spLClo))
    (D_closer : Def P w K mg base 5 "closer" ["first", "second", "limit"] (spCloser TT))
    (D_distance_down : Def P w K mg base 5 "distance_down" ["first", "second"] (spDist TT)) : FnOk P w K mg base CX0 7 f fd ["script"] (spLaw K TT) := by
  refine F.ok sc_law (fun vs H Q E h => ?_) (fun cdv A outer s H vs Q E hr h => ?_)
  · obtain ⟨a, ns, rfl, _⟩ := h
    rfl
  · obtain ⟨a, ns, rfl, hS, hl, hT, k⟩ := h
    refine ⟨_, (pss_cons (ps_set (i := 1) sc_law.nd rfl (Or.inl rfl) (pe_def D_law_start (hr.mono (by decide)) (by rfl) (pa_cons (pv 0) pa_nil)))
    (pss_cons (ps_set (i := 2) sc_law.nd rfl (Or.inl rfl) (pe_def D_law_pick (hr.mono (by decide)) (by rfl) (pa_cons (pv 1) (pa_cons (pe_lst (pa_cons pe_int (pa_cons pe_int (pa_cons (pe_op op_pow pe_int pe_int) pa_nil)))) pa_nil))))
    (pss_cons (ps_set (i := 3) sc_law.nd rfl (Or.inl rfl) (pe_def D_law_segment (hr.mono (by decide)) (by rfl) (pa_cons (pv 1) (pa_cons (pv 2) pa_nil))))
    (pss_cons (ps_set (i := 4) sc_law.nd rfl (Or.inl rfl) (pe_def D_law_segment (hr.mono (by decide)) (by rfl) (pa_cons (pv 1) (pa_cons (pv 2) pa_nil))))
    (pss_cons (ps_if (pt_cmpR op_eq (pe_def D_law_draw (hr.mono (by decide)) (by rfl) (pa_cons (pv 1) (pa_cons pe_int pa_nil))) pe_int (nomark _)) (pss_cons (ps_set (i := 5) sc_law.nd rfl (Or.inl rfl) (pe_op op_mulW (pe_def D_law_draw (hr.mono (by decide)) (by rfl) (pa_cons (pv 1) (pa_cons (pe_op op_mulW pe_int (pv 2)) pa_nil))) (pe_ix (r := rIxT K) ix_tup (pv 4) pe_int (fun _ _ => rfl))))
    (pss_one (ps_set (i := 4) sc_law.nd rfl (Or.inl rfl) (pe_tup (pa_cons (pe_op op_add (pe_ix (r := rIxT K) ix_tup (pv 4) pe_int (fun _ _ => rfl)) (pv 5)) (pa_cons (pe_op op_sub (pe_ix (r := rIxT K) ix_tup (pv 4) pe_int (fun _ _ => rfl)) (pv 5)) (pa_cons (pe_op op_add (pe_ix (r := rIxT K) ix_tup (pv 4) pe_int (fun _ _ => rfl)) (pv 5)) (pa_cons (pe_op op_sub (pe_ix (r := rIxT K) ix_tup (pv 4) pe_int (fun _ _ => rfl)) (pv 5)) (pa_cons (pe_ix (r := rIxT K) ix_tup (pv 4) pe_int (fun _ _ => rfl)) pa_nil)))))))))
      pss_nil)
    (pss_cons (ps_set (i := 6) sc_law.nd rfl (Or.inl rfl) (pe_def D_distance_down (hr.mono (by decide)) (by rfl) (pa_cons (pv 3) (pa_cons (pv 4) pa_nil))))
    (pss_cons (ps_if (PW.pt (pw_or (pt_not (pt_val (pe_def D_law_is_number (hr.mono (by decide)) (by rfl) (pa_cons (pv 6) pa_nil)))) (pw_or (pt_cmpR op_lt (pv 6) pe_int (nomark _)) (pw_or1 (pt_cmpR op_ne (pe_def D_distance_down (hr.mono (by decide)) (by rfl) (pa_cons (pv 4) (pa_cons (pv 3) pa_nil))) (pv 6) (nomark _)))))) (pss_one (ps_ret pe_bl))
      pss_nil)
    (pss_cons (ps_if (PW.pt (pw_or (pt_val (pe_def D_law_closer (hr.mono (by decide)) (by rfl) (pa_cons (pv 3) (pa_cons (pv 4) (pa_cons (pv 6) pa_nil))))) (pw_or1 (pt_not (pt_val (pe_def D_law_closer (hr.mono (by decide)) (by rfl) (pa_cons (pv 3) (pa_cons (pv 4) (pa_cons (pe_op op_add (pv 6) pe_int) pa_nil))))))))) (pss_one (ps_ret pe_bl))
      pss_nil)
    (pss_one (ps_ret (pe_and (pe_cmpR op_isB (pe_def D_closer (hr.mono (by decide)) (by rfl) (pa_cons (pv 3) (pa_cons (pv 4) (pa_cons (pv 6) pa_nil)))) pe_bl (nomark _)) (pe_one (pe_cmpR op_isB (pe_def D_closer (hr.mono (by decide)) (by rfl) (pa_cons (pv 4) (pa_cons (pv 3) (pa_cons (pe_op op_add (pv 6) pe_int) pa_nil)))) pe_bl (nomark _)))))))))))))), ?_⟩
    refine ⟨_, rfl, a, ns, rfl, hS, hl, fun d c H0 hd0 hc0 S0 s0 => ?_⟩
    have T0 := Same.tabs s0 hT
    refine ⟨_, rfl, _, _, rfl, rfl, ⟨by decide, by decide, by decide⟩, szOk rfl, fun p1 hp1 => ?_⟩
    refine ⟨d, c, _, _, rfl, S0.new hp1, .inl (.inl upd_same), (fun z => nomatch z), (by show 3 ≤ 1000; decide), fun v2 H2 hv2 S2 kp2 => ?_⟩
    have T2 := kp2.tabsS (S0.new hp1) (T0.new hp1)
    obtain ⟨z, rfl, z0, z1⟩ : ∃ z : Int, v2 = .int z ∧ 5 ≤ z ∧ z ≤ 1000000 := by
      simp only [List.mem_cons, List.not_mem_nil, or_false] at hv2
      rcases hv2 with rfl | rfl | rfl <;> exact ⟨_, rfl, by decide, by decide⟩
    refine ⟨_, rfl, _, rfl, d, c, z, rfl, S2, (by omega), (by omega), fun p s H3 S3 kp3 hp hs hd => ?_⟩
    have T3 := kp3.tabsS S2 T2
    refine ⟨_, rfl, _, rfl, d, c, z, rfl, S3, (by omega), (by omega), fun q t H4 S4 kp4 hq ht hd2 => ?_⟩
    have T4 := kp4.tabsS S3 T3
    have hp4 := kp4.t S3 hp
    have hs3 : SegBd 34 10 s := hs.mono (by decide) (by decide)
    refine nm ?_
    dsimp only
    refine cut (t := tIfS _ _ _) (fun σ' H' => ∃ q' t' v5, σ' = [some (.ref a), some (.ref d), some (.int z), some (.ref p), some (.ref q'), v5, none] ∧ H' p = some s.tup ∧ H' q' = some t'.tup ∧ SegBd 34 10 t' ∧ 1 ≤ t'.d ∧ Tabs TT H') ?_ (fun rest => ?_)
    rotate_left
    · refine ⟨_, rfl, d, c, 2, rfl, S4, (by decide), (by decide), fun x5 H5 x5a x5b S5 kp5 => ?_⟩
      have T5 := kp5.tabsS S4 T4
      have hp5 := kp5.t S4 hp4
      have hq5 := kp5.t S4 hq
      refine ⟨rfl, _, rfl, ite2 (fun e => ?_) (fun e => ?_)⟩
      rotate_left
      · exact rest _ _ ⟨q, t, none, rfl, hp5, hq5, ht.mono (by decide) (by decide), hd2, T5⟩
      refine ⟨_, rfl, _, rfl, _, _, rfl, rfl, wmB (m := 30) (n := 30) (BdN.of (by decide) (by decide)) (BdN.of (by show -(1073741824 : Int) ≤ z; omega) (by show z ≤ (1073741824 : Int); omega)) (by decide) (by decide), d, c, 4 * z, rfl, S5, (by omega), (by omega), fun mv H6 m0 m1 S6 kp6 => ?_⟩
      have T6 := kp6.tabsS S5 T5
      have hp6 := kp6.t S5 hp5
      have hq6 := kp6.t S5 hq5
      have bm : BdN 22 mv := BdN.of (by show -(4194304 : Int) ≤ mv; omega) (by show mv ≤ (4194304 : Int); omega)
      have bmd : BdN 33 (mv * t.d) := (bm.mul ht.d).mono (by decide)
      refine ⟨_, rfl, _, _, _, _, rfl, rfl, (.inl (.inl hq6)), rfl, _, _, rfl, rfl, wmB bm ht.d (by decide) (by decide), ?_⟩
      refine nm ?_
      dsimp only
      generalize mv * t.d = mo at bmd ⊢
      refine ⟨_, rfl, _, _, _, _, rfl, rfl, (.inl (.inl hq6)), rfl, _, rfl, _, _, rfl, rfl, _, rfl, _, _, _, _, rfl, rfl, (.inl (.inl hq6)), rfl, _, rfl, _, _, rfl, rfl, _, rfl, _, _, _, _, rfl, rfl, (.inl (.inl hq6)), rfl, _, rfl, _, _, rfl, rfl, _, rfl, _, _, _, _, rfl, rfl, (.inl (.inl hq6)), rfl, _, rfl, _, _, rfl, rfl, _, rfl, _, _, _, _, rfl, rfl, (.inl (.inl hq6)), rfl, szOk rfl, fun p2 hp2 => ?_⟩
      exact rest _ _ ⟨p2, ⟨t.ax + mo, t.ay - mo, t.bx + mo, t.bw - mo, t.d⟩, _, rfl, same_new hp2 _ _ hp6, upd_same, ⟨(ht.ax.mono (by decide)).add bmd, (ht.ay.mono (by decide)).sub bmd, (ht.bx.mono (by decide)).add bmd, (ht.bw.mono (by decide)).sub bmd, ht.d⟩, hd2, T6.new hp2⟩
    rintro σ' Ha ⟨q', u, v5, rfl, hpa, hqa, hu, hdu, Ta⟩
    refine ⟨_, rfl, _, rfl, p, q', s, u, rfl, hpa, hqa, hs3, hu, hd, hdu, Ta, fun m Hb sb m0 mb hc => ?_⟩
    have Tb := sb.tabs Ta
    refine nm ?_
    dsimp only
    refine ⟨_, rfl, m, rfl, _, rfl, iteF ?_⟩
    refine ⟨_, rfl, _, _, rfl, rfl, _, rfl, ifN (by omega) ?_⟩
    refine ⟨_, rfl, _, rfl, q', p, u, s, rfl, sb.t Ta hqa, sb.t Ta hpa, hu, hs3, hdu, hd, Tb, fun m2 Hc sc m20 mb2 hc2 => ?_⟩
    have em : m2 = m := dist_uniq (fun l => (clo_swap s u l).symm.trans (hc2 l)) hc
    have Tc := sc.tabs Tb
    have sac := sb.trans sc
    refine ⟨_, rfl, rfl, _, rfl, neN em ?_⟩
    have hs4 : SegBd 200 100 s := hs3.mono (by decide) (by decide)
    have hu4 : SegBd 200 100 u := hu.mono (by decide) (by decide)
    have mb1 : BdN 100 m := mb.mono (by decide)
    have mb3 : BdN 100 (m + 1) := (mb.add bd1).mono (by decide)
    refine ⟨_, rfl, _, rfl, _, rfl, p, q', s, u, m, rfl, sac.t Ta hpa, sac.t Ta hqa, hs4, hu4, mb1, fun Hd sd => ?_⟩
    rw [lclo_eq m0 hd hdu, hc m, decide_eq_false (Int.lt_irrefl m)]
    refine ⟨_, rfl, iteF ?_⟩
    have sad := sac.trans (SameT.of sd)
    refine ⟨_, rfl, _, rfl, _, rfl, _, _, rfl, rfl, p, q', s, u, m + 1, rfl, sad.t Ta hpa, sad.t Ta hqa, hs4, hu4, mb3, fun He se => ?_⟩
    rw [lclo_eq (by omega) hd hdu, hc (m + 1), decide_eq_true (show m < m + 1 by omega)]
    refine ⟨_, rfl, iteF ?_⟩
    have sae := sad.trans (SameT.of se)
    refine ⟨_, rfl, _, rfl, _, rfl, p, q', s, u, m, rfl, sae.t Ta hpa, sae.t Ta hqa, hs4, hu4, mb1, sae.tabs Ta, fun Hf sf => ?_⟩
    rw [hc m, decide_eq_false (Int.lt_irrefl m)]
    have saf := sae.trans sf
    refine ⟨_, _, rfl, rfl, _, rfl, ?_⟩
    refine (if_pos (decide_eq_true rfl)).mpr ?_
    refine ⟨_, rfl, _, rfl, _, rfl, _, _, rfl, rfl, q', p, u, s, m + 1, rfl, saf.t Ta hqa, saf.t Ta hpa, hu4, hs4, mb3, saf.tabs Ta, fun Hg sg => ?_⟩
    rw [clo_swap s u (m + 1), hc (m + 1), decide_eq_true (show m < m + 1 by omega)]
    exact ⟨_, _, rfl, rfl, k Hg⟩

end
end Sk

set_option Elab.async false
set_option linter.all false
set_option maxRecDepth 100000
set_option maxHeartbeats 4000000
namespace Sk
open PySem PySem.Spec PyProof.Rows L2
/-! the end -/
theorem all_mk {l : PySem.W.OpenLaw} {w : World} {K : PySem.W.Frag} {h : Heap} {mg : Str → Option Value} {fa f1 f2 f3 f4 f5 f6 f7 f8 f9 f10 f11 f12 f13 f14 f15 f16 f17 f18 f19 tc11 tp11 tc18 tp18 : Addr} (X : K.In h) (G : h.Ns mainGlobals mg) (hfa : mg "law" = some (.ref fa))
    {od1 an1 od2 an2 od3 an3 od4 an4 od5 an5 od6 an6 od7 an7 od8 an8 od9 an9 od10 an10 od11 an11 od12 an12 od13 an13 od14 an14 od15 an15 od16 an16 od17 an17 od18 an18 od19 an19 : Option Addr} {sl1 sl2 sl3 sl4 sl5 sl6 sl7 sl8 sl9 sl10 sl11 sl12 sl13 sl14 sl15 sl16 sl17 sl18 sl19 : Array (Option Value)} {oc1 kV1 dc1 pm1 ct1 cd1 oc2 kV2 dc2 pm2 ct2 cd2 oc3 kV3 dc3 pm3 ct3 cd3 oc4 kV4 dc4 pm4 ct4 cd4 oc5 kV5 dc5 pm5 ct5 cd5 oc6 kV6 dc6 pm6 ct6 cd6 oc7 kV7 dc7 pm7 ct7 cd7 oc8 kV8 dc8 pm8 ct8 cd8 oc9 kV9 dc9 pm9 ct9 cd9 oc10 kV10 dc10 pm10 ct10 cd10 oc11 kV11 dc11 pm11 ct11 oc12 kV12 dc12 pm12 ct12 cd12 oc13 kV13 dc13 pm13 ct13 cd13 oc14 kV14 dc14 pm14 ct14 cd14 oc15 kV15 dc15 pm15 ct15 cd15 oc16 kV16 dc16 pm16 ct16 cd16 oc17 kV17 dc17 pm17 ct17 cd17 oc18 kV18 dc18 pm18 ct18 oc19 kV19 dc19 pm19 ct19 cd19 ov11 ov18 : Value} {oo11 oo18 : Option Addr} {os11 os18 : Array (Option Value)} {fv11 fv18 : Array Value}
    (a1 : PySem.W.nsIn K mainGlobals "_law_start" = some (some (.ref f1))) (l1 : K.lookup f1 = some ⟨oc1, od1, .func (PySem.W.fnOf "_law_start" "_law_start" (defArgs s_law_start) (defBody s_law_start) (defScope s_law_start) .none kV1 dc1 pm1 an1 cd1 ct1), sl1⟩) (c1 : PySem.W.codeIn K cd1 "_law_start" = true) (k1 : PySem.W.keepIn K (.ref f1) = true)
    (a2 : PySem.W.nsIn K mainGlobals "_law_draw" = some (some (.ref f2))) (l2 : K.lookup f2 = some ⟨oc2, od2, .func (PySem.W.fnOf "_law_draw" "_law_draw" (defArgs s_law_draw) (defBody s_law_draw) (defScope s_law_draw) .none kV2 dc2 pm2 an2 cd2 ct2), sl2⟩) (c2 : PySem.W.codeIn K cd2 "_law_draw" = true) (k2 : PySem.W.keepIn K (.ref f2) = true)
    (a3 : PySem.W.nsIn K mainGlobals "_law_pick" = some (some (.ref f3))) (l3 : K.lookup f3 = some ⟨oc3, od3, .func (PySem.W.fnOf "_law_pick" "_law_pick" (defArgs s_law_pick) (defBody s_law_pick) (defScope s_law_pick) .none kV3 dc3 pm3 an3 cd3 ct3), sl3⟩) (c3 : PySem.W.codeIn K cd3 "_law_pick" = true) (k3 : PySem.W.keepIn K (.ref f3) = true)
    (a4 : PySem.W.nsIn K mainGlobals "_law_is_number" = some (some (.ref f4))) (l4 : K.lookup f4 = some ⟨oc4, od4, .func (PySem.W.fnOf "_law_is_number" "_law_is_number" (defArgs s_law_is_number) (defBody s_law_is_number) (defScope s_law_is_number) .none kV4 dc4 pm4 an4 cd4 ct4), sl4⟩) (c4 : PySem.W.codeIn K cd4 "_law_is_number" = true) (k4 : PySem.W.keepIn K (.ref f4) = true)
    (a5 : PySem.W.nsIn K mainGlobals "_enlarged" = some (some (.ref f5))) (l5 : K.lookup f5 = some ⟨oc5, od5, .func (PySem.W.fnOf "_enlarged" "_enlarged" (defArgs s_enlarged) (defBody s_enlarged) (defScope s_enlarged) .none kV5 dc5 pm5 an5 cd5 ct5), sl5⟩) (c5 : PySem.W.codeIn K cd5 "_enlarged" = true) (k5 : PySem.W.keepIn K (.ref f5) = true)
    (a6 : PySem.W.nsIn K mainGlobals "_turn" = some (some (.ref f6))) (l6 : K.lookup f6 = some ⟨oc6, od6, .func (PySem.W.fnOf "_turn" "_turn" (defArgs s_turn) (defBody s_turn) (defScope s_turn) .none kV6 dc6 pm6 an6 cd6 ct6), sl6⟩) (c6 : PySem.W.codeIn K cd6 "_turn" = true) (k6 : PySem.W.keepIn K (.ref f6) = true)
    (a7 : PySem.W.nsIn K mainGlobals "_parted" = some (some (.ref f7))) (l7 : K.lookup f7 = some ⟨oc7, od7, .func (PySem.W.fnOf "_parted" "_parted" (defArgs s_parted) (defBody s_parted) (defScope s_parted) .none kV7 dc7 pm7 an7 cd7 ct7), sl7⟩) (c7 : PySem.W.codeIn K cd7 "_parted" = true) (k7 : PySem.W.keepIn K (.ref f7) = true)
    (a8 : PySem.W.nsIn K mainGlobals "_cross" = some (some (.ref f8))) (l8 : K.lookup f8 = some ⟨oc8, od8, .func (PySem.W.fnOf "_cross" "_cross" (defArgs s_cross) (defBody s_cross) (defScope s_cross) .none kV8 dc8 pm8 an8 cd8 ct8), sl8⟩) (c8 : PySem.W.codeIn K cd8 "_cross" = true) (k8 : PySem.W.keepIn K (.ref f8) = true)
    (a9 : PySem.W.nsIn K mainGlobals "_square" = some (some (.ref f9))) (l9 : K.lookup f9 = some ⟨oc9, od9, .func (PySem.W.fnOf "_square" "_square" (defArgs s_square) (defBody s_square) (defScope s_square) .none kV9 dc9 pm9 an9 cd9 ct9), sl9⟩) (c9 : PySem.W.codeIn K cd9 "_square" = true) (k9 : PySem.W.keepIn K (.ref f9) = true)
    (a10 : PySem.W.nsIn K mainGlobals "_squares" = some (some (.ref f10))) (l10 : K.lookup f10 = some ⟨oc10, od10, .func (PySem.W.fnOf "_squares" "_squares" (defArgs s_squares) (defBody s_squares) (defScope s_squares) .none kV10 dc10 pm10 an10 cd10 ct10), sl10⟩) (c10 : PySem.W.codeIn K cd10 "_squares" = true) (k10 : PySem.W.keepIn K (.ref f10) = true)
    (a11 : PySem.W.nsIn K mainGlobals "closer" = some (some (.ref f11))) (l11 : K.lookup f11 = some ⟨oc11, od11, .func (PySem.W.fnOf "closer" "closer" (defArgs s_closer) (defBody s_closer) (defScope s_closer) .none kV11 dc11 pm11 an11 (.ref tc11) ct11), sl11⟩) (c11 : PySem.W.codeIn K (.ref tc11) "closer" = true) (k11 : PySem.W.keepIn K (.ref f11) = true)
    (lc11 : K.lookup tc11 = some ⟨ov11, oo11, .fields fv11, os11⟩) (hv11 : fv11[11]? = some (.ref tp11)) (np11 : K.lookup tp11 = none) (w11 : PySem.W.CodeHd h tc11 tp11 ∧ h.get? tp11 = some { cls := .none, data := .fields #[] })
    (a12 : PySem.W.nsIn K mainGlobals "_law_cross" = some (some (.ref f12))) (l12 : K.lookup f12 = some ⟨oc12, od12, .func (PySem.W.fnOf "_law_cross" "_law_cross" (defArgs s_law_cross) (defBody s_law_cross) (defScope s_law_cross) .none kV12 dc12 pm12 an12 cd12 ct12), sl12⟩) (c12 : PySem.W.codeIn K cd12 "_law_cross" = true) (k12 : PySem.W.keepIn K (.ref f12) = true)
    (a13 : PySem.W.nsIn K mainGlobals "_law_dot" = some (some (.ref f13))) (l13 : K.lookup f13 = some ⟨oc13, od13, .func (PySem.W.fnOf "_law_dot" "_law_dot" (defArgs s_law_dot) (defBody s_law_dot) (defScope s_law_dot) .none kV13 dc13 pm13 an13 cd13 ct13), sl13⟩) (c13 : PySem.W.codeIn K cd13 "_law_dot" = true) (k13 : PySem.W.keepIn K (.ref f13) = true)
    (a14 : PySem.W.nsIn K mainGlobals "_law_point_closer" = some (some (.ref f14))) (l14 : K.lookup f14 = some ⟨oc14, od14, .func (PySem.W.fnOf "_law_point_closer" "_law_point_closer" (defArgs s_law_point_closer) (defBody s_law_point_closer) (defScope s_law_point_closer) .none kV14 dc14 pm14 an14 cd14 ct14), sl14⟩) (c14 : PySem.W.codeIn K cd14 "_law_point_closer" = true) (k14 : PySem.W.keepIn K (.ref f14) = true)
    (a15 : PySem.W.nsIn K mainGlobals "_law_closer" = some (some (.ref f15))) (l15 : K.lookup f15 = some ⟨oc15, od15, .func (PySem.W.fnOf "_law_closer" "_law_closer" (defArgs s_law_closer) (defBody s_law_closer) (defScope s_law_closer) .none kV15 dc15 pm15 an15 cd15 ct15), sl15⟩) (c15 : PySem.W.codeIn K cd15 "_law_closer" = true) (k15 : PySem.W.keepIn K (.ref f15) = true)
    (a16 : PySem.W.nsIn K mainGlobals "_law_segment" = some (some (.ref f16))) (l16 : K.lookup f16 = some ⟨oc16, od16, .func (PySem.W.fnOf "_law_segment" "_law_segment" (defArgs s_law_segment) (defBody s_law_segment) (defScope s_law_segment) .none kV16 dc16 pm16 an16 cd16 ct16), sl16⟩) (c16 : PySem.W.codeIn K cd16 "_law_segment" = true) (k16 : PySem.W.keepIn K (.ref f16) = true)
    (a17 : PySem.W.nsIn K mainGlobals "root_down" = some (some (.ref f17))) (l17 : K.lookup f17 = some ⟨oc17, od17, .func (PySem.W.fnOf "root_down" "root_down" (defArgs s_root_down) (defBody s_root_down) (defScope s_root_down) .none kV17 dc17 pm17 an17 cd17 ct17), sl17⟩) (c17 : PySem.W.codeIn K cd17 "root_down" = true) (k17 : PySem.W.keepIn K (.ref f17) = true)
    (a18 : PySem.W.nsIn K mainGlobals "distance_down" = some (some (.ref f18))) (l18 : K.lookup f18 = some ⟨oc18, od18, .func (PySem.W.fnOf "distance_down" "distance_down" (defArgs s_distance_down) (defBody s_distance_down) (defScope s_distance_down) .none kV18 dc18 pm18 an18 (.ref tc18) ct18), sl18⟩) (c18 : PySem.W.codeIn K (.ref tc18) "distance_down" = true) (k18 : PySem.W.keepIn K (.ref f18) = true)
    (lc18 : K.lookup tc18 = some ⟨ov18, oo18, .fields fv18, os18⟩) (hv18 : fv18[11]? = some (.ref tp18)) (np18 : K.lookup tp18 = none) (w18 : PySem.W.CodeHd h tc18 tp18 ∧ h.get? tp18 = some { cls := .none, data := .fields #[] })
    (a19 : PySem.W.nsIn K mainGlobals "law" = some (some (.ref f19))) (l19 : K.lookup f19 = some ⟨oc19, od19, .func (PySem.W.fnOf "law" "law" (defArgs s_law) (defBody s_law) (defScope s_law) .none kV19 dc19 pm19 an19 cd19 ct19), sl19⟩) (c19 : PySem.W.codeIn K cd19 "law" = true) (k19 : PySem.W.keepIn K (.ref f19) = true)
    (z1 : PySem.W.nsIn K mainGlobals "abs" = some none) (z2 : PySem.W.nsIn K mainGlobals "int" = some none) (z3 : PySem.W.nsIn K mainGlobals "len" = some none) (z4 : PySem.W.nsIn K mainGlobals "bool" = some none) (z5 : PySem.W.nsIn K mainGlobals "isinstance" = some none) (z6 : PySem.W.nsIn K mainGlobals "max" = some none) (z7 : PySem.W.nsIn K mainGlobals "min" = some none) (z8 : PySem.W.nsIn K mainGlobals "range" = some none) (z9 : PySem.W.nsIn K mainGlobals "tuple" = some none) (z10 : PySem.W.nsIn K mainGlobals "list" = some none) (z11 : PySem.W.nsIn K mainGlobals "sum" = some none) (z12 : PySem.W.nsIn K mainGlobals "any" = some none) (z13 : PySem.W.nsIn K mainGlobals "all" = some none) (z14 : PySem.W.nsIn K mainGlobals "sorted" = some none) (z15 : PySem.W.nsIn K mainGlobals "dict" = some none) (z16 : PySem.W.nsIn K mainGlobals "enumerate" = some none) (yq : PySem.W.nsIn K mainGlobals "isqrt" = some (some (.builtin "math.isqrt"))) :
    LamX.LawAtS l w K CX0 7 63 "script" mg fa h := by
  have e := hfa.symm.trans (PySem.W.mg_of X G a19)
  cases e
  have F1 := fun_mk (st := s_law_start) l1 c1 k1
  have F2 := fun_mk (st := s_law_draw) l2 c2 k2
  have F3 := fun_mk (st := s_law_pick) l3 c3 k3
  have F4 := fun_mk (st := s_law_is_number) l4 c4 k4
  have F5 := fun_mk (st := s_enlarged) l5 c5 k5
  have F6 := fun_mk (st := s_turn) l6 c6 k6
  have F7 := fun_mk (st := s_parted) l7 c7 k7
  have F8 := fun_mk (st := s_cross) l8 c8 k8
  have F9 := fun_mk (st := s_square) l9 c9 k9
  have F10 := fun_mk (st := s_squares) l10 c10 k10
  have F11 := fun_mk (st := s_closer) l11 c11 k11
  have F12 := fun_mk (st := s_law_cross) l12 c12 k12
  have F13 := fun_mk (st := s_law_dot) l13 c13 k13
  have F14 := fun_mk (st := s_law_point_closer) l14 c14 k14
  have F15 := fun_mk (st := s_law_closer) l15 c15 k15
  have F16 := fun_mk (st := s_law_segment) l16 c16 k16
  have F17 := fun_mk (st := s_root_down) l17 c17 k17
  have F18 := fun_mk (st := s_distance_down) l18 c18 k18
  have F19 := fun_mk (st := s_law) l19 c19 k19
  have b1 := F1.binds (ps := ["script"]) fun _ _ _ _ _ _ us hl => match us, hl with | [_], _ => rfl
  have b2 := F2.binds (ps := ["state", "bound"]) fun _ _ _ _ _ _ us hl => match us, hl with | [_, _], _ => rfl
  have b3 := F3.binds (ps := ["state", "things"]) fun _ _ _ _ _ _ us hl => match us, hl with | [_, _], _ => rfl
  have b4 := F4.binds (ps := ["thing"]) fun _ _ _ _ _ _ us hl => match us, hl with | [_], _ => rfl
  have b5 := F5.binds (ps := ["segment", "factor"]) fun _ _ _ _ _ _ us hl => match us, hl with | [_, _], _ => rfl
  have b6 := F6.binds (ps := ["segment", "x", "y"]) fun _ _ _ _ _ _ us hl => match us, hl with | [_, _, _], _ => rfl
  have b7 := F7.binds (ps := ["segment", "ends"]) fun _ _ _ _ _ _ us hl => match us, hl with | [_, _], _ => rfl
  have b8 := F8.binds (ps := ["first", "second"]) fun _ _ _ _ _ _ us hl => match us, hl with | [_, _], _ => rfl
  have b9 := F9.binds (ps := ["x", "y", "segment"]) fun _ _ _ _ _ _ us hl => match us, hl with | [_, _, _], _ => rfl
  have b10 := F10.binds (ps := ["first", "second"]) fun _ _ _ _ _ _ us hl => match us, hl with | [_, _], _ => rfl
  have b11 := F11.binds (ps := ["first", "second", "limit"]) fun _ _ _ _ _ _ us hl => match us, hl with | [_, _, _], _ => rfl
  have b12 := F12.binds (ps := ["o", "a", "b"]) fun _ _ _ _ _ _ us hl => match us, hl with | [_, _, _], _ => rfl
  have b13 := F13.binds (ps := ["o", "a", "b"]) fun _ _ _ _ _ _ us hl => match us, hl with | [_, _, _], _ => rfl
  have b14 := F14.binds (ps := ["p", "a", "b", "square"]) fun _ _ _ _ _ _ us hl => match us, hl with | [_, _, _, _], _ => rfl
  have b15 := F15.binds (ps := ["first", "second", "limit"]) fun _ _ _ _ _ _ us hl => match us, hl with | [_, _, _], _ => rfl
  have b16 := F16.binds (ps := ["state", "size"]) fun _ _ _ _ _ _ us hl => match us, hl with | [_, _], _ => rfl
  have b17 := F17.binds (ps := ["n"]) fun _ _ _ _ _ _ us hl => match us, hl with | [_], _ => rfl
  have b18 := F18.binds (ps := ["first", "second"]) fun _ _ _ _ _ _ us hl => match us, hl with | [_, _], _ => rfl
  have T : TxtA mg := { abs := PySem.W.mg_none_of X G z1, int := PySem.W.mg_none_of X G z2, len := PySem.W.mg_none_of X G z3, bool := PySem.W.mg_none_of X G z4, isinstance := PySem.W.mg_none_of X G z5, max := PySem.W.mg_none_of X G z6, min := PySem.W.mg_none_of X G z7, range := PySem.W.mg_none_of X G z8, tuple := PySem.W.mg_none_of X G z9, list := PySem.W.mg_none_of X G z10, sum := PySem.W.mg_none_of X G z11, any := PySem.W.mg_none_of X G z12, all := PySem.W.mg_none_of X G z13, sorted := PySem.W.mg_none_of X G z14, dict := PySem.W.mg_none_of X G z15, enumerate := PySem.W.mg_none_of X G z16 }
  have Tq : mg "isqrt" = some (.builtin "math.isqrt") := PySem.W.mg_of X G yq
  refine ⟨PySem.W.fnOf "law" "law" (defArgs s_law) (defBody s_law) (defScope s_law) .none kV19 dc19 pm19 an19 cd19 ct19, [(tc11, tp11), (tc18, tp18)], spLaw K [tp11, tp18], fun p hp => ?_, fun p hp => ?_, fun p hp => ?_, fun s v => .of_eq rfl, fun H a ns hl hb hH hS => ⟨a, ns, rfl, hS, hl, fun P hP => ?_, fun _ => rfl⟩, fun base _ _ hTB => ?_⟩
  · simp only [List.mem_cons, List.not_mem_nil, or_false] at hp
    rcases hp with rfl | rfl
    · exact w11.2
    · exact w18.2
  · simp only [List.mem_cons, List.not_mem_nil, or_false] at hp
    rcases hp with rfl | rfl
    · exact np11
    · exact np18
  · simp only [List.mem_cons, List.not_mem_nil, or_false] at hp
    rcases hp with rfl | rfl
    · exact w11.1
    · exact w18.1
  · simp only [List.mem_cons, List.not_mem_nil, or_false] at hP
    rcases hP with hP | hP
    · rw [hP]; exact ⟨#[], hH (tc11, tp11) (by simp), True.intro⟩
    · rw [hP]; exact ⟨#[], hH (tc18, tp18) (by simp), True.intro⟩
  have D1 : Def l.prog w K mg base 1 "_law_start" ["script"] (spStart K) := .mk' F1 b1 (PySem.W.mg_of X G a1) (ok_law_start F1 T.toTxt0)
  have D2 : Def l.prog w K mg base 1 "_law_draw" ["state", "bound"] (spDraw K) := .mk' F2 b2 (PySem.W.mg_of X G a2) (ok_law_draw F2 T.toTxt0)
  have D3 : Def l.prog w K mg base 2 "_law_pick" ["state", "things"] (spPick K) := .mk' F3 b3 (PySem.W.mg_of X G a3) (ok_law_pick F3 T.toTxt0 D2)
  have D4 : Def l.prog w K mg base 1 "_law_is_number" ["thing"] (spIsNum) := .mk' F4 b4 (PySem.W.mg_of X G a4) (ok_law_is_number F4 T.toTxt0)
  have D5 : Def l.prog w K mg base 1 "_enlarged" ["segment", "factor"] (spEnl) := .mk' F5 b5 (PySem.W.mg_of X G a5) (ok_enlarged F5 T)
  have D6 : Def l.prog w K mg base 1 "_turn" ["segment", "x", "y"] (spTurn) := .mk' F6 b6 (PySem.W.mg_of X G a6) (ok_turn F6 T)
  have D7 : Def l.prog w K mg base 2 "_parted" ["segment", "ends"] (spParted) := .mk' F7 b7 (PySem.W.mg_of X G a7) (ok_parted F7 T D6)
  have D8 : Def l.prog w K mg base 3 "_cross" ["first", "second"] (spCross) := .mk' F8 b8 (PySem.W.mg_of X G a8) (ok_cross F8 T D7)
  have D9 : Def l.prog w K mg base 2 "_square" ["x", "y", "segment"] (spSquare) := .mk' F9 b9 (PySem.W.mg_of X G a9) (ok_square F9 T D6)
  have D10 : Def l.prog w K mg base 4 "_squares" ["first", "second"] (spSquares) := .mk' F10 b10 (PySem.W.mg_of X G a10) (ok_squares F10 T D5 D8 D9)
  have D11 : Def l.prog w K mg base 5 "closer" ["first", "second", "limit"] (spCloser [tp11, tp18]) := .mk' F11 b11 (PySem.W.mg_of X G a11) (ok_closer F11 T rfl (hTB (tc11, tp11) (by simp)) (by simp) D10)
  have D12 : Def l.prog w K mg base 1 "_law_cross" ["o", "a", "b"] (spLCross) := .mk' F12 b12 (PySem.W.mg_of X G a12) (ok_law_cross F12 T)
  have D13 : Def l.prog w K mg base 1 "_law_dot" ["o", "a", "b"] (spLDot) := .mk' F13 b13 (PySem.W.mg_of X G a13) (ok_law_dot F13 T)
  have D14 : Def l.prog w K mg base 2 "_law_point_closer" ["p", "a", "b", "square"] (spPtc) := .mk' F14 b14 (PySem.W.mg_of X G a14) (ok_law_point_closer F14 T D13 D12)
  have D15 : Def l.prog w K mg base 3 "_law_closer" ["first", "second", "limit"] (spLClo) := .mk' F15 b15 (PySem.W.mg_of X G a15) (ok_law_closer F15 T D12 D14)
  have D16 : Def l.prog w K mg base 3 "_law_segment" ["state", "size"] (spSegment K) := .mk' F16 b16 (PySem.W.mg_of X G a16) (ok_law_segment F16 T D2 D3)
  have D17 : Def l.prog w K mg base 1 "root_down" ["n"] (spRootD) := .mk' F17 b17 (PySem.W.mg_of X G a17) (ok_root_down F17 T Tq)
  have D18 : Def l.prog w K mg base 5 "distance_down" ["first", "second"] (spDist [tp11, tp18]) := .mk' F18 b18 (PySem.W.mg_of X G a18) (ok_distance_down F18 T rfl (hTB (tc18, tp18) (by simp)) (by simp) D10 D17)
  exact ok_law F19 T D1 D2 D3 D4 D16 D15 D11 D18
end Sk
open PySem PySem.W PyProof.Rows
set_option maxRecDepth 100000 in
set_option maxHeartbeats 0 in
theorem PySem.Challenge.cw_skyapart_k03_distance_rounded_down_holds : PySem.Challenge.rw_skyapart_k03_distance_rounded_down.Holds := by
  w_on; o_law; k_head; (case hw => w_witness2)
  k_fill
  refine Sk.walk_tabs (l := PySem.Challenge.rw_skyapart_k03_distance_rounded_down) (n := 63) (k := 7) (x := "script") (CX := fun _ => L2.CX0) rfl (by decide) rfl ⟨rfl, by decide, by decide⟩ (fun w h Y => PySem.W.kIn_of Y) ?F (fun _ _ _ _ _ z => z)
  case F =>
    intro w mg fa h KX G hmg hT
    refine' Sk.all_mk KX G hmg ?a1 ?l1 ?c1 ?k1 ?a2 ?l2 ?c2 ?k2 ?a3 ?l3 ?c3 ?k3 ?a4 ?l4 ?c4 ?k4 ?a5 ?l5 ?c5 ?k5 ?a6 ?l6 ?c6 ?k6 ?a7 ?l7 ?c7 ?k7 ?a8 ?l8 ?c8 ?k8 ?a9 ?l9 ?c9 ?k9 ?a10 ?l10 ?c10 ?k10 ?a11 ?l11 ?c11 ?k11 ?lc11 ?hv11 ?np11 ?w11 ?a12 ?l12 ?c12 ?k12 ?a13 ?l13 ?c13 ?k13 ?a14 ?l14 ?c14 ?k14 ?a15 ?l15 ?c15 ?k15 ?a16 ?l16 ?c16 ?k16 ?a17 ?l17 ?c17 ?k17 ?a18 ?l18 ?c18 ?k18 ?lc18 ?hv18 ?np18 ?w18 ?a19 ?l19 ?c19 ?k19 ?z1 ?z2 ?z3 ?z4 ?z5 ?z6 ?z7 ?z8 ?z9 ?z10 ?z11 ?z12 ?z13 ?z14 ?z15 ?z16 ?yq
    (case a1 => k_is); (case l1 => k_is); (case c1 => k_is); (case k1 => k_is)
    (case a2 => k_is); (case l2 => k_is); (case c2 => k_is); (case k2 => k_is)
    (case a3 => k_is); (case l3 => k_is); (case c3 => k_is); (case k3 => k_is)
    (case a4 => k_is); (case l4 => k_is); (case c4 => k_is); (case k4 => k_is)
    (case a5 => k_is); (case l5 => k_is); (case c5 => k_is); (case k5 => k_is)
    (case a6 => k_is); (case l6 => k_is); (case c6 => k_is); (case k6 => k_is)
    (case a7 => k_is); (case l7 => k_is); (case c7 => k_is); (case k7 => k_is)
    (case a8 => k_is); (case l8 => k_is); (case c8 => k_is); (case k8 => k_is)
    (case a9 => k_is); (case l9 => k_is); (case c9 => k_is); (case k9 => k_is)
    (case a10 => k_is); (case l10 => k_is); (case c10 => k_is); (case k10 => k_is)
    (case a11 => k_is); (case l11 => k_is); (case c11 => k_is); (case k11 => k_is)
    (case lc11 => k_is); (case hv11 => exact rfl); (case np11 => kernel_rfl); (case w11 => exact hT "closer" _ _ _ rfl (by kernel_rfl))
    (case a12 => k_is); (case l12 => k_is); (case c12 => k_is); (case k12 => k_is)
    (case a13 => k_is); (case l13 => k_is); (case c13 => k_is); (case k13 => k_is)
    (case a14 => k_is); (case l14 => k_is); (case c14 => k_is); (case k14 => k_is)
    (case a15 => k_is); (case l15 => k_is); (case c15 => k_is); (case k15 => k_is)
    (case a16 => k_is); (case l16 => k_is); (case c16 => k_is); (case k16 => k_is)
    (case a17 => k_is); (case l17 => k_is); (case c17 => k_is); (case k17 => k_is)
    (case a18 => k_is); (case l18 => k_is); (case c18 => k_is); (case k18 => k_is)
    (case lc18 => k_is); (case hv18 => exact rfl); (case np18 => kernel_rfl); (case w18 => exact hT "distance_down" _ _ _ rfl (by kernel_rfl))
    (case a19 => k_is); (case l19 => k_is); (case c19 => k_is); (case k19 => k_is)
    (case z1 => k_is); (case z2 => k_is); (case z3 => k_is); (case z4 => k_is)
    (case z5 => k_is); (case z6 => k_is); (case z7 => k_is); (case z8 => k_is)
    (case z9 => k_is); (case z10 => k_is); (case z11 => k_is); (case z12 => k_is)
    (case z13 => k_is); (case z14 => k_is); (case z15 => k_is); (case z16 => k_is)
    (case yq => k_is)
