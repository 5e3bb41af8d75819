import PyProof.Rows.All
import Wide.All
import OpenK.AllK
import Wide.FinOn
import HandS.Base
import HandS.Call
import HandS.List
import HandS.Comp
import HandS.Ends
import HandS.Dict
import HandS.Iter
import HandS.Words
import HandS.WordsList
import HandS.Wide
import HandS.Gcd
import HandS.IsInst
import Flt.RightSqrt
import HandS.Star
import HandS.GenList
import HandS.AnyAll
import HandS.EndTab
import HandS.Zip
import HandS.Nested
import HandS.Flow
import HandS.EndOwn
import KE.KNest
import PyProof.ConsumeS
import HandS.More
import PySem.Challenge.RW_skyapart_k38_reach_of_foreign_aircraft
set_option Elab.async false
set_option linter.all false
set_option maxRecDepth 100000
set_option maxHeartbeats 4000000
namespace Sk
open PySem PySem.Spec PyProof.Rows L2

/-! a def of the text, ready to be called by its name -/
structure Def (P : Program) (w : World) (K : PySem.W.Frag) (mg : Str → Option Value) (base : Heap) (k : Nat) (x : Str) (ps : List Str) (sp : Sp) : Prop where
  ex : ∃ (f : Addr) (fd : FuncData), FnOk P w K mg base CX0 k f fd ps sp ∧ mg x = some (.ref f) ∧ PySem.W.keepIn K (.ref f) = true ∧ Binds K fd ps []
theorem Def.mk' {P : Program} {w : World} {K : PySem.W.Frag} {mg : Str → Option Value} {base : Heap} {k : Nat} {x qual : Str} {st : Stmt} {f : Addr} {fd : FuncData} {ps : List Str} {sp : Sp}
    (F : Fun K x qual st f fd) (b : Binds K fd ps []) (m : mg x = some (.ref f)) (G : FnOk P w K mg base CX0 k f fd ps sp) : Def P w K mg base k x ps sp := ⟨f, fd, G, m, F.kp, b⟩
theorem pe_def {X : Cx} {k : Nat} {x : Str} {ps : List Str} {sp : Sp} {p pos : Pos} {e : Expr} {es : List Expr} {t : TA} (D : Def X.prog X.w X.K X.mg X.base k x ps sp) (hr : Room k X.A) (hg : Gl X x)
    (ha : PA X (e :: es) t) (hdb : (x == ("__debug__" : Str)) = false := by decide) (he : starEach (e :: es) X.env = (false, eval e X.env) :: starEach es X.env := by rfl) (hpl : (backTo pos (starEach es X.env)).any (·.1) = false := by rfl) :
    PE X (.Call (.Name x p) (e :: es) [] pos) (tCall sp [] E0 t) := by
  obtain ⟨f, fd, F, m, kp, b⟩ := D.ex
  exact pe_call F hr hg m kp b .nil pass0 ha hdb he hpl
/-- a call's reading: the values of the arguments as they are -/
theorem sp_nil {sp : Sp} {vs : List V} {H : Hp} {Q : VK} {E : XK} (h : sp vs H Q E) : sp (vs ++ []) H Q E := by
  rw [List.append_nil]
  exact h

/-! heaps -/
/-- all but what stands at d is as it was -/
def Keep (d : Addr) (H H' : Hp) : Prop := ∀ c o, H c = some o → c ≠ d → H' c = some o
theorem Keep.refl (d : Addr) (H : Hp) : Keep d H H := fun _ _ h _ => h
theorem Keep.trans {d : Addr} {H H1 H2 : Hp} (a : Keep d H H1) (b : Keep d H1 H2) : Keep d H H2 := fun c o h n => b c o (a c o h n) n
theorem Keep.of {d : Addr} {H H1 : Hp} (a : Same H H1) : Keep d H H1 := fun c o h _ => a c o h
theorem Keep.upd (d : Addr) (H : Hp) (o : HO) : Keep d H (upd H d o) := fun c u h n => by
  rw [upd_ne n]
  exact h
theorem same_new {H : Hp} {p : Addr} {o : HO} (h : H p = none) : Same H (upd H p o) := fun b x e => by
  rw [upd_ne (ne_of_none e h)]
  exact e
theorem lst_ne {H : Hp} {a d : Addr} {xs : List V} {o : HO} (h : H d = some (.dK o')) (ha : H a = some (.lst xs)) : a ≠ d := ne_of ha h (by intro z; cases z)
/-- a list to be read stays, if it isn't the dict at d -/
theorem Keep.seq {K : PySem.W.Frag} {d : Addr} {kvs : List (Key × V)} {H H' : Hp} {a : Addr} {xs : List V} (k : Keep d H H') (hd : H d = some (.dK kvs)) (h : SqL K H a xs) : SqL K H' a xs := by
  rcases h with (h | ⟨o, h⟩) | h
  · exact .inl (.inl (k _ _ h (ne_of h hd (by intro z; cases z))))
  · exact .inl (.inr ⟨o, k _ _ h (ne_of h hd (by intro z; cases z))⟩)
  · exact .inr h
theorem Keep.tup {K : PySem.W.Frag} {d : Addr} {kvs : List (Key × V)} {H H' : Hp} {a : Addr} {xs : List V} (k : Keep d H H') (hd : H d = some (.dK kvs)) (h : SqT K H a xs) : SqT K H' a xs := by
  rcases h with (h | ⟨o, h⟩) | h
  · exact .inl (.inl (k _ _ h (ne_of h hd (by intro z; cases z))))
  · exact .inl (.inr ⟨o, k _ _ h (ne_of h hd (by intro z; cases z))⟩)
  · exact .inr h
theorem Keep.lst {d : Addr} {kvs : List (Key × V)} {H H' : Hp} {a : Addr} {xs : List V} (k : Keep d H H') (hd : H d = some (.dK kvs)) (h : H a = some (.lst xs)) : H' a = some (.lst xs) := k _ _ h (ne_of h hd (by intro z; cases z))
theorem Keep.tp {d : Addr} {kvs : List (Key × V)} {H H' : Hp} {a : Addr} {xs : List V} (k : Keep d H H') (hd : H d = some (.dK kvs)) (h : H a = some (.tup xs)) : H' a = some (.tup xs) := k _ _ h (ne_of h hd (by intro z; cases z))
theorem same_tup {K : PySem.W.Frag} {H H' : Hp} {a : Addr} {xs : List V} (e : Same H H') (h : SqT K H a xs) : SqT K H' a xs := by
  rcases h with (h | ⟨o, h⟩) | h
  · exact .inl (.inl (e _ _ h))
  · exact .inl (.inr ⟨o, e _ _ h⟩)
  · exact .inr h

/-! the state of the draws -/
theorem k01 : ¬ ("cells" : Str) = "at" := by decide +kernel
theorem k02 : ¬ ("cells" : Str) = "left" := by decide +kernel
theorem k03 : ¬ ("cells" : Str) = "mix" := by decide +kernel
theorem k10 : ¬ ("at" : Str) = "cells" := by decide +kernel
theorem k12 : ¬ ("at" : Str) = "left" := by decide +kernel
theorem k13 : ¬ ("at" : Str) = "mix" := by decide +kernel
theorem k20 : ¬ ("left" : Str) = "cells" := by decide +kernel
theorem k21 : ¬ ("left" : Str) = "at" := by decide +kernel
theorem k23 : ¬ ("left" : Str) = "mix" := by decide +kernel
theorem k30 : ¬ ("mix" : Str) = "cells" := by decide +kernel
theorem k31 : ¬ ("mix" : Str) = "at" := by decide +kernel
theorem k32 : ¬ ("mix" : Str) = "left" := by decide +kernel
theorem kr {a b : Str} (h : ¬ a = b) : ¬ (Sum.inr a : Key) = Sum.inr b := fun z => h (Sum.inr.inj z)
def stK (c : Addr) (i l m : Int) : List (Key × V) := [(.inr "cells", .ref c), (.inr "at", .int i), (.inr "left", .int l), (.inr "mix", .int m)]
theorem g_cells (c : Addr) (i l m : Int) : valV (stK c i l m) (.inr "cells") = some (.ref c) := valV_pos rfl
theorem g_at (c : Addr) (i l m : Int) : valV (stK c i l m) (.inr "at") = some (.int i) := by
  unfold stK
  rw [valV_neg (kr k01), valV_pos rfl]
theorem g_left (c : Addr) (i l m : Int) : valV (stK c i l m) (.inr "left") = some (.int l) := by
  unfold stK
  rw [valV_neg (kr k02), valV_neg (kr k12), valV_pos rfl]
theorem g_mix (c : Addr) (i l m : Int) : valV (stK c i l m) (.inr "mix") = some (.int m) := by
  unfold stK
  rw [valV_neg (kr k03), valV_neg (kr k13), valV_neg (kr k23), valV_pos rfl]
theorem put_any {kvs : List (Key × V)} {k : Key} {v y : V} (h : valV kvs k = some v) : putK kvs k y = kvs.map (fun kv => if kv.1 = k then (kv.1, y) else kv) := by
  unfold putK
  rw [valV_any, h]
  exact if_pos rfl
theorem p_at (c : Addr) (i l m j : Int) : putK (stK c i l m) (.inr "at") (.int j) = stK c j l m := by
  rw [put_any (g_at c i l m)]
  unfold stK
  simp only [List.map_cons, List.map_nil, if_neg (kr k01), if_neg (kr k21), if_neg (kr k31), if_true]
theorem p_left (c : Addr) (i l m j : Int) : putK (stK c i l m) (.inr "left") (.int j) = stK c i j m := by
  rw [put_any (g_left c i l m)]
  unfold stK
  simp only [List.map_cons, List.map_nil, if_neg (kr k02), if_neg (kr k12), if_neg (kr k32), if_true]
theorem p_mix (c : Addr) (i l m j : Int) : putK (stK c i l m) (.inr "mix") (.int j) = stK c i l j := by
  rw [put_any (g_mix c i l m)]
  unfold stK
  simp only [List.map_cons, List.map_nil, if_neg (kr k03), if_neg (kr k13), if_neg (kr k23), if_true]
theorem merge_st (c : Addr) (i l m : Int) : mergeK [] (stK c i l m) = stK c i l m := by
  have e0 : putK ([] : List (Key × V)) (.inr "cells" : Key) (.ref c) = [((.inr "cells" : Key), V.ref c)] := rfl
  have e1 : putK [((.inr "cells" : Key), V.ref c)] (.inr "at" : Key) (.int i) = [((.inr "cells" : Key), V.ref c), (.inr "at", .int i)] := by
    rw [putK_new _ (by rw [valV_neg (kr k01)]; rfl)]
    all_goals rfl
  have e2 : putK [((.inr "cells" : Key), V.ref c), (.inr "at", .int i)] (.inr "left") (.int l) = [((.inr "cells" : Key), V.ref c), (.inr "at", .int i), (.inr "left", .int l)] := by
    rw [putK_new _ (by rw [valV_neg (kr k02), valV_neg (kr k12)]; rfl)]
    all_goals rfl
  have e3 : putK [((.inr "cells" : Key), V.ref c), (.inr "at", .int i), (.inr "left", .int l)] (.inr "mix") (.int m) = stK c i l m := by
    rw [putK_new _ (by rw [valV_neg (kr k03), valV_neg (kr k13), valV_neg (kr k23)]; rfl)]
    all_goals rfl
  show putK (putK (putK (putK ([] : List (Key × V)) (.inr "cells" : Key) (.ref c)) (.inr "at" : Key) (.int i)) (.inr "left" : Key) (.int l)) (.inr "mix" : Key) (.int m) = stK c i l m
  rw [e0, e1, e2, e3]
/-- the dict of the draws stands at d -/
structure StAt (K : PySem.W.Frag) (H : Hp) (d : Addr) (c : Addr) (ns : List Int) (i l m : Int) : Prop where
  dc : H d = some (.dK (stK c i l m))
  cs : H c = some (.lst (ns.map V.int))
  nn : ∀ x ∈ ns, 0 ≤ x
  i0 : 0 ≤ i
  l0 : 0 ≤ l
  m0 : 0 ≤ m
  m1 : m < 2147483648
def St1 (K : PySem.W.Frag) (H : Hp) (d c : Addr) : Prop := ∃ ns i l m, StAt K H d c ns i l m
theorem St1.dk {K : PySem.W.Frag} {H : Hp} {d c : Addr} (S : St1 K H d c) : ∃ kvs, H d = some (.dK kvs) := let ⟨_, _, _, _, S⟩ := S; ⟨_, S.dc⟩
theorem St1.cl {K : PySem.W.Frag} {H : Hp} {d c : Addr} (S : St1 K H d c) : ∃ xs, H c = some (.lst xs) := let ⟨_, _, _, _, S⟩ := S; ⟨_, S.cs⟩
/-- the state stands on where both its objects stand -/
theorem St1.of {K : PySem.W.Frag} {H H' : Hp} {d c : Addr} (S : St1 K H d c) (e1 : H' d = H d) (e2 : H' c = H c) : St1 K H' d c := by
  obtain ⟨ns, i, l, m, S⟩ := S
  exact ⟨ns, i, l, m, e1.trans S.dc, e2.trans S.cs, S.nn, S.i0, S.l0, S.m0, S.m1⟩
theorem St1.same {K : PySem.W.Frag} {H H' : Hp} {d c : Addr} (S : St1 K H d c) (e : Same H H') : St1 K H' d c := by
  obtain ⟨ns, i, l, m, S⟩ := S
  exact ⟨ns, i, l, m, e _ _ S.dc, e _ _ S.cs, S.nn, S.i0, S.l0, S.m0, S.m1⟩
theorem St1.new {K : PySem.W.Frag} {H : Hp} {d c a : Addr} {o : HO} (S : St1 K H d c) (h : H a = none) : St1 K (upd H a o) d c := S.same (same_new h)
theorem St1.nd {K : PySem.W.Frag} {H : Hp} {d c a : Addr} (S : St1 K H d c) (h : H a = none) : a ≠ d := let ⟨_, e⟩ := S.dk; (ne_of_none e h).symm
theorem St1.nc {K : PySem.W.Frag} {H : Hp} {d c a : Addr} (S : St1 K H d c) (h : H a = none) : a ≠ c := let ⟨_, e⟩ := S.cl; (ne_of_none e h).symm
theorem St1.put {K : PySem.W.Frag} {H : Hp} {d c a : Addr} {o : HO} (S : St1 K H d c) (h1 : a ≠ d) (h2 : a ≠ c) : St1 K (upd H a o) d c := S.of (upd_ne h1.symm) (upd_ne h2.symm)
theorem StAt.put {K : PySem.W.Frag} {H : Hp} {d c : Addr} {ns : List Int} {i l m i' l' m' : Int} (S : StAt K H d c ns i l m) (h0 : 0 ≤ i') (h1 : 0 ≤ l') (h2 : 0 ≤ m') (h3 : m' < 2147483648) :
    StAt K (upd H d (.dK (stK c i' l' m'))) d c ns i' l' m' := ⟨upd_same, (Keep.upd d H _).lst S.dc S.cs, S.nn, h0, h1, h2, h3⟩
section
variable {H : Hp} {d c : Addr} {i l m j : Int}
theorem dg_cells (h : H d = some (.dK (stK c i l m))) : DGet H d (.str "cells") (some (.ref c)) := g_cells c i l m ▸ DGet.k (k := .inr "cells") h
theorem dg_at (h : H d = some (.dK (stK c i l m))) : DGet H d (.str "at") (some (.int i)) := g_at c i l m ▸ DGet.k (k := .inr "at") h
theorem dg_left (h : H d = some (.dK (stK c i l m))) : DGet H d (.str "left") (some (.int l)) := g_left c i l m ▸ DGet.k (k := .inr "left") h
theorem dg_mix (h : H d = some (.dK (stK c i l m))) : DGet H d (.str "mix") (some (.int m)) := g_mix c i l m ▸ DGet.k (k := .inr "mix") h
theorem st_few : (stK c i l m).length < sizeLine := Nat.lt_of_le_of_lt (show 4 ≤ 1000 by decide) (by decide)
theorem dp_at (h : H d = some (.dK (stK c i l m))) : DPut H d (.str "at") (.int j) (upd H d (.dK (stK c j l m))) := p_at c i l m j ▸ DPut.k (k := .inr "at") h st_few
theorem dp_left (h : H d = some (.dK (stK c i l m))) : DPut H d (.str "left") (.int j) (upd H d (.dK (stK c i j m))) := p_left c i l m j ▸ DPut.k (k := .inr "left") h st_few
theorem dp_mix (h : H d = some (.dK (stK c i l m))) : DPut H d (.str "mix") (.int j) (upd H d (.dK (stK c i l j))) := p_mix c i l m j ▸ DPut.k (k := .inr "mix") h st_few
end
/-! what follows is shown once, for both ways of an if ahead of it -/
theorem cut {t u : TS} {D : Ends} {σ : L2.St} {H : Hp} (I : L2.St → Hp → Prop) (h2 : ∀ σ' H', I σ' H' → u D σ' H') (h1 : (∀ σ' H', I σ' H' → u D σ' H') → t { D with nx := u D } σ H) : tSeq t u D σ H := h1 h2

/-! the promises of the draws -/
/-- the bound's bound -/
def big : Int := 10000000000000000000000000000000000000000000000000000000000000000000000
def spStart (K : PySem.W.Frag) : Sp := fun vs H Q _ => ∃ (a : Addr) (ns : List Int), vs = [.ref a] ∧ SqL K H a (ns.map V.int) ∧ ns.length ≤ 63 ∧ ∀ d c H', H d = none → H c = none → St1 K H' d c → Same H H' → Q (.ref d) H'
def spDraw (K : PySem.W.Frag) : Sp := fun vs H Q _ => ∃ (d c : Addr) (b : Int), vs = [.ref d, .int b] ∧ St1 K H d c ∧ 0 < b ∧ b ≤ 10000000000000000000000000000000000000000000000000000000000000000000000 ∧
  ∀ n H', 0 ≤ n → n < b → St1 K H' d c → Keep d H H' → Q (.int n) H'
def spPick (K : PySem.W.Frag) : Sp := fun vs H Q _ => ∃ (d c l : Addr) (xs : List V), vs = [.ref d, .ref l] ∧ St1 K H d c ∧ SqL K H l xs ∧ xs ≠ [] ∧ xs.length ≤ 1000 ∧
  ∀ v H', v ∈ xs → St1 K H' d c → Keep d H H' → Q v H'
/-- a value's kind -/
def isInt : V → Bool | .int _ => true | _ => false
def isBl : V → Bool | .bl _ => true | _ => false
def spIsNum : Sp := fun vs H Q _ => ∃ n : Int, vs = [.int n] ∧ Q (.bl true) H
theorem log_of {b : Int} (h0 : 0 < b) (h1 : b ≤ 10000000000000000000000000000000000000000000000000000000000000000000000) : CDivW l b := wide_div (b := 300) h0 (by
  have : (b.natAbs : Int) = b := by omega
  have e : (2 : Nat) ^ 300 = 2037035976334486086268445688409378161051468393665936250636140449354381299763336706183397376 := by decide +kernel
  rw [e]
  omega) (by decide) (by decide)
/-! tests whose answer is known -/
theorem ifN {c A B : Prop} [Decidable c] (h : ¬ c) (q : B) : if decide c = true then A else B := by
  rw [decide_eq_false h]
  exact iteF q
theorem ifY {c A B : Prop} [Decidable c] (h : c) (q : A) : if decide c = true then A else B := by
  rw [decide_eq_true h]
  exact iteT q
theorem wm {i j : Int} (hi : i.natAbs < 2 ^ 250) (hj : j.natAbs < 2 ^ 250) : CMulW i j := wide_mul hi hj (by decide) (by decide) (by decide)
theorem ltge (a b : Int) : a < b ∨ b ≤ a := by omega
theorem nm {i : Nat} {x : V} {σ : L2.St} {H : Hp} {k : L2.St → Hp → Prop} (h : k (σ.set i (some x)) H) : gName i x σ H k := h
/-! math.isqrt -/
def rIsqrt : List V → Hp → VK → Prop := fun vs H Q => ∃ n : Int, vs = [.int n] ∧ 0 ≤ n ∧ n.natAbs < 2 ^ 250 ∧ ∀ r : Int, 0 ≤ r → r * r ≤ n → n < (r + 1) * (r + 1) → Q (.int r) H
theorem cr_isqrt {X : Cx} : CallR X (.builtin "math.isqrt") rIsqrt := by
  intro pins s σ H vs us Q I r h
  obtain ⟨a, rfl, h0, h1, q⟩ := h
  obtain ⟨u, rfl, t, rfl⟩ := vals1 r
  have hl : a.toNat.log2 < 250 := by
    have e : a.toNat = a.natAbs := by omega
    rw [e]
    exact PySem.Flt.log2_lt_of (by decide) h1
  obtain ⟨z1, z2⟩ := PySem.Float64.isqrt_spec a.toNat
  refine call_function_meets PySem.W.MGF.kind_isqrt PySem.W.MGF.plain_isqrt PySem.W.MGF.entry_isqrt (PySem.W.MGF.args_isqrt _) (PySem.W.mg_run_isqrt a t (by omega) (by omega) (by omega)).meets ?_
  refine ⟨.int ((Float64.isqrt a.toNat : Nat) : Int), H, I.tok _, ⟨_, rfl⟩, q _ (Int.natCast_nonneg _) ?_ ?_⟩
  · have := Int.ofNat_le.mpr z1
    rw [Int.natCast_mul] at this
    omega
  · have := Int.ofNat_lt.mpr z2
    rw [Int.natCast_mul, Int.natCast_add] at this
    have e : ((a.toNat : Nat) : Int) = a := by omega
    rw [e] at this
    exact this
theorem szOk {xs : List V} (h : Nat.ble xs.length 1000 = true) : xs.length ≤ sizeLine := Nat.le_trans (Nat.le_of_ble_eq_true h) (by decide)
theorem eqN {a b : Int} {A B : Prop} (h : a ≠ b) (q : B) : if decide (V.int a = V.int b) = true then A else B := ifN (fun z => h (V.int.inj z)) q
theorem eqY {a b : Int} {A B : Prop} (h : a = b) (q : A) : if decide (V.int a = V.int b) = true then A else B := ifY (congrArg V.int h) q
theorem neN {a b : Int} {A B : Prop} (h : a = b) (q : B) : if (!decide (V.int a = V.int b)) = true then A else B := iteNS (congrArg V.int h) q
/-! tracked things behind a call that changes the state alone -/
section
variable {K : PySem.W.Frag} {d c : Addr} {H H' : Hp}
theorem Keep.l (k : Keep d H H') (S : St1 K H d c) {a : Addr} {xs : List V} (h : H a = some (.lst xs)) : H' a = some (.lst xs) := let ⟨_, e⟩ := S.dk; k.lst e h
theorem Keep.t (k : Keep d H H') (S : St1 K H d c) {a : Addr} {xs : List V} (h : H a = some (.tup xs)) : H' a = some (.tup xs) := let ⟨_, e⟩ := S.dk; k.tp e h
theorem Keep.sl (k : Keep d H H') (S : St1 K H d c) {a : Addr} {xs : List V} (h : SqL K H a xs) : SqL K H' a xs := let ⟨_, e⟩ := S.dk; k.seq e h
theorem Keep.st (k : Keep d H H') (S : St1 K H d c) {a : Addr} {xs : List V} (h : SqT K H a xs) : SqT K H' a xs := let ⟨_, e⟩ := S.dk; k.tup e h
end
theorem sq0 (x : Int) : 0 ≤ x * x := by
  rcases ltge x 0 with z | z
  · have := Int.mul_nonneg (show 0 ≤ -x by omega) (show 0 ≤ -x by omega)
    rw [Int.neg_mul_neg] at this
    exact this
  · exact Int.mul_nonneg z z
theorem atI0 {α : Type} {xs : List α} {j : Nat} {v : α} (h : xs[j]? = some v) : atI xs (0 + (j : Int)) = some v := by
  rw [Int.zero_add]
  exact atI_nat h
theorem atI_back {α : Type} {xs : List α} {v : α} (h : xs.getLast? = some v) : atI xs (-1) = some v := by
  obtain ⟨ys, rfl⟩ := List.getLast?_eq_some_iff.mp h
  exact atI_last ys v
theorem eqvN {d : PyData} {A B : Prop} (h : d.canLay0 = true) (q : B) : if (!PyData.eqv d d) = true then A else B := by
  rw [SeqAt.eqv_refl d h]
  exact q
theorem getInt {ns : List Int} {i : Nat} {y : V} (h : (ns.map V.int)[i]? = some y) : ∃ x, y = .int x ∧ x ∈ ns ∧ i < ns.length ∧ ns.take (i + 1) = ns.take i ++ [x] := by
  rw [List.getElem?_map] at h
  cases e : ns[i]? with
  | none => rw [e] at h; cases h
  | some x =>
    rw [e] at h
    exact ⟨x, (Option.some.inj h).symm, List.mem_of_getElem? e, (List.getElem?_eq_some_iff.mp e).1, by rw [List.take_add_one, e]; rfl⟩
/-- the built-in names that the text has not bound -/
structure Txt0 (mg : Str → Option Value) : Prop where
  abs : mg "abs" = none
  int : mg "int" = none
  len : mg "len" = none
  bool : mg "bool" = none
  isinstance : mg "isinstance" = none
structure TxtA (mg : Str → Option Value) : Prop extends Txt0 mg where
  max : mg "max" = none
  min : mg "min" = none
  range : mg "range" = none
  tuple : mg "tuple" = none
  list : mg "list" = none
  sum : mg "sum" = none
  any : mg "any" = none
  all : mg "all" = none
  sorted : mg "sorted" = none
  dict : mg "dict" = none
  enumerate : mg "enumerate" = none
theorem getMap {α : Type} {f : α → V} {ns : List α} {i : Nat} {y : V} (h : (ns.map f)[i]? = some y) : ∃ x, y = f x ∧ x ∈ ns ∧ i < ns.length ∧ ns.take (i + 1) = ns.take i ++ [x] := by
  rw [List.getElem?_map] at h
  cases e : ns[i]? with
  | none => rw [e] at h; cases h
  | some x =>
    rw [e] at h
    exact ⟨x, (Option.some.inj h).symm, List.mem_of_getElem? e, (List.getElem?_eq_some_iff.mp e).1, by rw [List.take_add_one, e]; rfl⟩
theorem sq_le {x b : Int} (h0 : -b ≤ x) (h1 : x ≤ b) : x * x ≤ b * b := by
  rcases ltge x 0 with z | z
  · have := Int.mul_le_mul (show -x ≤ b by omega) (show -x ≤ b by omega) (show 0 ≤ -x by omega) (show 0 ≤ b by omega)
    rw [Int.neg_mul_neg] at this
    exact this
  · exact Int.mul_le_mul h1 h1 z (by omega)
/-- 2 ^ (24 - i) -/
def pw (i : Nat) : Int := (2 ^ (24 - i) : Nat)
theorem pw_step {i : Nat} (h : i < 24) : pw i = 2 * pw (i + 1) := by
  unfold pw
  rw [show 24 - i = (24 - (i + 1)) + 1 by omega, Nat.pow_succ]
  omega
theorem mapAt {α : Type} {f : α → V} {ns : List α} {i : Nat} (h : i < ns.length) : (ns.map f)[i]? = some (f ns[i]) := by simp [h]
theorem at_mod {α : Type} {f : α → V} {ns : List α} {z m : Int} (hm : m = (ns.length : Int)) (h : 0 < ns.length) : ∃ x, x ∈ ns ∧ atI (ns.map f) (z % m) = some (f x) := by
  obtain ⟨j, hj⟩ : ∃ j : Nat, z % m = (j : Int) := ⟨(z % m).toNat, by have := Int.emod_nonneg z (show m ≠ 0 by omega); omega⟩
  have hj2 : j < ns.length := by have := Int.emod_lt_of_pos z (show 0 < m by omega); omega
  exact ⟨ns[j], List.getElem_mem hj2, by rw [hj]; exact atI_nat (mapAt hj2)⟩
/-- all that stood, but at d -/
theorem Keep.none {d a : Addr} {H H' : Hp} (k : Keep d H H') (n : a ≠ d) (h : H' a = none) : H a = none := by
  cases e : H a with
  | none => rfl
  | some o => rw [k _ _ e n] at h; cases h
theorem atI_lastn {α : Type} {xs : List α} {v : α} {m : Int} (hm : m = (xs.length : Int) - 1) (h : xs.getLast? = some v) : atI xs m = some v := by
  obtain ⟨ys, rfl⟩ := List.getLast?_eq_some_iff.mp h
  rw [hm, List.length_append, List.length_singleton]
  have e : ((ys.length + 1 : Nat) : Int) - 1 = ((ys.length : Nat) : Int) := by omega
  rw [e]
  exact atI_nat (by simp)
theorem sq_swap (a b : Int) : (a - b) * (a - b) = (b - a) * (b - a) := by
  have e : a - b = -(b - a) := by omega
  rw [e, Int.neg_mul_neg]
def rLenK (K : PySem.W.Frag) : List V → Hp → VK → Prop := fun xs H Q => ∃ p ys, xs = [V.ref p] ∧ (SqL K H p ys ∨ SqT K H p ys) ∧ Q (.int ys.length) H
end Sk

set_option Elab.async false
set_option linter.all false
set_option maxRecDepth 100000
set_option maxHeartbeats 4000000
namespace Sk
open PySem PySem.Spec PyProof.Rows L2
/-! a method of the text, ready to be called -/
structure MDef (P : Program) (w : World) (K : PySem.W.Frag) (mg : Str → Option Value) (base : Heap) (k : Nat) (C : Addr) (m : Str) (ps : List Str) (sp : Sp) : Prop where
  ex : ∃ (f : Addr) (fd : FuncData), FnOk P w K mg base CX0 k f fd ps sp ∧ Meth K C m f ∧ Binds K fd ps []
theorem pe_mdef {X : Cx} {k : Nat} {C : Addr} {m : Str} {ps : List Str} {sp : Sp} {pos apos : Pos} {o e : Expr} {es : List Expr} {ta : TE} {t : TA} {pl : Sem Bool} (D : MDef X.prog X.w X.K X.mg X.base k C m ps sp) (cl : Cls X.K C) (hr : Room k X.A) (ho : PE X o ta)
    (ha : PA X (e :: es) t) (he : starEach (e :: es) X.env = (false, eval e X.env) :: starEach es X.env := by rfl) (hpl : (backTo pos (starEach es X.env)).any (·.1) = false := by rfl)
    (ht : eval (.Call (.Attribute o m apos) (e :: es) [] pos) X.env = (do
      let ov ← eval o X.env
      standAt apos.atName
      let (f, first) ← holding [ov] (getMethod ov m pl)
      callWith pos f first (backTo pos (starEach (e :: es) X.env)) (backToKw pos (keywordEach [] X.env))) := by rfl) :
    PE X (.Call (.Attribute o m apos) (e :: es) [] pos) (tMeth C m sp [] E0 ta t) := by
  obtain ⟨f, fd, F, M, b⟩ := D.ex
  exact pe_meth ho cl M F hr b .nil pass0 ha he hpl ht
theorem pe_mdef0 {X : Cx} {k : Nat} {C : Addr} {m : Str} {ps : List Str} {sp : Sp} {pos apos : Pos} {o : Expr} {ta : TE} {pl : Sem Bool} (D : MDef X.prog X.w X.K X.mg X.base k C m ps sp) (cl : Cls X.K C) (hr : Room k X.A) (ho : PE X o ta)
    (ht : eval (.Call (.Attribute o m apos) [] [] pos) X.env = (do
      let ov ← eval o X.env
      standAt apos.atName
      let (f, first) ← holding [ov] (getMethod ov m pl)
      callWith pos f first (backTo pos (starEach [] X.env)) (backToKw pos (keywordEach [] X.env))) := by rfl) :
    PE X (.Call (.Attribute o m apos) [] [] pos) (tMeth C m sp [] E0 ta tNil) := by
  obtain ⟨f, fd, F, M, b⟩ := D.ex
  exact pe_meth0 ho cl M F hr b .nil pass0 ht
/-! roots -/
def rt (n : Int) : Int :=
  let q : Int := (Float64.isqrt n.toNat : Nat)
  if q * q < n then q + 1 else q
structure IsRt (n r : Int) : Prop where
  nn : 0 ≤ r
  up : n ≤ r * r
  lo : r = 0 ∨ (r - 1) * (r - 1) < n
theorem mono_sq {a b : Int} (h0 : 0 ≤ a) (h : a ≤ b) : a * a ≤ b * b := Int.mul_le_mul h h h0 (by omega)
theorem IsRt.le {n r r' : Int} (h : IsRt n r) (h' : IsRt n r') : r ≤ r' := by
  rcases h.lo with z | z
  · have := h'.nn; omega
  · rcases ltge r' r with w | w
    · have a := mono_sq h'.nn (show r' ≤ r - 1 by omega)
      have b := h'.up
      omega
    · exact w
theorem IsRt.eq {n r r' : Int} (h : IsRt n r) (h' : IsRt n r') : r = r' := by
  have a := h.le h'
  have b := h'.le h
  omega
theorem rt_is {n : Int} (hn : 0 ≤ n) : IsRt n (rt n) := by
  obtain ⟨z1, z2⟩ := PySem.Float64.isqrt_spec n.toNat
  have e : ((n.toNat : Nat) : Int) = n := by omega
  have a := Int.ofNat_le.mpr z1
  have b := Int.ofNat_lt.mpr z2
  rw [Int.natCast_mul, e] at a
  rw [Int.natCast_mul, Int.natCast_add, e] at b
  have q0 : (0 : Int) ≤ (Float64.isqrt n.toNat : Nat) := Int.natCast_nonneg _
  unfold rt
  dsimp only
  generalize ((Float64.isqrt n.toNat : Nat) : Int) = q at a b q0 ⊢
  have b' : n < (q + 1) * (q + 1) := b
  by_cases h : q * q < n
  · rw [if_pos h]
    exact ⟨by omega, by omega, .inr (by rw [show q + 1 - 1 = q by omega]; exact h)⟩
  · rw [if_neg h]
    refine ⟨q0, by omega, ?_⟩
    rcases ltge 0 q with w | w
    · right
      have : (q - 1) * (q - 1) = q * q - 2 * q + 1 := by
        rw [Int.sub_mul, Int.mul_sub, Int.mul_sub]; omega
      omega
    · left; omega
theorem rt_nn {n : Int} (hn : 0 ≤ n) : 0 ≤ rt n := (rt_is hn).nn
theorem rt_small {n b : Int} (hn : 0 ≤ n) (hb : 0 ≤ b) (h : n ≤ b * b) : rt n ≤ b := by
  rcases (rt_is hn).lo with z | z
  · omega
  · rcases ltge b (rt n) with w | w
    · have := mono_sq hb (show b ≤ rt n - 1 by omega)
      omega
    · exact w
/-! texts whose signs are signs -/
abbrev sOk (x : Str) : Prop := PySem.PyData.strOk x = true
theorem sOk_app {x y : Str} (h1 : sOk x) (h2 : sOk y) : sOk (x ++ y) := by
  unfold sOk PySem.PyData.strOk at *
  show (x.cps ++ y.cps).all (· < 0x110000) = true
  rw [Array.all_append, h1, h2]
  rfl
/-! the chart -/
structure Lg where
  a : Addr
  s : Str
  e : Str
  c : Str
  lo : Int
  hi : Int
def Lg.v (l : Lg) : List V := [.str l.s, .str l.e, .str l.c, .int l.lo, .int l.hi]
structure CD where
  fx : Addr
  lg : Addr
  fs : List (Key × V)
  pt : Str → Option (Addr × Int × Int)
  ls : List Lg
structure ChartAt (H : Hp) (ch : Addr) (D : CD) : Prop where
  ch : ∃ kvs, H ch = some (.dK kvs) ∧ valV kvs (.inr "fixes") = some (.ref D.fx) ∧ valV kvs (.inr "legs") = some (.ref D.lg)
  fx : H D.fx = some (.dK D.fs)
  lg : H D.lg = some (.lst (D.ls.map fun l => V.ref l.a))
  lt : ∀ l ∈ D.ls, H l.a = some (.tup l.v)
  pf : ∀ n a x y, D.pt n = some (a, x, y) → valV D.fs (.inr n) = some (.ref a) ∧ H a = some (.tup [.int x, .int y]) ∧ -100000 ≤ x ∧ x ≤ 100000 ∧ -100000 ≤ y ∧ y ≤ 100000
  wf : ∀ l ∈ D.ls, (∃ a x y, D.pt l.s = some (a, x, y)) ∧ ∃ a x y, D.pt l.e = some (a, x, y)
  sk : ∀ l ∈ D.ls, sOk l.s ∧ sOk l.e ∧ sOk l.c
  n : D.ls.length ≤ 100
theorem ChartAt.same {H H' : Hp} {ch : Addr} {D : CD} (C : ChartAt H ch D) (e : Same H H') : ChartAt H' ch D := by
  obtain ⟨⟨kvs, h1, h2, h3⟩, h4, h5, h6, h7, h8, h8', h9⟩ := C
  exact ⟨⟨kvs, e _ _ h1, h2, h3⟩, e _ _ h4, e _ _ h5, fun l hl => e _ _ (h6 l hl), fun n a x y hp => let ⟨p1, p2, p3⟩ := h7 n a x y hp; ⟨p1, e _ _ p2, p3⟩, h8, h8', h9⟩
theorem ChartAt.keep {K : PySem.W.Frag} {H H' : Hp} {d c ch : Addr} {D : CD} (C : ChartAt H ch D) (S : St1 K H d c) (k : Keep d H H') (n1 : ch ≠ d) (n2 : D.fx ≠ d) : ChartAt H' ch D := by
  obtain ⟨⟨kvs, h1, h2, h3⟩, h4, h5, h6, h7, h8, h8', h9⟩ := C
  exact ⟨⟨kvs, k _ _ h1 n1, h2, h3⟩, k _ _ h4 n2, k.l S h5, fun l hl => k.t S (h6 l hl), fun n a x y hp => let ⟨p1, p2, p3⟩ := h7 n a x y hp; ⟨p1, k.t S p2, p3⟩, h8, h8', h9⟩
theorem ChartAt.gf {H : Hp} {ch : Addr} {D : CD} (C : ChartAt H ch D) : DGet H ch (.str "fixes") (some (.ref D.fx)) := let ⟨_, h1, h2, _⟩ := C.ch; h2 ▸ DGet.k (k := .inr "fixes") h1
theorem ChartAt.gl {H : Hp} {ch : Addr} {D : CD} (C : ChartAt H ch D) : DGet H ch (.str "legs") (some (.ref D.lg)) := let ⟨_, h1, _, h3⟩ := C.ch; h3 ▸ DGet.k (k := .inr "legs") h1
theorem ChartAt.gp {H : Hp} {ch : Addr} {D : CD} (C : ChartAt H ch D) {n : Str} {a : Addr} {x y : Int} (h : D.pt n = some (a, x, y)) : DGet H D.fx (.str n) (some (.ref a)) := (C.pf n a x y h).1 ▸ DGet.k (k := .inr n) C.fx
/-- the length of the leg between two names -/
def CD.len (D : CD) (s e : Str) : Int := match D.pt s, D.pt e with
  | some (_, ax, ay), some (_, bx, by') => rt ((bx - ax) * (bx - ax) + (by' - ay) * (by' - ay))
  | _, _ => 0
theorem CD.len_eq {D : CD} {s e : Str} {a b : Addr} {ax ay bx by' : Int} (h1 : D.pt s = some (a, ax, ay)) (h2 : D.pt e = some (b, bx, by')) : D.len s e = rt ((bx - ax) * (bx - ax) + (by' - ay) * (by' - ay)) := by
  unfold CD.len
  rw [h1, h2]
def CD.leg (D : CD) (s e : Str) : Option Lg := D.ls.find? fun l => decide (l.s = s) && decide (l.e = e)
def optL : Option Lg → V
  | some l => .ref l.a
  | none => .non
theorem CD.leg_mem {D : CD} {s e : Str} {l : Lg} (h : D.leg s e = some l) : l ∈ D.ls ∧ l.s = s ∧ l.e = e := by
  have h1 := List.find?_some h
  simp only [Bool.and_eq_true, decide_eq_true_eq] at h1
  exact ⟨List.mem_of_find?_eq_some h, h1.1, h1.2⟩
/-! promises -/
def spUpR : Sp := fun vs H Q _ => ∃ n : Int, vs = [.int n] ∧ 0 ≤ n ∧ n.natAbs < 2 ^ 240 ∧ Q (.int (rt n)) H
def spDownR : Sp := fun vs H Q _ => ∃ n : Int, vs = [.int n] ∧ n.natAbs < 2 ^ 250 ∧ ∀ r : Int, 0 ≤ r → (n ≤ 0 → r = 0) → (0 ≤ n → r * r ≤ n ∧ n < (r + 1) * (r + 1)) → Q (.int r) H
def spRootR : Sp := fun vs H Q _ => ∃ n : Int, vs = [.int n] ∧ 0 ≤ n ∧ n ≤ 100000000000000 ∧ Q (.int (rt n)) H
def spLegLen : Sp := fun vs H Q _ => ∃ (ch : Addr) (D : CD) (s e : Str) (a b : Addr) (ax ay bx by' : Int), vs = [.ref ch, .str s, .str e] ∧ ChartAt H ch D ∧ D.pt s = some (a, ax, ay) ∧ D.pt e = some (b, bx, by') ∧ Q (.int (D.len s e)) H
def spLegBt : Sp := fun vs H Q _ => ∃ (ch : Addr) (D : CD) (s e : Str), vs = [.ref ch, .str s, .str e] ∧ ChartAt H ch D ∧ Q (optL (D.leg s e)) H
def spIs : Sp := fun vs H Q _ => ∃ a b : Bool, vs = [.bl a, .bl b] ∧ Q (.bl (decide (a = b))) H
/-- a list of texts -/
def spNames (K : PySem.W.Frag) : Sp := fun vs H Q _ => ∃ (d c : Addr) (m : Int), vs = [.ref d, .int m] ∧ St1 K H d c ∧ 0 ≤ m ∧ m ≤ 12 ∧
  ∀ (ns : List Str) p H', (ns.length : Int) = m → (∀ n ∈ ns, sOk n) → ns.Nodup → H p = none → H' p = some (.lst (ns.map V.str)) → St1 K H' d c → Keep d H H' → Q (.ref p) H'
/-- legs among the names -/
structure LegsAt (H : Hp) (l : Addr) (ns : List Str) (ls : List Lg) : Prop where
  li : H l = some (.lst (ls.map fun l => V.ref l.a))
  tu : ∀ q ∈ ls, H q.a = some (.tup q.v)
  nm : ∀ q ∈ ls, q.s ∈ ns ∧ q.e ∈ ns
  ck : ∀ q ∈ ls, sOk q.c
  ne : ns.Nodup → ∀ q ∈ ls, q.s ≠ q.e
theorem LegsAt.same {H H' : Hp} {l : Addr} {ns : List Str} {ls : List Lg} (L : LegsAt H l ns ls) (e : Same H H') : LegsAt H' l ns ls := ⟨e _ _ L.li, fun q h => e _ _ (L.tu q h), L.nm, L.ck, L.ne⟩
theorem LegsAt.keep {K : PySem.W.Frag} {H H' : Hp} {d c l : Addr} {ns : List Str} {ls : List Lg} (L : LegsAt H l ns ls) (S : St1 K H d c) (k : Keep d H H') : LegsAt H' l ns ls := ⟨k.l S L.li, fun q h => k.t S (L.tu q h), L.nm, L.ck, L.ne⟩
theorem LegsAt.snoc {H : Hp} {l : Addr} {ns : List Str} {ls : List Lg} {q : Lg} (L : LegsAt H l ns ls) (hp : H q.a = some (.tup q.v)) (h1 : q.s ∈ ns) (h2 : q.e ∈ ns) (h3 : sOk q.c) (h4 : ns.Nodup → q.s ≠ q.e) : LegsAt (upd H l (.lst ((ls.map fun l => V.ref l.a) ++ [.ref q.a]))) l ns (ls ++ [q]) := by
  refine ⟨by rw [upd_same, List.map_append]; rfl, fun z hz => ?_, fun z hz => ?_, fun z hz => ?_, fun nd z hz => ?_⟩
  · have ht : H z.a = some (.tup z.v) := by
      rcases List.mem_append.mp hz with h | h
      · exact L.tu z h
      · rw [List.mem_singleton.mp h]; exact hp
    rw [upd_ne (ne_of ht L.li (by intro e; cases e))]
    exact ht
  · rcases List.mem_append.mp hz with h | h
    · exact L.nm z h
    · rw [List.mem_singleton.mp h]; exact ⟨h1, h2⟩
  · rcases List.mem_append.mp hz with h | h
    · exact L.ck z h
    · rw [List.mem_singleton.mp h]; exact h3
  · rcases List.mem_append.mp hz with h | h
    · exact L.ne nd z h
    · rw [List.mem_singleton.mp h]; exact h4 nd
def spLegs (K : PySem.W.Frag) : Sp := fun vs H Q _ => ∃ (d c l : Addr) (ns : List Str), vs = [.ref d, .ref l] ∧ St1 K H d c ∧ H l = some (.lst (ns.map V.str)) ∧ 2 ≤ ns.length ∧ ns.length ≤ 12 ∧
  ∀ (ls : List Lg) p H', LegsAt H' p ns ls → ls.length ≤ 100 → H p = none → St1 K H' d c → Keep d H H' → Q (.ref p) H'
def spChart (K : PySem.W.Frag) : Sp := fun vs H Q _ => ∃ (d c : Addr) (m z : Int), vs = [.ref d, .int m, .int z] ∧ St1 K H d c ∧ 2 ≤ m ∧ m ≤ 7 ∧ 1 ≤ z ∧ z ≤ 9000 ∧
  ∀ (D : CD) ch H', (∀ l ∈ D.ls, 1 ≤ D.len l.s l.e) → ChartAt H' ch D → H ch = none → H D.fx = none → St1 K H' d c → Keep d H H' → Q (.ref ch) H'
def spLawLeg : Sp := spLegBt
/-! the parts of a chart while it is made -/
/-- all but two -/
def Keep2 (d e : Addr) (H H' : Hp) : Prop := ∀ c o, H c = some o → c ≠ d → c ≠ e → H' c = some o
theorem Keep2.refl (d e : Addr) (H : Hp) : Keep2 d e H H := fun _ _ h _ _ => h
theorem Keep2.k {d e : Addr} {H H1 H2 : Hp} (a : Keep2 d e H H1) (b : Keep d H1 H2) : Keep2 d e H H2 := fun c o h n m => b c o (a c o h n m) n
theorem Keep2.new {d e p : Addr} {o : HO} {H H1 : Hp} (a : Keep2 d e H H1) (h : H1 p = none) : Keep2 d e H (upd H1 p o) := fun c u q n m => same_new h _ _ (a c u q n m)
theorem Keep2.put {d e : Addr} {o : HO} {H H1 : Hp} (a : Keep2 d e H H1) : Keep2 d e H (upd H1 e o) := fun c u q n m => by
  rw [upd_ne m]
  exact a c u q n m
structure FixAt (H : Hp) (f : Addr) (kvs : List (Key × V)) (pt : Str → Option (Addr × Int × Int)) (ns : List Str) : Prop where
  dc : H f = some (.dK kvs)
  pf : ∀ n a x y, pt n = some (a, x, y) → valV kvs (.inr n) = some (.ref a) ∧ H a = some (.tup [.int x, .int y]) ∧ -100000 ≤ x ∧ x ≤ 100000 ∧ -100000 ≤ y ∧ y ≤ 100000
  nm : ∀ n ∈ ns, ∃ a x y, pt n = some (a, x, y)
theorem FixAt.same {H H' : Hp} {f : Addr} {kvs : List (Key × V)} {pt : Str → Option (Addr × Int × Int)} {ns : List Str} (F : FixAt H f kvs pt ns) (e : Same H H') : FixAt H' f kvs pt ns :=
  ⟨e _ _ F.dc, fun n a x y h => let ⟨h1, h2, h3⟩ := F.pf n a x y h; ⟨h1, e _ _ h2, h3⟩, F.nm⟩
theorem FixAt.keep {K : PySem.W.Frag} {H H' : Hp} {d c f : Addr} {kvs : List (Key × V)} {pt : Str → Option (Addr × Int × Int)} {ns : List Str} (F : FixAt H f kvs pt ns) (S : St1 K H d c) (k : Keep d H H') (n : f ≠ d) : FixAt H' f kvs pt ns :=
  ⟨k _ _ F.dc n, fun n a x y h => let ⟨h1, h2, h3⟩ := F.pf n a x y h; ⟨h1, k.t S h2, h3⟩, F.nm⟩
theorem FixAt.keep2 {K : PySem.W.Frag} {H H' : Hp} {d c e f : Addr} {o : List (Key × V)} {kvs : List (Key × V)} {pt : Str → Option (Addr × Int × Int)} {ns : List Str} (F : FixAt H f kvs pt ns) (S : St1 K H d c) (he : ∀ xs, H e ≠ some (.tup xs)) (k : Keep2 d e H H') (n : f ≠ d) (m : f ≠ e) : FixAt H' f kvs pt ns :=
  ⟨k _ _ F.dc n m, fun n a x y h => let ⟨h1, h2, h3⟩ := F.pf n a x y h; ⟨h1, k _ _ h2 (let ⟨_, z⟩ := S.dk; ne_of h2 z (by intro w; cases w)) (fun w => he _ (w ▸ h2)), h3⟩, F.nm⟩
theorem FixAt.put {H : Hp} {f p : Addr} {kvs : List (Key × V)} {pt : Str → Option (Addr × Int × Int)} {ns : List Str} {n : Str} {x y : Int} (F : FixAt H f kvs pt ns) (hp : H p = some (.tup [.int x, .int y])) (b : -100000 ≤ x ∧ x ≤ 100000 ∧ -100000 ≤ y ∧ y ≤ 100000) :
    FixAt (upd H f (.dK (putK kvs (.inr n) (.ref p)))) f (putK kvs (.inr n) (.ref p)) (fun m => if m = n then some (p, x, y) else pt m) (ns ++ [n]) := by
  refine ⟨upd_same, fun m a u v h => ?_, fun m hm => ?_⟩
  · rw [valV_put]
    by_cases e : m = n
    · subst e
      simp only [if_true] at h
      cases h
      rw [if_pos rfl, upd_ne (ne_of hp F.dc (by intro z; cases z))]
      exact ⟨rfl, hp, b⟩
    · simp only [if_neg e] at h
      obtain ⟨h1, h2, h3⟩ := F.pf m a u v h
      rw [if_neg (fun z => e (Sum.inr.inj z)), upd_ne (ne_of h2 F.dc (by intro z; cases z))]
      exact ⟨h1, h2, h3⟩
  · by_cases e : m = n
    · exact ⟨p, x, y, by simp [e]⟩
    · rcases List.mem_append.mp hm with h | h
      · obtain ⟨a, u, v, h⟩ := F.nm m h
        exact ⟨a, u, v, by simp only [if_neg e]; exact h⟩
      · exact absurd (List.mem_singleton.mp h) e
theorem putK_len {kvs : List (Key × V)} {k : Key} {v : V} : (putK kvs k v).length ≤ kvs.length + 1 := by
  unfold putK
  split
  · rw [List.length_map]; omega
  · rw [List.length_append]; exact Nat.le_refl _
section
variable {f l z r h u w : V}
def chK (f l z r h u w : V) : List (Key × V) := putK (putK (mergeK [] [(.inr "fixes", f), (.inr "legs", l), (.inr "zones", z), (.inr "runways", r), (.inr "holds", h)]) (.inr "hours") u) (.inr "capacities") w
theorem ch_fix : valV (chK f l z r h u w) (.inr "fixes") = some f := by
  unfold chK
  simp only [mergeK, List.foldl, valV_put]
  rw [if_neg (kr (by decide +kernel)), if_neg (kr (by decide +kernel)), if_neg (kr (by decide +kernel)), if_neg (kr (by decide +kernel)), if_neg (kr (by decide +kernel)), if_neg (kr (by decide +kernel)), if_pos trivial]
theorem ch_leg : valV (chK f l z r h u w) (.inr "legs") = some l := by
  unfold chK
  simp only [mergeK, List.foldl, valV_put]
  rw [if_neg (kr (by decide +kernel)), if_neg (kr (by decide +kernel)), if_neg (kr (by decide +kernel)), if_neg (kr (by decide +kernel)), if_neg (kr (by decide +kernel)), if_pos trivial]
theorem ch_len : (mergeK [] [((.inr "fixes" : Key), f), (.inr "legs", l), (.inr "zones", z), (.inr "runways", r), (.inr "holds", h)]).length ≤ 5 := by
  have := length_mergeK [((.inr "fixes" : Key), f), (.inr "legs", l), (.inr "zones", z), (.inr "runways", r), (.inr "holds", h)] []
  simpa using this
end
/-! routes -/
def rn (ns : List Str) (j : Nat) : Str := ns.getD j (Str.ofString "")
theorem rn_at {ns : List Str} {j : Nat} (h : j < ns.length) : (ns.map V.str)[j]? = some (V.str (rn ns j)) := by
  unfold rn
  simp [h]
def Chain (D : CD) (ns : List Str) : Prop := ∀ j, j + 1 < ns.length → ∃ l, D.leg (rn ns j) (rn ns (j + 1)) = some l
theorem rn_l {xs ys : List Str} {j : Nat} (h : j < xs.length) : rn (xs ++ ys) j = rn xs j := by
  unfold rn
  rw [List.getD_eq_getElem?_getD, List.getD_eq_getElem?_getD, List.getElem?_append_left h]
theorem rn_r (xs : List Str) (b : Str) : rn (xs ++ [b]) xs.length = b := by
  unfold rn
  rw [List.getD_eq_getElem?_getD, List.getElem?_append_right (Nat.le_refl _), Nat.sub_self]
  rfl
theorem Chain.snoc {D : CD} {ns : List Str} {a b : Str} (h : Chain D ns) (ha : ns.getLast? = some a) (hl : ∃ l, D.leg a b = some l) : Chain D (ns ++ [b]) := by
  intro j hj
  rw [List.length_append, List.length_singleton] at hj
  obtain ⟨ys, rfl⟩ := List.getLast?_eq_some_iff.mp ha
  by_cases e : j + 1 < (ys ++ [a]).length
  · rw [rn_l (show j < (ys ++ [a]).length by omega), rn_l e]
    exact h j e
  · have ej : j = ys.length := by rw [List.length_append, List.length_singleton] at e hj; omega
    subst ej
    have e2 : rn (ys ++ [a] ++ [b]) (ys.length + 1) = b := by
      have := rn_r (ys ++ [a]) b
      rw [List.length_append, List.length_singleton] at this
      exact this
    rw [rn_l (by rw [List.length_append, List.length_singleton]; omega), rn_r, e2]
    exact hl
structure Route (D : CD) (ns : List Str) : Prop where
  n2 : 2 ≤ ns.length
  n20 : ns.length ≤ 20
  ch : Chain D ns
theorem CD.leg_some {D : CD} {l : Lg} (h : l ∈ D.ls) : ∃ l', D.leg l.s l.e = some l' := by
  cases e : D.leg l.s l.e with
  | some l' => exact ⟨l', rfl⟩
  | none =>
    have := List.find?_eq_none.mp e l h
    simp at this
/-- the lengths of the legs -/
def LenAt (H : Hp) (ld : Addr) (D : CD) : Prop := ∃ kvs, H ld = some (.dT kvs) ∧ ∀ s e l, D.leg s e = some l → valV kvs [(.inr s : Key), .inr e] = some (.int (D.len s e))
theorem LenAt.same {H H' : Hp} {ld : Addr} {D : CD} (L : LenAt H ld D) (e : Same H H') : LenAt H' ld D := let ⟨kvs, h1, h2⟩ := L; ⟨kvs, e _ _ h1, h2⟩
theorem LenAt.keep {K : PySem.W.Frag} {H H' : Hp} {d c ld : Addr} {D : CD} (L : LenAt H ld D) (S : St1 K H d c) (k : Keep d H H') : LenAt H' ld D :=
  let ⟨kvs, h1, h2⟩ := L; ⟨kvs, k _ _ h1 (let ⟨_, w⟩ := S.dk; ne_of h1 w (by intro z; cases z)), h2⟩
theorem LenAt.g {H : Hp} {ld p : Addr} {D : CD} {s e : Str} (L : LenAt H ld D) (h : ∃ l, D.leg s e = some l) (hp : H p = some (.tup [.str s, .str e])) : DGet H ld (.ref p) (some (.int (D.len s e))) := by
  obtain ⟨kvs, h1, h2⟩ := L
  obtain ⟨l, h⟩ := h
  rw [← h2 s e l h]
  exact DGet.t (k := [(.inr s : Key), .inr e]) h1 hp
def spLegS : Sp := fun vs H Q _ => ∃ (ch : Addr) (D : CD) (s e : Str), vs = [.ref ch, .str s, .str e] ∧ ChartAt H ch D ∧ ∀ H', Same H H' → Q (optL (D.leg s e)) H'
def spLens : Sp := fun vs H Q _ => ∃ (ch : Addr) (D : CD), vs = [.ref ch] ∧ ChartAt H ch D ∧ ∀ ld H', H ld = none → LenAt H' ld D → Same H H' → Q (.ref ld) H'
def spWalk (K : PySem.W.Frag) : Sp := fun vs H Q _ => ∃ (d c ch : Addr) (D : CD) (m : Int), vs = [.ref d, .ref ch, .int m] ∧ St1 K H d c ∧ ChartAt H ch D ∧ ch ≠ d ∧ D.fx ≠ d ∧ D.ls ≠ [] ∧ 1 ≤ m ∧ m ≤ 15 ∧
  ∀ (ns : List Str) r H', Route D ns → H r = none → H' r = some (.tup (ns.map V.str)) → St1 K H' d c → Keep d H H' → Q (.ref r) H'
theorem head_find {α : Type} (p : α → Bool) (xs : List α) : (xs.filter p).head? = xs.find? p := by
  rw [List.head?_filter]
/-! the places of a chart lie apart -/
theorem sq_pos {d : Int} (h : d ≠ 0) : 1 ≤ d * d := by
  rcases ltge 0 d with w | w
  · have := Int.mul_le_mul (show 1 ≤ d by omega) (show 1 ≤ d by omega) (by decide) (by omega)
    omega
  · have := Int.mul_le_mul (show 1 ≤ -d by omega) (show 1 ≤ -d by omega) (by decide) (by omega)
    rw [Int.neg_mul_neg] at this
    omega
theorem rt_one {n : Int} (h : 1 ≤ n) : 1 ≤ rt n := by
  have z := rt_is (show 0 ≤ n by omega)
  rcases ltge 0 (rt n) with w | w
  · omega
  · have e : rt n = 0 := by have := z.nn; omega
    have := z.up
    rw [e] at this
    omega
theorem CD.len_one {D : CD} {s e : Str} {a b : Addr} {ax ay bx by' : Int} (h1 : D.pt s = some (a, ax, ay)) (h2 : D.pt e = some (b, bx, by')) (h : ay ≠ by') : 1 ≤ D.len s e := by
  rw [CD.len_eq h1 h2]
  refine rt_one ?_
  have z1 := sq0 (bx - ax)
  have z2 := sq_pos (show by' - ay ≠ 0 by omega)
  omega
def LETS : List Nat := ("QXAMBZKCTDRE" : Str).cps.toList
def Let1 (ns : List Str) (x : Int) : Prop := ∀ j (h : j < ns.length), ∃ c, (ns[j]).cps.toList.head? = some c ∧ atI LETS (((j : Int) + x) % 12) = some c
theorem lets_inj : ∀ u : Fin 12, ∀ v : Fin 12, LETS[u.val]? = LETS[v.val]? → u = v := by decide +kernel
theorem lets_at {u : Nat} (h : u < 12) : atI LETS (u : Int) = LETS[u]? := by
  have e : u < LETS.length := by
    have : LETS.length = 12 := by decide +kernel
    omega
  rw [List.getElem?_eq_getElem e]
  exact atI_nat (List.getElem?_eq_getElem e)
theorem let_nodup {ns : List Str} {x : Int} (h : Let1 ns x) (hl : ns.length ≤ 12) : ns.Nodup := by
  refine List.pairwise_iff_getElem.mpr fun i j hi hj hij e => ?_
  obtain ⟨c1, a1, b1⟩ := h i hi
  obtain ⟨c2, a2, b2⟩ := h j hj
  rw [e, a2] at a1
  cases a1
  obtain ⟨u, hu⟩ : ∃ u : Nat, ((i : Int) + x) % 12 = (u : Int) := ⟨(((i : Int) + x) % 12).toNat, by omega⟩
  obtain ⟨v, hv⟩ : ∃ v : Nat, ((j : Int) + x) % 12 = (v : Int) := ⟨(((j : Int) + x) % 12).toNat, by omega⟩
  have hu2 : u < 12 := by omega
  have hv2 : v < 12 := by omega
  rw [hu, lets_at hu2] at b1
  rw [hv, lets_at hv2] at b2
  have := lets_inj ⟨u, hu2⟩ ⟨v, hv2⟩ (b1.trans b2.symm)
  have : u = v := congrArg Fin.val this
  omega
theorem at_mod2 {α : Type} {f : α → V} {ns : List α} {z m : Int} (hm : m = (ns.length : Int)) (h : 0 < ns.length) : ∃ (j : Nat) (hj : j < ns.length), z % m = (j : Int) ∧ atI (ns.map f) (z % m) = some (f ns[j]) := by
  obtain ⟨j, hj⟩ : ∃ j : Nat, z % m = (j : Int) := ⟨(z % m).toNat, by have := Int.emod_nonneg z (show m ≠ 0 by omega); omega⟩
  have hj2 : j < ns.length := by have := Int.emod_lt_of_pos z (show 0 < m by omega); omega
  exact ⟨j, hj2, hj, by rw [hj]; exact atI_nat (mapAt hj2)⟩
theorem mod_ne {i j : Nat} {x m : Int} (hi : (i : Int) < m) (h0 : 0 ≤ x) (h1 : x < m - 1) (e : (0 + (i : Int) + 1 + x) % m = (j : Int)) : i ≠ j := by
  rintro rfl
  have z := Int.mul_ediv_add_emod (0 + (i : Int) + 1 + x) m
  rw [e] at z
  generalize (0 + (i : Int) + 1 + x) / m = q at z
  rcases ltge 0 q with w | w
  · have := Int.mul_le_mul_of_nonneg_left (show 1 ≤ q by omega) (show 0 ≤ m by omega)
    omega
  · have := Int.mul_nonneg (show 0 ≤ m by omega) (show 0 ≤ -q by omega)
    rw [Int.mul_neg] at this
    omega
theorem nodup_ne {ns : List Str} (nd : ns.Nodup) {i j : Nat} (hi : i < ns.length) (hj : j < ns.length) (n : i ≠ j) : ns[i] ≠ ns[j] := by
  have p := List.pairwise_iff_getElem.mp nd
  rcases Nat.lt_or_gt_of_ne n with h | h
  · exact p i j hi hj h
  · exact (p j i hj hi h).symm
def Sep (pt : Str → Option (Addr × Int × Int)) (ns : List Str) (m : Int) (i : Nat) : Prop := ∀ j (h : j < ns.length), j < i → ∃ a x y, pt ns[j] = some (a, x, y) ∧ y % m = (j : Int)
theorem Sep.put {pt : Str → Option (Addr × Int × Int)} {ns : List Str} {m : Int} {i : Nat} {p : Addr} {x y : Int} (nd : ns.Nodup) (S : Sep pt ns m i) (hi : i < ns.length) (hy : y % m = (i : Int)) : Sep (fun q => if q = ns[i] then some (p, x, y) else pt q) ns m (i + 1) := by
  intro j hj hji
  by_cases e : j = i
  · subst e
    exact ⟨p, x, y, by simp, hy⟩
  · obtain ⟨a, u, v, h1, h2⟩ := S j hj (by omega)
    exact ⟨a, u, v, by simp only [if_neg (nodup_ne nd hj hi e)]; exact h1, h2⟩
theorem y_mod {m a i : Int} (h0 : 0 ≤ i) (h1 : i < m) : (m * a + (0 + i)) % m = i := by
  rw [Int.add_comm, Int.add_mul_emod_self_left, Int.zero_add]
  exact Int.emod_eq_of_lt h0 h1
theorem Sep.len {D : CD} {ns : List Str} {m : Int} {s e : Str} (S : Sep D.pt ns m ns.length) (nd : ns.Nodup) (hs : s ∈ ns) (he : e ∈ ns) (n : s ≠ e) : 1 ≤ D.len s e := by
  obtain ⟨i, hi, rfl⟩ := List.getElem_of_mem hs
  obtain ⟨j, hj, rfl⟩ := List.getElem_of_mem he
  obtain ⟨a, x, y, h1, h2⟩ := S i hi hi
  obtain ⟨b, u, v, h3, h4⟩ := S j hj hj
  refine CD.len_one h1 h3 fun z => n ?_
  rw [z, h4] at h2
  have : i = j := by omega
  subst this
  rfl
end Sk

set_option Elab.async false
set_option linter.all false
set_option maxRecDepth 100000
set_option maxHeartbeats 4000000
namespace Sk
open PySem PySem.Spec PyProof.Rows L2
/-! the mathematics of paths -/
theorem CD.len_nn (D : CD) (s e : Str) : 0 ≤ D.len s e := by
  unfold CD.len
  split
  · exact rt_nn (Int.add_nonneg (sq0 _) (sq0 _))
  · exact Int.le_refl 0
def bg (D : CD) (ns : List Str) : Nat → Int
  | 0 => 0
  | j + 1 => bg D ns j + D.len (rn ns j) (rn ns (j + 1))
theorem bg_step (D : CD) (ns : List Str) (j : Nat) : bg D ns j ≤ bg D ns (j + 1) := by
  have := D.len_nn (rn ns j) (rn ns (j + 1))
  show bg D ns j ≤ bg D ns j + _
  omega
theorem bg_mono (D : CD) (ns : List Str) {i j : Nat} (h : i ≤ j) : bg D ns i ≤ bg D ns j := by
  induction j with
  | zero => rw [show i = 0 by omega]; exact Int.le_refl _
  | succ j ih =>
    by_cases e : i = j + 1
    · rw [e]; exact Int.le_refl _
    · exact Int.le_trans (ih (by omega)) (bg_step D ns j)
theorem bg_nn (D : CD) (ns : List Str) (j : Nat) : 0 ≤ bg D ns j := bg_mono D ns (Nat.zero_le j)
def CD.xy (D : CD) (s : Str) : Int × Int := match D.pt s with
  | some (_, x, y) => (x, y)
  | none => (0, 0)
theorem CD.xy_eq {D : CD} {s : Str} {a : Addr} {x y : Int} (h : D.pt s = some (a, x, y)) : D.xy s = (x, y) := by
  unfold CD.xy
  rw [h]
def Bd (D : CD) : Prop := ∀ s, -100000 ≤ (D.xy s).1 ∧ (D.xy s).1 ≤ 100000 ∧ -100000 ≤ (D.xy s).2 ∧ (D.xy s).2 ≤ 100000
theorem ChartAt.bd {H : Hp} {ch : Addr} {D : CD} (C : ChartAt H ch D) : Bd D := by
  intro s
  unfold CD.xy
  split
  · rename_i a x y h
    exact (C.pf s a x y h).2.2
  · exact ⟨by decide, by decide, by decide, by decide⟩
theorem CD.len_le {D : CD} (b : Bd D) (s e : Str) : D.len s e ≤ 300000 := by
  unfold CD.len
  split
  · rename_i a ax ay a' bx by' h1 h2
    have b1 := b s
    have b2 := b e
    rw [CD.xy_eq h1] at b1
    rw [CD.xy_eq h2] at b2
    dsimp only at b1 b2
    refine rt_small (Int.add_nonneg (sq0 _) (sq0 _)) (by decide) ?_
    have e1 := sq_le (show -200000 ≤ bx - ax by omega) (show bx - ax ≤ 200000 by omega)
    have e2 := sq_le (show -200000 ≤ by' - ay by omega) (show by' - ay ≤ 200000 by omega)
    omega
  · decide
theorem bg_le {D : CD} (b : Bd D) (ns : List Str) (j : Nat) : bg D ns j ≤ 300000 * (j : Int) := by
  induction j with
  | zero => exact Int.le_refl 0
  | succ j ih =>
    have := D.len_le b (rn ns j) (rn ns (j + 1))
    show bg D ns j + _ ≤ _
    omega
/-- the leg to which p belongs, of the first m + 1 -/
def lat (D : CD) (ns : List Str) (m : Nat) (p : Int) : Nat := ((List.range m).find? fun i => decide (p < bg D ns (i + 1))).getD m
theorem find_range {q : Nat → Bool} {m k : Nat} (hk : k < m) (h1 : q k = true) (h0 : ∀ i, i < k → q i = false) : (List.range m).find? q = some k := by
  have e : List.range m = List.range k ++ (List.range (m - k)).map (k + ·) := by
    rw [← List.range_add, Nat.add_sub_cancel' (Nat.le_of_lt hk)]
  rw [e, List.find?_append]
  have a : (List.range k).find? q = none := List.find?_eq_none.mpr fun i hi => by rw [h0 i (List.mem_range.mp hi)]; simp
  rw [a]
  obtain ⟨z, hz⟩ : ∃ z, m - k = z + 1 := ⟨m - k - 1, by omega⟩
  rw [hz, List.range_succ_eq_map]
  simp [h1]
theorem find_none {q : Nat → Bool} {m : Nat} (h0 : ∀ i, i < m → q i = false) : (List.range m).find? q = none :=
  List.find?_eq_none.mpr fun i hi => by rw [h0 i (List.mem_range.mp hi)]; simp
theorem lat_cases (D : CD) (ns : List Str) (m : Nat) (p : Int) : (lat D ns m p ≤ m) ∧ (∀ i, i < lat D ns m p → bg D ns (i + 1) ≤ p) ∧ (lat D ns m p < m → p < bg D ns (lat D ns m p + 1)) := by
  unfold lat
  cases h : (List.range m).find? fun i => decide (p < bg D ns (i + 1)) with
  | none =>
    have h0 := List.find?_eq_none.mp h
    refine ⟨Nat.le_refl m, fun i hi => ?_, fun z => absurd z (Nat.lt_irrefl m)⟩
    have hi : i < m := hi
    have := h0 i (List.mem_range.mpr hi)
    simp at this
    exact this
  | some k =>
    have h1 := List.find?_some h
    have h2 := List.mem_of_find?_eq_some h
    have hk := List.mem_range.mp h2
    refine ⟨Nat.le_of_lt hk, fun i hi => ?_, fun _ => of_decide_eq_true h1⟩
    have hi : i < k := hi
    by_cases e : p < bg D ns (i + 1)
    · exfalso
      have : (List.range m).find? (fun i => decide (p < bg D ns (i + 1))) = some ((List.range (i + 1)).find? (fun i => decide (p < bg D ns (i + 1)))).get! := by
        have e2 : List.range m = List.range (i + 1) ++ (List.range (m - (i + 1))).map ((i + 1) + ·) := by rw [← List.range_add, Nat.add_sub_cancel' (show i + 1 ≤ m by omega)]
        rw [e2, List.find?_append]
        cases w : (List.range (i + 1)).find? fun i => decide (p < bg D ns (i + 1)) with
        | some z => rfl
        | none =>
          have := List.find?_eq_none.mp w i (List.mem_range.mpr (Nat.lt_succ_self i))
          simp [e] at this
      rw [h] at this
      cases w : (List.range (i + 1)).find? fun i => decide (p < bg D ns (i + 1)) with
      | none =>
        have := List.find?_eq_none.mp w i (List.mem_range.mpr (Nat.lt_succ_self i))
        simp [e] at this
      | some z =>
        rw [w] at this
        have hz := List.mem_range.mp (List.mem_of_find?_eq_some w)
        have : k = z := Option.some.inj this
        omega
    · omega
theorem lat_eq {D : CD} {ns : List Str} {m k : Nat} {p : Int} (hk : k ≤ m) (h0 : ∀ i, i < k → bg D ns (i + 1) ≤ p) (h1 : k < m → p < bg D ns (k + 1)) : lat D ns m p = k := by
  obtain ⟨a, b, c⟩ := lat_cases D ns m p
  rcases Nat.lt_trichotomy (lat D ns m p) k with h | h | h
  · have := c (by omega)
    have := h0 _ h
    omega
  · exact h
  · have := b k h
    have := h1 (by omega)
    omega
theorem lat_succ (D : CD) (ns : List Str) (m : Nat) (p : Int) : lat D ns (m + 1) p = if bg D ns (m + 1) ≤ p then m + 1 else lat D ns m p := by
  obtain ⟨a, b, c⟩ := lat_cases D ns m p
  split
  · rename_i h
    exact lat_eq (Nat.le_refl _) (fun i hi => Int.le_trans (bg_mono D ns (show i + 1 ≤ m + 1 by omega)) h) (fun z => absurd z (Nat.lt_irrefl _))
  · rename_i h
    refine lat_eq (by omega) b fun _ => ?_
    by_cases e : lat D ns m p < m
    · exact c e
    · rw [show lat D ns m p = m by omega]
      omega
/-- place on leg k -/
def plc (D : CD) (ns : List Str) (k : Nat) (p : Int) : List Int :=
  let a := D.xy (rn ns k)
  let b := D.xy (rn ns (k + 1))
  let n := D.len (rn ns k) (rn ns (k + 1))
  [a.1 * n + (b.1 - a.1) * (p - bg D ns k), a.2 * n + (b.2 - a.2) * (p - bg D ns k)]
def seg (D : CD) (ns : List Str) (k : Nat) (s e : Int) : List Int := plc D ns k s ++ (plc D ns k e ++ [D.len (rn ns k) (rn ns (k + 1))])
def segOf (D : CD) (ns : List Str) (f l : Int) (k : Nat) : Option (List Int) :=
  let s := if bg D ns k > f then bg D ns k else f
  let e := if bg D ns (k + 1) < l then bg D ns (k + 1) else l
  if s < e then some (seg D ns k s e) else none
def segsOf (D : CD) (ns : List Str) (f l : Int) (ks : List Nat) : List (List Int) := ks.filterMap (segOf D ns f l)
theorem segOf_none {D : CD} {ns : List Str} {f l : Int} {k : Nat} (h : bg D ns (k + 1) ≤ f ∨ l ≤ bg D ns k) : segOf D ns f l k = none := by
  unfold segOf
  dsimp only
  rw [if_neg]
  split <;> split <;> omega
theorem segs_eq {D : CD} {ns : List Str} {f l : Int} {m : Nat} (hfl : f ≤ l) (h : lat D ns m f ≤ lat D ns m l) : segsOf D ns f l (List.range (m + 1)) = segsOf D ns f l ((List.range (lat D ns m l + 1 - lat D ns m f)).map (lat D ns m f + ·)) := by
  obtain ⟨a1, b1, c1⟩ := lat_cases D ns m f
  obtain ⟨a2, b2, c2⟩ := lat_cases D ns m l
  generalize lat D ns m f = u at *
  generalize lat D ns m l = v at *
  have e1 : List.range (m + 1) = List.range u ++ ((List.range (v + 1 - u)).map (u + ·) ++ (List.range (m - v)).map ((v + 1) + ·)) := by
    have x1 : List.range (m + 1) = List.range (v + 1) ++ (List.range (m - v)).map ((v + 1) + ·) := by rw [← List.range_add]; congr 1; omega
    have x2 : List.range (v + 1) = List.range u ++ (List.range (v + 1 - u)).map (u + ·) := by rw [← List.range_add]; congr 1; omega
    rw [x1, x2, List.append_assoc]
  unfold segsOf
  rw [e1, List.filterMap_append, List.filterMap_append]
  have n1 : (List.range u).filterMap (segOf D ns f l) = [] := List.filterMap_eq_nil_iff.mpr fun k hk => segOf_none (.inl (b1 k (List.mem_range.mp hk)))
  have n2 : ((List.range (m - v)).map ((v + 1) + ·)).filterMap (segOf D ns f l) = [] := List.filterMap_eq_nil_iff.mpr fun k hk => by
    obtain ⟨z, hz, rfl⟩ := List.mem_map.mp hk
    have := c2 (by have := List.mem_range.mp hz; omega)
    exact segOf_none (.inr (Int.le_trans (Int.le_of_lt this) (bg_mono D ns (by omega))))
  rw [n1, n2, List.nil_append, List.append_nil]
theorem lat_mono (D : CD) (ns : List Str) (m : Nat) {p q : Int} (h : p ≤ q) : lat D ns m p ≤ lat D ns m q := by
  obtain ⟨a1, b1, c1⟩ := lat_cases D ns m p
  obtain ⟨a2, b2, c2⟩ := lat_cases D ns m q
  rcases Nat.lt_or_ge (lat D ns m q) (lat D ns m p) with w | w
  · have x := b1 _ w
    have y := c2 (by omega)
    omega
  · exact w
/-- the piece, as the document says it -/
def pcs (D : CD) (ns : List Str) (low high : Int) : List (List Int) :=
  let L := ns.length - 1
  let t := bg D ns L
  if high < 0 ∨ t ≤ low then [] else
  let f := if 0 > low then 0 else low
  let l := if t < high then t else high
  if f = l then [seg D ns (lat D ns (L - 1) f) f f] else segsOf D ns f l (List.range L)
/-! lists of tuples of ints -/
def LoT (H : Hp) (l : Addr) (xss : List (List Int)) : Prop := ∃ qs : List (Addr × List Int), H l = some (.lst (qs.map fun q => V.ref q.1)) ∧ (∀ q ∈ qs, H q.1 = some (.tup (q.2.map V.int))) ∧ qs.map (·.2) = xss
theorem LoT.same {H H' : Hp} {l : Addr} {xss : List (List Int)} (L : LoT H l xss) (e : Same H H') : LoT H' l xss := let ⟨qs, h1, h2, h3⟩ := L; ⟨qs, e _ _ h1, fun q h => e _ _ (h2 q h), h3⟩
theorem LoT.keep {K : PySem.W.Frag} {H H' : Hp} {d c l : Addr} {xss : List (List Int)} (L : LoT H l xss) (S : St1 K H d c) (k : Keep d H H') : LoT H' l xss := let ⟨qs, h1, h2, h3⟩ := L; ⟨qs, k.l S h1, fun q h => k.t S (h2 q h), h3⟩
theorem LoT.li {H : Hp} {l : Addr} {xss : List (List Int)} (L : LoT H l xss) : ∃ xs : List V, H l = some (.lst xs) ∧ xs.length = xss.length := let ⟨qs, h1, _, h3⟩ := L; ⟨_, h1, by rw [List.length_map, ← h3, List.length_map]⟩
theorem LoT.snoc {H : Hp} {l p : Addr} {xss : List (List Int)} {xs : List Int} {ys : List V} (L : LoT H l xss) (hl : H l = some (.lst ys)) (hp : H p = some (.tup (xs.map V.int))) : LoT (upd H l (.lst (ys ++ [.ref p]))) l (xss ++ [xs]) := by
  obtain ⟨qs, h1, h2, h3⟩ := L
  rw [h1] at hl
  cases hl
  refine ⟨qs ++ [(p, xs)], by rw [upd_same, List.map_append]; rfl, fun q hq => ?_, by rw [List.map_append, h3]; rfl⟩
  have ht : H q.1 = some (.tup (q.2.map V.int)) := by
    rcases List.mem_append.mp hq with h | h
    · exact h2 q h
    · rw [List.mem_singleton.mp h]; exact hp
  rw [upd_ne (ne_of ht h1 (by intro e; cases e))]
  exact ht
theorem LoT.nil {H : Hp} {l : Addr} (h : H l = some (.lst [])) : LoT H l [] := ⟨[], h, (fun _ h => nomatch h), rfl⟩
def pdT (xs : List Int) : PyData := .tuple (xs.map PyData.int)
theorem dpAll_int {K : PySem.W.Frag} {H : Hp} : ∀ xs : List Int, DpAll K H (xs.map V.int) (xs.map PyData.int)
  | [] => .nil
  | x :: xs => .cons (.int x) (dpAll_int xs)
theorem LoT.dp {K : PySem.W.Frag} {H : Hp} {l : Addr} {xss : List (List Int)} (L : LoT H l xss) : Dp K H (.ref l) (.list (xss.map pdT)) := by
  obtain ⟨qs, h1, h2, rfl⟩ := L
  refine .lst (.inl (.inl h1)) ?_
  clear h1
  induction qs with
  | nil => exact .nil
  | cons q qs ih =>
    refine .cons (.tup (.inl (.inl (h2 q List.mem_cons_self))) (dpAll_int _)) (ih fun z hz => h2 z (List.mem_cons_of_mem _ hz))
/-! a path's object -/
def pfl (r l1 l2 l3 l4 : Addr) : List (Str × V) := [("_route", .ref r), ("_legs", .ref l1), ("_starts", .ref l2), ("_vectors", .ref l3), ("_begins", .ref l4)]
section
variable {r l1 l2 l3 l4 : Addr}
theorem pf1 : (pfl r l1 l2 l3 l4).lookup ("_route" : Str) = some (.ref r) := by rfl
theorem pf2 : (pfl r l1 l2 l3 l4).lookup ("_legs" : Str) = some (.ref l1) := by rfl
theorem pf3 : (pfl r l1 l2 l3 l4).lookup ("_starts" : Str) = some (.ref l2) := by rfl
theorem pf4 : (pfl r l1 l2 l3 l4).lookup ("_vectors" : Str) = some (.ref l3) := by rfl
theorem pf5 : (pfl r l1 l2 l3 l4).lookup ("_begins" : Str) = some (.ref l4) := by rfl
end
structure PathP (C : Addr) (H : Hp) (p : Addr) (D : CD) (ns : List Str) (r : Addr) (i : Nat) (dx l1 l2 l3 l4 : Addr) (sa va : List Addr) : Prop where
  ob : H p = some (.ins C dx (pfl r l1 l2 l3 l4))
  rt : H r = some (.tup (ns.map V.str))
  lg : H l1 = some (.lst ((List.range i).map fun j => optL (D.leg (rn ns j) (rn ns (j + 1)))))
  st : H l2 = some (.lst (sa.map V.ref))
  ve : H l3 = some (.lst (va.map V.ref))
  bgn : H l4 = some (.lst ((List.range (i + 1)).map fun j => V.int (bg D ns j)))
  sl : sa.length = i
  vl : va.length = i
  sx : ∀ j (h : j < sa.length), H sa[j] = some (.tup [.int (D.xy (rn ns j)).1, .int (D.xy (rn ns j)).2])
  vx : ∀ j (h : j < va.length), H va[j] = some (.tup [.int ((D.xy (rn ns (j + 1))).1 - (D.xy (rn ns j)).1), .int ((D.xy (rn ns (j + 1))).2 - (D.xy (rn ns j)).2), .int (D.len (rn ns j) (rn ns (j + 1)))])
  d12 : l1 ≠ l2
  d13 : l1 ≠ l3
  d14 : l1 ≠ l4
  d23 : l2 ≠ l3
  d24 : l2 ≠ l4
  d34 : l3 ≠ l4
theorem PathP.same {C p r dx l1 l2 l3 l4 : Addr} {H H' : Hp} {D : CD} {ns : List Str} {i : Nat} {sa va : List Addr} (P : PathP C H p D ns r i dx l1 l2 l3 l4 sa va) (e : Same H H') : PathP C H' p D ns r i dx l1 l2 l3 l4 sa va :=
  { P with ob := e _ _ P.ob, rt := e _ _ P.rt, lg := e _ _ P.lg, st := e _ _ P.st, ve := e _ _ P.ve, bgn := e _ _ P.bgn, sx := fun j h => e _ _ (P.sx j h), vx := fun j h => e _ _ (P.vx j h) }
theorem PathP.keep {K : PySem.W.Frag} {C p r dx l1 l2 l3 l4 d c : Addr} {H H' : Hp} {D : CD} {ns : List Str} {i : Nat} {sa va : List Addr} (P : PathP C H p D ns r i dx l1 l2 l3 l4 sa va) (S : St1 K H d c) (k : Keep d H H') : PathP C H' p D ns r i dx l1 l2 l3 l4 sa va :=
  { P with ob := k _ _ P.ob (let ⟨_, w⟩ := S.dk; ne_of P.ob w (by intro z; cases z)), rt := k.t S P.rt, lg := k.l S P.lg, st := k.l S P.st, ve := k.l S P.ve, bgn := k.l S P.bgn, sx := fun j h => k.t S (P.sx j h), vx := fun j h => k.t S (P.vx j h) }
def PathAt (C : Addr) (H : Hp) (p : Addr) (D : CD) (ns : List Str) (r : Addr) : Prop := ∃ dx l1 l2 l3 l4 sa va, PathP C H p D ns r (ns.length - 1) dx l1 l2 l3 l4 sa va
theorem PathAt.same {C p r : Addr} {H H' : Hp} {D : CD} {ns : List Str} (P : PathAt C H p D ns r) (e : Same H H') : PathAt C H' p D ns r := let ⟨_, _, _, _, _, _, _, P⟩ := P; ⟨_, _, _, _, _, _, _, P.same e⟩
theorem PathAt.keep {K : PySem.W.Frag} {C p r d c : Addr} {H H' : Hp} {D : CD} {ns : List Str} (P : PathAt C H p D ns r) (S : St1 K H d c) (k : Keep d H H') : PathAt C H' p D ns r := let ⟨_, _, _, _, _, _, _, P⟩ := P; ⟨_, _, _, _, _, _, _, P.keep S k⟩
/-- what the class has -/
structure PathY (K : PySem.W.Frag) (mg : Str → Option Value) (C : Addr) : Prop where
  cl : Cls K C
  n1 : NoAttr K C "_route"
  n2 : NoAttr K C "_legs"
  n3 : NoAttr K C "_starts"
  n4 : NoAttr K C "_vectors"
  n5 : NoAttr K C "_begins"
/-! promises of the methods -/
def spTotal (C : Addr) : Sp := fun vs H Q _ => ∃ (p r dx l1 l2 l3 l4 : Addr) (D : CD) (ns : List Str) (i : Nat), vs = [.ref p] ∧ H p = some (.ins C dx (pfl r l1 l2 l3 l4)) ∧ H l4 = some (.lst ((List.range (i + 1)).map fun j => V.int (bg D ns j))) ∧ Q (.int (bg D ns i)) H
def spLegAt (C : Addr) : Sp := fun vs H Q _ => ∃ (p r : Addr) (D : CD) (ns : List Str) (x : Int), vs = [.ref p, .int x] ∧ PathAt C H p D ns r ∧ 2 ≤ ns.length ∧ ns.length ≤ 20 ∧ Q (.int (lat D ns (ns.length - 1 - 1) x : Nat)) H
def spBegin (C : Addr) : Sp := fun vs H Q _ => ∃ (p r : Addr) (D : CD) (ns : List Str) (j : Nat) (z : Int), vs = [.ref p, .int z] ∧ z = (j : Int) ∧ PathAt C H p D ns r ∧ j ≤ ns.length - 1 ∧ Q (.int (bg D ns j)) H
def spLegI (C : Addr) : Sp := fun vs H Q _ => ∃ (p r : Addr) (D : CD) (ns : List Str) (j : Nat) (z : Int), vs = [.ref p, .int z] ∧ z = (j : Int) ∧ PathAt C H p D ns r ∧ j < ns.length - 1 ∧ Q (optL (D.leg (rn ns j) (rn ns (j + 1)))) H
def spVec (C : Addr) : Sp := fun vs H Q _ => ∃ (p r : Addr) (D : CD) (ns : List Str) (j : Nat) (z : Int), vs = [.ref p, .int z] ∧ z = (j : Int) ∧ PathAt C H p D ns r ∧ j < ns.length - 1 ∧
  ∀ v, H v = some (.tup [.int ((D.xy (rn ns (j + 1))).1 - (D.xy (rn ns j)).1), .int ((D.xy (rn ns (j + 1))).2 - (D.xy (rn ns j)).2), .int (D.len (rn ns j) (rn ns (j + 1)))]) → Q (.ref v) H
def spRoute (C : Addr) : Sp := fun vs H Q _ => ∃ (p r : Addr) (D : CD) (ns : List Str), vs = [.ref p] ∧ PathAt C H p D ns r ∧ Q (.ref r) H
def spPoint (C : Addr) : Sp := fun vs H Q _ => ∃ (p r : Addr) (D : CD) (ns : List Str) (j : Nat) (z x : Int), vs = [.ref p, .int z, .int x] ∧ z = (j : Int) ∧ PathAt C H p D ns r ∧ Bd D ∧ j < ns.length - 1 ∧ ∀ q H', H q = none → Same H H' → H' q = some (.tup ((plc D ns j x).map V.int)) → Q (.ref q) H'
def spSeg (C : Addr) : Sp := fun vs H Q _ => ∃ (p r : Addr) (D : CD) (ns : List Str) (j : Nat) (z s e : Int), vs = [.ref p, .int z, .int s, .int e] ∧ z = (j : Int) ∧ PathAt C H p D ns r ∧ Bd D ∧ j < ns.length - 1 ∧ ∀ q H', H q = none → Same H H' → H' q = some (.tup ((seg D ns j s e).map V.int)) → Q (.ref q) H'
def spSegs (C : Addr) : Sp := fun vs H Q _ => ∃ (p r : Addr) (D : CD) (ns : List Str) (f l : Int), vs = [.ref p, .int f, .int l] ∧ PathAt C H p D ns r ∧ Bd D ∧ 2 ≤ ns.length ∧ ns.length ≤ 20 ∧ f ≤ l ∧
  ∀ q H', H q = none → Same H H' → LoT H' q (segsOf D ns f l (List.range (ns.length - 1))) → Q (.ref q) H'
def spPlace (C : Addr) : Sp := fun vs H Q _ => ∃ (p r : Addr) (D : CD) (ns : List Str) (x : Int), vs = [.ref p, .int x] ∧ PathAt C H p D ns r ∧ Bd D ∧ 2 ≤ ns.length ∧ ns.length ≤ 20 ∧
  ∀ q H', H q = none → Same H H' → H' q = some (.tup ((plc D ns (lat D ns (ns.length - 1 - 1) x) x ++ [D.len (rn ns (lat D ns (ns.length - 1 - 1) x)) (rn ns (lat D ns (ns.length - 1 - 1) x + 1))]).map V.int)) → Q (.ref q) H'
def spPiece (C : Addr) : Sp := fun vs H Q _ => ∃ (p r : Addr) (D : CD) (ns : List Str) (f l : Int), vs = [.ref p, .int f, .int l] ∧ PathAt C H p D ns r ∧ Bd D ∧ 2 ≤ ns.length ∧ ns.length ≤ 20 ∧ f ≤ l ∧
  ∀ q H', H q = none → Same H H' → LoT H' q (pcs D ns f l) → Q (.ref q) H'
def spJoin (C : Addr) : Sp := fun vs H Q _ => ∃ (p ch r dx l1 l2 l3 l4 : Addr) (D : CD) (ns : List Str) (i : Nat) (sa va : List Addr), vs = [.ref p, .ref ch, .str (rn ns i), .str (rn ns (i + 1))] ∧ ChartAt H ch D ∧ PathP C H p D ns r i dx l1 l2 l3 l4 sa va ∧
  (∃ l, D.leg (rn ns i) (rn ns (i + 1)) = some l) ∧ i ≤ 20 ∧ ∀ (s v : Addr) H', PathP C H' p D ns r (i + 1) dx l1 l2 l3 l4 (sa ++ [s]) (va ++ [v]) → (∀ b o, H b = some o → b ≠ l1 → b ≠ l2 → b ≠ l3 → b ≠ l4 → H' b = some o) → Q .non H'
def spPInit (C : Addr) : Sp := fun vs H Q _ => ∃ (p ch r dx : Addr) (D : CD) (ns : List Str), vs = [.ref p, .ref ch, .ref r] ∧ H p = some (.ins C dx []) ∧ ChartAt H ch D ∧ H r = some (.tup (ns.map V.str)) ∧ Route D ns ∧
  ∀ H', PathAt C H' p D ns r → (∀ b o, H b = some o → b ≠ p → H' b = some o) → Q .non H'
theorem ChartAt.fr {H H' : Hp} {ch p C dx : Addr} {fs : List (Str × V)} {D : CD} (Q : ChartAt H ch D) (hp : H p = some (.ins C dx fs)) (e : ∀ b o, H b = some o → b ≠ p → H' b = some o) : ChartAt H' ch D := by
  have e' : ∀ b o, H b = some o → (∀ C dx fs, o ≠ .ins C dx fs) → H' b = some o := fun b o h n => e b o h (ne_of h hp (n _ _ _))
  obtain ⟨⟨kvs, h1, h2, h3⟩, h4, h5, h6, h7, h8, h8', h9⟩ := Q
  exact ⟨⟨kvs, e' _ _ h1 (by intro _ _ _ z; cases z), h2, h3⟩, e' _ _ h4 (by intro _ _ _ z; cases z), e' _ _ h5 (by intro _ _ _ z; cases z), fun l hl => e' _ _ (h6 l hl) (by intro _ _ _ z; cases z),
    fun n a x y hp => let ⟨p1, p2, p3⟩ := h7 n a x y hp; ⟨p1, e' _ _ p2 (by intro _ _ _ z; cases z), p3⟩, h8, h8', h9⟩
/-! a class of the text, ready to be made -/
structure CDef (P : Program) (w : World) (K : PySem.W.Frag) (mg : Str → Option Value) (base : Heap) (k : Nat) (C : Addr) (x : Str) (ps : List Str) (sp : Sp) : Prop where
  ex : ∃ (f : Addr) (fd : FuncData), FnOk P w K mg base CX0 k f fd ps sp ∧ Mk K C f ∧ mg x = some (.ref C) ∧ Binds K fd ps []
theorem pe_cdef {X : Cx} {k : Nat} {C : Addr} {x : Str} {ps : List Str} {sp : Sp} {p pos : Pos} {e : Expr} {es : List Expr} {t : TA} (D : CDef X.prog X.w X.K X.mg X.base k C x ps sp) (hr : Room (k + 1) X.A) (hg : Gl X x)
    (ha : PA X (e :: es) t) (hdb : (x == ("__debug__" : Str)) = false := by decide) (he : starEach (e :: es) X.env = (false, eval e X.env) :: starEach es X.env := by rfl) (hpl : (backTo pos (starEach es X.env)).any (·.1) = false := by rfl) :
    PE X (.Call (.Name x p) (e :: es) [] pos) (tMake C sp [] E0 t) := by
  obtain ⟨f, fd, F, M, m, b⟩ := D.ex
  exact pe_make M F hr hg m b .nil pass0 ha hdb he hpl
/-! what the law's own defs promise -/
def bgs (D : CD) (ns : List Str) : List Int := (List.range ns.length).map (bg D ns)
theorem bgs_at {D : CD} {ns : List Str} {j : Nat} (h : j < ns.length) : ((bgs D ns).map V.int)[j]? = some (.int (bg D ns j)) := by
  unfold bgs
  rw [List.getElem?_map, List.getElem?_map, List.getElem?_range h]
  rfl
theorem bgs_len {D : CD} {ns : List Str} : ((bgs D ns).map V.int).length = ns.length := by
  unfold bgs
  rw [List.length_map, List.length_map, List.length_range]
theorem bgs_last {D : CD} {ns : List Str} (h : 0 < ns.length) : ((bgs D ns).map V.int).getLast? = some (.int (bg D ns (ns.length - 1))) := by
  rw [List.getLast?_eq_getElem?, bgs_len]
  exact bgs_at (by omega)
def spBegins : Sp := fun vs H Q _ => ∃ (ld r : Addr) (D : CD) (ns : List Str), vs = [.ref ld, .ref r] ∧ LenAt H ld D ∧ H r = some (.tup (ns.map V.str)) ∧ Route D ns ∧ ∀ b H', H b = none → Same H H' → H' b = some (.lst ((bgs D ns).map V.int)) → Q (.ref b) H'
def spLawLegAt : Sp := fun vs H Q _ => ∃ (b : Addr) (x : Int) (D : CD) (ns : List Str), vs = [.ref b, .int x] ∧ H b = some (.lst ((bgs D ns).map V.int)) ∧ 2 ≤ ns.length ∧ ns.length ≤ 20 ∧ Q (.int (lat D ns (ns.length - 1 - 1) x : Nat)) H
def spPlaceOn : Sp := fun vs H Q _ => ∃ (ch r b : Addr) (z x : Int) (D : CD) (ns : List Str) (k : Nat), vs = [.ref ch, .ref r, .ref b, .int z, .int x] ∧ z = (k : Int) ∧ ChartAt H ch D ∧ H r = some (.tup (ns.map V.str)) ∧ H b = some (.lst ((bgs D ns).map V.int)) ∧ Route D ns ∧ k + 1 < ns.length ∧
  ∀ q H', H q = none → Same H H' → H' q = some (.tup ((plc D ns k x ++ [D.len (rn ns k) (rn ns (k + 1))]).map V.int)) → Q (.ref q) H'
def spLawPiece : Sp := fun vs H Q _ => ∃ (ch r b : Addr) (f l : Int) (D : CD) (ns : List Str), vs = [.ref ch, .ref r, .ref b, .int f, .int l] ∧ ChartAt H ch D ∧ H r = some (.tup (ns.map V.str)) ∧ H b = some (.lst ((bgs D ns).map V.int)) ∧ Route D ns ∧ f ≤ l ∧
  ∀ q H', H q = none → Same H H' → LoT H' q (pcs D ns f l) → Q (.ref q) H'
def spRight (C : Addr) : Sp := fun vs H Q _ => ∃ (p ch ld r : Addr) (D : CD) (ns : List Str), vs = [.ref p, .ref ch, .ref ld, .ref r] ∧ PathAt C H p D ns r ∧ ChartAt H ch D ∧ LenAt H ld D ∧ Route D ns ∧ ∀ H', Same H H' → Q (.bl true) H'
def spProgress (K : PySem.W.Frag) : Sp := fun vs H Q _ => ∃ (d c b : Addr) (D : CD) (ns : List Str), vs = [.ref d, .ref b] ∧ St1 K H d c ∧ H b = some (.lst ((bgs D ns).map V.int)) ∧ Bd D ∧ 2 ≤ ns.length ∧ ns.length ≤ 20 ∧ ∀ z H', St1 K H' d c → Keep d H H' → Q (.int z) H'
def spAreNum : Sp := fun vs H Q _ => ∃ (l : Addr) (xss : List (List Int)), vs = [.ref l] ∧ LoT H l xss ∧ xss.length ≤ 100 ∧ (∀ xs ∈ xss, xs.length ≤ 100) ∧ ∀ H', Same H H' → Q (.bl true) H'
theorem segsOf_len (D : CD) (ns : List Str) (f l : Int) (ks : List Nat) : (segsOf D ns f l ks).length ≤ ks.length := List.length_filterMap_le _ _
theorem pcs_len (D : CD) (ns : List Str) (f l : Int) : (pcs D ns f l).length ≤ ns.length + 1 := by
  unfold pcs
  dsimp only
  generalize (if 0 > f then 0 else f) = u
  generalize (if bg D ns (ns.length - 1) < l then bg D ns (ns.length - 1) else l) = v
  split
  · exact Nat.zero_le _
  · split
    · show 1 ≤ _
      omega
    · have := segsOf_len D ns u v (List.range (ns.length - 1))
      rw [List.length_range] at this
      omega
theorem seg_len (D : CD) (ns : List Str) (k : Nat) (s e : Int) : (seg D ns k s e).length = 5 := rfl
theorem segOf_len {D : CD} {ns : List Str} {f l : Int} {k : Nat} {xs : List Int} (h : segOf D ns f l k = some xs) : xs.length = 5 := by
  unfold segOf at h
  dsimp only at h
  generalize (if bg D ns k > f then bg D ns k else f) = u at h
  generalize (if bg D ns (k + 1) < l then bg D ns (k + 1) else l) = v at h
  by_cases e : u < v
  · rw [if_pos e] at h
    rw [← Option.some.inj h, seg_len]
  · rw [if_neg e] at h
    cases h
theorem pcs_five (D : CD) (ns : List Str) (f l : Int) : ∀ xs ∈ pcs D ns f l, xs.length ≤ 100 := by
  unfold pcs
  dsimp only
  generalize (if 0 > f then 0 else f) = u
  generalize (if bg D ns (ns.length - 1) < l then bg D ns (ns.length - 1) else l) = v
  intro xs h
  split at h
  · cases h
  · split at h
    · rw [List.mem_singleton.mp h, seg_len]
      decide
    · obtain ⟨k, _, e⟩ := List.mem_filterMap.mp h
      rw [segOf_len e]
      decide
theorem Route.pt {H : Hp} {ch : Addr} {D : CD} {ns : List Str} (R : Route D ns) (C : ChartAt H ch D) {j : Nat} (h : j + 1 < ns.length) : (∃ a x y, D.pt (rn ns j) = some (a, x, y)) ∧ ∃ a x y, D.pt (rn ns (j + 1)) = some (a, x, y) := by
  obtain ⟨l, hl⟩ := R.ch j h
  obtain ⟨h1, h2, h3⟩ := CD.leg_mem hl
  have := C.wf l h1
  rw [h2, h3] at this
  exact this
/-! data that can be compared -/
theorem cla {xs : List PyData} (h : ∀ x ∈ xs, x.canLay0 = true) : PyData.canLayAll0 xs = true := by
  induction xs with
  | nil => rfl
  | cons x xs ih =>
    show (PyData.canLay0 x && PyData.canLayAll0 xs) = true
    rw [h x List.mem_cons_self, ih fun y hy => h y (List.mem_cons_of_mem _ hy)]
    rfl
theorem dpa {xs : List PyData} {n : Nat} (h : ∀ x ∈ xs, x.depth ≤ n) : PyData.depthAll xs ≤ n := by
  induction xs with
  | nil => exact Nat.zero_le _
  | cons x xs ih =>
    show max (PyData.depth x) (PyData.depthAll xs) ≤ n
    exact Nat.max_le.mpr ⟨h x List.mem_cons_self, ih fun y hy => h y (List.mem_cons_of_mem _ hy)⟩
theorem sh_of {d : PyData} (h1 : d.canLay0 = true) (h2 : d.depth ≤ 64) : SeqAt.shaped d = true := by
  unfold SeqAt.shaped
  rw [h1, decide_eq_true h2]
  rfl
theorem can_str {ns : List Str} (h : ∀ n ∈ ns, sOk n) : (PyData.tuple (ns.map PyData.str)).canLay0 = true := by
  show PyData.canLayAll0 _ = true
  refine cla fun x hx => ?_
  obtain ⟨n, hn, rfl⟩ := List.mem_map.mp hx
  exact h n hn
theorem sh_str {ns : List Str} (h : ∀ n ∈ ns, sOk n) : SeqAt.shaped (.tuple (ns.map PyData.str)) = true := by
  refine sh_of (can_str h) ?_
  show PyData.depthAll _ + 1 ≤ 64
  have : PyData.depthAll (ns.map PyData.str) ≤ 1 := dpa fun x hx => by
    obtain ⟨n, _, rfl⟩ := List.mem_map.mp hx
    exact Nat.zero_le _
  omega
theorem can_pd (xs : List Int) : (pdT xs).canLay0 = true := by
  show PyData.canLayAll0 _ = true
  refine cla fun x hx => ?_
  obtain ⟨n, hn, rfl⟩ := List.mem_map.mp hx
  rfl
theorem dep_pd (xs : List Int) : (pdT xs).depth ≤ 2 := by
  show PyData.depthAll _ + 1 ≤ 2
  have : PyData.depthAll (xs.map PyData.int) ≤ 1 := dpa fun x hx => by
    obtain ⟨n, _, rfl⟩ := List.mem_map.mp hx
    exact Nat.zero_le _
  omega
theorem sh_pd (xs : List Int) : SeqAt.shaped (pdT xs) = true := sh_of (can_pd xs) (Nat.le_trans (dep_pd xs) (by decide))
theorem can_pds (xss : List (List Int)) : (PyData.list (xss.map pdT)).canLay0 = true := by
  show PyData.canLayAll0 _ = true
  refine cla fun x hx => ?_
  obtain ⟨n, hn, rfl⟩ := List.mem_map.mp hx
  exact can_pd n
theorem sh_pds (xss : List (List Int)) : SeqAt.shaped (.list (xss.map pdT)) = true := by
  refine sh_of (can_pds xss) ?_
  show PyData.depthAll _ + 1 ≤ 64
  have : PyData.depthAll (xss.map pdT) ≤ 2 := dpa fun x hx => by
    obtain ⟨n, _, rfl⟩ := List.mem_map.mp hx
    exact dep_pd n
  omega
theorem dpAll_str {K : PySem.W.Frag} {H : Hp} : ∀ xs : List Str, DpAll K H (xs.map V.str) (xs.map PyData.str)
  | [] => .nil
  | x :: xs => .cons (.str x) (dpAll_str xs)
def pdL (l : Lg) : PyData := .tuple [.str l.s, .str l.e, .str l.c, .int l.lo, .int l.hi]
theorem can_lg {l : Lg} (h : sOk l.s ∧ sOk l.e ∧ sOk l.c) : (pdL l).canLay0 = true := by
  show (PyData.canLay0 (.str l.s) && (PyData.canLay0 (.str l.e) && (PyData.canLay0 (.str l.c) && (true && (true && true))))) = true
  have h1 : PyData.canLay0 (.str l.s) = true := h.1
  have h2 : PyData.canLay0 (.str l.e) = true := h.2.1
  have h3 : PyData.canLay0 (.str l.c) = true := h.2.2
  rw [h1, h2, h3]
  rfl
theorem dp_lg {K : PySem.W.Frag} {H : Hp} {l : Lg} (h : H l.a = some (.tup l.v)) : Dp K H (.ref l.a) (pdL l) := .tup (.inl (.inl h)) (.cons (.str _) (.cons (.str _) (.cons (.str _) (.cons (.int _) (.cons (.int _) .nil)))))
theorem sh_lg {l : Lg} (h : sOk l.s ∧ sOk l.e ∧ sOk l.c) : SeqAt.shaped (pdL l) = true := sh_of (can_lg h) (by
  show PyData.depthAll _ + 1 ≤ 64
  have : PyData.depthAll [.str l.s, .str l.e, .str l.c, .int l.lo, .int l.hi] ≤ 1 := dpa fun x hx => by
    simp only [List.mem_cons, List.not_mem_nil, or_false] at hx
    rcases hx with rfl | rfl | rfl | rfl | rfl <;> exact Nat.zero_le _
  omega)
theorem Route.sok {H : Hp} {ch : Addr} {D : CD} {ns : List Str} (R : Route D ns) (C : ChartAt H ch D) : ∀ n ∈ ns, sOk n := by
  intro n hn
  obtain ⟨j, hj, rfl⟩ := List.getElem_of_mem hn
  have e : ∀ i (h : i < ns.length), rn ns i = ns[i] := fun i h => by
    unfold rn
    rw [List.getD_eq_getElem?_getD, List.getElem?_eq_getElem h]
    rfl
  have n2 := R.n2
  by_cases h : j + 1 < ns.length
  · obtain ⟨l, hl⟩ := R.ch j h
    obtain ⟨h1, h2, _⟩ := CD.leg_mem hl
    have := (C.sk l h1).1
    rw [h2, e j hj] at this
    exact this
  · obtain ⟨i, rfl⟩ : ∃ i, j = i + 1 := ⟨j - 1, by omega⟩
    obtain ⟨l, hl⟩ := R.ch i hj
    obtain ⟨h1, _, h3⟩ := CD.leg_mem hl
    have := (C.sk l h1).2.1
    rw [h3, e (i + 1) hj] at this
    exact this
end Sk

set_option Elab.async false
set_option linter.all false
set_option maxRecDepth 100000
set_option maxHeartbeats 4000000
namespace Sk
open PySem PySem.Spec PyProof.Rows L2
abbrev WQ := Addr × Int × Int × Int × Int
def wv (q : WQ) : List V := [.int q.2.1, .int q.2.2.1, .int q.2.2.2.1, .int q.2.2.2.2]
def lb (t : Int) (qs : List WQ) : List WQ := qs.filter fun q => decide (q.2.1 ≤ t)
theorem lb_snoc (t : Int) (qs : List WQ) (q : WQ) : lb t (qs ++ [q]) = lb t qs ++ (if q.2.1 ≤ t then [q] else []) := by
  unfold lb
  rw [List.filter_append]
  congr 1
  by_cases h : q.2.1 ≤ t <;> simp [h]
structure WAt (H : Hp) (l : Addr) (qs : List WQ) : Prop where
  li : H l = some (.lst (qs.map fun q => V.ref q.1))
  tu : ∀ q ∈ qs, H q.1 = some (.tup (wv q))
  bd : ∀ q ∈ qs, -10001 ≤ q.2.2.1 ∧ q.2.2.1 ≤ 10001 ∧ -10001 ≤ q.2.2.2.1 ∧ q.2.2.2.1 ≤ 10001 ∧ 0 ≤ q.2.2.2.2 ∧ q.2.2.2.2 ≤ 10001
  hd : ∃ q r, qs = q :: r ∧ q.2.1 = 0
theorem WAt.keep {K : PySem.W.Frag} {d c l : Addr} {H H' : Hp} {qs : List WQ} (W : WAt H l qs) (S : St1 K H d c) (k : Keep d H H') : WAt H' l qs := ⟨k.l S W.li, fun q h => k.t S (W.tu q h), W.bd, W.hd⟩
theorem WAt.same {l : Addr} {H H' : Hp} {qs : List WQ} (W : WAt H l qs) (e : Same H H') : WAt H' l qs := ⟨e _ _ W.li, fun q h => e _ _ (W.tu q h), W.bd, W.hd⟩
theorem WAt.at {l : Addr} {H : Hp} {qs : List WQ} (W : WAt H l qs) {i : Nat} (h : i < qs.length) : (qs.map fun q => V.ref q.1)[i]? = some (.ref qs[i].1) := by simp [h]
theorem WAt.snoc {l : Addr} {H : Hp} {qs : List WQ} {q : WQ} (W : WAt H l qs) (hp : H q.1 = some (.tup (wv q))) (hb : -10001 ≤ q.2.2.1 ∧ q.2.2.1 ≤ 10001 ∧ -10001 ≤ q.2.2.2.1 ∧ q.2.2.2.1 ≤ 10001 ∧ 0 ≤ q.2.2.2.2 ∧ q.2.2.2.2 ≤ 10001) :
    WAt (upd H l (.lst ((qs.map fun q => V.ref q.1) ++ [.ref q.1]))) l (qs ++ [q]) := by
  refine ⟨by rw [upd_same, List.map_append]; rfl, fun z hz => ?_, fun z hz => ?_, ?_⟩
  · have ht : H z.1 = some (.tup (wv z)) := by
      rcases List.mem_append.mp hz with h | h
      · exact W.tu z h
      · rw [List.mem_singleton.mp h]; exact hp
    rw [upd_ne (ne_of ht W.li (by intro e; cases e))]
    exact ht
  · rcases List.mem_append.mp hz with h | h
    · exact W.bd z h
    · rw [List.mem_singleton.mp h]; exact hb
  · obtain ⟨q0, r, h, h0⟩ := W.hd
    exact ⟨q0, r ++ [q], by rw [h]; rfl, h0⟩

def ab (x : Int) : Int := if x < 0 then -x else x
theorem mul_ab {f e x : Int} (h0 : -e ≤ f) (h1 : f ≤ e) : -(e * ab x) ≤ f * x ∧ f * x ≤ e * ab x := by
  unfold ab
  split
  · rename_i h
    have a := Int.mul_le_mul_of_nonneg_right h1 (show 0 ≤ -x by omega)
    have b := Int.mul_le_mul_of_nonneg_right h0 (show 0 ≤ -x by omega)
    simp only [Int.mul_neg, Int.neg_mul, Int.neg_neg] at a b ⊢
    omega
  · rename_i h
    have a := Int.mul_le_mul_of_nonneg_right h1 (show 0 ≤ x by omega)
    have b := Int.mul_le_mul_of_nonneg_right h0 (show 0 ≤ x by omega)
    rw [Int.neg_mul] at b
    omega
def lo (dx dy n s sl wx wy e : Int) : Int := s - sl + (wx * dx + wy * dy - e * (ab dx + ab dy)) / n
def hi (dx dy n s sl wx wy e : Int) : Int := s + sl + (wx * dx + wy * dy + e * (ab dx + ab dy)) / n
def fp (dx dy n x y : Int) : Int := (x * dx + y * dy) / n
theorem div_mono {a b n : Int} (hn : 0 < n) (h : a ≤ b) : a / n ≤ b / n := Int.ediv_le_ediv hn h
def spWind (K : PySem.W.Frag) : Sp := fun vs H Q _ => ∃ (l : Addr) (t : Int) (qs : List WQ), vs = [.ref l, .int t] ∧ WAt H l qs ∧ 0 ≤ t ∧ ∀ q, (lb t qs).getLast? = some q → Q (.ref q.1) H
def spStep : Sp := fun vs H Q _ => ∃ (v w : Addr) (s sl dx dy n t wx wy e : Int), vs = [.ref v, .int s, .int sl, .ref w] ∧ H v = some (.tup [.int dx, .int dy, .int n]) ∧ H w = some (.tup [.int t, .int wx, .int wy, .int e]) ∧
  (-10000000 ≤ dx ∧ dx ≤ 10000000 ∧ -10000000 ≤ dy ∧ dy ≤ 10000000 ∧ -10000000 ≤ wx ∧ wx ≤ 10000000 ∧ -10000000 ≤ wy ∧ wy ≤ 10000000 ∧ -10000000 ≤ e ∧ e ≤ 10000000 ∧ 0 < n ∧ n ≤ 100000000) ∧
  ∀ p, H p = none → Q (.ref p) (upd H p (.tup [.int (lo dx dy n s sl wx wy e), .int (hi dx dy n s sl wx wy e)]))
end Sk

set_option Elab.async false
set_option linter.all false
set_option maxRecDepth 100000
set_option maxHeartbeats 4000000
namespace Sk
open PySem PySem.Spec PyProof.Rows L2
/-! next boxes: the mathematics -/
def clamp (lo hi x : Int) : Int := if hi < (if lo > x then lo else x) then hi else (if lo > x then lo else x)
def tgt (D : CD) (ns : List Str) (k : Nat) (x : Int) : Int :=
  let v := match D.leg (rn ns k) (rn ns (k + 1)) with | some l => clamp l.lo l.hi x | none => x
  if k + 2 < ns.length then match D.leg (rn ns (k + 1)) (rn ns (k + 2)) with | some l => clamp l.lo l.hi v | none => v else v
def PosR (D : CD) (ns : List Str) : Prop := ∀ j, j + 1 < ns.length → 1 ≤ D.len (rn ns j) (rn ns (j + 1))
theorem PosR.of {D : CD} {ns : List Str} (R : Route D ns) (h : ∀ l ∈ D.ls, 1 ≤ D.len l.s l.e) : PosR D ns := fun j hj => by
  obtain ⟨l, hl⟩ := R.ch j hj
  obtain ⟨h1, h2, h3⟩ := CD.leg_mem hl
  have := h l h1
  rw [h2, h3] at this
  exact this
theorem PosR.lt {D : CD} {ns : List Str} (p : PosR D ns) {j : Nat} (h : j + 1 < ns.length) : bg D ns j + 1 ≤ bg D ns (j + 1) := by
  have := p j h
  show _ ≤ bg D ns j + _
  omega
def lowest (a b x g : Int) : Int := if x < g then (if g < x + a then g else x + a) else (if g > x - b then g else x - b)
def highest (a b x g : Int) : Int := if x > g then (if g > x - a then g else x - a) else (if g < x + b then g else x + b)
def tow (x g r : Int) : Int := if x < g then (if g < x + r then g else x + r) else (if g > x - r then g else x - r)
theorem low_mem {a b x g : Int} : lowest a b x g = tow x g a ∨ lowest a b x g = tow x g b := by
  unfold lowest tow
  by_cases h : x < g
  · left; rw [if_pos h, if_pos h]
  · right; rw [if_neg h, if_neg h]
theorem low_le {a b x y g r : Int} (ha : 1 ≤ a) (hab : a ≤ b) (h : x ≤ y) (hr : r = a ∨ r = b) : lowest a b x g ≤ tow y g r := by
  unfold lowest tow
  rcases hr with rfl | rfl <;> (split <;> split <;> split <;> split <;> omega)
theorem high_mem {a b x g : Int} (ha : 1 ≤ a) (hab : a ≤ b) : highest a b x g = tow x g a ∨ highest a b x g = tow x g b := by
  unfold highest tow
  by_cases h : x > g
  · left; rw [if_pos h, if_neg (show ¬ x < g by omega)]
  · right
    by_cases e : x < g
    · rw [if_neg h, if_pos e]
    · rw [if_neg h, if_neg e, if_pos (show g < x + b by omega), if_pos (show g > x - b by omega)]
theorem high_le {a b x y g r : Int} (ha : 1 ≤ a) (hab : a ≤ b) (h : y ≤ x) (hr : r = a ∨ r = b) : tow y g r ≤ highest a b x g := by
  unfold highest tow
  rcases hr with rfl | rfl <;> (split <;> split <;> split <;> split <;> omega)
theorem low_mono {a b x y g : Int} (ha : 1 ≤ a) (hab : a ≤ b) (h : x ≤ y) : lowest a b x g ≤ lowest a b y g := by
  rcases low_mem (a := a) (b := b) (x := y) (g := g) with e | e <;> rw [e]
  · exact low_le ha hab h (.inl rfl)
  · exact low_le ha hab h (.inr rfl)
theorem high_mono {a b x y g : Int} (ha : 1 ≤ a) (hab : a ≤ b) (h : x ≤ y) : highest a b x g ≤ highest a b y g := by
  rcases high_mem (x := x) (g := g) ha hab with e | e <;> rw [e]
  · exact high_le ha hab h (.inl rfl)
  · exact high_le ha hab h (.inr rfl)
theorem low_high {a b x y g : Int} (ha : 1 ≤ a) (hab : a ≤ b) (h : x ≤ y) : lowest a b x g ≤ highest a b y g :=
  Int.le_trans (low_le ha hab (Int.le_refl x) (.inl rfl)) (high_le ha hab h (.inl rfl))
structure NextOf (lt : Int → Nat) (lf hf af : Nat → Int) (a b low high down up v0 v1 v2 v3 : Int) : Prop where
  e0 : ∃ p, low ≤ p ∧ p ≤ high ∧ v0 = p + lf (lt p)
  m0 : ∀ p, low ≤ p → p ≤ high → v0 ≤ p + lf (lt p)
  e1 : ∃ p, low ≤ p ∧ p ≤ high ∧ v1 = p + hf (lt p)
  m1 : ∀ p, low ≤ p → p ≤ high → p + hf (lt p) ≤ v1
  e2 : ∃ p, low ≤ p ∧ p ≤ high ∧ v2 = lowest a b down (af (lt p))
  m2 : ∀ p, low ≤ p → p ≤ high → v2 ≤ lowest a b down (af (lt p))
  e3 : ∃ p, low ≤ p ∧ p ≤ high ∧ v3 = highest a b up (af (lt p))
  m3 : ∀ p, low ≤ p → p ≤ high → highest a b up (af (lt p)) ≤ v3
section
variable {lt : Int → Nat} {lf hf af : Nat → Int} {a b low high down up v0 v1 v2 v3 : Int}
theorem NextOf.uniq {w0 w1 w2 w3 : Int} (X : NextOf lt lf hf af a b low high down up v0 v1 v2 v3) (Y : NextOf lt lf hf af a b low high down up w0 w1 w2 w3) : v0 = w0 ∧ v1 = w1 ∧ v2 = w2 ∧ v3 = w3 := by
  obtain ⟨p0, a0, b0, c0⟩ := X.e0
  obtain ⟨q0, d0, f0, g0⟩ := Y.e0
  obtain ⟨p1, a1, b1, c1⟩ := X.e1
  obtain ⟨q1, d1, f1, g1⟩ := Y.e1
  obtain ⟨p2, a2, b2, c2⟩ := X.e2
  obtain ⟨q2, d2, f2, g2⟩ := Y.e2
  obtain ⟨p3, a3, b3, c3⟩ := X.e3
  obtain ⟨q3, d3, f3, g3⟩ := Y.e3
  have := X.m0 q0 d0 f0
  have := Y.m0 p0 a0 b0
  have := X.m1 q1 d1 f1
  have := Y.m1 p1 a1 b1
  have := X.m2 q2 d2 f2
  have := Y.m2 p2 a2 b2
  have := X.m3 q3 d3 f3
  have := Y.m3 p3 a3 b3
  omega
theorem NextOf.inner {low' high' down' up' w0 w1 w2 w3 : Int} (X : NextOf lt lf hf af a b low high down up v0 v1 v2 v3) (Y : NextOf lt lf hf af a b low' high' down' up' w0 w1 w2 w3) (ha : 1 ≤ a) (hab : a ≤ b) (hlh : ∀ p, lf (lt p) ≤ hf (lt p))
    (h0 : low ≤ low') (h1 : high' ≤ high) (h2 : down ≤ down') (h3 : up' ≤ up) (h4 : down' ≤ up') : v0 ≤ w0 ∧ w0 ≤ w1 ∧ w1 ≤ v1 ∧ v2 ≤ w2 ∧ w2 ≤ w3 ∧ w3 ≤ v3 := by
  obtain ⟨q0, d0, f0, g0⟩ := Y.e0
  obtain ⟨q1, d1, f1, g1⟩ := Y.e1
  obtain ⟨q2, d2, f2, g2⟩ := Y.e2
  obtain ⟨q3, d3, f3, g3⟩ := Y.e3
  have i0 := X.m0 q0 (by omega) (by omega)
  have i1 := Y.m1 q0 d0 f0
  have i2 := hlh q0
  have i3 := X.m1 q1 (by omega) (by omega)
  have i4 := X.m2 q2 (by omega) (by omega)
  have i5 := low_mono (g := af (lt q2)) ha hab h2
  have i6 := Y.m3 q2 d2 f2
  have i7 := low_high (g := af (lt q2)) ha hab h4
  have i8 := X.m3 q3 (by omega) (by omega)
  have i9 := high_mono (g := af (lt q3)) ha hab h3
  omega
/-- from lists over every progress and every level -/
theorem NextOf.every {c : Nat} {L : List Int} (hc : (c : Int) = high + 1 - low) (ha : 1 ≤ a) (hab : a ≤ b) (hdu : down ≤ up)
    (h0 : v0 ∈ (List.range c).map fun j : Nat => low + (j : Int) + lf (lt (low + (j : Int)))) (l0 : ∀ y ∈ (List.range c).map fun j : Nat => low + (j : Int) + lf (lt (low + (j : Int))), v0 ≤ y)
    (h1 : v1 ∈ (List.range c).map fun j : Nat => low + (j : Int) + hf (lt (low + (j : Int)))) (l1 : ∀ y ∈ (List.range c).map fun j : Nat => low + (j : Int) + hf (lt (low + (j : Int))), y ≤ v1)
    (hL : ∀ x ∈ L, ∃ p lv r, low ≤ p ∧ p ≤ high ∧ down ≤ lv ∧ lv ≤ up ∧ (r = a ∨ r = b) ∧ x = tow lv (af (lt p)) r) (hL2 : ∀ p lv r, low ≤ p → p ≤ high → down ≤ lv → lv ≤ up → (r = a ∨ r = b) → tow lv (af (lt p)) r ∈ L)
    (h2 : v2 ∈ L) (l2 : ∀ y ∈ L, v2 ≤ y) (h3 : v3 ∈ L) (l3 : ∀ y ∈ L, y ≤ v3) : NextOf lt lf hf af a b low high down up v0 v1 v2 v3 := by
  have mem : ∀ (g : Int → Int) p, low ≤ p → p ≤ high → g p ∈ (List.range c).map fun j : Nat => g (low + (j : Int)) := fun g p p0 p1 =>
    List.mem_map.mpr ⟨(p - low).toNat, List.mem_range.mpr (by omega), by rw [show low + ((p - low).toNat : Int) = p by omega]⟩
  have low2 : ∀ p, low ≤ p → p ≤ high → v2 ≤ lowest a b down (af (lt p)) := fun p p0 p1 => by
    rcases low_mem (a := a) (b := b) (x := down) (g := af (lt p)) with e | e <;> rw [e]
    · exact l2 _ (hL2 p down a p0 p1 (Int.le_refl _) hdu (.inl rfl))
    · exact l2 _ (hL2 p down b p0 p1 (Int.le_refl _) hdu (.inr rfl))
  have high2 : ∀ p, low ≤ p → p ≤ high → highest a b up (af (lt p)) ≤ v3 := fun p p0 p1 => by
    rcases high_mem (x := up) (g := af (lt p)) ha hab with e | e <;> rw [e]
    · exact l3 _ (hL2 p up a p0 p1 hdu (Int.le_refl _) (.inl rfl))
    · exact l3 _ (hL2 p up b p0 p1 hdu (Int.le_refl _) (.inr rfl))
  refine ⟨?_, fun p p0 p1 => l0 _ (mem (fun p => p + lf (lt p)) p p0 p1), ?_, fun p p0 p1 => l1 _ (mem (fun p => p + hf (lt p)) p p0 p1), ?_, low2, ?_, high2⟩
  · obtain ⟨j, hj, rfl⟩ := List.mem_map.mp h0
    have := List.mem_range.mp hj
    exact ⟨low + (j : Int), by omega, by omega, rfl⟩
  · obtain ⟨j, hj, rfl⟩ := List.mem_map.mp h1
    have := List.mem_range.mp hj
    exact ⟨low + (j : Int), by omega, by omega, rfl⟩
  · obtain ⟨p, lv, r, p0, p1, q0, q1, hr, rfl⟩ := hL v2 h2
    have := low2 p p0 p1
    have := low_le (g := af (lt p)) ha hab q0 hr
    exact ⟨p, p0, p1, by omega⟩
  · obtain ⟨p, lv, r, p0, p1, q0, q1, hr, rfl⟩ := hL v3 h3
    have := high2 p p0 p1
    have := high_le (g := af (lt p)) ha hab q1 hr
    exact ⟨p, p0, p1, by omega⟩
end
/-- from lists over the legs -/
theorem NextOf.legs {D : CD} {ns : List Str} {lf hf af : Nat → Int} {a b low high down up v0 v1 v2 v3 : Int} (pos : PosR D ns) (n2 : 2 ≤ ns.length) (hlh : low ≤ high) {first last : Nat} (hf1 : lat D ns (ns.length - 1 - 1) low = first) (hl1 : lat D ns (ns.length - 1 - 1) high = last) {c : Nat} (hc : c = last + 1 - first)
    (h0 : v0 ∈ (List.range c).map fun j => (if first + j = first then low else bg D ns (first + j)) + lf (first + j)) (l0 : ∀ y ∈ (List.range c).map fun j => (if first + j = first then low else bg D ns (first + j)) + lf (first + j), v0 ≤ y)
    (h1 : v1 ∈ (List.range c).map fun j => (if first + j = last then high else bg D ns (first + j + 1) - 1) + hf (first + j)) (l1 : ∀ y ∈ (List.range c).map fun j => (if first + j = last then high else bg D ns (first + j + 1) - 1) + hf (first + j), y ≤ v1)
    (h2 : v2 ∈ (List.range c).map fun j => lowest a b down (af (first + j))) (l2 : ∀ y ∈ (List.range c).map fun j => lowest a b down (af (first + j)), v2 ≤ y)
    (h3 : v3 ∈ (List.range c).map fun j => highest a b up (af (first + j))) (l3 : ∀ y ∈ (List.range c).map fun j => highest a b up (af (first + j)), y ≤ v3) :
    NextOf (fun x => lat D ns (ns.length - 1 - 1) x) lf hf af a b low high down up v0 v1 v2 v3 := by
  have mono : ∀ p q, p ≤ q → lat D ns (ns.length - 1 - 1) p ≤ lat D ns (ns.length - 1 - 1) q := fun p q h => lat_mono D ns _ h
  obtain ⟨fa, fb, fc⟩ := lat_cases D ns (ns.length - 1 - 1) low
  obtain ⟨ga, gb, gc⟩ := lat_cases D ns (ns.length - 1 - 1) high
  have hfl := mono low high hlh
  rw [hf1] at fa fb fc hfl
  rw [hl1] at ga gb gc hfl
  have lk : ∀ k x, k ≤ ns.length - 1 - 1 → bg D ns k ≤ x → (k < ns.length - 1 - 1 → x < bg D ns (k + 1)) → lat D ns (ns.length - 1 - 1) x = k := fun k x hk hx hx2 =>
    lat_eq hk (fun i hi => Int.le_trans (bg_mono D ns (show i + 1 ≤ k by omega)) hx) hx2
  -- the first progress on leg k
  have C : ∀ k, first ≤ k → k ≤ last → ∃ x, x = (if k = first then low else bg D ns k) ∧ low ≤ x ∧ x ≤ high ∧ lat D ns (ns.length - 1 - 1) x = k := fun k k0 k1 => by
    by_cases e : k = first
    · exact ⟨low, by rw [if_pos e], Int.le_refl _, hlh, by rw [hf1, e]⟩
    · have e1 : lat D ns (ns.length - 1 - 1) (bg D ns k) = k := lk k _ (by omega) (Int.le_refl _) fun h => by have := pos.lt (show k + 1 < ns.length by omega); omega
      refine ⟨_, by rw [if_neg e], ?_, ?_, e1⟩
      · rcases ltge (bg D ns k) low with w | w
        · have := mono _ _ (Int.le_of_lt w)
          rw [e1, hf1] at this
          omega
        · exact w
      · have := gb (k - 1) (by omega)
        rw [show k - 1 + 1 = k by omega] at this
        exact this
  -- the last progress on leg k
  have E : ∀ k, first ≤ k → k ≤ last → ∃ x, x = (if k = last then high else bg D ns (k + 1) - 1) ∧ low ≤ x ∧ x ≤ high ∧ lat D ns (ns.length - 1 - 1) x = k := fun k k0 k1 => by
    by_cases e : k = last
    · exact ⟨high, by rw [if_pos e], hlh, Int.le_refl _, by rw [hl1, e]⟩
    · have p1 := pos.lt (show k + 1 < ns.length by omega)
      have e1 : lat D ns (ns.length - 1 - 1) (bg D ns (k + 1) - 1) = k := lk k _ (by omega) (by omega) fun h => by omega
      refine ⟨_, by rw [if_neg e], ?_, ?_, e1⟩
      · have := fc (by omega)
        have := bg_mono D ns (show first + 1 ≤ k + 1 by omega)
        omega
      · have := gb k (by omega)
        omega
  have leg : ∀ p, low ≤ p → p ≤ high → first ≤ lat D ns (ns.length - 1 - 1) p ∧ lat D ns (ns.length - 1 - 1) p ≤ last := fun p p0 p1 => ⟨hf1 ▸ mono _ _ p0, hl1 ▸ mono _ _ p1⟩
  have mem : ∀ (g : Nat → Int) k, first ≤ k → k ≤ last → g k ∈ (List.range c).map fun j => g (first + j) := fun g k k0 k1 =>
    List.mem_map.mpr ⟨k - first, List.mem_range.mpr (by omega), by rw [show first + (k - first) = k by omega]⟩
  have unm : ∀ (g : Nat → Int) v, v ∈ ((List.range c).map fun j => g (first + j)) → ∃ k, first ≤ k ∧ k ≤ last ∧ v = g k := fun g v h => by
    obtain ⟨j, hj, e⟩ := List.mem_map.mp h
    have := List.mem_range.mp hj
    exact ⟨first + j, by omega, by omega, e.symm⟩
  refine ⟨?_, fun p p0 p1 => ?_, ?_, fun p p0 p1 => ?_, ?_, fun p p0 p1 => ?_, ?_, fun p p0 p1 => ?_⟩
  · obtain ⟨k, k0, k1, e⟩ := unm (fun k => (if k = first then low else bg D ns k) + lf k) v0 h0
    obtain ⟨x, hx, x0, x1, x2⟩ := C k k0 k1
    exact ⟨x, x0, x1, by rw [x2, e, ← hx]⟩
  · obtain ⟨k0, k1⟩ := leg p p0 p1
    obtain ⟨ta, tb, tc⟩ := lat_cases D ns (ns.length - 1 - 1) p
    have := l0 _ (mem (fun k => (if k = first then low else bg D ns k) + lf k) _ k0 k1)
    refine Int.le_trans this ?_
    by_cases e : lat D ns (ns.length - 1 - 1) p = first
    · rw [if_pos e]; omega
    · rw [if_neg e]
      have := tb (lat D ns (ns.length - 1 - 1) p - 1) (by omega)
      rw [show lat D ns (ns.length - 1 - 1) p - 1 + 1 = lat D ns (ns.length - 1 - 1) p by omega] at this
      omega
  · obtain ⟨k, k0, k1, e⟩ := unm (fun k => (if k = last then high else bg D ns (k + 1) - 1) + hf k) v1 h1
    obtain ⟨x, hx, x0, x1, x2⟩ := E k k0 k1
    exact ⟨x, x0, x1, by rw [x2, e, ← hx]⟩
  · obtain ⟨k0, k1⟩ := leg p p0 p1
    obtain ⟨ta, tb, tc⟩ := lat_cases D ns (ns.length - 1 - 1) p
    have := l1 _ (mem (fun k => (if k = last then high else bg D ns (k + 1) - 1) + hf k) _ k0 k1)
    refine Int.le_trans ?_ this
    by_cases e : lat D ns (ns.length - 1 - 1) p = last
    · rw [if_pos e]; omega
    · rw [if_neg e]
      have := tc (by omega)
      omega
  · obtain ⟨k, k0, k1, e⟩ := unm (fun k => lowest a b down (af k)) v2 h2
    obtain ⟨x, hx, x0, x1, x2⟩ := C k k0 k1
    exact ⟨x, x0, x1, by rw [x2, e]⟩
  · obtain ⟨k0, k1⟩ := leg p p0 p1
    exact l2 _ (mem (fun k => lowest a b down (af k)) _ k0 k1)
  · obtain ⟨k, k0, k1, e⟩ := unm (fun k => highest a b up (af k)) v3 h3
    obtain ⟨x, hx, x0, x1, x2⟩ := C k k0 k1
    exact ⟨x, x0, x1, by rw [x2, e]⟩
  · obtain ⟨k0, k1⟩ := leg p p0 p1
    exact l3 _ (mem (fun k => highest a b up (af k)) _ k0 k1)
/-! what stands ready -/
structure ND where
  p : Addr
  r : Addr
  ch : Addr
  cs : Addr
  ki : Addr
  ru : Addr
  wi : Addr
  D : CD
  ns : List Str
  pc : Int
  lv : Int
  w : Int
  s : Int
  f : Int
  a : Int
  b : Int
  sl : Int
  tick : Int
  qs : List WQ
  qw : WQ
structure NIn (C : Addr) (H : Hp) (N : ND) : Prop where
  P : PathAt C H N.p N.D N.ns N.r
  C0 : ChartAt H N.ch N.D
  R : Route N.D N.ns
  ps : PosR N.D N.ns
  cs : H N.cs = some (.tup [.ref N.r, .int N.pc, .int N.lv])
  ki : H N.ki = some (.tup [.int N.w, .int N.s, .int N.f, .int N.a, .int N.b])
  ru : ∃ kvs, H N.ru = some (.dK kvs) ∧ valV kvs (.inr "slip") = some (.int N.sl)
  wi : WAt H N.wi N.qs
  tk : 0 ≤ N.tick
  qw : (lb N.tick N.qs).getLast? = some N.qw
  hab : 1 ≤ N.a ∧ N.a ≤ N.b
  sl0 : 0 ≤ N.sl
  qn : N.qs.length ≤ 100
theorem NIn.same {C : Addr} {H H' : Hp} {N : ND} (I : NIn C H N) (e : Same H H') : NIn C H' N :=
  { I with P := I.P.same e, C0 := I.C0.same e, cs := e _ _ I.cs, ki := e _ _ I.ki, ru := let ⟨kvs, h1, h2⟩ := I.ru; ⟨kvs, e _ _ h1, h2⟩, wi := I.wi.same e }
theorem NIn.keep {K : PySem.W.Frag} {C d c : Addr} {H H' : Hp} {N : ND} (I : NIn C H N) (S : St1 K H d c) (k : Keep d H H') (n1 : N.ch ≠ d) (n2 : N.D.fx ≠ d) (n3 : N.ru ≠ d) : NIn C H' N :=
  { I with P := I.P.keep S k, C0 := I.C0.keep S k n1 n2, cs := k.t S I.cs, ki := k.t S I.ki, ru := let ⟨kvs, h1, h2⟩ := I.ru; ⟨kvs, k _ _ h1 n3, h2⟩, wi := I.wi.keep S k }
theorem NIn.sl {C : Addr} {H : Hp} {N : ND} (I : NIn C H N) : DGet H N.ru (.str "slip") (some (.int N.sl)) := let ⟨_, h1, h2⟩ := I.ru; h2 ▸ DGet.k (k := .inr "slip") h1
theorem NIn.rt {C : Addr} {H : Hp} {N : ND} (I : NIn C H N) : H N.r = some (.tup (N.ns.map V.str)) := let ⟨_, _, _, _, _, _, _, P⟩ := I.P; P.rt
def ND.dx (N : ND) (k : Nat) : Int := (N.D.xy (rn N.ns (k + 1))).1 - (N.D.xy (rn N.ns k)).1
def ND.dy (N : ND) (k : Nat) : Int := (N.D.xy (rn N.ns (k + 1))).2 - (N.D.xy (rn N.ns k)).2
def ND.ln (N : ND) (k : Nat) : Int := N.D.len (rn N.ns k) (rn N.ns (k + 1))
def ND.lf (N : ND) (k : Nat) : Int := lo (N.dx k) (N.dy k) (N.ln k) N.pc N.sl N.qw.2.2.1 N.qw.2.2.2.1 N.qw.2.2.2.2
def ND.hf (N : ND) (k : Nat) : Int := hi (N.dx k) (N.dy k) (N.ln k) N.pc N.sl N.qw.2.2.1 N.qw.2.2.2.1 N.qw.2.2.2.2
def ND.af (N : ND) (k : Nat) : Int := tgt N.D N.ns k N.lv
def ND.lt (N : ND) (x : Int) : Nat := lat N.D N.ns (N.ns.length - 1 - 1) x
def ND.nx (N : ND) (low high down up v0 v1 v2 v3 : Int) : Prop := NextOf N.lt N.lf N.hf N.af N.a N.b low high down up v0 v1 v2 v3
theorem ab_nn (x : Int) : 0 ≤ ab x := by unfold ab; split <;> omega
theorem NIn.qm {C : Addr} {H : Hp} {N : ND} (I : NIn C H N) : N.qw ∈ N.qs := (List.mem_filter.mp (List.mem_of_getLast? I.qw)).1
theorem NIn.lh {C : Addr} {H : Hp} {N : ND} (I : NIn C H N) (k : Nat) (hk : k + 1 < N.ns.length) : N.lf k ≤ N.hf k := by
  unfold ND.lf ND.hf lo hi
  have h1 := I.sl0
  have h2 := I.ps k hk
  have h3 := (I.wi.bd _ I.qm).2.2.2.2.1
  have h4 := Int.mul_nonneg h3 (Int.add_nonneg (ab_nn (N.dx k)) (ab_nn (N.dy k)))
  have h5 := div_mono (n := N.ln k) (a := N.qw.2.2.1 * N.dx k + N.qw.2.2.2.1 * N.dy k - N.qw.2.2.2.2 * (ab (N.dx k) + ab (N.dy k))) (b := N.qw.2.2.1 * N.dx k + N.qw.2.2.2.1 * N.dy k + N.qw.2.2.2.2 * (ab (N.dx k) + ab (N.dy k))) (by show 0 < N.D.len _ _; omega) (by omega)
  omega
/-! promises -/
def spWithin : Sp := fun vs H Q _ => ∃ (l : Lg) (x : Int), vs = [.ref l.a, .int x] ∧ H l.a = some (.tup l.v) ∧ Q (.int (clamp l.lo l.hi x)) H
def spTarget (C : Addr) : Sp := fun vs H Q _ => ∃ (N : ND) (k : Nat) (z : Int), vs = [.ref N.p, .ref N.cs, .int z] ∧ z = (k : Int) ∧ NIn C H N ∧ k + 1 < N.ns.length ∧ Q (.int (N.af k)) H
def spBounds (C : Addr) : Sp := fun vs H Q _ => ∃ (N : ND) (k : Nat) (z : Int), vs = [.ref N.p, .ref N.cs, .ref N.ru, .ref N.wi, .int N.tick, .int z] ∧ z = (k : Int) ∧ NIn C H N ∧ k + 1 < N.ns.length ∧
  ∀ q H', H q = none → Same H H' → H' q = some (.tup [.int (N.lf k), .int (N.hf k)]) → Q (.ref q) H'
def spLowest : Sp := fun vs H Q _ => ∃ (ki : Addr) (x g w s f a b : Int), vs = [.ref ki, .int x, .int g] ∧ H ki = some (.tup [.int w, .int s, .int f, .int a, .int b]) ∧ Q (.int (lowest a b x g)) H
def spHighest : Sp := fun vs H Q _ => ∃ (ki : Addr) (x g w s f a b : Int), vs = [.ref ki, .int x, .int g] ∧ H ki = some (.tup [.int w, .int s, .int f, .int a, .int b]) ∧ Q (.int (highest a b x g)) H
def spNext (C : Addr) : Sp := fun vs H Q _ => ∃ (N : ND) (bx : Addr) (low high down up : Int), vs = [.ref N.p, .ref N.cs, .ref N.ki, .ref N.ru, .ref N.wi, .int N.tick, .ref bx] ∧ NIn C H N ∧ H bx = some (.tup [.int low, .int high, .int down, .int up]) ∧ low ≤ high ∧ down ≤ up ∧
  ∀ q v0 v1 v2 v3 H', H q = none → Same H H' → H' q = some (.tup [.int v0, .int v1, .int v2, .int v3]) → N.nx low high down up v0 v1 v2 v3 → Q (.ref q) H'
def spLawNext (C : Addr) : Sp := fun vs H Q _ => ∃ (N : ND) (b bx : Addr) (low high down up : Int), vs = [.ref N.ch, .ref N.r, .ref b, .ref N.cs, .ref N.ki, .ref N.ru, .ref N.wi, .int N.tick, .ref bx] ∧ NIn C H N ∧ H b = some (.lst ((bgs N.D N.ns).map V.int)) ∧ H bx = some (.tup [.int low, .int high, .int down, .int up]) ∧ low ≤ high ∧ high - low ≤ 40 ∧ down ≤ up ∧ up - down ≤ 11 ∧ -10000000 ≤ low ∧ low ≤ 10000000 ∧ -10000000 ≤ down ∧ down ≤ 10000000 ∧
  ∀ q v0 v1 v2 v3 H', H q = none → Same H H' → H' q = some (.tup [.int v0, .int v1, .int v2, .int v3]) → N.nx low high down up v0 v1 v2 v3 → Q (.ref q) H'
def spLawTarget (C : Addr) : Sp := fun vs H Q _ => ∃ (N : ND) (k : Nat) (z : Int), vs = [.ref N.ch, .ref N.r, .int z, .int N.lv] ∧ z = (k : Int) ∧ NIn C H N ∧ k + 1 < N.ns.length ∧ ∀ H', Same H H' → Q (.int (N.af k)) H'
def spLawBounds (C : Addr) : Sp := fun vs H Q _ => ∃ (N : ND) (b : Addr) (k : Nat) (z : Int), vs = [.ref N.ch, .ref N.r, .ref b, .int z, .int N.pc, .int N.sl, .ref N.qw.1] ∧ z = (k : Int) ∧ NIn C H N ∧ H b = some (.lst ((bgs N.D N.ns).map V.int)) ∧ k + 1 < N.ns.length ∧
  ∀ q H', H q = none → Same H H' → H' q = some (.tup [.int (N.lf k), .int (N.hf k)]) → Q (.ref q) H'
def spLawWindAt (C : Addr) : Sp := fun vs H Q _ => ∃ (N : ND), vs = [.ref N.wi, .int N.tick] ∧ NIn C H N ∧ ∀ H', Same H H' → Q (.ref N.qw.1) H'
def spTowards : Sp := fun vs H Q _ => ∃ (x g r : Int), vs = [.int x, .int g, .int r] ∧ Q (.int (tow x g r)) H
def spKind (K : PySem.W.Frag) : Sp := fun vs H Q _ => ∃ (d c : Addr), vs = [.ref d] ∧ St1 K H d c ∧ ∀ q w s f a b H', H q = none → 1 ≤ s → s ≤ f → f ≤ 1000 → 1 ≤ a → a ≤ b → H' q = some (.tup [.int w, .int s, .int f, .int a, .int b]) → St1 K H' d c → Keep d H H' → Q (.ref q) H'
def spRules (K : PySem.W.Frag) : Sp := fun vs H Q _ => ∃ (d c : Addr), vs = [.ref d] ∧ St1 K H d c ∧ ∀ ru kvs sl H', H ru = none → H' ru = some (.dK kvs) → valV kvs (.inr "slip") = some (.int sl) → 0 ≤ sl → St1 K H' d c → Keep d H H' → Q (.ref ru) H'
def spWinds (K : PySem.W.Frag) : Sp := fun vs H Q _ => ∃ (d c : Addr), vs = [.ref d] ∧ St1 K H d c ∧ ∀ wi qs H', H wi = none → WAt H' wi qs → qs.length ≤ 100 → St1 K H' d c → Keep d H H' → Q (.ref wi) H'
def spLawBox (K : PySem.W.Frag) : Sp := fun vs H Q _ => ∃ (d c b : Addr) (D : CD) (ns : List Str) (wide : Int), vs = [.ref d, .ref b, .int wide] ∧ St1 K H d c ∧ H b = some (.lst ((bgs D ns).map V.int)) ∧ Bd D ∧ 2 ≤ ns.length ∧ ns.length ≤ 20 ∧ 1 ≤ wide ∧ wide ≤ 41 ∧
  ∀ q low high down up H', H q = none → low ≤ high → high - low ≤ 40 → down ≤ up → up - down ≤ 11 → -10000000 ≤ low → low ≤ 10000000 → -10000000 ≤ down → down ≤ 10000000 → H' q = some (.tup [.int low, .int high, .int down, .int up]) → St1 K H' d c → Keep d H H' → Q (.ref q) H'
end Sk

set_option Elab.async false
set_option linter.all false
set_option maxRecDepth 100000
set_option maxHeartbeats 4000000
namespace Sk
open PySem PySem.Spec PyProof.Rows L2 GenW GxR
/-! generator expressions whose elements may call own defs -/
/-! ### one run of a generator's code -/
def Run1 (M : Model) (A : Around) (Z : End → Shared → Prop) (c : Code) (t : Sem PySem.Fin) (fs : List Frame) (s : Shared) : Prop :=
  ∀ (Γ : PySem.Ctx) (p : Pos), Γ.code = c → Γ.Woken A → ∃ e s', Runs M Γ p t fs s e s' ∧ Z e s'
section
variable {M : Model} {A : Around} {Z : End → Shared → Prop} {c : Code} {fs : List Frame} {s : Shared}
theorem run1_wrap {α : Type} {m : Sem α} {K : α → Sem PySem.Fin} {J : Value → Sem PySem.Fin} {gd lv}
    (h : wpAny M (A.over c fs) m (fun a s' => Run1 M A Z c (K a) fs s') (fun x s' => Run1 M A Z c (J x) fs s') s) : Run1 M A Z c (m.wrap K J gd lv) fs s := by
  intro Γ p e w
  subst e
  exact runs_wrap_of_wp K J gd lv m (h (Γ.over fs) p (w.over fs)) (fun a p' s' q => q Γ p' rfl w) fun x p' s' q => q Γ p' rfl w
theorem run1_bind {α β : Type} {m : Sem α} {K : α → Sem β} {K' : β → Sem PySem.Fin} {J' : Value → Sem PySem.Fin} {gd lv}
    (h : wpAny M (A.over c fs) m (fun a s' => Run1 M A Z c ((K a).wrap K' J' gd lv) fs s') (fun x s' => Run1 M A Z c (J' x) fs s') s) : Run1 M A Z c ((m >>= K).wrap K' J' gd lv) fs s := by
  rw [Sem.bind_eq_wrap', Sem.wrap_wrap]
  exact run1_wrap h
theorem run1_at {p' : Pos} {k : Unit → Sem PySem.Fin} (h : Run1 M A Z c (k ()) fs s) : Run1 M A Z c (.at p' k) fs s :=
  run1_wrap (m := standAt p') (K := k) (J := .raise) (gd := id) (lv := id) (wpAny_standAt h)
theorem run1_again {c' : Code} (q : c'.quiet = true) (h : Run1 M A Z c' (M.den c') fs s) : Run1 M A Z c (.pure (.again c')) fs s := by
  intro Γ p e w
  subst e
  obtain ⟨e, s', r, z⟩ := h (Γ.goto c') p rfl (w.goto c')
  exact ⟨e, s', Runs.head (c₁ := c') (fun _ _ x => .again q x) r, z⟩
theorem run1_end (r : Result) (h : Z (.ret r) s) : Run1 M A Z c (leafOf r) [] s := by
  intro Γ p e w
  exact ⟨.ret r, s, Runs.leaf r, h⟩
theorem run1_yield {v g l} {k : Resume → Sem PySem.Fin} (hfs : splitAtGen fs = none) (h : ∀ p, Z (.susp v g l k c p fs) s) : Run1 M A Z c (.yield v g l k) fs s := by
  intro Γ p e w
  subst e
  exact ⟨_, s, Runs.yield' fs hfs, h p⟩
end
/-- a generator's state, woken by None -/
def Goes1 (M : Model) (A : Around) (Z : End → Shared → Prop) (gs : GenState) (s : Shared) : Prop :=
  match gs with
  | .fresh c => Run1 M A Z c (M.den c) [] s
  | .suspended k _ c _ fs _ => Run1 M A Z c (k (.send .none)) fs s
  | _ => False
theorem bare_of {e : End} (h : e.quiet = true) : e.genState.bare = true := End.bare_of_quiet h
theorem wp_resume1 {M : Model} {A : Around} {Z : End → Shared → Prop} {E : Value → Shared → Prop} {s : Shared} {g : Nat} {gs : GenState} {l : List Value} {α : Type} {k : GenResult → Sem α} {Q : α → Shared → Prop} (hg : s.gens[g]? = some gs)
    (go : Goes1 M A Z gs (s.setGen g .running)) (hZ : ∀ e s1, Z e s1 → s.gens.size ≤ s1.gens.size → e.quiet = true ∧ wpAny M A (k e.result) Q E (s1.setGen g e.genState)) : wpAny M A (.resume g (.send .none) l k) Q E s := by
  intro Γ p hΓ
  rw [Sem.wp_resume]
  have wk : ∀ c, (Γ.wake c p).Woken A := fun c => hΓ.wake c p
  have sz : (s.setGen g .running).gens.size = s.gens.size := setGen_size s g .running
  cases gs with
  | fresh c =>
    obtain ⟨e, s1, r, z⟩ := go (Γ.wake c p) p rfl (wk c)
    obtain ⟨q1, q2⟩ := hZ e s1 z (by have := runs_gsz r; rw [sz] at this; exact this)
    exact ⟨_, _, by unfold Wakes; rw [hg]; exact ⟨e, s1, r, q1, rfl, rfl⟩, q2 Γ p hΓ⟩
  | suspended k0 l0 c p0 fs cl =>
    obtain ⟨e, s1, r, z⟩ := go (Γ.wake c p) p0 rfl (wk c)
    obtain ⟨q1, q2⟩ := hZ e s1 z (by have := runs_gsz r; rw [sz] at this; exact this)
    exact ⟨_, _, by unfold Wakes; rw [hg]; exact ⟨e, s1, r, q1, rfl, rfl⟩, q2 Γ p hΓ⟩
  | running => exact go.elim
  | finished => exact go.elim
/-- next(g): what the code's run comes to -/
theorem next1 {P : Program} {w : World} {A : Around} {E : Value → Shared → Prop} {s : Shared} {a : Addr} {g : Nat} {gs : GenState} {Z : End → Shared → Prop} {Q : Option Value → Shared → Prop} (hh : A.handled = none) (hl : s.heap.NoLimit) (hroom : A.depth < recursionLimit)
    (hg : s.heap.IsGen a g) (hgs : s.gens[g]? = some gs) (go : Goes1 (model P w) A.in1 Z gs (s.setGen g .running))
    (hY : ∀ e s1, Z e s1 → s.gens.size ≤ s1.gens.size → (e = .ret (.ok .next) ∧ ∀ h', (∀ b o, s1.heap.get? b = some o → h'.get? b = some o) → Q none { s1.setGen g .finished with heap := h' }) ∨
      (∃ v l k c p fs, e = .susp v false l k c p fs ∧ e.quiet = true ∧ Q (some v) (s1.setGen g e.genState))) : wpAny (model P w) A (pyNext (.ref a)) Q E s := by
  unfold pyNext
  refine wpAny_bind (wpAny_attempt (wpAny_callSpecial?_slot (name := Str.ofString "__next__") hg.typeIs slot_gen_next (wpAny_call_entry slot_gen_next hg.typeIs entry_gen_next ?_ (args_gen_next _))))
  show wpAny _ A.in1 (Builtin.Generator.genWake (.ref a) (.send .none)) _ _ s
  unfold Builtin.Generator.genWake
  refine wpAny_bind (wpAny_holding (wpAny_genNumber hg (wpAny_bind (wpAny_genState hgs ?_))))
  cases gs with
  | running => exact go.elim
  | finished => exact go.elim
  | _ =>
    refine wpAny_bind (wpAny_roomToWake hl hroom ?_)
    show wpAny _ A.in1 (.resume g (.send .none) [] _) _ _ s
    refine wp_resume1 hgs go fun e s1 z hsz => ?_
    rcases hY e s1 z hsz with ⟨rfl, q⟩ | ⟨v, l, k, c, p, fs, rfl, q1, q⟩
    · refine ⟨rfl, ?_⟩
      show wpAny _ A.in1 (newExc (.type "StopIteration") [] >>= _) _ _ _
      refine wpAny_bind ?_
      simp only [newExc, newTuple]
      refine wpAny_bind (wpAny_newObj_type ?_ (by size_fits))
      refine wpAny_bind (m := firstArgMember _ _) (wpAny_of_eq (a := Value.none) (by first | rfl | (simp only [firstArgMember]; rfl)) ?_)
      refine wpAny_newObj_type ?_ (by size_fits)
      simp only [raiseNew]
      refine wpAny_bind (wpAny_bind (wpAny_handled ?_))
      first | rw [show A.in1.handled = none from hh] | rw [hh]
      refine wpAny_throw ?_
      refine wpAny_bind (wpAny_isInstance (T := "StopIteration") (b := true) ⟨_, Heap.get?_push_size _ rfl, rfl⟩ isSubtype_stop ?_)
      exact wpAny_pure (q _ fun b o hb => Heap.get?_push_of_some _ (Heap.get?_push_of_some _ hb))
    · exact ⟨q1, wpAny_pure ⟨v, rfl, wpAny_pure q⟩⟩

/-! ### the generator's frame -/
abbrev gcx (X : Cx) (s : Shared) (H : Hp) (cenv : Env) (fp : List Addr) (A : Around) : Cx :=
  { X with A := A, s_0 := s, H_0 := H, env := cenv, outer := X.stack, stack := cenv :: X.stack, ex := fp, fn := fun _ => false, calm := true, pn := [], xe := fun _ _ => False }
/-- its scope: no cells of its own -/
structure GScp (scope : Scope) : Prop where
  co : scope.isCoroutine = false
  kind : scope.kind = .function
  nocell : ∀ y ∈ scope.names, y.2 ≠ .cell
  dot : scope.names.lookup (".0" : Str) = some NameKind.local
section
variable {X : Cx} {pins : List (Addr × Obj)} {σ : L2.St} {H : Hp} {s : Shared}
theorem blk_free {N : List Str} {scope : Scope} {own : List (Str × Nat)} (ok : BlkOk N X.env.scope scope own) (o : X.Ok) : ∀ y ∈ scope.names, y.2 = .free → ∃ c, X.env.cells.lookup y.1 = some c := fun y hy e =>
  (ok.free y hy e).elim (fun z => o.has _ (.inl z)) fun z => o.has _ (.inr z)
theorem gen_start {scope : Scope} {own : List (Str × Nat)} {fp : List Addr} {code : Value} {A : Around} {h' : Heap} {g' : Array GenState} {d' : Drawn} {t' : Nat} {m : Str → Option Value} (I : Inv X pins σ H s) (ok : BlkOk X.N X.env.scope scope own) (G : GScp scope) (hN : X.N.Nodup)
    (hfp : ∀ b ∈ fp, FpOk X pins H b ∧ b < s.heap.objs.size) (hd : A.handled = none) (hfr : A.frames = some (genEnv scope (cloFrom X.env.cells scope.names []) s.heap.objs.size code builtinsNs X.env :: X.stack))
    (hns : h'.Ns s.heap.objs.size m) (kp : ∀ b o, s.heap.get? b = some o → h'.get? b = some o) (hg : AllBare g') :
    Inv (gcx X s H (genEnv scope (cloFrom X.env.cells scope.names []) s.heap.objs.size code builtinsNs X.env) fp A) [] (wipe σ (own.map (·.2))) H { s with heap := h', gens := g', drawn := d', toks := t' } := by
  have hfree := blk_free ok I.ok
  have cm : ∀ {y c}, (cloFrom X.env.cells scope.names []).lookup y = some c → X.env.cells.lookup y = some c := fun e => NdefX.clo_cm hfree e
  have frk : ∀ y, scope.names.lookup y = some .free → ∃ c, (cloFrom X.env.cells scope.names []).lookup y = some c ∧ X.env.cells.lookup y = some c := fun y e => by
    have hy : (y, NameKind.free) ∈ scope.names := PySem.mem_of_lookup e
    obtain ⟨c, hc⟩ := hfree _ hy rfl
    exact ⟨c, NdefX.clo_has hfree hy hc, hc⟩
  have okG : (gcx X s H (genEnv scope (cloFrom X.env.cells scope.names []) s.heap.objs.size code builtinsNs X.env) fp A).Ok :=
    { mod := I.ok.mod, kind := G.kind, glob := I.ok.glob, blt := rfl, above := Nat.le_refl _
      inj := fun y z c e1 e2 => I.ok.inj y z c (cm e1) (cm e2)
      has := fun y hy => by
        have hy : scope.names.lookup y = some .cell ∨ scope.names.lookup y = some .free := hy
        rcases hy with hy | hy
        · exact absurd rfl (G.nocell _ (PySem.mem_of_lookup hy))
        · obtain ⟨c, e, _⟩ := frk y hy
          exact ⟨c, e⟩
      cab := fun y c z _ => by cases z
      hd := fun _ => hd
      frames := hfr
      stk := .inr ⟨rfl, rfl⟩
      exf := fun b hb => ⟨Nat.ne_of_lt (hfp b hb).2, fun y c e => (hfp b hb).1.2.2.2.2.1 y c (cm e)⟩
      bs := I.bs
      bsz := Nat.le_trans I.ok.bsz I.sz
      noex := fun b o e hb => by
        rcases (hfp b hb).1.2.2.2.1 with z | z
        · exact I.ok.noex b o e z
        · exact Nat.lt_irrefl _ (Nat.lt_of_lt_of_le (Heap.lt_size e) (Nat.le_trans I.ok.bsz z))
      exfs := fun b hb z => by
        rcases List.mem_cons.mp (I.stkSub b z) with z | z
        · exact (hfp b hb).1.2.1 z
        · exact (hfp b hb).1.2.2.1 z
      funs := I.stack
      frf := I.stkFree }
  refine ⟨okG, rfl, hg, Un.kept kp, ⟨m, hns, fun i y v e1 e2 e3 => ?_⟩, fun y c e => ?_, I.hok.fresh (Nat.le_refl _), fun y c e => I.freeC y c (cm e), fun p hp => absurd (show p ∈ ([] : List (Addr × Obj)) ++ [] from hp) (by simp), I.hok.kept kp, by rw [wipe_length]; exact I.len⟩
  · obtain ⟨e2, hne⟩ := wipe_some e2
    have no : ∀ k, scope.names.lookup y = some k → k = .local ∨ k = .cell → False := fun k hk hh => by
      rcases ok.own _ (PySem.mem_of_lookup hk) hh with z | z
      · obtain ⟨p, hp, hpy⟩ := List.mem_map.mp z
        have q := ok.ix p hp
        have hpy : p.1 = y := hpy
        rw [hpy] at q
        exact hne (List.mem_map.mpr ⟨p, hp, nodup_ix hN q e1⟩)
      · exact z (List.mem_of_getElem? e1)
    have e3 : scope.names.lookup y = some .local ∨ scope.names.lookup y = some .cell ∨ scope.names.lookup y = some .free := e3
    have hfr2 : scope.names.lookup y = some .free := by
      rcases e3 with z | z | z
      · exact (no _ z (.inl rfl)).elim
      · exact (no _ z (.inr rfl)).elim
      · exact z
    obtain ⟨c, c1, c2⟩ := frk y hfr2
    obtain ⟨m0, hn0, hl⟩ := I.loc
    have k := ok.free _ (PySem.mem_of_lookup hfr2) rfl
    obtain ⟨u, r, q⟩ := hl i y v e1 e2 (k.elim (fun z => .inr (.inl z)) fun z => .inr (.inr z))
    refine ⟨u, r, .inr ⟨.inr hfr2, c, c1, ?_⟩⟩
    rcases q with ⟨z, _⟩ | ⟨_, c', e', z⟩
    · have z : X.env.scope.names.lookup y = some .local := z
      rcases k with k | k <;> rw [show X.env.scope.names.lookup y = _ from k] at z <;> cases z
    · rw [c2] at e'
      cases e'
      exact z.keeps kp
  · obtain ⟨v, z⟩ := I.cell y c (cm e)
    exact ⟨v, z.keeps kp⟩
end

/-! ### asleep and awake -/
/-- what the consumer may do while the generator sleeps: its own objects at Sx, new objects -/
structure Aft (Sx : List Addr) (s s' : Shared) : Prop where
  os : s'.os = s.os
  bare : AllBare s'.gens
  keep : ∀ b o, b ∉ Sx → s.heap.get? b = some o → s'.heap.get? b = some o
  own : ∀ b ∈ Sx, ∃ o, s'.heap.get? b = some o ∧ ∀ v, o.data ≠ .cell v
/-- the consumer's word: what is out so far, the next value, the heap, going on -/
abbrev Eats := List V → V → Hp → Prop → Prop
structure GEx where
  X : Cx
  s4 : Shared
  H1 : Hp
  cenv : Env
  fp : List Addr
  B : Around
  σ0 : L2.St
  ge : Expr
  it : Addr
  a : Addr
  g : Nat
  Sx : List Addr
  C : Eats
  F : List V → Hp → Prop
abbrev GEx.loop (Y : GEx) : Code := .compLoop Y.ge 0 (.ref Y.it) .none Y.cenv
abbrev GEx.Xg (Y : GEx) : Cx := gcx Y.X Y.s4 Y.H1 Y.cenv Y.fp (Y.B.over Y.loop [])
abbrev GEx.pn (Y : GEx) (s : Shared) : List (Addr × Obj) := pinsAt (Y.a :: Y.Sx) s.heap
abbrev GEx.M (Y : GEx) : Model := model Y.X.prog Y.X.w
/-- a run's end: over, or a value is handed out and R holds of what sleeps -/
def GEx.Z (Y : GEx) (R : List V → Hp → GenState → Shared → Prop) (ys : List V) (s0 : Shared) (e : End) (s1 : Shared) : Prop :=
  (e = .ret (.ok .next) ∧ ∃ σ' H', Inv Y.Xg (Y.pn s0) σ' H' s1 ∧ Y.F ys H') ∨
  ∃ v l k c p fs y σ' H', e = .susp v false l k c p fs ∧ e.quiet = true ∧ Inv Y.Xg (Y.pn s0) σ' H' s1 ∧ RelV y v ∧ Y.C ys y H' (R (ys ++ [y]) H' e.genState s1)
/-- asleep: at most n more values -/
def GEx.Rdy (Y : GEx) : Nat → List V → Hp → GenState → Shared → Prop
  | 0 => fun ys H gs s => ∀ s', Aft Y.Sx s s' → Goes1 Y.M Y.B (Y.Z (fun _ _ _ _ => False) ys s') gs (s'.setGen Y.g .running)
  | n + 1 => fun ys H gs s => ∀ s', Aft Y.Sx s s' → Goes1 Y.M Y.B (Y.Z (Y.Rdy n) ys s') gs (s'.setGen Y.g .running)
def GEx.Rp (Y : GEx) : Nat → List V → Hp → GenState → Shared → Prop
  | 0 => fun _ _ _ _ => False
  | n + 1 => Y.Rdy n
theorem GEx.rdy_iff (Y : GEx) (n : Nat) (ys : List V) (H : Hp) (gs : GenState) (s : Shared) : Y.Rdy n ys H gs s ↔ ∀ s', Aft Y.Sx s s' → Goes1 Y.M Y.B (Y.Z (Y.Rp n) ys s') gs (s'.setGen Y.g .running) := by
  cases n <;> rfl
/-- the addresses are new -/
structure GEx.Ok (Y : GEx) : Prop where
  new : ∀ b ∈ Y.a :: Y.Sx, Y.s4.heap.objs.size < b
  loc : Y.cenv.locals = Y.s4.heap.objs.size
  cel : ∀ y c, Y.cenv.cells.lookup y = some c → c < Y.s4.heap.objs.size
  fps : ∀ b ∈ Y.fp, b < Y.s4.heap.objs.size
  aS : Y.a ∉ Y.Sx
  co : Y.cenv.scope.isCoroutine = false
theorem setGen_os (s : Shared) (g : Nat) (x : GenState) : (s.setGen g x).os = s.os := rfl
theorem setGen_heap (s : Shared) (g : Nat) (x : GenState) : (s.setGen g x).heap = s.heap := rfl
section
variable {Y : GEx} {σ σ' : L2.St} {H : Hp} {s s0 s1 : Shared} {pins : List (Addr × Obj)}
theorem GEx.Ok.fpOk (O : Y.Ok) (I : Inv Y.Xg (Y.pn s0) σ H s) (hn : ∀ b ∈ Y.fp, H b = none) : ∀ b ∈ Y.fp, FpOk Y.Xg (Y.pn s0) H b := fun b hb =>
  ⟨hn b hb, (I.ok.exf b hb).1, I.ok.exfs b hb, .inl hb, fun x c e => (I.ok.exf b hb).2 x c e, fun p hp => by
    have hp : p ∈ Y.pn s0 := by
      rcases List.mem_append.mp hp with z | z
      · cases z
      · exact z
    have h1 := O.new p.1 (of_pinsAt hp).1
    have h2 := O.fps b hb
    exact fun z => Nat.lt_irrefl _ (Nat.lt_trans h2 (z ▸ h1))⟩
/-- what is pinned while it runs -/
theorem GEx.Ok.pinned (O : Y.Ok) (I : Inv Y.Xg (Y.pn s0) σ H s) {b : Addr} {o : Obj} (hb : b ∈ Y.a :: Y.Sx) (e : s0.heap.get? b = some o) : s.heap.get? b = some o ∧ H b = none :=
  let z := I.pin (b, o) (List.mem_append_right _ (mem_pinsAt hb e))
  ⟨z.1, z.2.1⟩
/-- woken again -/
theorem GEx.Ok.woken (O : Y.Ok) (I : Inv Y.Xg (Y.pn s0) σ H s) (there : ∀ b ∈ Y.a :: Y.Sx, ∃ o, s0.heap.get? b = some o) (ag : ∃ o, s0.heap.get? Y.a = some o ∧ ∀ v, o.data ≠ .cell v) (A : Aft Y.Sx s s1) (x : GenState) (hx : x.bare = true) :
    Inv Y.Xg (Y.pn s1) σ H (s1.setGen Y.g x) := by
  have hT : ∀ b ∈ Y.a :: Y.Sx, H b = none := fun b hb => by
    obtain ⟨o, e⟩ := there b hb
    exact (O.pinned I hb e).2
  have I0 : Inv Y.Xg [] σ H s := I.pins_of fun p hp => absurd (show p ∈ ([] : List (Addr × Obj)) ++ [] from hp) (by simp)
  have nt : ∀ b u, H b = some u → b ∉ Y.Sx := fun b u q hb => by rw [hT b (List.mem_cons_of_mem _ hb)] at q; cases q
  obtain ⟨z1, z2, z3, z4⟩ := A
  obtain ⟨hh, g', d, t, o⟩ := s1
  have ho : o = s.os := z1
  subst ho
  have J : Inv Y.Xg [] σ H { s with heap := hh, gens := (({ heap := hh, gens := g', drawn := d, toks := t, os := s.os } : Shared).setGen Y.g x).gens, drawn := d, toks := t } := by
    refine I0.step (h' := hh) (g' := (({ heap := hh, gens := g', drawn := d, toks := t, os := s.os } : Shared).setGen Y.g x).gens) (t' := t) (d' := d) (ch := Y.Sx) (fun b hb => ?_) (fun b ob _ _ hc q _ => z3 b ob hc q) (fun b ob _ _ hc q _ => ⟨ob.slots, z3 b ob hc q⟩)
      (fun _ _ _ _ n => n) (fun b ob hc q => ⟨ob, z3 b ob hc q⟩) (fun _ _ q => q) (fun _ _ _ q => q) (fun b ps q => ⟨#[], by rw [q]; simp⟩) (fun m hm => ?_) (fun b u q => ?_) (allBare_setGen z2 hx)
    · have h1 := O.new b (List.mem_cons_of_mem _ hb)
      refine ⟨.inr (Nat.le_of_lt h1), fun z => ?_, fun y c e z => ?_, fun p hp => absurd (show p ∈ ([] : List (Addr × Obj)) ++ [] from hp) (by simp)⟩
      · have z : b = Y.cenv.locals := z
        rw [z, O.loc] at h1
        exact Nat.lt_irrefl _ h1
      · have h2 := O.cel y c e
        rw [z] at h2
        exact Nat.lt_irrefl _ (Nat.lt_trans h1 h2)
    · obtain ⟨ob, es, ep, ho, r⟩ := hm
      refine ⟨ob, es, ep, z3 _ ob (fun hb => ?_) ho, r⟩
      have h1 := O.new _ (List.mem_cons_of_mem _ hb)
      have h1 : Y.s4.heap.objs.size < Y.cenv.locals := h1
      rw [O.loc] at h1
      exact Nat.lt_irrefl _ h1
    · refine (I0.hok b u q).stay (fun c v hc y => z3 c v ?_ y) (fun _ y => y) fun _ _ y => y
      rcases hc with y | y
      · rw [y]; exact nt b u q
      · exact nt c _ y
  refine J.pins_of fun p hp => ?_
  have hp : p ∈ pinsAt (Y.a :: Y.Sx) hh := hp
  obtain ⟨hb, e⟩ := of_pinsAt hp
  have h1 := O.new _ hb
  refine ⟨e, hT _ hb, fun z => ?_, fun z => ?_, ?_⟩
  · have z : p.1 = Y.cenv.locals := z
    rw [z, O.loc] at h1
    exact Nat.lt_irrefl _ h1
  · obtain ⟨_, ob, hob, _⟩ := J.ok.funs.mem z
    exact absurd (Nat.lt_trans h1 (Heap.lt_size hob)) (Nat.lt_irrefl _)
  · rcases List.mem_cons.mp hb with z | z
    · obtain ⟨oa, ea, da⟩ := ag
      have q := (O.pinned I List.mem_cons_self ea).1
      have q2 := z3 _ oa O.aS q
      rw [z] at e
      rw [e] at q2
      cases q2
      exact da
    · obtain ⟨ob, eb, db⟩ := z4 _ z
      have eb : hh.get? p.1 = some ob := eb
      rw [e] at eb
      cases eb
      exact db
end

/-! ### the turns -/
def GStep (W : Nat → Nat → List V → Hp → Prop) (J : It) (g : TG) (tt : TT) (te : TE) (vs : List Nat) (σ0 : L2.St) (C : Eats) (F : List V → Hp → Prop) : Prop :=
  ∀ i m ys H, W i m ys H → (J.stop i H ∧ F ys H) ∨ (J.go i H ∧ ∃ Nx : List V → Hp → Prop, (∀ ys' H', Nx ys' H' → ∃ m', m' < m ∧ W (i + 1) m' ys' H') ∧
    ∀ x H', J.yld i H x H' → g x σ0 H' fun σ2 H2 => wipe σ2 vs = σ0 ∧ tt σ2 H2 fun b H3 => if b = true then te σ2 H3 fun y H4 => C ys y H4 (Nx (ys ++ [y]) H4) else Nx ys H3)
def EatsMono (C : Eats) : Prop := ∀ ys y H (p q : Prop), (p → q) → C ys y H p → C ys y H q
section
variable {ge elt iter tg : Expr} {cs : List Comprehension} {ifs : List Expr} {scope : Scope} {gpos : Pos}
theorem turn_one {it acc : Value} {env : Env} (h : ge = .GeneratorExp elt cs scope gpos) : compTurn ge 0 it acc env = compTurn (.GeneratorExp elt cs scope gpos) 0 it acc env := by rw [h]
theorem den_one {P : Program} {w : World} {it acc : Value} {env : Env} (h : ge = .GeneratorExp elt cs scope gpos) : (model P w).den (.compLoop ge 0 it acc env) = (compTurn ge 0 it acc env).onRaise (leaving env) := by subst h; rfl
theorem den_start {P : Program} {w : World} {it acc : Value} {env : Env} (h : ge = .GeneratorExp elt cs scope gpos) : (model P w).den (.compStart ge 0 it acc env) = (compStart ge 0 it acc env).onRaise (leaving env) := by subst h; rfl
theorem quiet_loop {d : Nat} {it acc : Value} {env : Env} : (Code.compLoop ge d it acc env).quiet = true := by rfl
end
theorem gen_turns {Y : GEx} {elt tg iter : Expr} {ifs : List Expr} {scope : Scope} {gpos : Pos} (hge : Y.ge = .GeneratorExp elt [⟨tg, iter, ifs, 0⟩] scope gpos) {J : It} {tn : Nat → Heap → Prop} {g : TG} {tt : TT} {te : TE} {vs : List Nat} {W : Nat → Nat → List V → Hp → Prop} (O : Y.Ok) (T : Turn Y.X.prog Y.X.w Y.X.K tg J Y.fp Y.it tn) (hg : PG Y.Xg tg g) (ht : PTs Y.Xg ifs tt) (he : PE Y.Xg elt te)
    (hC : EatsMono Y.C) (st : GStep W J g tt te vs Y.σ0 Y.C Y.F) : ∀ (m n : Nat) (i : Nat) (ys : List V) (H : Hp) (s0 s : Shared), m ≤ n → (∀ b ∈ Y.a :: Y.Sx, ∃ o, s0.heap.get? b = some o) → (∃ o, s0.heap.get? Y.a = some o ∧ ∀ v, o.data ≠ .cell v) → Inv Y.Xg (Y.pn s0) Y.σ0 H s → tn i s.heap → (∀ b ∈ Y.fp, H b = none) → W i m ys H →
      Run1 Y.M Y.B (Y.Z (Y.Rp n) ys s0) Y.loop (Y.M.den Y.loop) [] s := by
  intro m
  induction m using Nat.strongRecOn with
  | ind m ih =>
    intro n i ys H s0 s hmn there ag I stt fr w
    have hco := O.co
    rw [den_one hge, turn_one hge, compTurn_gen, ← hge, Sem.onRaise_eq_wrap]
    refine run1_bind (wpAny_standAt ?_)
    rcases st i m ys H w with ⟨stop, fin⟩ | ⟨go, Nx, hN, step⟩
    · refine run1_bind (wpAny_mono (T.done Y.Xg rfl rfl rfl rfl i (Y.pn s0) s Y.σ0 H (fun _ _ => False) I (O.fpOk I fr) stt stop) (fun r s1 ⟨hr, I1⟩ => ?_) fun _ _ z => z.elim)
      subst hr
      exact run1_end (.ok .next) (.inl ⟨rfl, Y.σ0, H, I1, fin⟩)
    · refine run1_bind (wpAny_mono (T.item Y.Xg rfl rfl rfl rfl i (Y.pn s0) s Y.σ0 H (fun _ _ => False) I (O.fpOk I fr) stt go) (fun r s1 ⟨u, hr, h1⟩ => ?_) fun _ _ z => z.elim)
      subst hr
      refine run1_bind (wpAny_mono h1 (fun _ s2 ⟨x, H2, I2, r2, y2, st2, fr2⟩ => ?_) fun _ _ z => z.elim)
      have I2' := I2.pinned (O.fpOk I2 fr2) (T.obj _ _ st2)
      refine run1_bind (wpAny_mono (hg.run _ s2 Y.σ0 H2 x u _ I2' r2 (step x H2 y2)) (fun _ s3 ⟨σ3, H3, I3, hw3, q3⟩ => ?_) fun _ _ z => z.elim)
      refine run1_bind (wpAny_mono (ht.run _ s3 σ3 H3 _ I3 q3) (fun b s4 ⟨H4, I4, q4⟩ => ?_) fun _ _ z => z.elim)
      have fpin : ∀ {s' : Shared} {H' : Hp}, Inv Y.Xg (Y.pn s0 ++ pinsAt Y.fp s2.heap) σ3 H' s' → tn (i + 1) s'.heap ∧ ∀ b ∈ Y.fp, H' b = none := fun {s' H'} I' => by
        have pin' : ∀ b ∈ Y.fp, ∀ o, s2.heap.get? b = some o → s'.heap.get? b = some o ∧ H' b = none := fun b hb o e =>
          let z := I'.pin (b, o) (List.mem_append_right _ (List.mem_append_right _ (mem_pinsAt hb e)))
          ⟨z.1, z.2.1⟩
        refine ⟨T.keep _ _ _ st2 fun b hb o e => (pin' b hb o e).1, fun b hb => ?_⟩
        obtain ⟨o, e, _⟩ := T.obj _ _ st2 b hb
        exact (pin' b hb o e).2
      have wk : ∀ {s' : Shared} {H' : Hp} {pins : List (Addr × Obj)}, Inv Y.Xg pins σ3 H' s' → Inv Y.Xg pins Y.σ0 H' s' := fun {s' H' pins} I' => by
        have hl : Y.σ0.length = σ3.length := by rw [← hw3, wipe_length]
        refine I'.weak hl fun j v e => ?_
        rw [← hw3] at e
        exact (wipe_some e).1
      cases b with
      | false =>
        simp only [Bool.false_eq_true, if_false] at q4 ⊢
        obtain ⟨m', hm, w'⟩ := hN ys H4 q4
        exact run1_again rfl (ih m' hm n (i + 1) ys H4 s0 s4 (by omega) there ag (wk I4.unpinned) (fpin I4).1 (fpin I4).2 w')
      | true =>
        simp only [if_true] at q4 ⊢
        have hy : ∀ v, yieldOut Y.cenv v = yieldValue v := fun v => by simp only [yieldOut, hco, Bool.false_eq_true, if_false]
        simp only [hy]
        rw [Sem.bind_eq_wrap', Sem.bind_eq_wrap', Sem.wrap_wrap, Sem.wrap_wrap]
        refine run1_wrap (wpAny_mono (he.run _ s4 σ3 H4 _ I4 q4) (fun v s5 ⟨y, H5, I5, r5, c5⟩ => ?_) fun _ _ z => z.elim)
        refine run1_at (run1_yield rfl fun p => .inr ⟨v, _, _, _, p, _, y, σ3, H5, rfl, rfl, I5.unpinned, r5, hC _ _ _ _ _ (fun nx => ?_) c5⟩)
        obtain ⟨m', hm, w'⟩ := hN _ H5 nx
        obtain ⟨n', rfl⟩ : ∃ k, n = k + 1 := ⟨n - 1, by omega⟩
        refine (Y.rdy_iff n' _ _ _ _).mpr fun s6 A6 => ?_
        have there6 : ∀ b ∈ Y.a :: Y.Sx, ∃ o, s6.heap.get? b = some o := fun b hb => by
          rcases List.mem_cons.mp hb with z | z
          · obtain ⟨o, e⟩ := there b hb
            exact ⟨o, A6.keep b o (by rw [z]; exact O.aS) (O.pinned I5.unpinned hb e).1⟩
          · obtain ⟨o, e, _⟩ := A6.own b z
            exact ⟨o, e⟩
        have ag6 : ∃ o, s6.heap.get? Y.a = some o ∧ ∀ v, o.data ≠ .cell v := by
          obtain ⟨o, e, d⟩ := ag
          exact ⟨o, A6.keep _ o O.aS (O.pinned I5.unpinned List.mem_cons_self e).1, d⟩
        have I6 := O.woken (wk I5.unpinned) there ag A6 .running rfl
        show Run1 _ _ _ _ _ [] _
        have st6 : tn (i + 1) s6.heap := T.keep _ _ _ (fpin I5).1 fun b hb o e => A6.keep b o (fun z => Nat.lt_irrefl _ (Nat.lt_trans (O.fps b hb) (O.new b (List.mem_cons_of_mem _ z)))) e
        exact run1_again rfl (ih m' hm n' (i + 1) _ H5 s6 (s6.setGen Y.g .running) (by omega) there6 ag6 I6 st6 (fpin I5).2 w')
/-! ### two clauses -/
theorem run1_call {M : Model} {A : Around} {Z : End → Shared → Prop} {c c' : Code} {fs : List Frame} {s : Shared} {h g l} {k : Result → Sem PySem.Fin} (hc : ∀ p, Run1 M A Z c' (M.den c') (.ret k h g l c p [] :: fs) s) : Run1 M A Z c (.call c' h g l k) fs s := by
  intro Γ p e w
  subst e
  obtain ⟨e, s', r, z⟩ := hc p (Γ.goto c') p rfl (w.goto c')
  exact ⟨e, s', runs_call_seg r, z⟩
theorem run1_leaf {M : Model} {A : Around} {Z : End → Shared → Prop} {c c1 : Code} {fs : List Frame} {s : Shared} {k h g l p1 kp} (r : Result) (hk : Run1 M A Z c1 (k r) fs s) : Run1 M A Z c (leafOf r) (.ret k h g l c1 p1 kp :: fs) s := by
  intro Γ p e w
  subst e
  obtain ⟨e, s', hr, z⟩ := hk (Γ.goto c1) p1 rfl (w.goto c1)
  exact ⟨e, s', Runs.pop r hr, z⟩
section
variable {ge elt : Expr} {cs : List Comprehension} {scope : Scope} {gpos : Pos}
theorem den_in {P : Program} {w : World} {it acc : Value} {env : Env} (h : ge = .GeneratorExp elt cs scope gpos) : (model P w).den (.compLoop ge 1 it acc env) = (compTurn ge 1 it acc env).onRaise (fun x => do noteFrame x env; theTreesLotGoes x) := by subst h; rfl
theorem den_in0 {P : Program} {w : World} {it acc : Value} {env : Env} (h : ge = .GeneratorExp elt cs scope gpos) : (model P w).den (.compStart ge 1 it acc env) = (compStart ge 1 it acc env).onRaise (fun x => do noteFrame x env; standAt theWindowsPlace) := by subst h; rfl
theorem over_in {B : Around} {it it1 acc acc1 : Value} {env : Env} {fs : List Frame} {k : Result → Sem PySem.Fin} {g : Bool} {l kp : List Value} {p : Pos} (h : ge = .GeneratorExp elt cs scope gpos) :
    B.over (.compLoop ge 1 it1 acc1 env) (.ret k none g l (.compLoop ge 0 it acc env) p kp :: fs) = B.over (.compLoop ge 0 it acc env) fs ∧ B.over (.compStart ge 1 it1 acc1 env) (.ret k none g l (.compLoop ge 0 it acc env) p kp :: fs) = B.over (.compLoop ge 0 it acc env) fs := by
  subst h
  exact ⟨over_loop rfl rfl, over_loop rfl rfl⟩
end
def GStep2 (W : Nat → Nat → List V → Hp → Prop) (J : It) (g : TG) (tt : TT) (wi1 : TI) (g1 : TG) (tt1 : TT) (te : TE) (vs vs1 : List Nat) (σ0 : L2.St) (C : Eats) (F : List V → Hp → Prop) : Prop :=
  ∀ i m ys H, W i m ys H → (J.stop i H ∧ F ys H) ∨ (J.go i H ∧ ∀ x H', J.yld i H x H' → g x σ0 H' fun σ2 H2 => wipe σ2 vs = σ0 ∧ tt σ2 H2 fun b H3 => if b = true then wi1 σ2 H3 fun J1 H4 =>
      ∃ W1 : Nat → Nat → List V → Hp → Prop, (∃ m1, m1 < m ∧ W1 0 m1 ys H4) ∧ ∀ i1 m1 ys H, W1 i1 m1 ys H → (J1.stop i1 H ∧ ∃ m', m' ≤ m1 ∧ m' < m ∧ W (i + 1) m' ys H) ∨ (J1.go i1 H ∧ ∃ N1 : List V → Hp → Prop, (∀ ys' H', N1 ys' H' → ∃ m', m' < m1 ∧ W1 (i1 + 1) m' ys' H') ∧
        ∀ x1 H', J1.yld i1 H x1 H' → g1 x1 (wipe σ2 vs1) H' fun σ3 H5 => wipe σ3 vs1 = wipe σ2 vs1 ∧ tt1 σ3 H5 fun b1 H6 => if b1 = true then te σ3 H6 fun y H7 => C ys y H7 (N1 (ys ++ [y]) H7) else N1 ys H6)
    else ∃ m', m' < m ∧ W (i + 1) m' ys H3)
/-- what stays true of the inner iterator -/
structure InIt (Y : GEx) (fp1 : List Addr) : Prop where
  loc : ∀ b ∈ fp1, b ≠ Y.cenv.locals
  fs : ∀ b ∈ fp1, b ∉ frs Y.X.stack
  sz : ∀ b ∈ fp1, b ∈ Y.fp ∨ Y.s4.heap.objs.size ≤ b
  cel : ∀ b ∈ fp1, ∀ x c, Y.cenv.cells.lookup x = some c → c ≠ b
  own : ∀ b ∈ fp1, b ∉ Y.a :: Y.Sx
  out : ∀ b ∈ fp1, b ∉ Y.fp
section
variable {Y : GEx} {σ : L2.St} {H : Hp} {s s0 : Shared} {fp1 : List Addr}
theorem InIt.fpOk (N : InIt Y fp1) {h : Heap} (hn : ∀ b ∈ fp1, H b = none) : ∀ b ∈ fp1, FpOk Y.Xg (Y.pn s0 ++ pinsAt Y.fp h) H b := fun b hb =>
  ⟨hn b hb, N.loc b hb, N.fs b hb, N.sz b hb, N.cel b hb, fun p hp z => by
    have hp : p ∈ Y.pn s0 ++ pinsAt Y.fp h := by
      rcases List.mem_append.mp hp with y | y
      · cases y
      · exact y
    rcases List.mem_append.mp hp with y | y
    · exact N.own b hb (z ▸ (of_pinsAt y).1)
    · exact N.out b hb (z ▸ (of_pinsAt y).1)⟩
end
theorem gen_inner {Y : GEx} {elt tg iter tg1 iter1 : Expr} {ifs ifs1 : List Expr} {scope : Scope} {gpos : Pos} (hge : Y.ge = .GeneratorExp elt [⟨tg, iter, ifs, 0⟩, ⟨tg1, iter1, ifs1, 0⟩] scope gpos) {J J1 : It} {tn tn1 : Nat → Heap → Prop} {g1 : TG} {tt1 : TT} {te : TE} {vs vs1 : List Nat} {fp1 : List Addr} {it1 : Addr} {i : Nat} {σ2 : L2.St}
    {W1 : Nat → Nat → List V → Hp → Prop} {Wo : Nat → List V → Hp → Prop} {k : Result → Sem PySem.Fin} {l kp : List Value} {p : Pos} (O : Y.Ok) (T : Turn Y.X.prog Y.X.w Y.X.K tg J Y.fp Y.it tn) (T1 : Turn Y.X.prog Y.X.w Y.X.K tg1 J1 fp1 it1 tn1) (N : InIt Y fp1) (hσ : wipe σ2 vs = Y.σ0) (hvs : ∀ v ∈ vs1, v ∈ vs) (hg : PG Y.Xg tg1 g1) (ht : PTs Y.Xg ifs1 tt1) (he : PE Y.Xg elt te) (hC : EatsMono Y.C)
    (st : ∀ i1 m1 ys H, W1 i1 m1 ys H → (J1.stop i1 H ∧ ∃ m', m' ≤ m1 ∧ Wo m' ys H) ∨ (J1.go i1 H ∧ ∃ N1 : List V → Hp → Prop, (∀ ys' H', N1 ys' H' → ∃ m', m' < m1 ∧ W1 (i1 + 1) m' ys' H') ∧
        ∀ x1 H', J1.yld i1 H x1 H' → g1 x1 (wipe σ2 vs1) H' fun σ3 H5 => wipe σ3 vs1 = wipe σ2 vs1 ∧ tt1 σ3 H5 fun b1 H6 => if b1 = true then te σ3 H6 fun y H7 => Y.C ys y H7 (N1 (ys ++ [y]) H7) else N1 ys H6))
    (cont : ∀ (m' n : Nat) (ys : List V) (H : Hp) (s0 s : Shared), m' ≤ n → (∀ b ∈ Y.a :: Y.Sx, ∃ o, s0.heap.get? b = some o) → (∃ o, s0.heap.get? Y.a = some o ∧ ∀ v, o.data ≠ .cell v) → Inv Y.Xg (Y.pn s0) Y.σ0 H s → tn i s.heap → (∀ b ∈ Y.fp, H b = none) → Wo m' ys H → Run1 Y.M Y.B (Y.Z (Y.Rp n) ys s0) Y.loop (k (.ok .next)) [] s) :
    ∀ (m1 n i1 : Nat) (ys : List V) (H : Hp) (s0 s : Shared), m1 ≤ n → (∀ b ∈ Y.a :: Y.Sx, ∃ o, s0.heap.get? b = some o) → (∃ o, s0.heap.get? Y.a = some o ∧ ∀ v, o.data ≠ .cell v) → Inv Y.Xg (Y.pn s0) (wipe σ2 vs1) H s → tn i s.heap → (∀ b ∈ Y.fp, H b = none) → tn1 i1 s.heap → (∀ b ∈ fp1, H b = none) → W1 i1 m1 ys H →
      Run1 Y.M Y.B (Y.Z (Y.Rp n) ys s0) (.compLoop Y.ge 1 (.ref it1) .none Y.cenv) (Y.M.den (.compLoop Y.ge 1 (.ref it1) .none Y.cenv)) [.ret k none false l Y.loop p kp] s := by
  intro m1
  induction m1 using Nat.strongRecOn with
  | ind m1 ih =>
    intro n i1 ys H s0 s hmn there ag I stt fr st1 fr1 w
    have hco := O.co
    have ov := over_in (B := Y.B) (it := .ref Y.it) (it1 := .ref it1) (acc := .none) (acc1 := .none) (env := Y.cenv) (fs := []) (k := k) (g := false) (l := l) (kp := kp) (p := p) hge
    rw [den_in hge, Sem.onRaise_eq_wrap]
    have ct : compTurn Y.ge 1 (.ref it1) .none Y.cenv = compTurn (.GeneratorExp elt [⟨tg, iter, ifs, 0⟩, ⟨tg1, iter1, ifs1, 0⟩] scope gpos) 1 (.ref it1) .none Y.cenv := by rw [← hge]
    rw [ct]
    unfold compTurn
    simp only [List.getElem?_cons_succ, List.getElem?_cons_zero, List.getElem?_nil, bne_self_eq_false, Bool.false_eq_true, if_false]
    rw [← hge]
    have II := I.pinned (O.fpOk I fr) (T.obj _ _ stt)
    refine run1_bind (wpAny_standAt ?_)
    rcases st i1 m1 ys H w with ⟨stop, m', hm', wo⟩ | ⟨go, N1, hN, step⟩
    · refine run1_bind ?_
      rw [ov.1]
      refine wpAny_mono (T1.done Y.Xg rfl rfl rfl rfl i1 _ s _ H (fun _ _ => False) II (N.fpOk fr1) st1 stop) (fun r s1 ⟨hr, I1⟩ => ?_) fun _ _ z => z.elim
      subst hr
      have J1 : Inv Y.Xg (Y.pn s0) Y.σ0 H s1 := by
        refine (I1.unpinned).weak (by rw [← hσ, wipe_length, wipe_length]) fun j v e => ?_
        rw [← hσ] at e
        obtain ⟨e, hv⟩ := wipe_some e
        rw [wipe_out fun z => hv (hvs j z)]
        exact e
      have pin' : ∀ b ∈ Y.fp, ∀ o, s.heap.get? b = some o → s1.heap.get? b = some o := fun b hb o e => (I1.pin (b, o) (List.mem_append_right _ (List.mem_append_right _ (mem_pinsAt hb e)))).1
      exact run1_leaf (.ok .next) (cont m' n ys H s0 s1 (by omega) there ag J1 (T.keep _ _ _ stt pin') fr wo)
    · refine run1_bind ?_
      rw [ov.1]
      refine wpAny_mono (T1.item Y.Xg rfl rfl rfl rfl i1 _ s _ H (fun _ _ => False) II (N.fpOk fr1) st1 go) (fun r s1 ⟨u, hr, h1⟩ => ?_) fun _ _ z => z.elim
      subst hr
      refine run1_bind ?_
      rw [ov.1]
      refine wpAny_mono h1 (fun _ s2 ⟨x, H2, I2, r2, y2, st2, fr2⟩ => ?_) fun _ _ z => z.elim
      have I2' := I2.pinned (N.fpOk fr2) (T1.obj _ _ st2)
      refine run1_bind ?_
      rw [ov.1]
      refine wpAny_mono (hg.run _ s2 _ H2 x u _ I2' r2 (step x H2 y2)) (fun _ s3 ⟨σ3, H3, I3, hw3, q3⟩ => ?_) fun _ _ z => z.elim
      refine run1_bind ?_
      rw [ov.1]
      refine wpAny_mono (ht.run _ s3 σ3 H3 _ I3 q3) (fun b s4 ⟨H4, I4, q4⟩ => ?_) fun _ _ z => z.elim
      -- behind the turn
      have back : ∀ {s' : Shared} {H' : Hp}, Inv Y.Xg ((Y.pn s0 ++ pinsAt Y.fp s.heap) ++ pinsAt fp1 s2.heap) σ3 H' s' → Inv Y.Xg (Y.pn s0) (wipe σ2 vs1) H' s' ∧ tn i s'.heap ∧ (∀ b ∈ Y.fp, H' b = none) ∧ tn1 (i1 + 1) s'.heap ∧ ∀ b ∈ fp1, H' b = none := fun {s' H'} I' => by
        have p0 : ∀ b ∈ Y.fp, ∀ o, s.heap.get? b = some o → s'.heap.get? b = some o ∧ H' b = none := fun b hb o e => by
          have z := I'.pin (b, o) (List.mem_append_right _ (List.mem_append_left _ (List.mem_append_right _ (mem_pinsAt hb e))))
          exact ⟨z.1, z.2.1⟩
        have p1 : ∀ b ∈ fp1, ∀ o, s2.heap.get? b = some o → s'.heap.get? b = some o ∧ H' b = none := fun b hb o e => by
          have z := I'.pin (b, o) (List.mem_append_right _ (List.mem_append_right _ (mem_pinsAt hb e)))
          exact ⟨z.1, z.2.1⟩
        refine ⟨(I'.unpinned.unpinned).weak (by rw [← hw3, wipe_length]) fun j v e => ?_, T.keep _ _ _ stt fun b hb o e => (p0 b hb o e).1, fun b hb => ?_, T1.keep _ _ _ st2 fun b hb o e => (p1 b hb o e).1, fun b hb => ?_⟩
        · rw [← hw3] at e
          exact (wipe_some e).1
        · obtain ⟨o, e, _⟩ := T.obj _ _ stt b hb
          exact (p0 b hb o e).2
        · obtain ⟨o, e, _⟩ := T1.obj _ _ st2 b hb
          exact (p1 b hb o e).2
      cases b with
      | false =>
        simp only [Bool.false_eq_true, if_false] at q4 ⊢
        obtain ⟨m', hm, w'⟩ := hN ys H4 q4
        obtain ⟨b1, b2, b3, b4, b5⟩ := back I4
        exact run1_again rfl (ih m' hm n (i1 + 1) ys H4 s0 s4 (by omega) there ag b1 b2 b3 b4 b5 w')
      | true =>
        simp only [if_true] at q4 ⊢
        have hy : ∀ v, yieldOut Y.cenv v = yieldValue v := fun v => by simp only [yieldOut, hco, Bool.false_eq_true, if_false]
        simp only [hy]
        rw [Sem.bind_eq_wrap', Sem.bind_eq_wrap', Sem.wrap_wrap, Sem.wrap_wrap]
        refine run1_wrap ?_
        rw [ov.1]
        refine wpAny_mono (he.run _ s4 σ3 H4 _ I4 q4) (fun v s5 ⟨y, H5, I5, r5, c5⟩ => ?_) fun _ _ z => z.elim
        refine run1_at (run1_yield rfl fun p => .inr ⟨v, _, _, _, p, _, y, σ3, H5, rfl, rfl, I5.unpinned.unpinned, r5, hC _ _ _ _ _ (fun nx => ?_) c5⟩)
        obtain ⟨m', hm, w'⟩ := hN _ H5 nx
        obtain ⟨n', rfl⟩ : ∃ k, n = k + 1 := ⟨n - 1, by omega⟩
        obtain ⟨b1, b2, b3, b4, b5⟩ := back I5
        refine (Y.rdy_iff n' _ _ _ _).mpr fun s6 A6 => ?_
        have there6 : ∀ b ∈ Y.a :: Y.Sx, ∃ o, s6.heap.get? b = some o := fun b hb => by
          rcases List.mem_cons.mp hb with z | z
          · obtain ⟨o, e⟩ := there b hb
            exact ⟨o, A6.keep b o (by rw [z]; exact O.aS) (O.pinned b1 hb e).1⟩
          · obtain ⟨o, e, _⟩ := A6.own b z
            exact ⟨o, e⟩
        have ag6 : ∃ o, s6.heap.get? Y.a = some o ∧ ∀ v, o.data ≠ .cell v := by
          obtain ⟨o, e, d⟩ := ag
          exact ⟨o, A6.keep _ o O.aS (O.pinned b1 List.mem_cons_self e).1, d⟩
        have I6 := O.woken b1 there ag A6 .running rfl
        have st6 : tn i s6.heap := T.keep _ _ _ b2 fun b hb o e => A6.keep b o (fun z => Nat.lt_irrefl _ (Nat.lt_trans (O.fps b hb) (O.new b (List.mem_cons_of_mem _ z)))) e
        have st7 : tn1 (i1 + 1) s6.heap := T1.keep _ _ _ b4 fun b hb o e => A6.keep b o (fun z => N.own b hb (List.mem_cons_of_mem _ z)) e
        exact run1_again rfl (ih m' hm n' (i1 + 1) _ H5 s6 (s6.setGen Y.g .running) (by omega) there6 ag6 I6 st6 b3 st7 b5 w')
theorem gen_turns2 {Y : GEx} {elt tg iter tg1 iter1 : Expr} {ifs ifs1 : List Expr} {scope : Scope} {gpos : Pos} (hge : Y.ge = .GeneratorExp elt [⟨tg, iter, ifs, 0⟩, ⟨tg1, iter1, ifs1, 0⟩] scope gpos) {J : It} {tn : Nat → Heap → Prop} {g g1 : TG} {tt tt1 : TT} {te : TE} {wi1 : TI} {vs vs1 : List Nat} {W : Nat → Nat → List V → Hp → Prop}
    (O : Y.Ok) (T : Turn Y.X.prog Y.X.w Y.X.K tg J Y.fp Y.it tn) (hvs : ∀ v ∈ vs1, v ∈ vs) (hg : PG Y.Xg tg g) (ht : PTs Y.Xg ifs tt) (hi1 : PI Y.Xg tg1 iter1 wi1) (hs1 : ∀ x, foldedSetIterable iter1 Y.cenv x = pure x) (hg1 : PG Y.Xg tg1 g1) (ht1 : PTs Y.Xg ifs1 tt1) (he : PE Y.Xg elt te) (hC : EatsMono Y.C)
    (st : GStep2 W J g tt wi1 g1 tt1 te vs vs1 Y.σ0 Y.C Y.F) : ∀ (m n : Nat) (i : Nat) (ys : List V) (H : Hp) (s0 s : Shared), m ≤ n → (∀ b ∈ Y.a :: Y.Sx, ∃ o, s0.heap.get? b = some o) → (∃ o, s0.heap.get? Y.a = some o ∧ ∀ v, o.data ≠ .cell v) → Inv Y.Xg (Y.pn s0) Y.σ0 H s → tn i s.heap → (∀ b ∈ Y.fp, H b = none) → W i m ys H →
      Run1 Y.M Y.B (Y.Z (Y.Rp n) ys s0) Y.loop (Y.M.den Y.loop) [] s := by
  intro m
  induction m using Nat.strongRecOn with
  | ind m ih =>
    intro n i ys H s0 s hmn there ag I stt fr w
    rw [den_one hge, Sem.onRaise_eq_wrap]
    have ct : compTurn Y.ge 0 (.ref Y.it) .none Y.cenv = compTurn (.GeneratorExp elt [⟨tg, iter, ifs, 0⟩, ⟨tg1, iter1, ifs1, 0⟩] scope gpos) 0 (.ref Y.it) .none Y.cenv := by rw [← hge]
    rw [ct]
    unfold compTurn
    simp only [List.getElem?_cons_succ, List.getElem?_cons_zero, List.getElem?_nil, bne_self_eq_false, Bool.false_eq_true, if_false]
    rw [← hge]
    refine run1_bind (wpAny_standAt ?_)
    rcases st i m ys H w with ⟨stop, fin⟩ | ⟨go, step⟩
    · refine run1_bind (wpAny_mono (T.done Y.Xg rfl rfl rfl rfl i (Y.pn s0) s Y.σ0 H (fun _ _ => False) I (O.fpOk I fr) stt stop) (fun r s1 ⟨hr, I1⟩ => ?_) fun _ _ z => z.elim)
      subst hr
      exact run1_end (.ok .next) (.inl ⟨rfl, Y.σ0, H, I1, fin⟩)
    · refine run1_bind (wpAny_mono (T.item Y.Xg rfl rfl rfl rfl i (Y.pn s0) s Y.σ0 H (fun _ _ => False) I (O.fpOk I fr) stt go) (fun r s1 ⟨u, hr, h1⟩ => ?_) fun _ _ z => z.elim)
      subst hr
      refine run1_bind (wpAny_mono h1 (fun _ s2 ⟨x, H2, I2, r2, y2, st2, fr2⟩ => ?_) fun _ _ z => z.elim)
      have I2' := I2.pinned (O.fpOk I2 fr2) (T.obj _ _ st2)
      refine run1_bind (wpAny_mono (hg.run _ s2 Y.σ0 H2 x u _ I2' r2 (step x H2 y2)) (fun _ s3 ⟨σ3, H3, I3, hw3, q3⟩ => ?_) fun _ _ z => z.elim)
      refine run1_bind (wpAny_mono (ht.run _ s3 σ3 H3 _ I3 q3) (fun b s4 ⟨H4, I4, q4⟩ => ?_) fun _ _ z => z.elim)
      have fpin : ∀ {s' : Shared} {H' : Hp}, Inv Y.Xg (Y.pn s0 ++ pinsAt Y.fp s2.heap) σ3 H' s' → tn (i + 1) s'.heap ∧ ∀ b ∈ Y.fp, H' b = none := fun {s' H'} I' => by
        have pin' : ∀ b ∈ Y.fp, ∀ o, s2.heap.get? b = some o → s'.heap.get? b = some o ∧ H' b = none := fun b hb o e => by
          have z := I'.pin (b, o) (List.mem_append_right _ (List.mem_append_right _ (mem_pinsAt hb e)))
          exact ⟨z.1, z.2.1⟩
        refine ⟨T.keep _ _ _ st2 fun b hb o e => (pin' b hb o e).1, fun b hb => ?_⟩
        obtain ⟨o, e, _⟩ := T.obj _ _ st2 b hb
        exact (pin' b hb o e).2
      have wk : ∀ {s' : Shared} {H' : Hp} {pins : List (Addr × Obj)}, Inv Y.Xg pins σ3 H' s' → Inv Y.Xg pins Y.σ0 H' s' := fun {s' H' pins} I' => by
        have hl : Y.σ0.length = σ3.length := by rw [← hw3, wipe_length]
        refine I'.weak hl fun j v e => ?_
        rw [← hw3] at e
        exact (wipe_some e).1
      cases b with
      | false =>
        simp only [Bool.false_eq_true, if_false] at q4 ⊢
        obtain ⟨m', hm, w'⟩ := q4
        exact run1_again rfl (ih m' hm n (i + 1) ys H4 s0 s4 (by omega) there ag (wk I4.unpinned) (fpin I4).1 (fpin I4).2 w')
      | true =>
        simp only [if_true] at q4 ⊢
        refine run1_bind (wpAny_mono (hi1.run _ s4 σ3 H4 _ I4 q4) (fun xv s5 h5 => ?_) fun _ _ z => z.elim)
        refine run1_bind (wpAny_standAt (run1_bind (wpAny_of_eq (hs1 xv) (run1_bind (wpAny_holding (wpAny_mono h5 (fun itv s6 h6 => ?_) fun _ _ z => z.elim))))))
        obtain ⟨it1, fp1, tn1, J1, H6, rfl, I6, T1, st1, f1, W1, ⟨m1, hm1, w1⟩, st'⟩ := h6
        have N : InIt Y fp1 :=
          { loc := fun b hb => (f1 b hb).2.1
            fs := fun b hb => (f1 b hb).2.2.1
            sz := fun b hb => (f1 b hb).2.2.2.1
            cel := fun b hb => (f1 b hb).2.2.2.2.1
            own := fun b hb z => by
              obtain ⟨o, e⟩ := there b z
              exact (f1 b hb).2.2.2.2.2 (b, o) (List.mem_append_right _ (List.mem_append_left _ (mem_pinsAt z e))) rfl
            out := fun b hb z => by
              obtain ⟨o, e, _⟩ := T.obj _ _ st2 b z
              exact (f1 b hb).2.2.2.2.2 (b, o) (List.mem_append_right _ (List.mem_append_right _ (mem_pinsAt z e))) rfl }
        have I7 : Inv Y.Xg (Y.pn s0) (wipe σ3 vs1) H6 s6 := (I6.unpinned).weak (wipe_length _ _) fun j v e => (wipe_some e).1
        rw [Sem.bind_eq_wrap', Sem.wrap_wrap]
        unfold runOwn run
        rw [Sem.onRaise_eq_wrap, Sem.wrap_wrap]
        show Run1 _ _ _ _ (.call (.compStart Y.ge 1 (.ref it1) .none Y.cenv) none false [] _) [] s6
        refine run1_call fun p => ?_
        have inner := fun (k : Result → Sem PySem.Fin) hk => gen_inner (Wo := fun m' ys H => m' < m ∧ W (i + 1) m' ys H) (k := k) (l := []) (kp := []) (p := p) hge O T T1 N hw3 hvs hg1 ht1 he hC (fun i1 m1 ys H w1 => by
          rcases st' i1 m1 ys H w1 with ⟨z1, m', z2, z3, z4⟩ | z
          · exact .inl ⟨z1, m', z2, z3, z4⟩
          · exact .inr z) hk m1 n 0 ys H6 s0 s6 (by omega) there ag I7 (fpin I6).1 (fpin I6).2 st1 (fun b hb => (f1 b hb).1) w1
        rw [den_in0 hge]
        have e : (clausesOf Y.ge)[1]? = some ⟨tg1, iter1, ifs1, 0⟩ := by rw [hge]; rfl
        unfold compStart
        rw [Sem.onRaise_eq_wrap, e]
        refine run1_bind (wpAny_askSetting ?_)
        split
        · exact run1_again rfl (inner _ fun m' n' ys' H' s0' s' h1 h2 h3 h4 h5 h6 h7 => run1_again rfl (ih m' h7.1 n' (i + 1) ys' H' s0' s' h1 h2 h3 h4 h5 h6 h7.2))
        · refine run1_bind (wpAny_rule (run1_bind (wpAny_standAt (run1_bind (T1.self _ 0 s6 _ _ st1 (run1_again rfl (inner _ fun m' n' ys' H' s0' s' h1 h2 h3 h4 h5 h6 h7 => ?_)))))))
          exact run1_again rfl (ih m' h7.1 n' (i + 1) ys' H' s0' s' h1 h2 h3 h4 h5 h6 h7.2)
/-- from the start -/
theorem gen_first {Y : GEx} {elt tg iter : Expr} {ifs : List Expr} {scope : Scope} {gpos : Pos} {cs : List Comprehension} (hge : Y.ge = .GeneratorExp elt (⟨tg, iter, ifs, 0⟩ :: cs) scope gpos) {J : It} {tn : Nat → Heap → Prop} {Z : End → Shared → Prop} (T : Turn Y.X.prog Y.X.w Y.X.K tg J Y.fp Y.it tn) (s : Shared) (stt : tn 0 s.heap)
    (loop : Run1 Y.M Y.B Z Y.loop (Y.M.den Y.loop) [] s) : Run1 Y.M Y.B Z (.compStart Y.ge 0 (.ref Y.it) .none Y.cenv) (Y.M.den (.compStart Y.ge 0 (.ref Y.it) .none Y.cenv)) [] s := by
  rw [den_start hge]
  have e : (clausesOf Y.ge)[0]? = some ⟨tg, iter, ifs, 0⟩ := by rw [hge]; rfl
  unfold compStart
  rw [Sem.onRaise_eq_wrap, e]
  show Run1 _ _ _ _ ((ask >>= _).wrap _ _ _ _) [] s
  refine run1_bind (wpAny_askSetting ?_)
  split
  · exact run1_again rfl loop
  · first
      | exact run1_bind (wpAny_rule (run1_bind (wpAny_standAt (run1_bind (T.self _ 0 s _ _ stt (run1_again rfl loop))))))
      | (refine run1_bind (wpAny_rule ?_); show Run1 _ _ _ _ ((standAt iter.pos >>= _).wrap _ _ _ _) [] s; exact run1_bind (wpAny_standAt (run1_bind (T.self _ 0 s _ _ stt (run1_again rfl loop)))))

/-! ### making it -/
/-- the generator a (number g) in s5, made at s4 over the iterator it -/
structure Made (X : Cx) (pins : List (Addr × Obj)) (σ : L2.St) (ge tg : Expr) (scope : Scope) (J : It) (H2 : Hp) (s4 : Shared) (cenv : Env) (fp : List Addr) (it : Addr) (tn : Nat → Heap → Prop) (a g : Addr) (s5 : Shared) : Prop where
  inv : Inv X pins σ H2 s4
  fps : ∀ b ∈ fp, FpOk X pins H2 b ∧ b < s4.heap.objs.size
  turn : Turn X.prog X.w X.K tg J fp it tn
  at0 : tn 0 s4.heap
  env : ∃ code, cenv = genEnv scope (cloFrom X.env.cells scope.names []) s4.heap.objs.size code builtinsNs X.env
  os : s5.os = s4.os
  gens : s5.gens = s4.gens.push (.fresh (.compStart ge 0 (.ref it) .none cenv))
  num : g = s4.gens.size
  drawn : s5.drawn = s4.drawn
  isg : s5.heap.IsGen a g
  new : s4.heap.objs.size < a
  lt : s5.heap.objs.size = a + 1
  keep : ∀ b o, s4.heap.get? b = some o → s5.heap.get? b = some o
  ns : ∃ m, s5.heap.Ns s4.heap.objs.size m
section
variable {X : Cx} {pins : List (Addr × Obj)} {σ : L2.St} {H : Hp} {s : Shared}
theorem make_any {M : Model} {A : Around} {E : Value → Shared → Prop} {s : Shared} {env : Env} {elt tg iter : Expr} {ifs : List Expr} {cs : List Comprehension} {scope : Scope} {cl : List (Str × Addr)} {pos : Pos} {Q : Value → Shared → Prop} (G : GScp scope) (hcl : closureFor scope env = pure cl) (hroom : A.depth < recursionLimit)
    (h : wpAny M A (eval iter env) (fun xv s1 => wpAny M A (pyIter xv) (fun it s2 => s2.heap.NoLimit ∧ wpAny M A (genexprCode env pos (env.qual ++ "<genexpr>") scope) (fun code s3 => wpAny M A (builtinsFor env.globals env.builtins) (fun bi s4 =>
      ∀ h', h'.Ns s4.heap.objs.size (fun y => if y = ".0" then some it else none) → Heap.SameBut s4.heap.objs.size (s4.heap.push { cls := .type "frame", data := .dict #[] }) h' →
        Q (.ref h'.objs.size) { s4 with gens := s4.gens.push (.fresh (.compStart (.GeneratorExp elt (⟨tg, iter, ifs, 0⟩ :: cs) scope pos) 0 it .none (genEnv scope cl s4.heap.objs.size code bi env))), toks := s4.toks + 1 + 1 + 1, heap := h'.push { cls := .type "generator", data := .fields #[.int s4.gens.size 0, .str "<genexpr>" (s4.toks + 1), .str (env.qual ++ "<genexpr>") (s4.toks + 1 + 1)] } }) E s3) E s2) E s1) E s)
    (hs : ∀ x, genFold iter env x = pure x) : wpAny M A (eval (.GeneratorExp elt (⟨tg, iter, ifs, 0⟩ :: cs) scope pos) env) Q E s := by
  rw [arm_eval_GeneratorExp]
  simp only [G.co, Bool.false_eq_true, if_false]
  refine wpAny_bind (thn h fun xv s1 h1 => wpAny_bind (wpAny_standAt (wpAny_bind (wpAny_of_eq (a := xv) ?_ ?_))))
  · have := hs xv
    unfold genFold at this
    cases iter <;> exact this
  refine wpAny_bind (wpAny_holding (thn h1 fun it s2 h2 => wpAny_bind (wpAny_enterFrame h2.1 hroom ?_)))
  rw [hcl]
  refine wpAny_bind (wpAny_pure (wpAny_bind (thn h2.2 fun code s3 h3 => wpAny_bind (thn h3 fun bi s4 h4 => ?_))))
  have hb : ∀ y ∈ ([((".0" : Str), it)] : List (Str × Value)), scope.names.lookup y.1 = some NameKind.local := fun y hy => by
    rw [List.mem_singleton.mp hy]
    exact G.dot
  refine wpAny_bind (wpAny_newFunctionEnv G.nocell hb (fun h' hn' hs' => ?_) G.kind)
  have e : (fun y : Str => ([((".0" : Str), it)] : List (Str × Value)).reverse.lookup y) = fun y : Str => if y = (".0" : Str) then some it else none := by
    funext y
    by_cases hy : y = ".0"
    · subst hy
      simp
    · have : (y == (".0" : Str)) = false := by simpa using hy
      simp [List.lookup, this, hy]
  rw [e] at hn'
  simp only [newGenerator, newFields]
  exact wpAny_bind (wpAny_newGen (wpAny_bind (wpAny_mkText (wpAny_bind (wpAny_mkText (wpAny_newObj_type (h4 h' hn' hs') (by size_fits)))))))
theorem gen_made {c P : Addr} {elt tg iter : Expr} {ifs : List Expr} {cs : List Comprehension} {scope : Scope} {own : List (Str × Nat)} {gpos : Pos} {wi : TI} {k : Nat} {R : It → Hp → Prop} {Q' : Value → Shared → Prop} (hr : Room k X.A) (TB : LamX.TabB X.base X.mg c P) (hcode : X.env.code = .ref c)
    (G : GScp scope) (ok : BlkOk X.N X.env.scope scope own) (hi : PI X tg iter wi) (hs : ∀ v, genFold iter X.env v = pure v) (I : Inv X pins σ H s) (h : wi σ H fun J H1 => TabG H1 P ∧ R J H1)
    (hQ : ∀ J H1 H2 s4 cenv fp it tn a g s5, R J H1 → Tabbed P H1 H2 → Made X pins σ (.GeneratorExp elt (⟨tg, iter, ifs, 0⟩ :: cs) scope gpos) tg scope J H2 s4 cenv fp it tn a g s5 → Q' (.ref a) s5) :
    wpAny (model X.prog X.w) X.A (eval (.GeneratorExp elt (⟨tg, iter, ifs, 0⟩ :: cs) scope gpos) X.env) Q' X.xe s := by
  refine make_any G (closure_ok (blk_free ok I.ok)) hr.depth ?_ hs
  refine thn (hi.run pins s σ H _ I h) fun xv s1 h1 => thn h1 fun itv s2 h2 => ?_
  obtain ⟨it, fp, tn, J, H1, rfl, I2, T, st2, f2, ⟨ps, hP, htr⟩, q⟩ := h2
  refine ⟨I2.nolimit, ?_⟩
  have hPs : s2.heap.get? P = some { cls := .none, data := .fields ps } := I2.hok P _ hP
  have cd : PySem.W.CodeHd s2.heap c P := TB.code.keeps fun b u e => I2.bk b u e
  have nfP : ∀ b ∈ fp, b ≠ P := fun b hb z => by
    have e := (f2 b hb).1
    rw [z, hP] at e
    cases e
  have cont : ∀ (code : Value) (h3 : Heap) (tk : Nat) (ps' : Array Value), Heap.ExtBut P s2.heap h3 → h3.get? P = some { cls := .none, data := .fields ps' } → (∃ more, ps' = ps ++ more) → TriplesOk ps'.toList →
      wpAny (model X.prog X.w) X.A (builtinsFor X.env.globals X.env.builtins) (fun bi s₄ => ∀ h', h'.Ns s₄.heap.objs.size (fun y => if y = ".0" then some (.ref it) else none) → Heap.SameBut s₄.heap.objs.size (s₄.heap.push { cls := .type "frame", data := .dict #[] }) h' →
          Q' (.ref h'.objs.size) { s₄ with
            gens := s₄.gens.push (.fresh (.compStart (.GeneratorExp elt (⟨tg, iter, ifs, 0⟩ :: cs) scope gpos) 0 (.ref it) .none (genEnv scope (cloFrom X.env.cells scope.names []) s₄.heap.objs.size code bi X.env))),
            toks := s₄.toks + 1 + 1 + 1,
            heap := h'.push { cls := .type "generator", data := .fields #[.int s₄.gens.size 0, .str "<genexpr>" (s₄.toks + 1), .str (X.env.qual ++ "<genexpr>") (s₄.toks + 1 + 1)] } }) X.xe { s2 with heap := h3, toks := tk } := by
    intro code h3 tk ps' hx hP3 hmore ht3
    obtain ⟨bm, ob, e1, e2, e3, e4, e5, e6, e7, e8⟩ := TB.bm
    have keep3 : ∀ b u, b ≠ P → s2.heap.get? b = some u → h3.get? b = some u := fun b u hb e => hx b u hb e
    refine wpAny_builtinsFor (m := X.mg) (by rw [I2.ok.glob]; exact (I2.mod.glob.keeps I2.bk).extBut hx TB.gP) e1 e2 (keep3 _ _ e4 (I2.bk _ _ e5)) e6 e7 e8 ?_
    intro h' hn' hs'
    obtain ⟨more, em⟩ := hmore
    have J4 := inv_tab (more := more) (h' := h3) (g' := s2.gens) (d' := s2.drawn) (t' := tk) I2 hP (fun b u hb e => keep3 b u hb e) (by rw [← em]; exact hP3) I2.bare
    have J4 : Inv X pins σ (upd H1 P (.tbl (ps ++ more))) { s2 with heap := h3, toks := tk } := J4
    have keep' : ∀ b o, h3.get? b = some o → h'.get? b = some o := fun b o e => hs'.extBut b o (Nat.ne_of_lt (Heap.lt_size e)) (Heap.get?_push_of_some _ e)
    have hsz : h'.objs.size = h3.objs.size + 1 := by rw [hs'.1, Heap.size_push]
    have nfpH : ∀ b ∈ fp, upd H1 P (.tbl (ps ++ more)) b = none := fun b hb => by rw [upd_ne (nfP b hb)]; exact (f2 b hb).1
    refine hQ J H1 (upd H1 P (.tbl (ps ++ more))) { s2 with heap := h3, toks := tk } (genEnv scope (cloFrom X.env.cells scope.names []) h3.objs.size code builtinsNs X.env) fp it tn _ s2.gens.size _ q ⟨⟨ps ++ more, upd_same, by rw [← em]; exact ht3⟩, fun b hb => upd_ne hb⟩
      { inv := J4, fps := fun b hb => ?_, turn := T, at0 := ?_, env := ⟨code, rfl⟩, os := rfl, gens := rfl, num := rfl, drawn := rfl, isg := ⟨_, _, _, Heap.get?_push_size _ rfl, rfl, rfl, rfl⟩, new := ?_, lt := ?_, keep := fun b o e => Heap.get?_push_of_some _ (keep' b o e), ns := ⟨_, hn'.push _⟩ }
    · obtain ⟨o, e, _⟩ := T.obj _ _ st2 b hb
      exact ⟨⟨nfpH b hb, (f2 b hb).2⟩, Heap.lt_size (keep3 b o (nfP b hb) e)⟩
    · exact T.keep _ _ _ st2 fun b hb o e => keep3 b o (nfP b hb) e
    · show h3.objs.size < h'.objs.size
      rw [hsz]; exact Nat.lt_succ_self _
    · exact Heap.size_push ..
  cases hf : codeAmong gpos ps.toList with
  | none =>
    refine wpAny_genexprCodeX hcode (cd.code hPs htr) (cd.tab hPs) hf fun c' h' tk hx hge hlt hco' _ htab' _ => ?_
    obtain ⟨o1, vs, f1, tf, fl, tg, inF, tx, tt, op, _, _, _, _, _, _, _, _, _, htr', _⟩ := hco'
    exact cont _ h' tk _ hx htab'.2 ⟨_, rfl⟩ htr'
  | some cv =>
    refine wpAny_genexprCode_hit hcode (cd.code hPs htr) hf ?_
    exact cont cv s2.heap s2.toks ps (Heap.ExtBut.refl _ _) hPs ⟨#[], by simp⟩ htr
end

/-! ### ready -/
theorem Aft.refl {s : Shared} (hb : AllBare s.gens) : Aft [] s s := ⟨rfl, hb, fun _ _ _ e => e, fun b z => by cases z⟩
theorem over_fr {B : Around} {ge elt : Expr} {cs : List Comprehension} {scope : Scope} {gpos : Pos} {it : Value} {cenv : Env} {l : List Env} (hge : ge = .GeneratorExp elt cs scope gpos) (h : B.frames = some l) :
    (B.over (.compLoop ge 0 it .none cenv) []).frames = some (cenv :: l) := by
  subst hge
  obtain ⟨b1, b2, b3, b4, b5⟩ := B
  cases h
  rfl
/-- room in the generator's frame -/
structure NearA (B A : Around) : Prop where
  hd : B.handled = A.handled
  fr : B.frames = A.frames
  dp : B.depth ≤ A.depth + 2
  un : B.units ≤ A.units + 12
theorem NearA.room {B A : Around} {k : Nat} {ge elt : Expr} {cs : List Comprehension} {scope : Scope} {gpos : Pos} {it : Value} {cenv : Env} (hge : ge = .GeneratorExp elt cs scope gpos) (n : NearA B A) (r : Room (k + 1) A) : Room k (B.over (.compLoop ge 0 it .none cenv) []) := by
  subst hge
  obtain ⟨n1, n2, n3, n4⟩ := n
  obtain ⟨r1, r2, r3⟩ := r
  refine ⟨?_, ?_, ?_⟩
  · show B.handled = none
    rw [n1]; exact r1
  · show B.depth + 0 + 1 + 3 * k + 5 < _
    omega
  · show B.units + 0 + 3 + 16 * k + 200 < _
    omega
theorem nearA2 (A : Around) : NearA A.in1.in1 A := ⟨rfl, rfl, Nat.le_add_right _ _, by show A.units + 1 + 1 ≤ _; omega⟩
section
variable {X : Cx} {pins : List (Addr × Obj)} {σ : L2.St} {H2 : Hp} {s4 s5 : Shared}
abbrev mkY (X : Cx) (s4 : Shared) (H2 : Hp) (cenv : Env) (fp : List Addr) (B : Around) (σ0 : L2.St) (ge : Expr) (it a : Addr) (g : Nat) (Sx : List Addr) (C : Eats) (F : List V → Hp → Prop) : GEx :=
  ⟨X, s4, H2, cenv, fp, B, σ0, ge, it, a, g, Sx, C, F⟩
theorem gen_rdy0 {ge elt tg iter : Expr} {ifs : List Expr} {cs : List Comprehension} {scope : Scope} {own : List (Str × Nat)} {gpos : Pos} {J : It} {cenv : Env} {fp : List Addr} {it a g : Addr} {tn : Nat → Heap → Prop} {B : Around} {k : Nat} {C : Eats} {F : List V → Hp → Prop} {Sx : List Addr} (hge : ge = .GeneratorExp elt (⟨tg, iter, ifs, 0⟩ :: cs) scope gpos)
    (hr : Room (k + 1) X.A) (hB : NearA B X.A) (G : GScp scope) (ok : BlkOk X.N X.env.scope scope own) (hN : X.N.Nodup) (M : Made X pins σ ge tg scope J H2 s4 cenv fp it tn a g s5)
    (hS : ∀ b ∈ Sx, a < b) (m : Nat) (turns : (mkY X s4 H2 cenv fp B (wipe σ (own.map (·.2))) ge it a g Sx C F).Ok → Room k (B.over (.compLoop ge 0 (.ref it) .none cenv) []) → ∀ s0 s, (∀ b ∈ a :: Sx, ∃ o, s0.heap.get? b = some o) → (∃ o, s0.heap.get? a = some o ∧ ∀ v, o.data ≠ .cell v) →
      Inv (mkY X s4 H2 cenv fp B (wipe σ (own.map (·.2))) ge it a g Sx C F).Xg ((mkY X s4 H2 cenv fp B (wipe σ (own.map (·.2))) ge it a g Sx C F).pn s0) (wipe σ (own.map (·.2))) H2 s → tn 0 s.heap → (∀ b ∈ fp, H2 b = none) →
      Run1 (model X.prog X.w) B ((mkY X s4 H2 cenv fp B (wipe σ (own.map (·.2))) ge it a g Sx C F).Z ((mkY X s4 H2 cenv fp B (wipe σ (own.map (·.2))) ge it a g Sx C F).Rp m) [] s0) (.compLoop ge 0 (.ref it) .none cenv) ((model X.prog X.w).den (.compLoop ge 0 (.ref it) .none cenv)) [] s) :
    (mkY X s4 H2 cenv fp B (wipe σ (own.map (·.2))) ge it a g Sx C F).Ok ∧
    (mkY X s4 H2 cenv fp B (wipe σ (own.map (·.2))) ge it a g Sx C F).Rdy m [] H2 (.fresh (.compStart ge 0 (.ref it) .none cenv)) s5 := by
  obtain ⟨code, hce⟩ := M.env
  have hfree := blk_free ok M.inv.ok
  have O : (mkY X s4 H2 cenv fp B (wipe σ (own.map (·.2))) ge it a g Sx C F).Ok :=
    { new := fun b hb => by
        rcases List.mem_cons.mp hb with z | z
        · rw [z]; exact M.new
        · exact Nat.lt_trans M.new (hS b z)
      loc := by
        show cenv.locals = _
        rw [hce]; rfl
      cel := fun y c e => by
        have e : cenv.cells.lookup y = some c := e
        rw [hce] at e
        obtain ⟨v, z⟩ := M.inv.cell y c (NdefX.clo_cm hfree e)
        exact z.lt
      fps := fun b hb => (M.fps b hb).2
      aS := fun z => Nat.lt_irrefl _ (hS _ z)
      co := by
        show cenv.scope.isCoroutine = false
        rw [hce]; exact G.co }
  refine ⟨O, (GEx.rdy_iff _ m _ _ _ _).mpr fun s6 A6 => ?_⟩
  have R := hB.room (k := k) (it := Value.ref it) (cenv := cenv) hge hr
  have hfrm : (B.over (.compLoop ge 0 (.ref it) .none cenv) []).frames = some (cenv :: X.stack) := over_fr hge (by rw [hB.fr]; exact M.inv.ok.frames)
  have hS2 : ∀ b o, s5.heap.get? b = some o → b < a + 1 := fun b o e => by
    have := Heap.lt_size e
    rw [M.lt] at this
    exact this
  have kp5 : ∀ b o, s5.heap.get? b = some o → s6.heap.get? b = some o := fun b o e => A6.keep b o (fun z => by
    have h1 := hS b z
    have h2 := hS2 b o e
    exact Nat.lt_irrefl _ (Nat.lt_of_lt_of_le h1 (Nat.le_of_lt_succ h2))) e
  have kp : ∀ b o, s4.heap.get? b = some o → s6.heap.get? b = some o := fun b o e => kp5 b o (M.keep b o e)
  have agn : ∃ o, s6.heap.get? a = some o ∧ ∀ v, o.data ≠ .cell v := by
    obtain ⟨o, n1, n2, e, c, d, _⟩ := M.isg
    exact ⟨o, kp5 _ _ e, fun v z => by rw [d] at z; cases z⟩
  have there : ∀ b ∈ a :: Sx, ∃ o, s6.heap.get? b = some o := fun b hb => by
    rcases List.mem_cons.mp hb with z | z
    · obtain ⟨o, e, _⟩ := agn
      exact ⟨o, by rw [z]; exact e⟩
    · obtain ⟨o, e, _⟩ := A6.own b z
      exact ⟨o, e⟩
  obtain ⟨mm, hns⟩ := M.ns
  have hns6 : s6.heap.Ns s4.heap.objs.size mm := by
    obtain ⟨ob, es, ep, ho, r⟩ := hns
    exact ⟨ob, es, ep, kp5 _ ob ho, r⟩
  have ho6 : s6.os = s4.os := A6.os.trans M.os
  have I0 := gen_start (code := code) (A := B.over (.compLoop ge 0 (.ref it) .none cenv) []) (g' := (s6.setGen g .running).gens) (d' := s6.drawn) (t' := s6.toks) M.inv ok G hN M.fps R.hd (by rw [← hce]; exact hfrm) hns6 kp (allBare_setGen A6.bare rfl)
  rw [← hce] at I0
  have I1 : Inv (mkY X s4 H2 cenv fp B (wipe σ (own.map (·.2))) ge it a g Sx C F).Xg [] (wipe σ (own.map (·.2))) H2 (s6.setGen g .running) := by
    obtain ⟨h6, g6, d6, t6, o6⟩ := s6
    have ho6 : o6 = s4.os := ho6
    subst ho6
    exact I0
  have I2 : Inv (mkY X s4 H2 cenv fp B (wipe σ (own.map (·.2))) ge it a g Sx C F).Xg ((mkY X s4 H2 cenv fp B (wipe σ (own.map (·.2))) ge it a g Sx C F).pn s6) (wipe σ (own.map (·.2))) H2 (s6.setGen g .running) := by
    refine I1.pins_of fun p hp => ?_
    have hp : p ∈ pinsAt (a :: Sx) s6.heap := hp
    obtain ⟨hb, e⟩ := of_pinsAt hp
    have h1 := O.new _ hb
    refine ⟨e, M.inv.hok.fresh (Nat.le_of_lt h1), fun z => ?_, fun z => ?_, ?_⟩
    · have z : p.1 = cenv.locals := z
      rw [z, show cenv.locals = _ from O.loc] at h1
      exact Nat.lt_irrefl _ h1
    · obtain ⟨_, ob, hob, _⟩ := I1.ok.funs.mem z
      exact absurd (Nat.lt_trans h1 (Heap.lt_size hob)) (Nat.lt_irrefl _)
    · rcases List.mem_cons.mp hb with z | z
      · obtain ⟨oa, ea, da⟩ := agn
        rw [z, ea] at e
        cases e
        exact da
      · obtain ⟨ob, eb, db⟩ := A6.own _ z
        rw [e] at eb
        cases eb
        exact db
  have st6 := M.turn.keep _ _ _ M.at0 fun b hb o e => kp b o e
  have stY : tn 0 (s6.setGen g .running).heap := st6
  exact gen_first (Y := mkY X s4 H2 cenv fp B (wipe σ (own.map (·.2))) ge it a g Sx C F) hge M.turn (s6.setGen g .running) stY (turns O R s6 (s6.setGen g .running) there agn I2 stY fun b hb => (M.fps b hb).1.1)
theorem gen_rdy {elt tg iter : Expr} {ifs : List Expr} {scope : Scope} {own : List (Str × Nat)} {gpos : Pos} {J : It} {cenv : Env} {fp : List Addr} {it a g : Addr} {tn : Nat → Heap → Prop} {B : Around} {k : Nat} {gt : TG} {tt : TT} {te : TE} {W : Nat → Nat → List V → Hp → Prop} {C : Eats} {F : List V → Hp → Prop} {Sx : List Addr}
    (hr : Room (k + 1) X.A) (hB : NearA B X.A) (G : GScp scope) (ok : BlkOk X.N X.env.scope scope own) (hN : X.N.Nodup) (M : Made X pins σ (.GeneratorExp elt [⟨tg, iter, ifs, 0⟩] scope gpos) tg scope J H2 s4 cenv fp it tn a g s5)
    (hg : ∀ A, Room k A → PG (gcx X s4 H2 cenv fp A) tg gt) (ht : ∀ A, Room k A → PTs (gcx X s4 H2 cenv fp A) ifs tt) (he : ∀ A, Room k A → PE (gcx X s4 H2 cenv fp A) elt te)
    (hS : ∀ b ∈ Sx, a < b) (hC : EatsMono C) (st : GStep W J gt tt te (own.map (·.2)) (wipe σ (own.map (·.2))) C F) (m : Nat) (w0 : W 0 m [] H2) :
    (mkY X s4 H2 cenv fp B (wipe σ (own.map (·.2))) (.GeneratorExp elt [⟨tg, iter, ifs, 0⟩] scope gpos) it a g Sx C F).Ok ∧
    (mkY X s4 H2 cenv fp B (wipe σ (own.map (·.2))) (.GeneratorExp elt [⟨tg, iter, ifs, 0⟩] scope gpos) it a g Sx C F).Rdy m [] H2 (.fresh (.compStart (.GeneratorExp elt [⟨tg, iter, ifs, 0⟩] scope gpos) 0 (.ref it) .none cenv)) s5 :=
  gen_rdy0 rfl hr hB G ok hN M hS m fun O R s0 s th ag I stt fr =>
    gen_turns (Y := mkY X s4 H2 cenv fp B (wipe σ (own.map (·.2))) (.GeneratorExp elt [⟨tg, iter, ifs, 0⟩] scope gpos) it a g Sx C F) rfl O M.turn (hg _ R) (ht _ R) (he _ R) hC st m m 0 [] H2 s0 s (Nat.le_refl _) th ag I stt fr w0
theorem gen_rdy2 {elt tg iter tg1 iter1 : Expr} {ifs ifs1 : List Expr} {scope : Scope} {own : List (Str × Nat)} {vs1 : List Nat} {gpos : Pos} {J : It} {cenv : Env} {fp : List Addr} {it a g : Addr} {tn : Nat → Heap → Prop} {B : Around} {k : Nat} {gt g1 : TG} {tt tt1 : TT} {te : TE} {wi1 : TI} {W : Nat → Nat → List V → Hp → Prop} {C : Eats} {F : List V → Hp → Prop} {Sx : List Addr}
    (hr : Room (k + 1) X.A) (hB : NearA B X.A) (G : GScp scope) (ok : BlkOk X.N X.env.scope scope own) (hN : X.N.Nodup) (hvs : ∀ v ∈ vs1, v ∈ own.map (·.2)) (M : Made X pins σ (.GeneratorExp elt [⟨tg, iter, ifs, 0⟩, ⟨tg1, iter1, ifs1, 0⟩] scope gpos) tg scope J H2 s4 cenv fp it tn a g s5)
    (hg : ∀ A, Room k A → PG (gcx X s4 H2 cenv fp A) tg gt) (ht : ∀ A, Room k A → PTs (gcx X s4 H2 cenv fp A) ifs tt) (hi1 : ∀ A, Room k A → PI (gcx X s4 H2 cenv fp A) tg1 iter1 wi1) (hs1 : ∀ x, foldedSetIterable iter1 cenv x = pure x) (hg1 : ∀ A, Room k A → PG (gcx X s4 H2 cenv fp A) tg1 g1) (ht1 : ∀ A, Room k A → PTs (gcx X s4 H2 cenv fp A) ifs1 tt1) (he : ∀ A, Room k A → PE (gcx X s4 H2 cenv fp A) elt te)
    (hS : ∀ b ∈ Sx, a < b) (hC : EatsMono C) (st : GStep2 W J gt tt wi1 g1 tt1 te (own.map (·.2)) vs1 (wipe σ (own.map (·.2))) C F) (m : Nat) (w0 : W 0 m [] H2) :
    (mkY X s4 H2 cenv fp B (wipe σ (own.map (·.2))) (.GeneratorExp elt [⟨tg, iter, ifs, 0⟩, ⟨tg1, iter1, ifs1, 0⟩] scope gpos) it a g Sx C F).Ok ∧
    (mkY X s4 H2 cenv fp B (wipe σ (own.map (·.2))) (.GeneratorExp elt [⟨tg, iter, ifs, 0⟩, ⟨tg1, iter1, ifs1, 0⟩] scope gpos) it a g Sx C F).Rdy m [] H2 (.fresh (.compStart (.GeneratorExp elt [⟨tg, iter, ifs, 0⟩, ⟨tg1, iter1, ifs1, 0⟩] scope gpos) 0 (.ref it) .none cenv)) s5 :=
  gen_rdy0 rfl hr hB G ok hN M hS m fun O R s0 s th ag I stt fr =>
    gen_turns2 (Y := mkY X s4 H2 cenv fp B (wipe σ (own.map (·.2))) (.GeneratorExp elt [⟨tg, iter, ifs, 0⟩, ⟨tg1, iter1, ifs1, 0⟩] scope gpos) it a g Sx C F) rfl O M.turn hvs (hg _ R) (ht _ R) (hi1 _ R) hs1 (hg1 _ R) (ht1 _ R) (he _ R) hC st m m 0 [] H2 s0 s (Nat.le_refl _) th ag I stt fr w0
end
/-- out of the generator's frame -/
theorem GEx.out {Y : GEx} {pins ps : List (Addr × Obj)} {σ σ' : L2.St} {H' : Hp} {s1 s2 : Shared} (I4 : Inv Y.X pins σ Y.H1 Y.s4) (hf : ∀ b ∈ Y.fp, FpOk Y.X pins Y.H1 b) (I : Inv Y.Xg ps σ' H' s1) (A : Aft [] s1 s2) : Inv Y.X pins σ H' s2 := by
  have k : ∀ b o, s1.heap.get? b = some o → s2.heap.get? b = some o := fun b o e => A.keep b o (by simp) e
  exact I4.call' (ch := Y.fp) (A.os.trans I.os) (I.base.trans (Un.kept k)) (I.hok.kept k) A.bare fun b hb => ⟨(hf b hb).2.2.2.1, (hf b hb).2.1, (hf b hb).2.2.2.2.1, (hf b hb).2.2.2.2.2⟩
/-- next(g) -/
theorem GEx.next {Y : GEx} {A : Around} {Q : Option Value → Shared → Prop} {E : Value → Shared → Prop} {n : Nat} {ys : List V} {H : Hp} {gs : GenState} {sp s : Shared} (O : Y.Ok) (hB : Y.B = A.in1) (hh : A.handled = none) (hroom : A.depth < recursionLimit) (nl : s.heap.NoLimit)
    (rd : Y.Rdy n ys H gs sp) (af : Aft Y.Sx sp s) (hg : s.heap.IsGen Y.a Y.g) (hgs : s.gens[Y.g]? = some gs) (hlt : Y.g < s.gens.size)
    (qN : ∀ σ' H' s1 s2, Inv Y.Xg (Y.pn s) σ' H' s1 → Y.F ys H' → Aft [] s1 s2 → Q none s2)
    (qS : ∀ v y σ' H' s1 gs', Inv Y.Xg (Y.pn s) σ' H' s1 → RelV y v → Y.C ys y H' (Y.Rp n (ys ++ [y]) H' gs' s1) → gs'.bare = true → s.gens.size ≤ s1.gens.size → Q (some v) (s1.setGen Y.g gs')) : wpAny Y.M A (pyNext (.ref Y.a)) Q E s := by
  have go := (GEx.rdy_iff Y n ys H gs sp).mp rd s af
  rw [hB] at go
  refine next1 hh nl hroom hg hgs go fun e s1 z hsz => ?_
  rcases z with ⟨rfl, σ', H', I, f⟩ | ⟨v, l, k, c, p, fs, y, σ', H', rfl, q, I, r, cc⟩
  · exact .inl ⟨rfl, fun h' kk => qN σ' H' s1 _ I f ⟨rfl, allBare_setGen I.bare rfl, fun b o _ e => kk b o e, fun b z => by cases z⟩⟩
  · exact .inr ⟨v, l, k, c, p, fs, rfl, q, qS v y σ' H' s1 _ I r cc (bare_of q) hsz⟩

/-! ### all, any -/
/-- stop at the first value that is e -/
def eTill (e : Bool) (Qd : Bool → Hp → Prop) : Eats := fun _ y H go => ∃ b, y = .bl b ∧ if b = e then Qd e H else go
theorem eTill_mono {e : Bool} {Qd : Bool → Hp → Prop} : EatsMono (eTill e Qd) := fun ys y H p q h ⟨b, hb, z⟩ => ⟨b, hb, by
  by_cases hbe : b = e
  · rw [if_pos hbe] at z ⊢; exact z
  · rw [if_neg hbe] at z ⊢; exact h z⟩
section
variable {Y : GEx} {Qd : Bool → Hp → Prop} {R : Result → Shared → Prop} {A : Around}
theorem all_loop1 (O : Y.Ok) (hB : Y.B = A.in1.in1) (hS : Y.Sx = []) (hC : Y.C = eTill false Qd) (hF : Y.F = fun _ H => Qd true H) (hh : A.handled = none) (hroom : A.depth < recursionLimit)
    (hR : ∀ k ps σ' H' s1 s2, Inv Y.Xg ps σ' H' s1 → Aft [] s1 s2 → Qd k H' → R (.ok (.ret (.bool k))) s2) : ∀ (n : Nat) (ys : List V) (H : Hp) (gs : GenState) (sp s : Shared), Y.Rdy n ys H gs sp → Aft Y.Sx sp s → s.heap.IsGen Y.a Y.g → s.gens[Y.g]? = some gs → s.heap.NoLimit →
      codeAny Y.M A (.builtin "all.loop" ⟨[.ref Y.a], []⟩) R s := by
  intro n
  induction n with
  | zero =>
    intro ys H gs sp s rd af hg hgs nl
    refine codeAny_builtin PySem.F.entry_all_loop ?_
    rw [Around.under_plainId PySem.F.plain_all_loop _]
    show wpAny _ A.in1 (pyNext (.ref Y.a) >>= _) _ _ s
    refine wpAny_bind (GEx.next O hB hh hroom nl rd af hg hgs (Array.getElem?_eq_some_iff.mp hgs).1 (fun σ' H' s1 s2 I f a => ?_) fun v y σ' H' s1 gs' I r c hb hsz => ?_)
    · rw [hF] at f
      exact wpAny_bind (wpAny_rule (wpAny_pure (hR true _ σ' H' s1 s2 I a f)))
    · rw [hC] at c
      obtain ⟨b, rfl, c⟩ := c
      obtain rfl : v = .bool b := r
      refine wpAny_bind (wpAny_holding (wpAny_truthy_bool ?_))
      refine wpAny_bind (wpAny_letGo ?_)
      cases b with
      | true => exact (show False from c).elim
      | false =>
        simp only [Bool.false_eq_true, if_false]
        exact wpAny_bind (wpAny_rule (wpAny_pure (hR false _ σ' H' s1 _ I ⟨rfl, allBare_setGen I.bare hb, fun _ _ _ e => e, fun b z => by cases z⟩ c)))
  | succ n ih =>
    intro ys H gs sp s rd af hg hgs nl
    refine codeAny_builtin PySem.F.entry_all_loop ?_
    rw [Around.under_plainId PySem.F.plain_all_loop _]
    show wpAny _ A.in1 (pyNext (.ref Y.a) >>= _) _ _ s
    refine wpAny_bind (GEx.next O hB hh hroom nl rd af hg hgs (Array.getElem?_eq_some_iff.mp hgs).1 (fun σ' H' s1 s2 I f a => ?_) fun v y σ' H' s1 gs' I r c hb hsz => ?_)
    · rw [hF] at f
      exact wpAny_bind (wpAny_rule (wpAny_pure (hR true _ σ' H' s1 s2 I a f)))
    · rw [hC] at c
      obtain ⟨b, rfl, c⟩ := c
      obtain rfl : v = .bool b := r
      refine wpAny_bind (wpAny_holding (wpAny_truthy_bool ?_))
      refine wpAny_bind (wpAny_letGo ?_)
      cases b with
      | true =>
        simp only [if_true]
        obtain ⟨o, n1, n2, e, r⟩ := hg
        refine wpAny_pure ⟨plainId_quiet PySem.F.plain_all_loop _, ih _ H' gs' s1 (s1.setGen Y.g gs') c (by rw [hS]; exact ⟨rfl, allBare_setGen I.bare hb, fun _ _ _ e => e, fun b z => by cases z⟩) ⟨o, n1, n2, (O.pinned I List.mem_cons_self e).1, r⟩ (setGen_at (Nat.lt_of_lt_of_le (Array.getElem?_eq_some_iff.mp hgs).1 hsz)) I.nolimit⟩
      | false =>
        simp only [Bool.false_eq_true, if_false]
        exact wpAny_bind (wpAny_rule (wpAny_pure (hR false _ σ' H' s1 _ I ⟨rfl, allBare_setGen I.bare hb, fun _ _ _ e => e, fun b z => by cases z⟩ c)))
theorem any_loop1 (O : Y.Ok) (hB : Y.B = A.in1.in1) (hS : Y.Sx = []) (hC : Y.C = eTill true Qd) (hF : Y.F = fun _ H => Qd false H) (hh : A.handled = none) (hroom : A.depth < recursionLimit)
    (hR : ∀ k ps σ' H' s1 s2, Inv Y.Xg ps σ' H' s1 → Aft [] s1 s2 → Qd k H' → R (.ok (.ret (.bool k))) s2) : ∀ (n : Nat) (ys : List V) (H : Hp) (gs : GenState) (sp s : Shared), Y.Rdy n ys H gs sp → Aft Y.Sx sp s → s.heap.IsGen Y.a Y.g → s.gens[Y.g]? = some gs → s.heap.NoLimit →
      codeAny Y.M A (.builtin "any.loop" ⟨[.ref Y.a], []⟩) R s := by
  intro n
  induction n with
  | zero =>
    intro ys H gs sp s rd af hg hgs nl
    refine codeAny_builtin PySem.F.entry_any_loop ?_
    rw [Around.under_plainId PySem.F.plain_any_loop _]
    show wpAny _ A.in1 (pyNext (.ref Y.a) >>= _) _ _ s
    refine wpAny_bind (GEx.next O hB hh hroom nl rd af hg hgs (Array.getElem?_eq_some_iff.mp hgs).1 (fun σ' H' s1 s2 I f a => ?_) fun v y σ' H' s1 gs' I r c hb hsz => ?_)
    · rw [hF] at f
      exact wpAny_bind (wpAny_rule (wpAny_pure (hR false _ σ' H' s1 s2 I a f)))
    · rw [hC] at c
      obtain ⟨b, rfl, c⟩ := c
      obtain rfl : v = .bool b := r
      refine wpAny_bind (wpAny_holding (wpAny_truthy_bool ?_))
      refine wpAny_bind (wpAny_letGo ?_)
      cases b with
      | false => exact (show False from c).elim
      | true =>
        simp only [if_true]
        exact wpAny_bind (wpAny_rule (wpAny_pure (hR true _ σ' H' s1 _ I ⟨rfl, allBare_setGen I.bare hb, fun _ _ _ e => e, fun b z => by cases z⟩ c)))
  | succ n ih =>
    intro ys H gs sp s rd af hg hgs nl
    refine codeAny_builtin PySem.F.entry_any_loop ?_
    rw [Around.under_plainId PySem.F.plain_any_loop _]
    show wpAny _ A.in1 (pyNext (.ref Y.a) >>= _) _ _ s
    refine wpAny_bind (GEx.next O hB hh hroom nl rd af hg hgs (Array.getElem?_eq_some_iff.mp hgs).1 (fun σ' H' s1 s2 I f a => ?_) fun v y σ' H' s1 gs' I r c hb hsz => ?_)
    · rw [hF] at f
      exact wpAny_bind (wpAny_rule (wpAny_pure (hR false _ σ' H' s1 s2 I a f)))
    · rw [hC] at c
      obtain ⟨b, rfl, c⟩ := c
      obtain rfl : v = .bool b := r
      refine wpAny_bind (wpAny_holding (wpAny_truthy_bool ?_))
      refine wpAny_bind (wpAny_letGo ?_)
      cases b with
      | false =>
        simp only [Bool.false_eq_true, if_false]
        obtain ⟨o, n1, n2, e, r⟩ := hg
        refine wpAny_pure ⟨plainId_quiet PySem.F.plain_any_loop _, ih _ H' gs' s1 (s1.setGen Y.g gs') c (by rw [hS]; exact ⟨rfl, allBare_setGen I.bare hb, fun _ _ _ e => e, fun b z => by cases z⟩) ⟨o, n1, n2, (O.pinned I List.mem_cons_self e).1, r⟩ (setGen_at (Nat.lt_of_lt_of_le (Array.getElem?_eq_some_iff.mp hgs).1 hsz)) I.nolimit⟩
      | true =>
        simp only [if_true]
        exact wpAny_bind (wpAny_rule (wpAny_pure (hR true _ σ' H' s1 _ I ⟨rfl, allBare_setGen I.bare hb, fun _ _ _ e => e, fun b z => by cases z⟩ c)))
end
section
variable {X : Cx}
/-- all (e = false), any (e = true) of elt for target in iter if ..; the running def's table at P may have grown -/
def tTill (e : Bool) (P : Addr) (wi : TI) (g : TG) (tt : TT) (te : TE) (vs : List Nat) : TE := fun σ H Q => wi σ H fun J H1 => TabG H1 P ∧ ∀ H2, Tabbed P H1 H2 →
  ∃ W : Nat → Nat → Hp → Prop, (∃ m, W 0 m H2) ∧ ∀ i m H, W i m H → (J.stop i H ∧ Q (.bl (!e)) H) ∨ (J.go i H ∧ ∃ Nx : Hp → Prop, (∀ H', Nx H' → ∃ m', m' < m ∧ W (i + 1) m' H') ∧
    ∀ x H', J.yld i H x H' → g x (wipe σ vs) H' fun σ2 H2 => wipe σ2 vs = wipe σ vs ∧ tt σ2 H2 fun b H3 => if b = true then te σ2 H3 fun y H4 => ∃ b, y = .bl b ∧ if b = e then Q (.bl e) H4 else Nx H4 else Nx H3)
abbrev RetQ (Q : Value → Shared → Prop) (E : Value → Shared → Prop) : Result → Shared → Prop := fun r s' => match r with | .ok (.ret v) => Q v s' | .ok _ => False | .error e => E e s'
theorem call_allP {P : Program} {w : World} {A : Around} {Q : Value → Shared → Prop} {E : Value → Shared → Prop} {s : Shared} {a g : Addr} (hg : s.heap.IsGen a g)
    (h : codeAny (model P w) A (.builtin "all.loop" ⟨[.ref a], []⟩) (RetQ Q E) s) : wpAny (model P w) A (call (.builtin "all") [.ref a]) Q E s := by
  refine call_function_tree PySem.F.kind_all PySem.F.plain_all PySem.F.entry_all (PySem.F.args_all1 _) ?_
  unfold Builtin.«all»
  refine wpAny_bind (wpAny_pure ?_)
  exact wpAny_bind (wpAny_pyIter_gen hg (wpAny_pure ⟨plainId_quiet PySem.F.plain_all_loop _, h⟩))
theorem call_anyP {P : Program} {w : World} {A : Around} {Q : Value → Shared → Prop} {E : Value → Shared → Prop} {s : Shared} {a g : Addr} (hg : s.heap.IsGen a g)
    (h : codeAny (model P w) A (.builtin "any.loop" ⟨[.ref a], []⟩) (RetQ Q E) s) : wpAny (model P w) A (call (.builtin "any") [.ref a]) Q E s := by
  refine call_function_tree PySem.F.kind_any PySem.F.plain_any PySem.F.entry_any (PySem.F.args_any1 _) ?_
  unfold Builtin.«any»
  refine wpAny_bind (wpAny_pure ?_)
  exact wpAny_bind (wpAny_pyIter_gen hg (wpAny_pure ⟨plainId_quiet PySem.F.plain_any_loop _, h⟩))
/-- the places where the generator's frame may stand -/
abbrev GPG (X : Cx) (k : Nat) (scope : Scope) (tg : Expr) (g : TG) : Prop := ∀ (s : Shared) (H : Hp) (C : Addr) (cl : List (Str × Addr)) (code : Value) (fp : List Addr) (A : Around), Room k A → PG (gcx X s H (genEnv scope cl C code builtinsNs X.env) fp A) tg g
abbrev GPT (X : Cx) (k : Nat) (scope : Scope) (ifs : List Expr) (t : TT) : Prop := ∀ (s : Shared) (H : Hp) (C : Addr) (cl : List (Str × Addr)) (code : Value) (fp : List Addr) (A : Around), Room k A → PTs (gcx X s H (genEnv scope cl C code builtinsNs X.env) fp A) ifs t
abbrev GPE (X : Cx) (k : Nat) (scope : Scope) (e : Expr) (t : TE) : Prop := ∀ (s : Shared) (H : Hp) (C : Addr) (cl : List (Str × Addr)) (code : Value) (fp : List Addr) (A : Around), Room k A → PE (gcx X s H (genEnv scope cl C code builtinsNs X.env) fp A) e t
theorem tTill_step {e : Bool} {J : It} {g : TG} {tt : TT} {te : TE} {vs : List Nat} {σ : L2.St} {Q : VK} {W : Nat → Nat → Hp → Prop}
    (h : ∀ i m H, W i m H → (J.stop i H ∧ Q (.bl (!e)) H) ∨ (J.go i H ∧ ∃ Nx : Hp → Prop, (∀ H', Nx H' → ∃ m', m' < m ∧ W (i + 1) m' H') ∧
      ∀ x H', J.yld i H x H' → g x (wipe σ vs) H' fun σ2 H2 => wipe σ2 vs = wipe σ vs ∧ tt σ2 H2 fun b H3 => if b = true then te σ2 H3 fun y H4 => ∃ b, y = .bl b ∧ if b = e then Q (.bl e) H4 else Nx H4 else Nx H3)) :
    GStep (fun i m _ H => W i m H) J g tt te vs (wipe σ vs) (eTill e fun b H => Q (.bl b) H) (fun _ H => Q (.bl (!e)) H) := fun i m ys H w => by
  rcases h i m H w with z | ⟨go, Nx, hN, st⟩
  · exact .inl z
  · exact .inr ⟨go, fun _ H => Nx H, fun _ H' nx => hN H' nx, st⟩
section
variable {c P : Addr} {elt tg iter : Expr} {ifs : List Expr} {scope : Scope} {own : List (Str × Nat)} {p pos gpos : Pos} {wi : TI} {g : TG} {tt : TT} {te : TE} {k : Nat}
theorem pe_allG (hr : Room (k + 1) X.A) (hn : X.N.Nodup) (hgl : Gl X "all") (hm : X.mg "all" = none) (TB : LamX.TabB X.base X.mg c P) (hcode : X.env.code = .ref c) (G : GScp scope) (ok : BlkOk X.N X.env.scope scope own) (hi : PI X tg iter wi)
    (hg : GPG X k scope tg g) (ht : GPT X k scope ifs tt) (he : GPE X k scope elt te) (hb : bootBuiltins "all" = some (.builtin "all") := by first | rfl | decide +kernel) (hs : ∀ v, genFold iter X.env v = pure v := by intro _; rfl)
    (hst : starEach [.GeneratorExp elt [⟨tg, iter, ifs, 0⟩] scope gpos] X.env = (false, eval (.GeneratorExp elt [⟨tg, iter, ifs, 0⟩] scope gpos) X.env) :: starEach [] X.env := by rfl) :
    PE X (.Call (.Name "all" p) [.GeneratorExp elt [⟨tg, iter, ifs, 0⟩] scope gpos] [] pos) (tTill false P wi g tt te (own.map (·.2))) := by
  refine ⟨fun pins s σ H Q I h => ?_⟩
  refine wpAny_Call_Name_kw (ld_blt I hgl hm hb ?_)
  refine PyProof.Rows.callWith_builtin1 ?_ hst (by rfl)
  rw [hst]
  show wpAny _ _ (spliced ((false, eval (.GeneratorExp elt [⟨tg, iter, ifs, 0⟩] scope gpos) X.env) :: backTo pos (starEach [] X.env))) _ _ s
  refine Calls.spliced_cons (gen_made (R := fun J H1 => _) hr TB hcode G ok hi hs I h fun J H1 H2 s4 cenv fp it tn a gn s5 q tb M => ?_)
  refine Calls.spliced_nil (call_allP M.isg ?_)
  obtain ⟨W, ⟨m, w0⟩, st⟩ := q H2 tb
  obtain ⟨code, hce⟩ := M.env
  subst hce
  obtain ⟨O, rd⟩ := gen_rdy (B := X.A.in1.in1) (Sx := []) hr (nearA2 _) G ok hn M (fun A r => hg _ _ _ _ _ _ A r) (fun A r => ht _ _ _ _ _ _ A r) (fun A r => he _ _ _ _ _ _ A r) (fun b z => by cases z) eTill_mono (tTill_step st) m w0
  refine all_loop1 (Qd := fun b H => Q (.bl b) H) (Y := mkY X s4 H2 _ fp X.A.in1.in1 (wipe σ (own.map (·.2))) (.GeneratorExp elt [⟨tg, iter, ifs, 0⟩] scope gpos) it a gn [] (eTill false fun b H => Q (.bl b) H) (fun _ H => Q (.bl (!false)) H)) O rfl rfl rfl rfl hr.hd hr.depth (fun k ps σ' H' s1 s2 I' af q => ?_) m [] H2 _ s5 s5 rd (Aft.refl ?_) M.isg ?_ ?_
  · exact ⟨.bl k, H', GEx.out (Y := mkY X s4 H2 _ fp X.A.in1.in1 (wipe σ (own.map (·.2))) (.GeneratorExp elt [⟨tg, iter, ifs, 0⟩] scope gpos) it a gn [] (eTill false fun b H => Q (.bl b) H) (fun _ H => Q (.bl (!false)) H)) M.inv (fun b hb => (M.fps b hb).1) I' af, rfl, q⟩
  · rw [M.gens]
    exact M.inv.bare.push rfl
  · show s5.gens[gn]? = _
    rw [M.gens, M.num]
    simp
  · exact M.inv.nolimit.keeps M.keep
theorem pe_anyG (hr : Room (k + 1) X.A) (hn : X.N.Nodup) (hgl : Gl X "any") (hm : X.mg "any" = none) (TB : LamX.TabB X.base X.mg c P) (hcode : X.env.code = .ref c) (G : GScp scope) (ok : BlkOk X.N X.env.scope scope own) (hi : PI X tg iter wi)
    (hg : GPG X k scope tg g) (ht : GPT X k scope ifs tt) (he : GPE X k scope elt te) (hb : bootBuiltins "any" = some (.builtin "any") := by first | rfl | decide +kernel) (hs : ∀ v, genFold iter X.env v = pure v := by intro _; rfl)
    (hst : starEach [.GeneratorExp elt [⟨tg, iter, ifs, 0⟩] scope gpos] X.env = (false, eval (.GeneratorExp elt [⟨tg, iter, ifs, 0⟩] scope gpos) X.env) :: starEach [] X.env := by rfl) :
    PE X (.Call (.Name "any" p) [.GeneratorExp elt [⟨tg, iter, ifs, 0⟩] scope gpos] [] pos) (tTill true P wi g tt te (own.map (·.2))) := by
  refine ⟨fun pins s σ H Q I h => ?_⟩
  refine wpAny_Call_Name_kw (ld_blt I hgl hm hb ?_)
  refine PyProof.Rows.callWith_builtin1 ?_ hst (by rfl)
  rw [hst]
  show wpAny _ _ (spliced ((false, eval (.GeneratorExp elt [⟨tg, iter, ifs, 0⟩] scope gpos) X.env) :: backTo pos (starEach [] X.env))) _ _ s
  refine Calls.spliced_cons (gen_made (R := fun J H1 => _) hr TB hcode G ok hi hs I h fun J H1 H2 s4 cenv fp it tn a gn s5 q tb M => ?_)
  refine Calls.spliced_nil (call_anyP M.isg ?_)
  obtain ⟨W, ⟨m, w0⟩, st⟩ := q H2 tb
  obtain ⟨code, hce⟩ := M.env
  subst hce
  obtain ⟨O, rd⟩ := gen_rdy (B := X.A.in1.in1) (Sx := []) hr (nearA2 _) G ok hn M (fun A r => hg _ _ _ _ _ _ A r) (fun A r => ht _ _ _ _ _ _ A r) (fun A r => he _ _ _ _ _ _ A r) (fun b z => by cases z) eTill_mono (tTill_step st) m w0
  refine any_loop1 (Qd := fun b H => Q (.bl b) H) (Y := mkY X s4 H2 _ fp X.A.in1.in1 (wipe σ (own.map (·.2))) (.GeneratorExp elt [⟨tg, iter, ifs, 0⟩] scope gpos) it a gn [] (eTill true fun b H => Q (.bl b) H) (fun _ H => Q (.bl (!true)) H)) O rfl rfl rfl rfl hr.hd hr.depth (fun k ps σ' H' s1 s2 I' af q => ?_) m [] H2 _ s5 s5 rd (Aft.refl ?_) M.isg ?_ ?_
  · exact ⟨.bl k, H', GEx.out (Y := mkY X s4 H2 _ fp X.A.in1.in1 (wipe σ (own.map (·.2))) (.GeneratorExp elt [⟨tg, iter, ifs, 0⟩] scope gpos) it a gn [] (eTill true fun b H => Q (.bl b) H) (fun _ H => Q (.bl (!true)) H)) M.inv (fun b hb => (M.fps b hb).1) I' af, rfl, q⟩
  · rw [M.gens]
    exact M.inv.bare.push rfl
  · show s5.gens[gn]? = _
    rw [M.gens, M.num]
    simp
  · exact M.inv.nolimit.keeps M.keep
end
/-- .. of two clauses -/
def tTill2 (e : Bool) (P : Addr) (wi : TI) (g : TG) (tt : TT) (wi1 : TI) (g1 : TG) (tt1 : TT) (te : TE) (vs vs1 : List Nat) : TE := fun σ H Q => wi σ H fun J H1 => TabG H1 P ∧ ∀ H2, Tabbed P H1 H2 →
  ∃ W : Nat → Nat → Hp → Prop, (∃ m, W 0 m H2) ∧ ∀ i m H, W i m H → (J.stop i H ∧ Q (.bl (!e)) H) ∨ (J.go i H ∧ ∀ x H', J.yld i H x H' → g x (wipe σ vs) H' fun σ2 H2 => wipe σ2 vs = wipe σ vs ∧ tt σ2 H2 fun b H3 => if b = true then wi1 σ2 H3 fun J1 H4 =>
      ∃ W1 : Nat → Nat → Hp → Prop, (∃ m1, m1 < m ∧ W1 0 m1 H4) ∧ ∀ i1 m1 H, W1 i1 m1 H → (J1.stop i1 H ∧ ∃ m', m' ≤ m1 ∧ m' < m ∧ W (i + 1) m' H) ∨ (J1.go i1 H ∧ ∃ N1 : Hp → Prop, (∀ H', N1 H' → ∃ m', m' < m1 ∧ W1 (i1 + 1) m' H') ∧
        ∀ x1 H', J1.yld i1 H x1 H' → g1 x1 (wipe σ2 vs1) H' fun σ3 H5 => wipe σ3 vs1 = wipe σ2 vs1 ∧ tt1 σ3 H5 fun b1 H6 => if b1 = true then te σ3 H6 fun y H7 => ∃ b, y = .bl b ∧ if b = e then Q (.bl e) H7 else N1 H7 else N1 H6)
    else ∃ m', m' < m ∧ W (i + 1) m' H3)
theorem tTill2_step {e : Bool} {J : It} {wi1 : TI} {g g1 : TG} {tt tt1 : TT} {te : TE} {vs vs1 : List Nat} {σ : L2.St} {Q : VK} {W : Nat → Nat → Hp → Prop}
    (h : ∀ i m H, W i m H → (J.stop i H ∧ Q (.bl (!e)) H) ∨ (J.go i H ∧ ∀ x H', J.yld i H x H' → g x (wipe σ vs) H' fun σ2 H2 => wipe σ2 vs = wipe σ vs ∧ tt σ2 H2 fun b H3 => if b = true then wi1 σ2 H3 fun J1 H4 =>
      ∃ W1 : Nat → Nat → Hp → Prop, (∃ m1, m1 < m ∧ W1 0 m1 H4) ∧ ∀ i1 m1 H, W1 i1 m1 H → (J1.stop i1 H ∧ ∃ m', m' ≤ m1 ∧ m' < m ∧ W (i + 1) m' H) ∨ (J1.go i1 H ∧ ∃ N1 : Hp → Prop, (∀ H', N1 H' → ∃ m', m' < m1 ∧ W1 (i1 + 1) m' H') ∧
        ∀ x1 H', J1.yld i1 H x1 H' → g1 x1 (wipe σ2 vs1) H' fun σ3 H5 => wipe σ3 vs1 = wipe σ2 vs1 ∧ tt1 σ3 H5 fun b1 H6 => if b1 = true then te σ3 H6 fun y H7 => ∃ b, y = .bl b ∧ if b = e then Q (.bl e) H7 else N1 H7 else N1 H6)
    else ∃ m', m' < m ∧ W (i + 1) m' H3)) (hmono : ∀ σ2 H3 (R R' : It → Hp → Prop), (∀ J H, R J H → R' J H) → wi1 σ2 H3 R → wi1 σ2 H3 R')
    (gm : ∀ v σ H (R R' : L2.St → Hp → Prop), (∀ σ H, R σ H → R' σ H) → g v σ H R → g v σ H R') (tm : ∀ σ H (R R' : Bool → Hp → Prop), (∀ b H, R b H → R' b H) → tt σ H R → tt σ H R') :
    GStep2 (fun i m _ H => W i m H) J g tt wi1 g1 tt1 te vs vs1 (wipe σ vs) (eTill e fun b H => Q (.bl b) H) (fun _ H => Q (.bl (!e)) H) := fun i m ys H w => by
  rcases h i m H w with z | ⟨go, st⟩
  · exact .inl z
  · refine .inr ⟨go, fun x H' y => gm _ _ _ _ _ (fun σ2 H2 q => ⟨q.1, tm _ _ _ _ (fun b H3 q2 => ?_) q.2⟩) (st x H' y)⟩
    cases b with
    | false => exact q2
    | true =>
      refine hmono _ _ _ _ (fun J1 H4 q3 => ?_) q2
      obtain ⟨W1, ⟨m1, h1, w1⟩, st1⟩ := q3
      refine ⟨fun i m _ H => W1 i m H, ⟨m1, h1, w1⟩, fun i1 m2 ys2 H5 w2 => ?_⟩
      rcases st1 i1 m2 H5 w2 with z | ⟨go1, N1, hN, s1⟩
      · exact .inl z
      · exact .inr ⟨go1, fun _ H => N1 H, fun _ H' n => hN H' n, s1⟩
section
variable {c P : Addr} {elt tg iter tg1 iter1 : Expr} {ifs ifs1 : List Expr} {scope : Scope} {own : List (Str × Nat)} {vs1 : List Nat} {p pos gpos : Pos} {wi wi1 : TI} {g g1 : TG} {tt tt1 : TT} {te : TE} {k : Nat}
/-- the places where the second clause's iterator is made -/
abbrev GPI (X : Cx) (k : Nat) (scope : Scope) (tg e : Expr) (t : TI) : Prop := ∀ (s : Shared) (H : Hp) (C : Addr) (cl : List (Str × Addr)) (code : Value) (fp : List Addr) (A : Around), Room k A → PI (gcx X s H (genEnv scope cl C code builtinsNs X.env) fp A) tg e t
theorem pe_anyG2 (hr : Room (k + 1) X.A) (hn : X.N.Nodup) (hgl : Gl X "any") (hm : X.mg "any" = none) (TB : LamX.TabB X.base X.mg c P) (hcode : X.env.code = .ref c) (G : GScp scope) (ok : BlkOk X.N X.env.scope scope own) (hvs : ∀ v ∈ vs1, v ∈ own.map (·.2)) (hi : PI X tg iter wi)
    (hg : GPG X k scope tg g) (ht : GPT X k scope ifs tt) (hi1 : GPI X k scope tg1 iter1 wi1) (hg1 : GPG X k scope tg1 g1) (ht1 : GPT X k scope ifs1 tt1) (he : GPE X k scope elt te)
    (hmono : ∀ σ2 H3 (R R' : It → Hp → Prop), (∀ J H, R J H → R' J H) → wi1 σ2 H3 R → wi1 σ2 H3 R') (gm : ∀ v σ H (R R' : L2.St → Hp → Prop), (∀ σ H, R σ H → R' σ H) → g v σ H R → g v σ H R') (tm : ∀ σ H (R R' : Bool → Hp → Prop), (∀ b H, R b H → R' b H) → tt σ H R → tt σ H R')
    (hb : bootBuiltins "any" = some (.builtin "any") := by first | rfl | decide +kernel) (hs : ∀ v, genFold iter X.env v = pure v := by intro _; rfl) (hs1 : ∀ (C : Addr) (cl : List (Str × Addr)) (code : Value) x, foldedSetIterable iter1 (genEnv scope cl C code builtinsNs X.env) x = pure x := by intro _ _ _ _; rfl)
    (hst : starEach [.GeneratorExp elt [⟨tg, iter, ifs, 0⟩, ⟨tg1, iter1, ifs1, 0⟩] scope gpos] X.env = (false, eval (.GeneratorExp elt [⟨tg, iter, ifs, 0⟩, ⟨tg1, iter1, ifs1, 0⟩] scope gpos) X.env) :: starEach [] X.env := by rfl) :
    PE X (.Call (.Name "any" p) [.GeneratorExp elt [⟨tg, iter, ifs, 0⟩, ⟨tg1, iter1, ifs1, 0⟩] scope gpos] [] pos) (tTill2 true P wi g tt wi1 g1 tt1 te (own.map (·.2)) vs1) := by
  refine ⟨fun pins s σ H Q I h => ?_⟩
  refine wpAny_Call_Name_kw (ld_blt I hgl hm hb ?_)
  refine PyProof.Rows.callWith_builtin1 ?_ hst (by rfl)
  rw [hst]
  show wpAny _ _ (spliced ((false, eval (.GeneratorExp elt [⟨tg, iter, ifs, 0⟩, ⟨tg1, iter1, ifs1, 0⟩] scope gpos) X.env) :: backTo pos (starEach [] X.env))) _ _ s
  refine Calls.spliced_cons (gen_made (R := fun J H1 => _) hr TB hcode G ok hi hs I h fun J H1 H2 s4 cenv fp it tn a gn s5 q tb M => ?_)
  refine Calls.spliced_nil (call_anyP M.isg ?_)
  obtain ⟨W, ⟨m, w0⟩, st⟩ := q H2 tb
  obtain ⟨code, hce⟩ := M.env
  subst hce
  obtain ⟨O, rd⟩ := gen_rdy2 (B := X.A.in1.in1) (Sx := []) hr (nearA2 _) G ok hn hvs M (fun A r => hg _ _ _ _ _ _ A r) (fun A r => ht _ _ _ _ _ _ A r) (fun A r => hi1 _ _ _ _ _ _ A r) (hs1 _ _ _) (fun A r => hg1 _ _ _ _ _ _ A r) (fun A r => ht1 _ _ _ _ _ _ A r) (fun A r => he _ _ _ _ _ _ A r) (fun b z => by cases z) eTill_mono (tTill2_step st hmono gm tm) m w0
  refine any_loop1 (Qd := fun b H => Q (.bl b) H) (Y := mkY X s4 H2 _ fp X.A.in1.in1 (wipe σ (own.map (·.2))) (.GeneratorExp elt [⟨tg, iter, ifs, 0⟩, ⟨tg1, iter1, ifs1, 0⟩] scope gpos) it a gn [] (eTill true fun b H => Q (.bl b) H) (fun _ H => Q (.bl (!true)) H)) O rfl rfl rfl rfl hr.hd hr.depth (fun k ps σ' H' s1 s2 I' af q => ?_) m [] H2 _ s5 s5 rd (Aft.refl ?_) M.isg ?_ ?_
  · exact ⟨.bl k, H', GEx.out (Y := mkY X s4 H2 _ fp X.A.in1.in1 (wipe σ (own.map (·.2))) (.GeneratorExp elt [⟨tg, iter, ifs, 0⟩, ⟨tg1, iter1, ifs1, 0⟩] scope gpos) it a gn [] (eTill true fun b H => Q (.bl b) H) (fun _ H => Q (.bl (!true)) H)) M.inv (fun b hb => (M.fps b hb).1) I' af, rfl, q⟩
  · rw [M.gens]
    exact M.inv.bare.push rfl
  · show s5.gens[gn]? = _
    rw [M.gens, M.num]
    simp
  · exact M.inv.nolimit.keeps M.keep
end
end

/-! ### the forms one uses -/
def gscpB (sc : Scope) : Bool := !sc.isCoroutine && decide (sc.kind = .function) && (sc.names.all fun y => !decide (y.2 = .cell)) && decide (sc.names.lookup (".0" : Str) = some NameKind.local)
theorem gscp_by {sc : Scope} (h : gscpB sc = true) : GScp sc := by
  unfold gscpB at h
  simp only [Bool.and_eq_true, Bool.not_eq_true', decide_eq_true_eq, List.all_eq_true, decide_eq_false_iff_not] at h
  obtain ⟨⟨⟨h1, h2⟩, h3⟩, h4⟩ := h
  exact ⟨h1, h2, h3, h4⟩
section
variable {e : Bool} {K : PySem.W.Frag} {a : Addr} {xs : List V} {g : TG} {tt : TT} {te : TE} {vs : List Nat} {σ : L2.St} {H2 : Hp} {Q : VK}
/-- over a list that the element leaves as it is -/
theorem till_list (Pv : Nat → Hp → Prop) (h0 : Pv 0 H2) (hl : ∀ i H, i ≤ xs.length → Pv i H → SqL K H a xs)
    (hs : ∀ i x H, xs[i]? = some x → Pv i H → g x (wipe σ vs) H fun σ2 H2 => wipe σ2 vs = wipe σ vs ∧ tt σ2 H2 fun b H3 => if b = true then te σ2 H3 fun y H4 => ∃ b, y = .bl b ∧ if b = e then Q (.bl e) H4 else Pv (i + 1) H4 else Pv (i + 1) H3) (hd : ∀ H, Pv xs.length H → Q (.bl (!e)) H) :
    ∃ W : Nat → Nat → Hp → Prop, (∃ m, W 0 m H2) ∧ ∀ i m H, W i m H → ((Itl K a).stop i H ∧ Q (.bl (!e)) H) ∨ ((Itl K a).go i H ∧ ∃ Nx : Hp → Prop, (∀ H', Nx H' → ∃ m', m' < m ∧ W (i + 1) m' H') ∧
      ∀ x H', (Itl K a).yld i H x H' → g x (wipe σ vs) H' fun σ2 H2 => wipe σ2 vs = wipe σ vs ∧ tt σ2 H2 fun b H3 => if b = true then te σ2 H3 fun y H4 => ∃ b, y = .bl b ∧ if b = e then Q (.bl e) H4 else Nx H4 else Nx H3) := by
  refine ⟨fun i m H => m = xs.length - i ∧ i ≤ xs.length ∧ Pv i H, ⟨xs.length, by simp, Nat.zero_le _, h0⟩, fun i m H w => ?_⟩
  obtain ⟨hm, hi, p⟩ := w
  have q := hl i H hi p
  rcases Nat.lt_or_ge i xs.length with z | z
  · refine .inr ⟨⟨xs, xs[i], q, by simp [z]⟩, Pv (i + 1), fun H' p' => ⟨xs.length - (i + 1), by omega, rfl, z, p'⟩, fun x H' y => ?_⟩
    obtain ⟨rfl, y⟩ := y
    exact hs i x _ (y xs q) p
  · obtain rfl : i = xs.length := by omega
    exact .inl ⟨⟨xs, q, Nat.le_refl _⟩, hd H p⟩
/-- over a tuple -/
theorem till_tup (Pv : Nat → Hp → Prop) (h0 : Pv 0 H2) (hl : ∀ i H, i ≤ xs.length → Pv i H → SqT K H a xs)
    (hs : ∀ i x H, xs[i]? = some x → Pv i H → g x (wipe σ vs) H fun σ2 H2 => wipe σ2 vs = wipe σ vs ∧ tt σ2 H2 fun b H3 => if b = true then te σ2 H3 fun y H4 => ∃ b, y = .bl b ∧ if b = e then Q (.bl e) H4 else Pv (i + 1) H4 else Pv (i + 1) H3) (hd : ∀ H, Pv xs.length H → Q (.bl (!e)) H) :
    ∃ W : Nat → Nat → Hp → Prop, (∃ m, W 0 m H2) ∧ ∀ i m H, W i m H → ((Itt K a).stop i H ∧ Q (.bl (!e)) H) ∨ ((Itt K a).go i H ∧ ∃ Nx : Hp → Prop, (∀ H', Nx H' → ∃ m', m' < m ∧ W (i + 1) m' H') ∧
      ∀ x H', (Itt K a).yld i H x H' → g x (wipe σ vs) H' fun σ2 H2 => wipe σ2 vs = wipe σ vs ∧ tt σ2 H2 fun b H3 => if b = true then te σ2 H3 fun y H4 => ∃ b, y = .bl b ∧ if b = e then Q (.bl e) H4 else Nx H4 else Nx H3) := by
  refine ⟨fun i m H => m = xs.length - i ∧ i ≤ xs.length ∧ Pv i H, ⟨xs.length, by simp, Nat.zero_le _, h0⟩, fun i m H w => ?_⟩
  obtain ⟨hm, hi, p⟩ := w
  have q := hl i H hi p
  rcases Nat.lt_or_ge i xs.length with z | z
  · refine .inr ⟨⟨xs, xs[i], q, by simp [z]⟩, Pv (i + 1), fun H' p' => ⟨xs.length - (i + 1), by omega, rfl, z, p'⟩, fun x H' y => ?_⟩
    obtain ⟨rfl, y⟩ := y
    exact hs i x _ (y xs q) p
  · obtain rfl : i = xs.length := by omega
    exact .inl ⟨⟨xs, q, Nat.le_refl _⟩, hd H p⟩
/-- two clauses, both over lists: the outer one -/
def W2 (n ny : Nat) (Pv : Nat → Hp → Prop) (i m : Nat) (H : Hp) : Prop := i ≤ n ∧ m = (n - i) * (ny + 2) ∧ Pv i H
variable {wi1 : TI} {g1 : TG} {tt1 : TT} {vs1 : List Nat} {ny : Nat}
theorem till2_list (ny : Nat) (Pv : Nat → Hp → Prop) (h0 : Pv 0 H2) (hl : ∀ i H, i ≤ xs.length → Pv i H → SqL K H a xs)
    (hs : ∀ i x H, i < xs.length → xs[i]? = some x → Pv i H → g x (wipe σ vs) H fun σ2 H2 => wipe σ2 vs = wipe σ vs ∧ tt σ2 H2 fun b H3 => if b = true then wi1 σ2 H3 fun J1 H4 =>
      ∃ W1 : Nat → Nat → Hp → Prop, (∃ m1, m1 < (xs.length - i) * (ny + 2) ∧ W1 0 m1 H4) ∧ ∀ i1 m1 H, W1 i1 m1 H → (J1.stop i1 H ∧ ∃ m', m' ≤ m1 ∧ m' < (xs.length - i) * (ny + 2) ∧ W2 xs.length ny Pv (i + 1) m' H) ∨ (J1.go i1 H ∧ ∃ N1 : Hp → Prop, (∀ H', N1 H' → ∃ m', m' < m1 ∧ W1 (i1 + 1) m' H') ∧
        ∀ x1 H', J1.yld i1 H x1 H' → g1 x1 (wipe σ2 vs1) H' fun σ3 H5 => wipe σ3 vs1 = wipe σ2 vs1 ∧ tt1 σ3 H5 fun b1 H6 => if b1 = true then te σ3 H6 fun y H7 => ∃ b, y = .bl b ∧ if b = e then Q (.bl e) H7 else N1 H7 else N1 H6)
      else ∃ m', m' < (xs.length - i) * (ny + 2) ∧ W2 xs.length ny Pv (i + 1) m' H3) (hd : ∀ H, Pv xs.length H → Q (.bl (!e)) H) :
    ∃ W : Nat → Nat → Hp → Prop, (∃ m, W 0 m H2) ∧ ∀ i m H, W i m H → ((Itl K a).stop i H ∧ Q (.bl (!e)) H) ∨ ((Itl K a).go i H ∧ ∀ x H', (Itl K a).yld i H x H' → g x (wipe σ vs) H' fun σ2 H2 => wipe σ2 vs = wipe σ vs ∧ tt σ2 H2 fun b H3 => if b = true then wi1 σ2 H3 fun J1 H4 =>
      ∃ W1 : Nat → Nat → Hp → Prop, (∃ m1, m1 < m ∧ W1 0 m1 H4) ∧ ∀ i1 m1 H, W1 i1 m1 H → (J1.stop i1 H ∧ ∃ m', m' ≤ m1 ∧ m' < m ∧ W (i + 1) m' H) ∨ (J1.go i1 H ∧ ∃ N1 : Hp → Prop, (∀ H', N1 H' → ∃ m', m' < m1 ∧ W1 (i1 + 1) m' H') ∧
        ∀ x1 H', J1.yld i1 H x1 H' → g1 x1 (wipe σ2 vs1) H' fun σ3 H5 => wipe σ3 vs1 = wipe σ2 vs1 ∧ tt1 σ3 H5 fun b1 H6 => if b1 = true then te σ3 H6 fun y H7 => ∃ b, y = .bl b ∧ if b = e then Q (.bl e) H7 else N1 H7 else N1 H6)
    else ∃ m', m' < m ∧ W (i + 1) m' H3) := by
  refine ⟨W2 xs.length ny Pv, ⟨_, Nat.zero_le _, rfl, h0⟩, fun i m H w => ?_⟩
  obtain ⟨hi, hm, p⟩ := w
  subst hm
  have q := hl i H hi p
  rcases Nat.lt_or_ge i xs.length with z | z
  · refine .inr ⟨⟨xs, xs[i], q, by simp [z]⟩, fun x H' y => ?_⟩
    obtain ⟨rfl, y⟩ := y
    exact hs i x _ z (y xs q) p
  · obtain rfl : i = xs.length := by omega
    exact .inl ⟨⟨xs, q, Nat.le_refl _⟩, hd H p⟩
/-- .. the inner one -/
theorem till2_in {n i : Nat} {b : Addr} {ys : List V} {σ2 : L2.St} {H4 : Hp} {Pv : Nat → Hp → Prop} (hi : i < n) (Pw : Nat → Hp → Prop) (h0 : Pw 0 H4) (hl : ∀ j H, j ≤ ys.length → Pw j H → SqL K H b ys)
    (hs : ∀ j x H, ys[j]? = some x → Pw j H → g1 x (wipe σ2 vs1) H fun σ3 H5 => wipe σ3 vs1 = wipe σ2 vs1 ∧ tt1 σ3 H5 fun b1 H6 => if b1 = true then te σ3 H6 fun y H7 => ∃ b, y = .bl b ∧ if b = e then Q (.bl e) H7 else Pw (j + 1) H7 else Pw (j + 1) H6) (hd : ∀ H, Pw ys.length H → Pv (i + 1) H) :
    ∃ W1 : Nat → Nat → Hp → Prop, (∃ m1, m1 < (n - i) * (ys.length + 2) ∧ W1 0 m1 H4) ∧ ∀ i1 m1 H, W1 i1 m1 H → ((Itl K b).stop i1 H ∧ ∃ m', m' ≤ m1 ∧ m' < (n - i) * (ys.length + 2) ∧ W2 n ys.length Pv (i + 1) m' H) ∨ ((Itl K b).go i1 H ∧ ∃ N1 : Hp → Prop, (∀ H', N1 H' → ∃ m', m' < m1 ∧ W1 (i1 + 1) m' H') ∧
        ∀ x1 H', (Itl K b).yld i1 H x1 H' → g1 x1 (wipe σ2 vs1) H' fun σ3 H5 => wipe σ3 vs1 = wipe σ2 vs1 ∧ tt1 σ3 H5 fun b1 H6 => if b1 = true then te σ3 H6 fun y H7 => ∃ b, y = .bl b ∧ if b = e then Q (.bl e) H7 else N1 H7 else N1 H6) := by
  have e1 : (n - i) * (ys.length + 2) = (n - (i + 1)) * (ys.length + 2) + (ys.length + 2) := by
    rw [show n - i = (n - (i + 1)) + 1 by omega, Nat.add_mul, Nat.one_mul]
  refine ⟨fun j m1 H => j ≤ ys.length ∧ m1 = (n - (i + 1)) * (ys.length + 2) + (ys.length - j) + 1 ∧ Pw j H, ⟨_, ?_, Nat.zero_le _, rfl, h0⟩, fun j m1 H w => ?_⟩
  · rw [e1]; omega
  · obtain ⟨hj, hm, p⟩ := w
    have q := hl j H hj p
    rcases Nat.lt_or_ge j ys.length with z | z
    · refine .inr ⟨⟨ys, ys[j], q, by simp [z]⟩, Pw (j + 1), fun H' p' => ⟨_, ?_, z, rfl, p'⟩, fun x H' y => ?_⟩
      · rw [hm]; omega
      · obtain ⟨rfl, y⟩ := y
        exact hs j x _ (y ys q) p
    · obtain rfl : j = ys.length := by omega
      exact .inl ⟨⟨ys, q, Nat.le_refl _⟩, (n - (i + 1)) * (ys.length + 2), by omega, by rw [e1]; omega, hi, rfl, hd H p⟩
end
theorem tYes_mono : ∀ (σ : L2.St) (H : Hp) (R R' : Bool → Hp → Prop), (∀ b H, R b H → R' b H) → tYes σ H R → tYes σ H R' := fun _ _ _ _ h q => h _ _ q
theorem gName_mono {i : Nat} : ∀ (v : V) (σ : L2.St) (H : Hp) (R R' : L2.St → Hp → Prop), (∀ σ H, R σ H → R' σ H) → gName i v σ H R → gName i v σ H R' := fun _ _ _ _ _ h q => h _ _ q
theorem iListV_mono {K : PySem.W.Frag} {i : Nat} : ∀ (σ : L2.St) (H : Hp) (R R' : It → Hp → Prop), (∀ J H, R J H → R' J H) → iList K (tVar i) σ H R → iList K (tVar i) σ H R' := fun _ _ _ _ h ⟨v, e, a, ea, s, q⟩ => ⟨v, e, a, ea, s, h _ _ q⟩
theorem yes_if {σ : L2.St} {H : Hp} {A B : Hp → Prop} (h : A H) : tYes σ H (fun b H3 => if b = true then A H3 else B H3) := by
  show (if true = true then A H else B H)
  exact (if_pos rfl).mpr h
end Sk

set_option Elab.async false
set_option linter.all false
set_option maxRecDepth 100000
set_option maxHeartbeats 4000000
namespace Sk
open PySem PySem.Spec PyProof.Rows L2 GenW GxR
/-! tables of code objects, and the end of a law with several of them -/
def Tabs (T : List Addr) (H : Hp) : Prop := ∀ P ∈ T, TabG H P
/-- all that stood stands, but the tables may have grown -/
structure SameT (T : List Addr) (H H' : Hp) : Prop where
  keep : ∀ b o, H b = some o → b ∉ T → H' b = some o
  tabs : Tabs T H → Tabs T H'
theorem SameT.refl (T : List Addr) (H : Hp) : SameT T H H := ⟨fun _ _ e _ => e, id⟩
theorem SameT.trans {T : List Addr} {H H1 H2 : Hp} (a : SameT T H H1) (b : SameT T H1 H2) : SameT T H H2 := ⟨fun c o e n => b.keep c o (a.keep c o e n) n, fun t => b.tabs (a.tabs t)⟩
theorem SameT.of {T : List Addr} {H H' : Hp} (s : Same H H') : SameT T H H' := ⟨fun c o e _ => s c o e, fun t P hP => by
  obtain ⟨ps, e, r⟩ := t P hP
  exact ⟨ps, s _ _ e, r⟩⟩
theorem SameT.tabbed {T : List Addr} {P : Addr} {H H' : Hp} (hP : P ∈ T) (t : Tabbed P H H') : SameT T H H' := ⟨fun c o e n => by
    rw [t.2 c fun z => n (by rw [z]; exact hP)]
    exact e, fun s Q hQ => by
    by_cases z : Q = P
    · rw [z]; exact t.1
    · obtain ⟨ps, e, r⟩ := s Q hQ
      exact ⟨ps, by rw [t.2 Q z]; exact e, r⟩⟩
theorem tabs_out {T : List Addr} {H : Hp} {a : Addr} {o : HO} (t : Tabs T H) (e : H a = some o) (n : ∀ ps, o ≠ .tbl ps) : a ∉ T := fun h => by
  obtain ⟨ps, e', _⟩ := t a h
  rw [e] at e'
  exact n ps (Option.some.inj e')
section
variable {T : List Addr} {H H' : Hp} {a : Addr}
theorem SameT.t {xs : List V} (s : SameT T H H') (t : Tabs T H) (e : H a = some (.tup xs)) : H' a = some (.tup xs) := s.keep a _ e (tabs_out t e fun ps z => by cases z)
theorem SameT.l {xs : List V} (s : SameT T H H') (t : Tabs T H) (e : H a = some (.lst xs)) : H' a = some (.lst xs) := s.keep a _ e (tabs_out t e fun ps z => by cases z)
theorem SameT.d {kvs : List (Key × V)} (s : SameT T H H') (t : Tabs T H) (e : H a = some (.dK kvs)) : H' a = some (.dK kvs) := s.keep a _ e (tabs_out t e fun ps z => by cases z)
theorem SameT.i {C d : Addr} {fs : List (Str × V)} (s : SameT T H H') (t : Tabs T H) (e : H a = some (.ins C d fs)) : H' a = some (.ins C d fs) := s.keep a _ e (tabs_out t e fun ps z => by cases z)
theorem Same.tabs (s : Same H H') (t : Tabs T H) : Tabs T H' := (SameT.of s).tabs t
theorem Keep.tabs {d : Addr} {kvs : List (Key × V)} (k : Keep d H H') (hd : H d = some (.dK kvs)) (t : Tabs T H) : Tabs T H' := fun P hP => by
  obtain ⟨ps, e, r⟩ := t P hP
  exact ⟨ps, k _ _ e (ne_of e hd (by intro z; cases z)), r⟩
theorem Tabs.new {p : Addr} {o : HO} (t : Tabs T H) (h : H p = none) : Tabs T (upd H p o) := Same.tabs (same_new h) t
theorem SameT.st1 {K : PySem.W.Frag} {d c : Addr} (s : SameT T H H') (t : Tabs T H) (S : St1 K H d c) : St1 K H' d c := by
  obtain ⟨ns, i, l, m, S⟩ := S
  exact ⟨ns, i, l, m, s.d t S.dc, s.l t S.cs, S.nn, S.i0, S.l0, S.m0, S.m1⟩
end
/-- a def whose code object is known -/
theorem okT {P : Program} {w : World} {K : PySem.W.Frag} {mg : Str → Option Value} {base : Heap} {x qual : Str} {st : Stmt} {f c : Addr} {fd : FuncData} {N ps : List Str} {k : Nat} {sp : Sp} (F : Fun K x qual st f fd) (hc : fd.code = .ref c) (S : FnScope N ps (defScope st)) (len : ∀ vs H Q E, sp vs H Q E → vs.length = ps.length)
    (hbody : ∀ (A : Around) (outer : List Env) (s : Shared) (H : Hp) (vs : List V) (Q : VK) (E : XK), Room k (A.deeper (envOfC qual (defScope st) s.heap.objs.size f (.ref c))) → sp vs H Q E →
      ∃ t, PSs (cxOf CX0 P w K mg base N qual (defScope st) f (.ref c) A outer s H E).nox (defBody st) t ∧ t { nx := fun _ H' => Q .non H', rt := Q } (start N vs) H) : FnOk P w K mg base CX0 (k + 1) f fd ps sp := by
  obtain ⟨oc, od, kV, doc, pm, an, cdv, ct, osl, rfl, lk, hcd⟩ := F.ex
  have e : cdv = .ref c := hc
  subst e
  refine fn_of lk hcd S len fun A outer s H vs Q E hr hsp => ?_
  obtain ⟨t, h, q⟩ := hbody A outer s H vs Q E hr hsp
  exact ⟨t, h.nox, q⟩
theorem walk_tabs {l : PySem.W.OpenLaw} {n k : Nat} {q : Program} {loose : List Str} {XP : (Str → Option Value) → Heap → Prop} {YP : World → Heap → Prop} {d : DefRec} {K : Params → PySem.W.Frag} {CX : World → CXT} {x : Str}
    (hn : l.most = some n) (hn2 : n ≤ sizeLine) (hdf : d.params.defaults = []) (hr : Room k callerA) (hY : ∀ (w : World) (h : Heap), YP w h → (K w.params).In h)
    (F : ∀ (w : World) (mg : Str → Option Value) (fa : Addr) (h : Heap), (K w.params).In h → h.Ns mainGlobals mg → mg d.name = some (.ref fa) →
      (∀ (y : Str) (e : DefRec) (c P : Addr), (recsOf q).find? (fun e => e.name == y) = some e → PySem.W.tabIn (K w.params) y = some (c, P) → PySem.W.CodeHd h c P ∧ h.get? P = some { cls := .none, data := .fields #[] }) → LamX.LawAtS l w (K w.params) (CX w) k n x mg fa h)
    (hCX : ∀ (w : World) (H : Hp) (s : Shared) (e : Value) (s' : Shared), CX w [] H s (fun _ _ _ => False) e s' → False) :
    PySem.W.WalkO q loose XP YP l.row.toRowW d [] (fun f vs => PySem.call f vs) := by
  refine Att.attach_callB hn hdf fun w s₀ s₁ mg mb fa o pm cd doc a vs ns G Y ho hd hcd hmg hobj hints hlen hbits hg => ?_
  have KX := hY w _ Y
  obtain ⟨fd, cs, sp, hT, nT, C, hb, hsp, hF⟩ := F w mg fa _ KX G.T.g hmg fun y e c P hf ht => PySem.W.tab_of G.T KX hf ht
  exact LamX.law_callTs KX G.T.g G.T.b G.T.builtins G.T.nolimit hg hT nT C G.T.bmain hobj hints (Nat.le_trans hlen hn2) hr hF hb (fun H hH hS => hsp H a ns hlen hbits hH hS) fun H e s' => hCX w H s₁ e s'
end Sk

set_option Elab.async false
set_option linter.all false
set_option maxRecDepth 100000
set_option maxHeartbeats 4000000
namespace Sk
open PySem PySem.Spec PyProof.Rows L2
/-! ### bounds -/
def BdN (n : Nat) (x : Int) : Prop := x.natAbs ≤ 2 ^ n
theorem BdN.mono {m n : Nat} {x : Int} (h : BdN m x) (hmn : m ≤ n) : BdN n x := Nat.le_trans h (Nat.pow_le_pow_right (by decide) hmn)
theorem BdN.mul {m n : Nat} {x y : Int} (h : BdN m x) (h' : BdN n y) : BdN (m + n) (x * y) := by
  unfold BdN at *
  rw [Int.natAbs_mul, Nat.pow_add]
  exact Nat.mul_le_mul h h'
theorem BdN.add {n : Nat} {x y : Int} (h : BdN n x) (h' : BdN n y) : BdN (n + 1) (x + y) := by
  unfold BdN at *
  rw [Nat.pow_succ]
  have := Int.natAbs_add_le x y
  omega
theorem BdN.sub {n : Nat} {x y : Int} (h : BdN n x) (h' : BdN n y) : BdN (n + 1) (x - y) := by
  unfold BdN at *
  rw [Nat.pow_succ]
  omega
theorem BdN.of {n : Nat} {x : Int} (h0 : -(2 ^ n : Nat) ≤ x) (h1 : x ≤ (2 ^ n : Nat)) : BdN n x := by
  unfold BdN
  omega
theorem wmB {m n : Nat} {x y : Int} (h : BdN m x) (h' : BdN n y) (hm : m < 2000) (hn : n < 2000) : CMulW x y :=
  wide_mul (a := 2000) (b := 2000) (Nat.lt_of_le_of_lt h (Nat.pow_lt_pow_right (by decide) hm)) (Nat.lt_of_le_of_lt h' (Nat.pow_lt_pow_right (by decide) hn)) (by decide) (by decide) (by decide)
/-! ### the plane -/
def trn (ax ay bx bw x y : Int) : Int := (bx - ax) * (y - ay) - (bw - ay) * (x - ax)
def dtp (ox oy ax ay bx bw : Int) : Int := (ax - ox) * (bx - ox) + (ay - oy) * (bw - oy)
/-- the square of the distance of a point from a segment, a fraction -/
def sqr (x y ax ay bx bw : Int) : Int × Int :=
  if (x - ax) * (bx - ax) + (y - ay) * (bw - ay) ≤ 0 then ((x - ax) * (x - ax) + (y - ay) * (y - ay), 1)
  else if (bx - ax) * (bx - ax) + (bw - ay) * (bw - ay) ≤ (x - ax) * (bx - ax) + (y - ay) * (bw - ay) then ((x - bx) * (x - bx) + (y - bw) * (y - bw), 1)
  else (trn ax ay bx bw x y * trn ax ay bx bw x y, (bx - ax) * (bx - ax) + (bw - ay) * (bw - ay))
def crs (ax ay bx bw cx cy dx dy : Int) : Bool := decide (trn ax ay bx bw cx cy * trn ax ay bx bw dx dy < 0) && decide (trn cx cy dx dy ax ay * trn cx cy dx dy bx bw < 0)
def sqs (ax ay bx bw cx cy dx dy : Int) : List (Int × Int) :=
  if crs ax ay bx bw cx cy dx dy = true then [(0, 1)] else [sqr ax ay cx cy dx dy, sqr bx bw cx cy dx dy, sqr cx cy ax ay bx bw, sqr dx dy ax ay bx bw]
/-- closer, from the enlarged ends -/
def cls (ax ay bx bw cx cy dx dy r : Int) : Bool := (sqs ax ay bx bw cx cy dx dy).any fun t => decide (t.1 < r * r * t.2)
structure Seg where
  ax : Int
  ay : Int
  bx : Int
  bw : Int
  d : Int
def clo (s t : Seg) (l : Int) : Bool := if l ≤ 0 then false else cls (s.ax * t.d) (s.ay * t.d) (s.bx * t.d) (s.bw * t.d) (t.ax * s.d) (t.ay * s.d) (t.bx * s.d) (t.bw * s.d) (l * s.d * t.d)
def Seg.tup (s : Seg) : HO := .tup [.int s.ax, .int s.ay, .int s.bx, .int s.bw, .int s.d]
structure SegBd (n m : Nat) (s : Seg) : Prop where
  ax : BdN n s.ax
  ay : BdN n s.ay
  bx : BdN n s.bx
  bw : BdN n s.bw
  d : BdN m s.d
/-! ### promises of the program's plane -/
/-- a segment's tuple * a factor -/
def spEnl : Sp := fun vs H Q _ => ∃ (a : Addr) (s : Seg) (f : Int), vs = [.ref a, .int f] ∧ H a = some s.tup ∧ SegBd 200 100 s ∧ BdN 100 f ∧ ∀ p, H p = none → Q (.ref p) (upd H p (.tup [.int (s.ax * f), .int (s.ay * f), .int (s.bx * f), .int (s.bw * f)]))
def spTurn : Sp := fun vs H Q _ => ∃ (a : Addr) (ax ay bx bw x y : Int), vs = [.ref a, .int x, .int y] ∧ H a = some (.tup [.int ax, .int ay, .int bx, .int bw]) ∧ BdN 300 ax ∧ BdN 300 ay ∧ BdN 300 bx ∧ BdN 300 bw ∧ BdN 300 x ∧ BdN 300 y ∧ Q (.int (trn ax ay bx bw x y)) H
def spParted : Sp := fun vs H Q _ => ∃ (a b : Addr) (ax ay bx bw cx cy dx dy : Int), vs = [.ref a, .ref b] ∧ H a = some (.tup [.int ax, .int ay, .int bx, .int bw]) ∧ H b = some (.tup [.int cx, .int cy, .int dx, .int dy]) ∧ (∀ z ∈ [ax, ay, bx, bw, cx, cy, dx, dy], BdN 300 z) ∧ Q (.bl (decide (trn ax ay bx bw cx cy * trn ax ay bx bw dx dy < 0))) H
def spCross : Sp := fun vs H Q _ => ∃ (a b : Addr) (ax ay bx bw cx cy dx dy : Int), vs = [.ref a, .ref b] ∧ H a = some (.tup [.int ax, .int ay, .int bx, .int bw]) ∧ H b = some (.tup [.int cx, .int cy, .int dx, .int dy]) ∧ (∀ z ∈ [ax, ay, bx, bw, cx, cy, dx, dy], BdN 300 z) ∧ Q (.bl (crs ax ay bx bw cx cy dx dy)) H
def spSquare : Sp := fun vs H Q _ => ∃ (a : Addr) (ax ay bx bw x y : Int), vs = [.int x, .int y, .ref a] ∧ H a = some (.tup [.int ax, .int ay, .int bx, .int bw]) ∧ BdN 300 ax ∧ BdN 300 ay ∧ BdN 300 bx ∧ BdN 300 bw ∧ BdN 300 x ∧ BdN 300 y ∧ ∀ p, H p = none → Q (.ref p) (upd H p (.tup [.int (sqr x y ax ay bx bw).1, .int (sqr x y ax ay bx bw).2]))
/-- the pairs stand at the addresses -/
def PairsAt (H : Hp) : List V → List (Int × Int) → Prop := fun vs ps => vs.length = ps.length ∧ ∀ (i : Nat) (t : Int × Int), ps[i]? = some t → ∃ p : Addr, vs[i]? = some (V.ref p) ∧ H p = some (.tup [.int t.1, .int t.2])
def segSqs (s t : Seg) : List (Int × Int) := sqs (s.ax * t.d) (s.ay * t.d) (s.bx * t.d) (s.bw * t.d) (t.ax * s.d) (t.ay * s.d) (t.bx * s.d) (t.bw * s.d)
def spSquares : Sp := fun vs H Q _ => ∃ (a b : Addr) (s t : Seg), vs = [.ref a, .ref b] ∧ H a = some s.tup ∧ H b = some t.tup ∧ SegBd 200 100 s ∧ SegBd 200 100 t ∧
  ∀ p H' xs, Same H H' → H' p = some (.lst xs) → PairsAt H' xs (segSqs s t) → Q (.ref p) H'
/-- closer; behind it the tables may have grown -/
def spCloser (TT : List Addr) : Sp := fun vs H Q _ => ∃ (a b : Addr) (s t : Seg) (l : Int), vs = [.ref a, .ref b, .int l] ∧ H a = some s.tup ∧ H b = some t.tup ∧ SegBd 200 100 s ∧ SegBd 200 100 t ∧ BdN 100 l ∧ Tabs TT H ∧
  ∀ H', SameT TT H H' → Q (.bl (clo s t l)) H'
def SegsAt (H : Hp) (vs : List V) (ss : List Seg) : Prop := vs.length = ss.length ∧ ∀ (i : Nat) (s : Seg), ss[i]? = some s → ∃ p : Addr, vs[i]? = some (V.ref p) ∧ H p = some s.tup ∧ SegBd 200 100 s
def spLines (K : PySem.W.Frag) (TT : List Addr) : Sp := fun vs H Q _ => ∃ (a b : Addr) (xs ys : List V) (ss ts : List Seg) (l : Int), vs = [.ref a, .ref b, .int l] ∧ H a = some (.lst xs) ∧ H b = some (.lst ys) ∧ SegsAt H xs ss ∧ SegsAt H ys ts ∧ BdN 100 l ∧ Tabs TT H ∧
  ∀ H', SameT TT H H' → Q (.bl (ss.any fun s => ts.any fun t => clo s t l)) H'
theorem sqr_bd {x y ax ay bx bw : Int} (h1 : BdN 300 ax) (h2 : BdN 300 ay) (h3 : BdN 300 bx) (h4 : BdN 300 bw) : BdN 1300 (sqr x y ax ay bx bw).2 := by
  unfold sqr
  split
  · exact BdN.of (by have : (0:Nat) < 2 ^ 1300 := Nat.pow_pos (by decide); omega) (by have : (1:Nat) ≤ 2 ^ 1300 := Nat.one_le_two_pow; show (1 : Int) ≤ _; omega)
  · split
    · exact BdN.of (by have : (0:Nat) < 2 ^ 1300 := Nat.pow_pos (by decide); omega) (by have : (1:Nat) ≤ 2 ^ 1300 := Nat.one_le_two_pow; show (1 : Int) ≤ _; omega)
    · exact (((h3.sub h1).mul (h3.sub h1)).add ((h4.sub h2).mul (h4.sub h2))).mono (by decide)
theorem segSqs_bd {s t : Seg} (hs : SegBd 200 100 s) (ht : SegBd 200 100 t) : ∀ u ∈ segSqs s t, BdN 1300 u.2 := by
  have e1 : ∀ {x y : Int}, BdN 200 x → BdN 100 y → BdN 300 (x * y) := fun h h' => h.mul h'
  intro u hu
  unfold segSqs sqs at hu
  split at hu
  · rw [List.mem_singleton.mp hu]
    exact BdN.of (by have : (0:Nat) < 2 ^ 1300 := Nat.pow_pos (by decide); omega) (by have : (1:Nat) ≤ 2 ^ 1300 := Nat.one_le_two_pow; show (1 : Int) ≤ _; omega)
  · simp only [List.mem_cons, List.not_mem_nil, or_false] at hu
    rcases hu with rfl | rfl | rfl | rfl
    · exact sqr_bd (e1 ht.ax hs.d) (e1 ht.ay hs.d) (e1 ht.bx hs.d) (e1 ht.bw hs.d)
    · exact sqr_bd (e1 ht.ax hs.d) (e1 ht.ay hs.d) (e1 ht.bx hs.d) (e1 ht.bw hs.d)
    · exact sqr_bd (e1 hs.ax ht.d) (e1 hs.ay ht.d) (e1 hs.bx ht.d) (e1 hs.bw ht.d)
    · exact sqr_bd (e1 hs.ax ht.d) (e1 hs.ay ht.d) (e1 hs.bx ht.d) (e1 hs.bw ht.d)
end Sk

set_option Elab.async false
set_option linter.all false
set_option maxRecDepth 100000
set_option maxHeartbeats 4000000
namespace Sk
open PySem PySem.Spec PyProof.Rows L2
/-! ### the law's own comparison is the program's -/
def ptc (px py ax ay bx bw r2 : Int) : Bool :=
  if dtp ax ay bx bw px py ≤ 0 then decide (dtp ax ay px py px py < r2)
  else if dtp ax ay bx bw bx bw ≤ dtp ax ay bx bw px py then decide (dtp bx bw px py px py < r2)
  else decide (trn ax ay bx bw px py * trn ax ay bx bw px py < r2 * dtp ax ay bx bw bx bw)
theorem ptc_eq (px py ax ay bx bw r2 : Int) : ptc px py ax ay bx bw r2 = decide ((sqr px py ax ay bx bw).1 < r2 * (sqr px py ax ay bx bw).2) := by
  unfold ptc sqr dtp
  have e1 : (bx - ax) * (px - ax) + (bw - ay) * (py - ay) = (px - ax) * (bx - ax) + (py - ay) * (bw - ay) := by grind
  rw [e1]
  by_cases c1 : (px - ax) * (bx - ax) + (py - ay) * (bw - ay) ≤ 0
  · rw [if_pos c1, if_pos c1, Int.mul_one]
  · rw [if_neg c1, if_neg c1]
    by_cases c2 : (bx - ax) * (bx - ax) + (bw - ay) * (bw - ay) ≤ (px - ax) * (bx - ax) + (py - ay) * (bw - ay)
    · rw [if_pos c2, if_pos c2, Int.mul_one]
    · rw [if_neg c2, if_neg c2]
theorem sqself {x : Int} (h : x * x = 0) : x = 0 := by
  rcases Int.mul_eq_zero.mp h with z | z <;> exact z
theorem sqr_turn (x y ax ay bx bw : Int) : sqr x y bx bw ax ay = sqr x y ax ay bx bw := by
  unfold sqr
  have e1 : (x - bx) * (ax - bx) + (y - bw) * (ay - bw) = ((bx - ax) * (bx - ax) + (bw - ay) * (bw - ay)) - ((x - ax) * (bx - ax) + (y - ay) * (bw - ay)) := by grind
  have e2 : (ax - bx) * (ax - bx) + (ay - bw) * (ay - bw) = (bx - ax) * (bx - ax) + (bw - ay) * (bw - ay) := by grind
  have e3 : trn bx bw ax ay x y * trn bx bw ax ay x y = trn ax ay bx bw x y * trn ax ay bx bw x y := by unfold trn; grind
  have n1 := sq0 (bx - ax)
  have n2 := sq0 (bw - ay)
  rw [e1, e2, e3]
  have h0 : (bx - ax) * (bx - ax) + (bw - ay) * (bw - ay) = 0 → bx = ax ∧ bw = ay := fun z => by
    have a := sqself (show (bx - ax) * (bx - ax) = 0 by omega)
    have b := sqself (show (bw - ay) * (bw - ay) = 0 by omega)
    omega
  generalize hA : (x - ax) * (bx - ax) + (y - ay) * (bw - ay) = A
  generalize hL : (bx - ax) * (bx - ax) + (bw - ay) * (bw - ay) = L at *
  by_cases c1 : A ≤ 0
  · by_cases c2 : L ≤ A
    · obtain ⟨rfl, rfl⟩ := h0 (by omega)
      rw [if_pos (by omega), if_pos c1]
    · rw [if_neg (by omega), if_pos (by omega), if_pos c1]
  · by_cases c2 : L ≤ A
    · rw [if_pos (by omega), if_neg c1, if_pos c2]
    · rw [if_neg (by omega), if_neg (by omega), if_neg c1, if_neg c2]
theorem cls_swap (ax ay bx bw cx cy dx dy r : Int) : cls cx cy dx dy ax ay bx bw r = cls ax ay bx bw cx cy dx dy r := by
  unfold cls sqs
  have e : crs cx cy dx dy ax ay bx bw = crs ax ay bx bw cx cy dx dy := by unfold crs; exact Bool.and_comm _ _
  rw [e]
  by_cases c : crs ax ay bx bw cx cy dx dy = true
  · rw [if_pos c, if_pos c]
  · rw [if_neg c, if_neg c]
    simp only [List.any_cons, List.any_nil, Bool.or_false]
    cases decide ((sqr ax ay cx cy dx dy).1 < r * r * (sqr ax ay cx cy dx dy).2) <;> cases decide ((sqr bx bw cx cy dx dy).1 < r * r * (sqr bx bw cx cy dx dy).2) <;> cases decide ((sqr cx cy ax ay bx bw).1 < r * r * (sqr cx cy ax ay bx bw).2) <;> cases decide ((sqr dx dy ax ay bx bw).1 < r * r * (sqr dx dy ax ay bx bw).2) <;> rfl
theorem cls_turn (ax ay bx bw cx cy dx dy r : Int) : cls bx bw ax ay cx cy dx dy r = cls ax ay bx bw cx cy dx dy r := by
  unfold cls sqs
  have t1 : ∀ x y, trn bx bw ax ay x y = - trn ax ay bx bw x y := fun x y => by unfold trn; grind
  have e : crs bx bw ax ay cx cy dx dy = crs ax ay bx bw cx cy dx dy := by
    unfold crs
    rw [t1, t1, Int.neg_mul_neg, Int.mul_comm (trn cx cy dx dy bx bw)]
  rw [e, sqr_turn cx cy, sqr_turn dx dy]
  by_cases c : crs ax ay bx bw cx cy dx dy = true
  · rw [if_pos c, if_pos c]
  · rw [if_neg c, if_neg c]
    simp only [List.any_cons, List.any_nil, Bool.or_false]
    cases decide ((sqr ax ay cx cy dx dy).1 < r * r * (sqr ax ay cx cy dx dy).2) <;> cases decide ((sqr bx bw cx cy dx dy).1 < r * r * (sqr bx bw cx cy dx dy).2) <;> rfl
theorem clo_swap (s t : Seg) (l : Int) : clo t s l = clo s t l := by
  unfold clo
  rw [cls_swap, show l * t.d * s.d = l * s.d * t.d by ac_rfl]
def Seg.turn (s : Seg) : Seg := ⟨s.bx, s.bw, s.ax, s.ay, s.d⟩
theorem clo_turn (s t : Seg) (l : Int) : clo s.turn t l = clo s t l := by
  unfold clo Seg.turn
  dsimp only
  rw [cls_turn]
/-- as the law has it -/
def lclo (s t : Seg) (l : Int) : Bool :=
  (decide (0 < l * l * s.d * s.d * t.d * t.d) && crs (s.ax * t.d) (s.ay * t.d) (s.bx * t.d) (s.bw * t.d) (t.ax * s.d) (t.ay * s.d) (t.bx * s.d) (t.bw * s.d)) ||
  (ptc (s.ax * t.d) (s.ay * t.d) (t.ax * s.d) (t.ay * s.d) (t.bx * s.d) (t.bw * s.d) (l * l * s.d * s.d * t.d * t.d) || ptc (s.bx * t.d) (s.bw * t.d) (t.ax * s.d) (t.ay * s.d) (t.bx * s.d) (t.bw * s.d) (l * l * s.d * s.d * t.d * t.d) ||
   (ptc (t.ax * s.d) (t.ay * s.d) (s.ax * t.d) (s.ay * t.d) (s.bx * t.d) (s.bw * t.d) (l * l * s.d * s.d * t.d * t.d) || ptc (t.bx * s.d) (t.bw * s.d) (s.ax * t.d) (s.ay * t.d) (s.bx * t.d) (s.bw * t.d) (l * l * s.d * s.d * t.d * t.d)))
theorem sqr_nn (x y ax ay bx bw : Int) : 0 ≤ (sqr x y ax ay bx bw).1 ∧ 0 ≤ (sqr x y ax ay bx bw).2 := by
  unfold sqr
  have a1 := sq0 (x - ax); have a2 := sq0 (y - ay); have a3 := sq0 (x - bx); have a4 := sq0 (y - bw); have a5 := sq0 (bx - ax); have a6 := sq0 (bw - ay); have a7 := sq0 (trn ax ay bx bw x y)
  split
  · exact ⟨by dsimp only; omega, by dsimp only; omega⟩
  · split
    · exact ⟨by dsimp only; omega, by dsimp only; omega⟩
    · exact ⟨by dsimp only; omega, by dsimp only; omega⟩
theorem lclo_eq {s t : Seg} {l : Int} (hl : 0 ≤ l) (hs : 1 ≤ s.d) (ht : 1 ≤ t.d) : lclo s t l = clo s t l := by
  unfold lclo clo
  simp only [ptc_eq]
  have er : l * s.d * t.d * (l * s.d * t.d) = l * l * s.d * s.d * t.d * t.d := by ac_rfl
  by_cases c : l ≤ 0
  · rw [if_pos c]
    obtain rfl : l = 0 := by omega
    simp only [Int.zero_mul]
    have z : ∀ x y ax ay bx bw, decide ((sqr x y ax ay bx bw).1 < 0) = false := fun x y ax ay bx bw => decide_eq_false (by have := (sqr_nn x y ax ay bx bw).1; omega)
    simp only [z]
    rfl
  · rw [if_neg c]
    have hp : 0 < l * l * s.d * s.d * t.d * t.d := by
      rw [← er]
      have h1 : 0 < l * s.d * t.d := Int.mul_pos (Int.mul_pos (by omega) (by omega)) (by omega)
      exact Int.mul_pos h1 h1
    unfold cls sqs
    rw [er, decide_eq_true hp, Bool.true_and]
    by_cases cc : crs (s.ax * t.d) (s.ay * t.d) (s.bx * t.d) (s.bw * t.d) (t.ax * s.d) (t.ay * s.d) (t.bx * s.d) (t.bw * s.d) = true
    · rw [if_pos cc, cc, Bool.true_or]
      simp only [List.any_cons, List.any_nil, Bool.or_false]
      symm
      exact decide_eq_true (by omega)
    · rw [if_neg cc]
      have cf : crs (s.ax * t.d) (s.ay * t.d) (s.bx * t.d) (s.bw * t.d) (t.ax * s.d) (t.ay * s.d) (t.bx * s.d) (t.bw * s.d) = false := by simpa using cc
      rw [cf, Bool.false_or]
      simp only [List.any_cons, List.any_nil, Bool.or_false, Bool.or_assoc]
end Sk

set_option Elab.async false
set_option linter.all false
set_option maxRecDepth 100000
set_option maxHeartbeats 4000000
namespace Sk
open PySem PySem.Spec PyProof.Rows L2 GenW GxR
/-! min over a generator expression whose element may call own defs -/
/-- the least of some -/
def mins : List Int → Int
  | [] => 0
  | z :: zs => zs.foldl (fun b z => if z < b then z else b) z
theorem mins_app {zs : List Int} {z : Int} (h : zs ≠ []) : mins (zs ++ [z]) = if z < mins zs then z else mins zs := by
  cases zs with
  | nil => exact absurd rfl h
  | cons y ys =>
    show (ys ++ [z]).foldl _ y = _
    rw [List.foldl_append]
    rfl
theorem mins_spec : ∀ {zs : List Int}, zs ≠ [] → mins zs ∈ zs ∧ ∀ z ∈ zs, mins zs ≤ z := by
  have go : ∀ (ys : List Int) (y : Int), ((ys.foldl (fun b z => if z < b then z else b) y) = y ∨ (ys.foldl (fun b z => if z < b then z else b) y) ∈ ys) ∧ (ys.foldl (fun b z => if z < b then z else b) y) ≤ y ∧ ∀ z ∈ ys, (ys.foldl (fun b z => if z < b then z else b) y) ≤ z := by
    intro ys
    induction ys with
    | nil => intro y; exact ⟨.inl rfl, Int.le_refl _, fun _ h => nomatch h⟩
    | cons x ys ih =>
      intro y
      obtain ⟨a, b, c⟩ := ih (if x < y then x else y)
      show (ys.foldl _ (if x < y then x else y) = y ∨ ys.foldl _ (if x < y then x else y) ∈ x :: ys) ∧ ys.foldl _ (if x < y then x else y) ≤ y ∧ _
      refine ⟨?_, Int.le_trans b (by split <;> omega), fun z hz => ?_⟩
      · rcases a with a | a
        · rw [a]
          split
          · exact .inr List.mem_cons_self
          · exact .inl rfl
        · exact .inr (List.mem_cons_of_mem _ a)
      · rcases List.mem_cons.mp hz with rfl | hz
        · exact Int.le_trans b (by split <;> omega)
        · exact c z hz
  intro zs h
  cases zs with
  | nil => exact absurd rfl h
  | cons y ys =>
    obtain ⟨a, b, c⟩ := go ys y
    refine ⟨?_, fun z hz => ?_⟩
    · rcases a with a | a
      · show ys.foldl _ y ∈ _
        rw [a]; exact List.mem_cons_self
      · exact List.mem_cons_of_mem _ a
    · rcases List.mem_cons.mp hz with rfl | hz
      · exact b
      · exact c z hz
/-- every value is a number -/
def eInt : Eats := fun _ y _ go => (∃ z, y = .int z) ∧ go
theorem eInt_mono : EatsMono eInt := fun _ _ _ _ _ f h => ⟨h.1, f h.2⟩
theorem int_inj {xs ys : List Int} (h : xs.map V.int = ys.map V.int) : xs = ys := (List.map_inj_right (fun a b e => V.int.inj e)).mp h
section
variable {Y : GEx} {σ : L2.St} {H : Hp} {s s0 s1 : Shared}
/-- the frame's state goes past what the consumer did -/
theorem GEx.Ok.past (O : Y.Ok) (I : Inv Y.Xg (Y.pn s0) σ H s) (there : ∀ b ∈ Y.a :: Y.Sx, ∃ o, s0.heap.get? b = some o) (A : Aft Y.Sx s s1) : Inv Y.Xg [] σ H s1 := by
  have hT : ∀ b ∈ Y.a :: Y.Sx, H b = none := fun b hb => by
    obtain ⟨o, e⟩ := there b hb
    exact (O.pinned I hb e).2
  have I0 : Inv Y.Xg [] σ H s := I.pins_of fun p hp => absurd (show p ∈ ([] : List (Addr × Obj)) ++ [] from hp) (by simp)
  have nt : ∀ b u, H b = some u → b ∉ Y.Sx := fun b u q hb => by rw [hT b (List.mem_cons_of_mem _ hb)] at q; cases q
  obtain ⟨z1, z2, z3, z4⟩ := A
  obtain ⟨hh, g', d, t, o⟩ := s1
  have ho : o = s.os := z1
  subst ho
  refine I0.step (h' := hh) (g' := g') (t' := t) (d' := d) (ch := Y.Sx) (fun b hb => ?_) (fun b ob _ _ hc q _ => z3 b ob hc q) (fun b ob _ _ hc q _ => ⟨ob.slots, z3 b ob hc q⟩)
      (fun _ _ _ _ n => n) (fun b ob hc q => ⟨ob, z3 b ob hc q⟩) (fun _ _ q => q) (fun _ _ _ q => q) (fun b ps q => ⟨#[], by rw [q]; simp⟩) (fun m hm => ?_) (fun b u q => ?_) z2
  · have h1 := O.new b (List.mem_cons_of_mem _ hb)
    refine ⟨.inr (Nat.le_of_lt h1), fun z => ?_, fun y c e z => ?_, fun p hp => absurd (show p ∈ ([] : List (Addr × Obj)) ++ [] from hp) (by simp)⟩
    · have z : b = Y.cenv.locals := z
      rw [z, O.loc] at h1
      exact Nat.lt_irrefl _ h1
    · have h2 := O.cel y c e
      rw [z] at h2
      exact Nat.lt_irrefl _ (Nat.lt_trans h1 h2)
  · obtain ⟨ob, es, ep, ho, r⟩ := hm
    refine ⟨ob, es, ep, z3 _ ob (fun hb => ?_) ho, r⟩
    have h1 := O.new _ (List.mem_cons_of_mem _ hb)
    have h1 : Y.s4.heap.objs.size < Y.cenv.locals := h1
    rw [O.loc] at h1
    exact Nat.lt_irrefl _ h1
  · refine (I0.hok b u q).stay (fun c v hc y => z3 c v ?_ y) (fun _ y => y) fun _ _ y => y
    rcases hc with y | y
    · rw [y]; exact nt b u q
    · exact nt c _ y
end
abbrev bestL (vs : Array Value) (c : Nat) : Obj := { cls := .type "list", dict := none, data := .seq vs c, slots := #[] }
section
variable {Y : GEx} {A : Around} {R : Result → Shared → Prop} {Qd : Int → Hp → Prop} {S : Addr}
theorem aft_put {s1 s2 : Shared} {x y : Array Value} {c : Nat} (hos : s2.os = s1.os) (hb : AllBare s2.gens) (e : s1.heap.get? S = some (bestL x c)) (hh : s2.heap = s1.heap.update S (Obj.mapSeq fun _ => y)) : Aft [S] s1 s2 := by
  refine ⟨hos, hb, fun b o n e' => ?_, fun b hb => ?_⟩
  · rw [hh]
    exact (Heap.get?_update_other _ _ (fun h : S = b => n (by rw [h]; exact List.mem_singleton.mpr rfl))).trans e'
  · rw [List.mem_singleton.mp hb, hh, Heap.get?_update_self _ e rfl]
    exact ⟨_, rfl, fun v z => by cases z⟩
theorem aft_id {s1 s2 : Shared} {x : Array Value} {c : Nat} (hos : s2.os = s1.os) (hb : AllBare s2.gens) (e : s1.heap.get? S = some (bestL x c)) (hh : s2.heap = s1.heap) : Aft [S] s1 s2 := by
  refine ⟨hos, hb, fun b o n e' => by rw [hh]; exact e', fun b hb => ?_⟩
  rw [List.mem_singleton.mp hb, hh, e]
  exact ⟨_, rfl, fun v z => by cases z⟩
theorem min_loop1 (O : Y.Ok) (hB : Y.B = A.in1.in1) (hS : Y.Sx = [S]) (hC : Y.C = eInt) (hF : Y.F = fun ys H => ∃ zs, ys = zs.map V.int ∧ zs ≠ [] ∧ Qd (mins zs) H) (hh : A.handled = none) (hroom : A.depth < recursionLimit)
    (hR : ∀ k t σ' H' s1, Inv Y.Xg [] σ' H' s1 → Qd k H' → R (.ok (.ret (.int k t))) s1) : ∀ (n : Nat) (zs : List Int) (H : Hp) (gs : GenState) (sp s : Shared) (t : Tok) (c : Nat), zs ≠ [] → Y.Rdy n (zs.map V.int) H gs sp → Aft Y.Sx sp s → s.heap.IsGen Y.a Y.g → s.gens[Y.g]? = some gs → s.heap.NoLimit →
      s.heap.get? S = some (bestL #[.int (mins zs) t, .int (mins zs) t] c) → codeAny Y.M A (.builtin "min.loop" ⟨[.ref Y.a, .none, .ref S], []⟩) R s := by
  have hname : (toString "min" ++ toString ".loop" : String) = "min.loop" := by decide
  have hSm : S ∈ Y.a :: Y.Sx := by rw [hS]; simp
  have main : ∀ (n : Nat) (zs : List Int) (H : Hp) (gs : GenState) (sp s : Shared) (t : Tok) (c : Nat), zs ≠ [] → Y.Rdy n (zs.map V.int) H gs sp → Aft Y.Sx sp s → s.heap.IsGen Y.a Y.g → s.gens[Y.g]? = some gs → s.heap.NoLimit →
      s.heap.get? S = some (bestL #[.int (mins zs) t, .int (mins zs) t] c) →
      (∀ (zs' : List Int) (H' : Hp) (gs' : GenState) (sp' s' : Shared) (t' : Tok) (c' : Nat), zs' ≠ [] → Y.Rp n (zs'.map V.int) H' gs' sp' → Aft Y.Sx sp' s' → s'.heap.IsGen Y.a Y.g → s'.gens[Y.g]? = some gs' → s'.heap.NoLimit →
        s'.heap.get? S = some (bestL #[.int (mins zs') t', .int (mins zs') t'] c') → codeAny Y.M A (.builtin "min.loop" ⟨[.ref Y.a, .none, .ref S], []⟩) R s') → codeAny Y.M A (.builtin "min.loop" ⟨[.ref Y.a, .none, .ref S], []⟩) R s := by
    intro n zs H gs sp s t c hne rd af hg hgs nl hSo ih
    have there : ∀ b ∈ Y.a :: Y.Sx, ∃ o, s.heap.get? b = some o := fun b hb => by
      rcases List.mem_cons.mp hb with z | z
      · obtain ⟨o, n1, n2, e, r⟩ := hg
        exact ⟨o, by rw [z]; exact e⟩
      · rw [hS] at z
        exact ⟨_, by rw [List.mem_singleton.mp z]; exact hSo⟩
    refine codeAny_builtin F.entry_min_loop ?_
    rw [Around.under_plainId F.plain_min_loop _]
    show wpAny _ A.in1 (seqItems? (.ref S) >>= _) _ _ s
    refine wpAny_bind (wpAny_seqItems hSo rfl ?_)
    show wpAny _ A.in1 (tryCatch (pyNext (.ref Y.a)) _ >>= _) _ _ s
    refine wpAny_bind (wpAny_tryCatch (GEx.next O hB hh hroom nl rd af hg hgs (Array.getElem?_eq_some_iff.mp hgs).1 (fun σ' H' s1 s2 I f a => ?_) fun v y σ' H' s1 gs' I r cc hb hsz => ?_))
    · rw [hF] at f
      obtain ⟨zs', ez, _, f⟩ := f
      obtain rfl := int_inj ez
      have e1 := (O.pinned I hSm hSo).1
      have e2 := a.keep _ _ (by simp) e1
      show wpAny _ A.in1 (updateSeq S (fun _ => #[]) >>= _) _ _ _
      refine wpAny_bind ?_
      refine wpAny_updateSeq e2 rfl (wpAny_bind (wpAny_letGo (wpAny_pure ?_)))
      refine hR _ t σ' H' _ (O.past I there ?_) f
      rw [hS]
      refine ⟨a.os, a.bare, fun b o n e' => ?_, fun b hb => ?_⟩
      · exact (Heap.get?_update_other _ _ (fun h : S = b => n (by rw [h]; exact List.mem_singleton.mpr rfl))).trans (a.keep _ _ (by simp) e')
      · rw [List.mem_singleton.mp hb]
        exact ⟨_, Heap.get?_update_self _ e2 rfl, fun v z => by cases z⟩
    · rw [hC] at cc
      obtain ⟨⟨z, rfl⟩, cc⟩ := cc
      obtain ⟨t', rfl⟩ : ∃ t', v = .int z t' := r
      have e1 := (O.pinned I hSm hSo).1
      have e2 : (s1.setGen Y.g gs').heap.get? S = _ := e1
      rw [show zs.map V.int ++ [V.int z] = (zs ++ [z]).map V.int by rw [List.map_append]; rfl] at cc
      have hg1 : (s1.setGen Y.g gs').heap.IsGen Y.a Y.g := by
        obtain ⟨o, n1, n2, e, r⟩ := hg
        exact ⟨o, n1, n2, (O.pinned I List.mem_cons_self e).1, r⟩
      have hgs1 := setGen_at (x := gs') (Nat.lt_of_lt_of_le (Array.getElem?_eq_some_iff.mp hgs).1 hsz)
      have hna : S ≠ Y.a := fun z => O.aS (by rw [← z, hS]; simp)
      show wpAny _ A.in1 (tryCatch (holding [.int z t', .int z t'] (richCompare .Lt (.int z t') (.int (mins zs) t) >>= _)) _ >>= _) _ _ _
      refine wpAny_bind (wpAny_tryCatch (wpAny_holding (wpAny_bind (CmpOf.ints_lt (P := fun j v => ∃ t, v = .int (if j = 0 then z else mins zs) t) (fun j => if j = 0 then z else mins zs) (fun j v h => h) 0 1 _ _ _ _ _ ⟨t', rfl⟩ ⟨t, rfl⟩ ?_))))
      refine wpAny_bind (wpAny_holding (wpAny_truthy_bool ?_))
      refine wpAny_bind (wpAny_letGo (wpAny_pure ?_))
      have em := mins_app (z := z) hne
      show wpAny _ A.in1 (if decide (z < mins zs) = true then _ else _) _ _ _
      by_cases hlt : z < mins zs
      · rw [if_pos (decide_eq_true hlt)]
        rw [if_pos hlt] at em
        refine wpAny_bind ?_
        refine wpAny_updateSeq e2 rfl (wpAny_bind (wpAny_letGo ?_))
        rw [hname]
        refine wpAny_pure ⟨plainId_quiet F.plain_min_loop _, ih (zs ++ [z]) H' gs' s1 _ t' c (by simp) cc ?_ ?_ hgs1 ?_ ?_⟩
        · rw [hS]
          exact aft_put (s2 := { (s1.setGen Y.g gs') with heap := s1.heap.update S (Obj.mapSeq fun _ => #[Value.int z t', Value.int z t']) }) rfl (allBare_setGen I.bare hb) e1 rfl
        · obtain ⟨o, n1, n2, e, r⟩ := hg1
          exact ⟨o, n1, n2, (Heap.get?_update_other _ _ hna).trans e, r⟩
        · exact (O.past (s1 := { (s1.setGen Y.g gs') with heap := s1.heap.update S (Obj.mapSeq fun _ => #[Value.int z t', Value.int z t']) }) I there (by rw [hS]; exact aft_put rfl (allBare_setGen I.bare hb) e1 rfl)).nolimit
        · rw [em]
          exact Heap.get?_update_self _ e2 rfl
      · rw [if_neg (by rw [decide_eq_false hlt]; exact Bool.false_ne_true)]
        rw [if_neg hlt] at em
        refine wpAny_bind (wpAny_letGo ?_)
        rw [hname]
        refine wpAny_pure ⟨plainId_quiet F.plain_min_loop _, ih (zs ++ [z]) H' gs' s1 _ t c (by simp) cc ?_ hg1 hgs1 I.nolimit ?_⟩
        · rw [hS]
          exact aft_id rfl (allBare_setGen I.bare hb) e1 rfl
        · rw [em]
          exact e2
  intro n
  induction n with
  | zero =>
    intro zs H gs sp s t c hne rd af hg hgs nl hSo
    exact main 0 zs H gs sp s t c hne rd af hg hgs nl hSo fun _ _ _ _ _ _ _ _ q => (show False from q).elim
  | succ n ih =>
    intro zs H gs sp s t c hne rd af hg hgs nl hSo
    exact main (n + 1) zs H gs sp s t c hne rd af hg hgs nl hSo fun zs' H' gs' sp' s' t' c' a1 a2 a3 a4 a5 a6 a7 => ih zs' H' gs' sp' s' t' c' a1 a2 a3 a4 a5 a6 a7
/-- .. from the start -/
theorem min_first (O : Y.Ok) (hB : Y.B = A.in1.in1) (hS : Y.Sx = [S]) (hC : Y.C = eInt) (hF : Y.F = fun ys H => ∃ zs, ys = zs.map V.int ∧ zs ≠ [] ∧ Qd (mins zs) H) (hh : A.handled = none) (hroom : A.depth < recursionLimit)
    (hR : ∀ k t σ' H' s1, Inv Y.Xg [] σ' H' s1 → Qd k H' → R (.ok (.ret (.int k t))) s1) (n : Nat) (H : Hp) (gs : GenState) (sp s : Shared) (c : Nat) (rd : Y.Rdy n [] H gs sp) (af : Aft Y.Sx sp s) (hg : s.heap.IsGen Y.a Y.g) (hgs : s.gens[Y.g]? = some gs) (nl : s.heap.NoLimit)
    (hSo : s.heap.get? S = some (bestL #[] c)) : codeAny Y.M A (.builtin "min.loop" ⟨[.ref Y.a, .none, .ref S], []⟩) R s := by
  have hname : (toString "min" ++ toString ".loop" : String) = "min.loop" := by decide
  have hSm : S ∈ Y.a :: Y.Sx := by rw [hS]; simp
  have there : ∀ b ∈ Y.a :: Y.Sx, ∃ o, s.heap.get? b = some o := fun b hb => by
    rcases List.mem_cons.mp hb with z | z
    · obtain ⟨o, n1, n2, e, r⟩ := hg
      exact ⟨o, by rw [z]; exact e⟩
    · rw [hS] at z
      exact ⟨_, by rw [List.mem_singleton.mp z]; exact hSo⟩
  refine codeAny_builtin F.entry_min_loop ?_
  rw [Around.under_plainId F.plain_min_loop _]
  show wpAny _ A.in1 (seqItems? (.ref S) >>= _) _ _ s
  refine wpAny_bind (wpAny_seqItems hSo rfl ?_)
  show wpAny _ A.in1 (tryCatch (pyNext (.ref Y.a)) _ >>= _) _ _ s
  refine wpAny_bind (wpAny_tryCatch (GEx.next O hB hh hroom nl rd af hg hgs (Array.getElem?_eq_some_iff.mp hgs).1 (fun σ' H' s1 s2 I f a => ?_) fun v y σ' H' s1 gs' I r cc hb hsz => ?_))
  · rw [hF] at f
    obtain ⟨zs', ez, ne, f⟩ := f
    cases zs' with
    | nil => exact absurd rfl ne
    | cons u us => cases ez
  · rw [hC] at cc
    obtain ⟨⟨z, rfl⟩, cc⟩ := cc
    obtain ⟨t', rfl⟩ : ∃ t', v = .int z t' := r
    have e1 := (O.pinned I hSm hSo).1
    have e2 : (s1.setGen Y.g gs').heap.get? S = _ := e1
    have hg1 : (s1.setGen Y.g gs').heap.IsGen Y.a Y.g := by
      obtain ⟨o, n1, n2, e, r⟩ := hg
      exact ⟨o, n1, n2, (O.pinned I List.mem_cons_self e).1, r⟩
    have hgs1 := setGen_at (x := gs') (Nat.lt_of_lt_of_le (Array.getElem?_eq_some_iff.mp hgs).1 hsz)
    have hna : S ≠ Y.a := fun z => O.aS (by rw [← z, hS]; simp)
    have put : Aft [S] s1 { (s1.setGen Y.g gs') with heap := s1.heap.update S (Obj.mapSeq fun _ => #[Value.int z t', Value.int z t']) } := aft_put rfl (allBare_setGen I.bare hb) e1 rfl
    show wpAny _ A.in1 (updateSeq S (fun _ => #[.int z t', .int z t']) >>= _) _ _ _
    refine wpAny_bind ?_
    refine wpAny_updateSeq e2 rfl ?_
    rw [hname]
    cases n with
    | zero => exact (show False from cc).elim
    | succ n =>
      refine wpAny_pure ⟨plainId_quiet F.plain_min_loop _, min_loop1 O hB hS hC hF hh hroom hR n [z] H' gs' s1 _ t' (c + 1) (by simp) cc (by rw [hS]; exact put) ?_ hgs1 (O.past I there (by rw [hS]; exact put)).nolimit ?_⟩
      · obtain ⟨o, n1, n2, e, r⟩ := hg1
        exact ⟨o, n1, n2, (Heap.get?_update_other _ _ hna).trans e, r⟩
      · have e3 := Heap.get?_update_self (Obj.mapSeq fun _ => #[Value.int z t', Value.int z t']) e2 rfl
        exact e3
end
section
variable {X : Cx}
theorem call_minP {P : Program} {w : World} {A : Around} {Q : Value → Shared → Prop} {E : Value → Shared → Prop} {s : Shared} {a g : Addr} (hg : s.heap.IsGen a g)
    (h : codeAny (model P w) A (.builtin "min.loop" ⟨[.ref a, .none, .ref s.heap.objs.size], []⟩) (RetQ Q E) { s with heap := s.heap.push (bestL #[] 0) }) : wpAny (model P w) A (call (.builtin "min") [.ref a]) Q E s := by
  have hname : (toString "min" ++ toString ".loop" : String) = "min.loop" := by decide
  refine call_function_tree F.kind_min F.plain_min F.entry_min (F.args_min1 _) ?_
  show wpAny _ A.in1 (Builtin.Builtins.bindParams "min" ["key", "default"] 0 ⟨[], []⟩ >>= _) _ _ s
  refine wpAny_bind (wpAny_of_eq (show Builtin.Builtins.bindParams "min" ["key", "default"] 0 ⟨[], []⟩ = pure [none, none] from rfl) ?_)
  refine wpAny_bind (wpAny_pure ?_)
  refine wpAny_bind (wpAny_pyIter_gen hg ?_)
  refine wpAny_bind (wpAny_newObj_type ?_)
  rw [hname]
  exact wpAny_pure ⟨plainId_quiet F.plain_min_loop _, h⟩
/-- one more value is out -/
def MN (Nx : List Int → Hp → Prop) (zs : List Int) (y : V) (H : Hp) : Prop := (∃ z, y = .int z) ∧ ∃ zs', zs.map V.int ++ [y] = zs'.map V.int ∧ Nx zs' H
theorem MN.of {Nx : List Int → Hp → Prop} {zs : List Int} {z : Int} {H : Hp} (h : Nx (zs ++ [z]) H) : MN Nx zs (.int z) H := ⟨⟨z, rfl⟩, zs ++ [z], by rw [List.map_append]; rfl, h⟩
def MZ (Nx : List Int → Hp → Prop) (zs : List Int) (H : Hp) : Prop := ∃ zs', zs.map V.int = zs'.map V.int ∧ Nx zs' H
/-- min of elt for target in iter if ..; W carries what is out so far -/
def tMinG (P : Addr) (wi : TI) (g : TG) (tt : TT) (te : TE) (vs : List Nat) : TE := fun σ H Q => wi σ H fun J H1 => TabG H1 P ∧ ∀ H2, Tabbed P H1 H2 →
  ∃ W : Nat → Nat → List Int → Hp → Prop, (∃ m, W 0 m [] H2) ∧ ∀ i m zs H, W i m zs H → (J.stop i H ∧ zs ≠ [] ∧ Q (.int (mins zs)) H) ∨ (J.go i H ∧ ∃ Nx : List Int → Hp → Prop, (∀ zs' H', Nx zs' H' → ∃ m', m' < m ∧ W (i + 1) m' zs' H') ∧
    ∀ x H', J.yld i H x H' → g x (wipe σ vs) H' fun σ2 H2 => wipe σ2 vs = wipe σ vs ∧ tt σ2 H2 fun b H3 => if b = true then te σ2 H3 fun y H4 => MN Nx zs y H4 else MZ Nx zs H3)
theorem tMinG_step {J : It} {g : TG} {tt : TT} {te : TE} {vs : List Nat} {σ : L2.St} {Q : VK} {W : Nat → Nat → List Int → Hp → Prop}
    (h : ∀ i m zs H, W i m zs H → (J.stop i H ∧ zs ≠ [] ∧ Q (.int (mins zs)) H) ∨ (J.go i H ∧ ∃ Nx : List Int → Hp → Prop, (∀ zs' H', Nx zs' H' → ∃ m', m' < m ∧ W (i + 1) m' zs' H') ∧
      ∀ x H', J.yld i H x H' → g x (wipe σ vs) H' fun σ2 H2 => wipe σ2 vs = wipe σ vs ∧ tt σ2 H2 fun b H3 => if b = true then te σ2 H3 fun y H4 => MN Nx zs y H4 else MZ Nx zs H3)) :
    GStep (fun i m ys H => ∃ zs, ys = zs.map V.int ∧ W i m zs H) J g tt te vs (wipe σ vs) eInt (fun ys H => ∃ zs, ys = zs.map V.int ∧ zs ≠ [] ∧ Q (.int (mins zs)) H) := fun i m ys H ⟨zs, ey, w⟩ => by
  subst ey
  rcases h i m zs H w with ⟨z1, z2, z3⟩ | ⟨go, Nx, hN, st⟩
  · exact .inl ⟨z1, zs, rfl, z2, z3⟩
  · exact .inr ⟨go, fun ys H => ∃ zs, ys = zs.map V.int ∧ Nx zs H, fun ys' H' ⟨zs', e', nx⟩ => by
      obtain ⟨m', h1, h2⟩ := hN zs' H' nx
      exact ⟨m', h1, zs', e', h2⟩, st⟩
section
variable {c P : Addr} {elt tg iter : Expr} {ifs : List Expr} {scope : Scope} {own : List (Str × Nat)} {p pos gpos : Pos} {wi : TI} {g : TG} {tt : TT} {te : TE} {k : Nat}
theorem pe_minG (hr : Room (k + 1) X.A) (hn : X.N.Nodup) (hgl : Gl X "min") (hm : X.mg "min" = none) (TB : LamX.TabB X.base X.mg c P) (hcode : X.env.code = .ref c) (G : GScp scope) (ok : BlkOk X.N X.env.scope scope own) (hi : PI X tg iter wi)
    (hg : GPG X k scope tg g) (ht : GPT X k scope ifs tt) (he : GPE X k scope elt te)
    (hb : bootBuiltins "min" = some (.builtin "min") := by first | rfl | decide +kernel) (hs : ∀ v, genFold iter X.env v = pure v := by intro _; rfl)
    (hst : starEach [.GeneratorExp elt [⟨tg, iter, ifs, 0⟩] scope gpos] X.env = (false, eval (.GeneratorExp elt [⟨tg, iter, ifs, 0⟩] scope gpos) X.env) :: starEach [] X.env := by rfl) :
    PE X (.Call (.Name "min" p) [.GeneratorExp elt [⟨tg, iter, ifs, 0⟩] scope gpos] [] pos) (tMinG P wi g tt te (own.map (·.2))) := by
  refine ⟨fun pins s σ H Q I h => ?_⟩
  refine wpAny_Call_Name_kw (ld_blt I hgl hm hb ?_)
  refine PyProof.Rows.callWith_builtin1 ?_ hst (by rfl)
  rw [hst]
  show wpAny _ _ (spliced ((false, eval (.GeneratorExp elt [⟨tg, iter, ifs, 0⟩] scope gpos) X.env) :: backTo pos (starEach [] X.env))) _ _ s
  refine Calls.spliced_cons (gen_made (R := fun J H1 => _) hr TB hcode G ok hi hs I h fun J H1 H2 s4 cenv fp it tn a gn s5 q tb M => ?_)
  refine Calls.spliced_nil (call_minP M.isg ?_)
  obtain ⟨W, ⟨m, w0⟩, st⟩ := q H2 tb
  obtain ⟨code, hce⟩ := M.env
  subst hce
  have hlt : a < s5.heap.objs.size := by rw [M.lt]; exact Nat.lt_succ_self a
  obtain ⟨O, rd⟩ := gen_rdy (B := X.A.in1.in1) (Sx := [s5.heap.objs.size]) hr (nearA2 _) G ok hn M (fun A r => hg _ _ _ _ _ _ A r) (fun A r => ht _ _ _ _ _ _ A r) (fun A r => he _ _ _ _ _ _ A r) (fun b z => by rw [List.mem_singleton.mp z]; exact hlt) eInt_mono (tMinG_step st) m ⟨[], rfl, w0⟩
  have hpush : ∀ b o, s5.heap.get? b = some o → (s5.heap.push (bestL #[] 0)).get? b = some o := fun b o e => Heap.get?_push_of_some _ e
  refine min_first (Qd := fun k H => Q (.int k) H) (S := s5.heap.objs.size) (Y := mkY X s4 H2 _ fp X.A.in1.in1 (wipe σ (own.map (·.2))) (.GeneratorExp elt [⟨tg, iter, ifs, 0⟩] scope gpos) it a gn [s5.heap.objs.size] eInt (fun ys H => ∃ zs, ys = zs.map V.int ∧ zs ≠ [] ∧ Q (.int (mins zs)) H)) O rfl rfl rfl rfl hr.hd hr.depth (fun k t σ' H' s1 I' q => ?_) m H2 _ s5 _ 0 rd ?_ ?_ ?_ ?_ (Heap.get?_push_size _ rfl)
  · exact ⟨.int k, H', GEx.out (Y := mkY X s4 H2 _ fp X.A.in1.in1 (wipe σ (own.map (·.2))) (.GeneratorExp elt [⟨tg, iter, ifs, 0⟩] scope gpos) it a gn [s5.heap.objs.size] eInt (fun ys H => ∃ zs, ys = zs.map V.int ∧ zs ≠ [] ∧ Q (.int (mins zs)) H)) M.inv (fun b hb => (M.fps b hb).1) I' (Aft.refl I'.bare), ⟨t, rfl⟩, q⟩
  · refine ⟨rfl, ?_, fun b o _ e => hpush b o e, fun b hb => ?_⟩
    · show AllBare s5.gens
      rw [M.gens]
      exact M.inv.bare.push rfl
    · rw [List.mem_singleton.mp hb]
      exact ⟨_, Heap.get?_push_size _ rfl, fun v z => by cases z⟩
  · obtain ⟨o, n1, n2, e, r⟩ := M.isg
    exact ⟨o, n1, n2, hpush _ _ e, r⟩
  · show s5.gens[gn]? = _
    rw [M.gens, M.num]
    simp
  · exact (M.inv.nolimit.keeps M.keep).push _
end
end
section
variable {K : PySem.W.Frag} {a : Addr} {xs : List V} {g : TG} {tt : TT} {te : TE} {vs : List Nat} {σ : L2.St} {H2 : Hp} {Q : VK}
/-- over a list that the element leaves as it is -/
theorem min_list (Pv : Nat → List Int → Hp → Prop) (h0 : Pv 0 [] H2) (hl : ∀ i zs H, i ≤ xs.length → Pv i zs H → SqL K H a xs)
    (hs : ∀ i zs x H, xs[i]? = some x → Pv i zs H → g x (wipe σ vs) H fun σ2 H2 => wipe σ2 vs = wipe σ vs ∧ tt σ2 H2 fun b H3 => if b = true then te σ2 H3 fun y H4 => MN (Pv (i + 1)) zs y H4 else MZ (Pv (i + 1)) zs H3) (hd : ∀ zs H, Pv xs.length zs H → zs ≠ [] ∧ Q (.int (mins zs)) H) :
    ∃ W : Nat → Nat → List Int → Hp → Prop, (∃ m, W 0 m [] H2) ∧ ∀ i m zs H, W i m zs H → ((Itl K a).stop i H ∧ zs ≠ [] ∧ Q (.int (mins zs)) H) ∨ ((Itl K a).go i H ∧ ∃ Nx : List Int → Hp → Prop, (∀ zs' H', Nx zs' H' → ∃ m', m' < m ∧ W (i + 1) m' zs' H') ∧
      ∀ x H', (Itl K a).yld i H x H' → g x (wipe σ vs) H' fun σ2 H2 => wipe σ2 vs = wipe σ vs ∧ tt σ2 H2 fun b H3 => if b = true then te σ2 H3 fun y H4 => MN Nx zs y H4 else MZ Nx zs H3) := by
  refine ⟨fun i m zs H => m = xs.length - i ∧ i ≤ xs.length ∧ Pv i zs H, ⟨xs.length, by simp, Nat.zero_le _, h0⟩, fun i m zs H w => ?_⟩
  obtain ⟨hm, hi, p⟩ := w
  have q := hl i zs H hi p
  rcases Nat.lt_or_ge i xs.length with z | z
  · refine .inr ⟨⟨xs, xs[i], q, by simp [z]⟩, Pv (i + 1), fun zs' H' p' => ⟨xs.length - (i + 1), by omega, rfl, z, p'⟩, fun x H' y => ?_⟩
    obtain ⟨rfl, y⟩ := y
    exact hs i zs x _ (y xs q) p
  · obtain rfl : i = xs.length := by omega
    exact .inl ⟨⟨xs, q, Nat.le_refl _⟩, hd zs H p⟩
end
end Sk

set_option Elab.async false
set_option linter.all false
set_option maxRecDepth 100000
set_option maxHeartbeats 4000000
namespace Sk
open PySem PySem.Spec PyProof.Rows L2 GenW GxR
/-! max over a generator expression whose element may call own defs -/
/-- the greatest of some -/
def maxs : List Int → Int
  | [] => 0
  | z :: zs => zs.foldl (fun b z => if b < z then z else b) z
theorem maxs_app {zs : List Int} {z : Int} (h : zs ≠ []) : maxs (zs ++ [z]) = if maxs zs < z then z else maxs zs := by
  cases zs with
  | nil => exact absurd rfl h
  | cons y ys =>
    show (ys ++ [z]).foldl _ y = _
    rw [List.foldl_append]
    rfl
theorem maxs_spec : ∀ {zs : List Int}, zs ≠ [] → maxs zs ∈ zs ∧ ∀ z ∈ zs, z ≤ maxs zs := by
  have go : ∀ (ys : List Int) (y : Int), ((ys.foldl (fun b z => if b < z then z else b) y) = y ∨ (ys.foldl (fun b z => if b < z then z else b) y) ∈ ys) ∧ y ≤ (ys.foldl (fun b z => if b < z then z else b) y) ∧ ∀ z ∈ ys, z ≤ (ys.foldl (fun b z => if b < z then z else b) y) := by
    intro ys
    induction ys with
    | nil => intro y; exact ⟨.inl rfl, Int.le_refl _, fun _ h => nomatch h⟩
    | cons x ys ih =>
      intro y
      obtain ⟨a, b, c⟩ := ih (if y < x then x else y)
      show (ys.foldl _ (if y < x then x else y) = y ∨ ys.foldl _ (if y < x then x else y) ∈ x :: ys) ∧ y ≤ ys.foldl _ (if y < x then x else y) ∧ _
      refine ⟨?_, Int.le_trans (by split <;> omega) b, fun z hz => ?_⟩
      · rcases a with a | a
        · rw [a]
          split
          · exact .inr List.mem_cons_self
          · exact .inl rfl
        · exact .inr (List.mem_cons_of_mem _ a)
      · rcases List.mem_cons.mp hz with rfl | hz
        · exact Int.le_trans (by split <;> omega) b
        · exact c z hz
  intro zs h
  cases zs with
  | nil => exact absurd rfl h
  | cons y ys =>
    obtain ⟨a, b, c⟩ := go ys y
    refine ⟨?_, fun z hz => ?_⟩
    · rcases a with a | a
      · show ys.foldl _ y ∈ _
        rw [a]; exact List.mem_cons_self
      · exact List.mem_cons_of_mem _ a
    · rcases List.mem_cons.mp hz with rfl | hz
      · exact b
      · exact c z hz
section
variable {Y : GEx} {A : Around} {R : Result → Shared → Prop} {Qd : Int → Hp → Prop} {S : Addr}
theorem max_loop1 (O : Y.Ok) (hB : Y.B = A.in1.in1) (hS : Y.Sx = [S]) (hC : Y.C = eInt) (hF : Y.F = fun ys H => ∃ zs, ys = zs.map V.int ∧ zs ≠ [] ∧ Qd (maxs zs) H) (hh : A.handled = none) (hroom : A.depth < recursionLimit)
    (hR : ∀ k t σ' H' s1, Inv Y.Xg [] σ' H' s1 → Qd k H' → R (.ok (.ret (.int k t))) s1) : ∀ (n : Nat) (zs : List Int) (H : Hp) (gs : GenState) (sp s : Shared) (t : Tok) (c : Nat), zs ≠ [] → Y.Rdy n (zs.map V.int) H gs sp → Aft Y.Sx sp s → s.heap.IsGen Y.a Y.g → s.gens[Y.g]? = some gs → s.heap.NoLimit →
      s.heap.get? S = some (bestL #[.int (maxs zs) t, .int (maxs zs) t] c) → codeAny Y.M A (.builtin "max.loop" ⟨[.ref Y.a, .none, .ref S], []⟩) R s := by
  have hname : (toString "max" ++ toString ".loop" : String) = "max.loop" := by decide
  have hSm : S ∈ Y.a :: Y.Sx := by rw [hS]; simp
  have main : ∀ (n : Nat) (zs : List Int) (H : Hp) (gs : GenState) (sp s : Shared) (t : Tok) (c : Nat), zs ≠ [] → Y.Rdy n (zs.map V.int) H gs sp → Aft Y.Sx sp s → s.heap.IsGen Y.a Y.g → s.gens[Y.g]? = some gs → s.heap.NoLimit →
      s.heap.get? S = some (bestL #[.int (maxs zs) t, .int (maxs zs) t] c) →
      (∀ (zs' : List Int) (H' : Hp) (gs' : GenState) (sp' s' : Shared) (t' : Tok) (c' : Nat), zs' ≠ [] → Y.Rp n (zs'.map V.int) H' gs' sp' → Aft Y.Sx sp' s' → s'.heap.IsGen Y.a Y.g → s'.gens[Y.g]? = some gs' → s'.heap.NoLimit →
        s'.heap.get? S = some (bestL #[.int (maxs zs') t', .int (maxs zs') t'] c') → codeAny Y.M A (.builtin "max.loop" ⟨[.ref Y.a, .none, .ref S], []⟩) R s') → codeAny Y.M A (.builtin "max.loop" ⟨[.ref Y.a, .none, .ref S], []⟩) R s := by
    intro n zs H gs sp s t c hne rd af hg hgs nl hSo ih
    have there : ∀ b ∈ Y.a :: Y.Sx, ∃ o, s.heap.get? b = some o := fun b hb => by
      rcases List.mem_cons.mp hb with z | z
      · obtain ⟨o, n1, n2, e, r⟩ := hg
        exact ⟨o, by rw [z]; exact e⟩
      · rw [hS] at z
        exact ⟨_, by rw [List.mem_singleton.mp z]; exact hSo⟩
    refine codeAny_builtin F.entry_max_loop ?_
    rw [Around.under_plainId F.plain_max_loop _]
    show wpAny _ A.in1 (seqItems? (.ref S) >>= _) _ _ s
    refine wpAny_bind (wpAny_seqItems hSo rfl ?_)
    show wpAny _ A.in1 (tryCatch (pyNext (.ref Y.a)) _ >>= _) _ _ s
    refine wpAny_bind (wpAny_tryCatch (GEx.next O hB hh hroom nl rd af hg hgs (Array.getElem?_eq_some_iff.mp hgs).1 (fun σ' H' s1 s2 I f a => ?_) fun v y σ' H' s1 gs' I r cc hb hsz => ?_))
    · rw [hF] at f
      obtain ⟨zs', ez, _, f⟩ := f
      obtain rfl := int_inj ez
      have e1 := (O.pinned I hSm hSo).1
      have e2 := a.keep _ _ (by simp) e1
      show wpAny _ A.in1 (updateSeq S (fun _ => #[]) >>= _) _ _ _
      refine wpAny_bind ?_
      refine wpAny_updateSeq e2 rfl (wpAny_bind (wpAny_letGo (wpAny_pure ?_)))
      refine hR _ t σ' H' _ (O.past I there ?_) f
      rw [hS]
      refine ⟨a.os, a.bare, fun b o n e' => ?_, fun b hb => ?_⟩
      · exact (Heap.get?_update_other _ _ (fun h : S = b => n (by rw [h]; exact List.mem_singleton.mpr rfl))).trans (a.keep _ _ (by simp) e')
      · rw [List.mem_singleton.mp hb]
        exact ⟨_, Heap.get?_update_self _ e2 rfl, fun v z => by cases z⟩
    · rw [hC] at cc
      obtain ⟨⟨z, rfl⟩, cc⟩ := cc
      obtain ⟨t', rfl⟩ : ∃ t', v = .int z t' := r
      have e1 := (O.pinned I hSm hSo).1
      have e2 : (s1.setGen Y.g gs').heap.get? S = _ := e1
      rw [show zs.map V.int ++ [V.int z] = (zs ++ [z]).map V.int by rw [List.map_append]; rfl] at cc
      have hg1 : (s1.setGen Y.g gs').heap.IsGen Y.a Y.g := by
        obtain ⟨o, n1, n2, e, r⟩ := hg
        exact ⟨o, n1, n2, (O.pinned I List.mem_cons_self e).1, r⟩
      have hgs1 := setGen_at (x := gs') (Nat.lt_of_lt_of_le (Array.getElem?_eq_some_iff.mp hgs).1 hsz)
      have hna : S ≠ Y.a := fun z => O.aS (by rw [← z, hS]; simp)
      show wpAny _ A.in1 (tryCatch (holding [.int z t', .int z t'] (richCompare .Gt (.int z t') (.int (maxs zs) t) >>= _)) _ >>= _) _ _ _
      refine wpAny_bind (wpAny_tryCatch (wpAny_holding (wpAny_bind (CmpOf.ints_gt (P := fun j v => ∃ t, v = .int (if j = 0 then z else maxs zs) t) (fun j => if j = 0 then z else maxs zs) (fun j v h => h) 0 1 _ _ _ _ _ ⟨t', rfl⟩ ⟨t, rfl⟩ ?_))))
      refine wpAny_bind (wpAny_holding (wpAny_truthy_bool ?_))
      refine wpAny_bind (wpAny_letGo (wpAny_pure ?_))
      have em := maxs_app (z := z) hne
      show wpAny _ A.in1 (if decide (maxs zs < z) = true then _ else _) _ _ _
      by_cases hlt : maxs zs < z
      · rw [if_pos (decide_eq_true hlt)]
        rw [if_pos hlt] at em
        refine wpAny_bind ?_
        refine wpAny_updateSeq e2 rfl (wpAny_bind (wpAny_letGo ?_))
        rw [hname]
        refine wpAny_pure ⟨plainId_quiet F.plain_max_loop _, ih (zs ++ [z]) H' gs' s1 _ t' c (by simp) cc ?_ ?_ hgs1 ?_ ?_⟩
        · rw [hS]
          exact aft_put (s2 := { (s1.setGen Y.g gs') with heap := s1.heap.update S (Obj.mapSeq fun _ => #[Value.int z t', Value.int z t']) }) rfl (allBare_setGen I.bare hb) e1 rfl
        · obtain ⟨o, n1, n2, e, r⟩ := hg1
          exact ⟨o, n1, n2, (Heap.get?_update_other _ _ hna).trans e, r⟩
        · exact (O.past (s1 := { (s1.setGen Y.g gs') with heap := s1.heap.update S (Obj.mapSeq fun _ => #[Value.int z t', Value.int z t']) }) I there (by rw [hS]; exact aft_put rfl (allBare_setGen I.bare hb) e1 rfl)).nolimit
        · rw [em]
          exact Heap.get?_update_self _ e2 rfl
      · rw [if_neg (by rw [decide_eq_false hlt]; exact Bool.false_ne_true)]
        rw [if_neg hlt] at em
        refine wpAny_bind (wpAny_letGo ?_)
        rw [hname]
        refine wpAny_pure ⟨plainId_quiet F.plain_max_loop _, ih (zs ++ [z]) H' gs' s1 _ t c (by simp) cc ?_ hg1 hgs1 I.nolimit ?_⟩
        · rw [hS]
          exact aft_id rfl (allBare_setGen I.bare hb) e1 rfl
        · rw [em]
          exact e2
  intro n
  induction n with
  | zero =>
    intro zs H gs sp s t c hne rd af hg hgs nl hSo
    exact main 0 zs H gs sp s t c hne rd af hg hgs nl hSo fun _ _ _ _ _ _ _ _ q => (show False from q).elim
  | succ n ih =>
    intro zs H gs sp s t c hne rd af hg hgs nl hSo
    exact main (n + 1) zs H gs sp s t c hne rd af hg hgs nl hSo fun zs' H' gs' sp' s' t' c' a1 a2 a3 a4 a5 a6 a7 => ih zs' H' gs' sp' s' t' c' a1 a2 a3 a4 a5 a6 a7
/-- .. from the start -/
theorem max_first (O : Y.Ok) (hB : Y.B = A.in1.in1) (hS : Y.Sx = [S]) (hC : Y.C = eInt) (hF : Y.F = fun ys H => ∃ zs, ys = zs.map V.int ∧ zs ≠ [] ∧ Qd (maxs zs) H) (hh : A.handled = none) (hroom : A.depth < recursionLimit)
    (hR : ∀ k t σ' H' s1, Inv Y.Xg [] σ' H' s1 → Qd k H' → R (.ok (.ret (.int k t))) s1) (n : Nat) (H : Hp) (gs : GenState) (sp s : Shared) (c : Nat) (rd : Y.Rdy n [] H gs sp) (af : Aft Y.Sx sp s) (hg : s.heap.IsGen Y.a Y.g) (hgs : s.gens[Y.g]? = some gs) (nl : s.heap.NoLimit)
    (hSo : s.heap.get? S = some (bestL #[] c)) : codeAny Y.M A (.builtin "max.loop" ⟨[.ref Y.a, .none, .ref S], []⟩) R s := by
  have hname : (toString "max" ++ toString ".loop" : String) = "max.loop" := by decide
  have hSm : S ∈ Y.a :: Y.Sx := by rw [hS]; simp
  have there : ∀ b ∈ Y.a :: Y.Sx, ∃ o, s.heap.get? b = some o := fun b hb => by
    rcases List.mem_cons.mp hb with z | z
    · obtain ⟨o, n1, n2, e, r⟩ := hg
      exact ⟨o, by rw [z]; exact e⟩
    · rw [hS] at z
      exact ⟨_, by rw [List.mem_singleton.mp z]; exact hSo⟩
  refine codeAny_builtin F.entry_max_loop ?_
  rw [Around.under_plainId F.plain_max_loop _]
  show wpAny _ A.in1 (seqItems? (.ref S) >>= _) _ _ s
  refine wpAny_bind (wpAny_seqItems hSo rfl ?_)
  show wpAny _ A.in1 (tryCatch (pyNext (.ref Y.a)) _ >>= _) _ _ s
  refine wpAny_bind (wpAny_tryCatch (GEx.next O hB hh hroom nl rd af hg hgs (Array.getElem?_eq_some_iff.mp hgs).1 (fun σ' H' s1 s2 I f a => ?_) fun v y σ' H' s1 gs' I r cc hb hsz => ?_))
  · rw [hF] at f
    obtain ⟨zs', ez, ne, f⟩ := f
    cases zs' with
    | nil => exact absurd rfl ne
    | cons u us => cases ez
  · rw [hC] at cc
    obtain ⟨⟨z, rfl⟩, cc⟩ := cc
    obtain ⟨t', rfl⟩ : ∃ t', v = .int z t' := r
    have e1 := (O.pinned I hSm hSo).1
    have e2 : (s1.setGen Y.g gs').heap.get? S = _ := e1
    have hg1 : (s1.setGen Y.g gs').heap.IsGen Y.a Y.g := by
      obtain ⟨o, n1, n2, e, r⟩ := hg
      exact ⟨o, n1, n2, (O.pinned I List.mem_cons_self e).1, r⟩
    have hgs1 := setGen_at (x := gs') (Nat.lt_of_lt_of_le (Array.getElem?_eq_some_iff.mp hgs).1 hsz)
    have hna : S ≠ Y.a := fun z => O.aS (by rw [← z, hS]; simp)
    have put : Aft [S] s1 { (s1.setGen Y.g gs') with heap := s1.heap.update S (Obj.mapSeq fun _ => #[Value.int z t', Value.int z t']) } := aft_put rfl (allBare_setGen I.bare hb) e1 rfl
    show wpAny _ A.in1 (updateSeq S (fun _ => #[.int z t', .int z t']) >>= _) _ _ _
    refine wpAny_bind ?_
    refine wpAny_updateSeq e2 rfl ?_
    rw [hname]
    cases n with
    | zero => exact (show False from cc).elim
    | succ n =>
      refine wpAny_pure ⟨plainId_quiet F.plain_max_loop _, max_loop1 O hB hS hC hF hh hroom hR n [z] H' gs' s1 _ t' (c + 1) (by simp) cc (by rw [hS]; exact put) ?_ hgs1 (O.past I there (by rw [hS]; exact put)).nolimit ?_⟩
      · obtain ⟨o, n1, n2, e, r⟩ := hg1
        exact ⟨o, n1, n2, (Heap.get?_update_other _ _ hna).trans e, r⟩
      · have e3 := Heap.get?_update_self (Obj.mapSeq fun _ => #[Value.int z t', Value.int z t']) e2 rfl
        exact e3
end
section
variable {X : Cx}
theorem call_maxP {P : Program} {w : World} {A : Around} {Q : Value → Shared → Prop} {E : Value → Shared → Prop} {s : Shared} {a g : Addr} (hg : s.heap.IsGen a g)
    (h : codeAny (model P w) A (.builtin "max.loop" ⟨[.ref a, .none, .ref s.heap.objs.size], []⟩) (RetQ Q E) { s with heap := s.heap.push (bestL #[] 0) }) : wpAny (model P w) A (call (.builtin "max") [.ref a]) Q E s := by
  have hname : (toString "max" ++ toString ".loop" : String) = "max.loop" := by decide
  refine call_function_tree F.kind_max F.plain_max F.entry_max (F.args_max1 _) ?_
  show wpAny _ A.in1 (Builtin.Builtins.bindParams "max" ["key", "default"] 0 ⟨[], []⟩ >>= _) _ _ s
  refine wpAny_bind (wpAny_of_eq (show Builtin.Builtins.bindParams "max" ["key", "default"] 0 ⟨[], []⟩ = pure [none, none] from rfl) ?_)
  refine wpAny_bind (wpAny_pure ?_)
  refine wpAny_bind (wpAny_pyIter_gen hg ?_)
  refine wpAny_bind (wpAny_newObj_type ?_)
  rw [hname]
  exact wpAny_pure ⟨plainId_quiet F.plain_max_loop _, h⟩
/-- min of elt for target in iter if ..; W carries what is out so far -/
def tMaxG (P : Addr) (wi : TI) (g : TG) (tt : TT) (te : TE) (vs : List Nat) : TE := fun σ H Q => wi σ H fun J H1 => TabG H1 P ∧ ∀ H2, Tabbed P H1 H2 →
  ∃ W : Nat → Nat → List Int → Hp → Prop, (∃ m, W 0 m [] H2) ∧ ∀ i m zs H, W i m zs H → (J.stop i H ∧ zs ≠ [] ∧ Q (.int (maxs zs)) H) ∨ (J.go i H ∧ ∃ Nx : List Int → Hp → Prop, (∀ zs' H', Nx zs' H' → ∃ m', m' < m ∧ W (i + 1) m' zs' H') ∧
    ∀ x H', J.yld i H x H' → g x (wipe σ vs) H' fun σ2 H2 => wipe σ2 vs = wipe σ vs ∧ tt σ2 H2 fun b H3 => if b = true then te σ2 H3 fun y H4 => MN Nx zs y H4 else MZ Nx zs H3)
theorem tMaxG_step {J : It} {g : TG} {tt : TT} {te : TE} {vs : List Nat} {σ : L2.St} {Q : VK} {W : Nat → Nat → List Int → Hp → Prop}
    (h : ∀ i m zs H, W i m zs H → (J.stop i H ∧ zs ≠ [] ∧ Q (.int (maxs zs)) H) ∨ (J.go i H ∧ ∃ Nx : List Int → Hp → Prop, (∀ zs' H', Nx zs' H' → ∃ m', m' < m ∧ W (i + 1) m' zs' H') ∧
      ∀ x H', J.yld i H x H' → g x (wipe σ vs) H' fun σ2 H2 => wipe σ2 vs = wipe σ vs ∧ tt σ2 H2 fun b H3 => if b = true then te σ2 H3 fun y H4 => MN Nx zs y H4 else MZ Nx zs H3)) :
    GStep (fun i m ys H => ∃ zs, ys = zs.map V.int ∧ W i m zs H) J g tt te vs (wipe σ vs) eInt (fun ys H => ∃ zs, ys = zs.map V.int ∧ zs ≠ [] ∧ Q (.int (maxs zs)) H) := fun i m ys H ⟨zs, ey, w⟩ => by
  subst ey
  rcases h i m zs H w with ⟨z1, z2, z3⟩ | ⟨go, Nx, hN, st⟩
  · exact .inl ⟨z1, zs, rfl, z2, z3⟩
  · exact .inr ⟨go, fun ys H => ∃ zs, ys = zs.map V.int ∧ Nx zs H, fun ys' H' ⟨zs', e', nx⟩ => by
      obtain ⟨m', h1, h2⟩ := hN zs' H' nx
      exact ⟨m', h1, zs', e', h2⟩, st⟩
section
variable {c P : Addr} {elt tg iter : Expr} {ifs : List Expr} {scope : Scope} {own : List (Str × Nat)} {p pos gpos : Pos} {wi : TI} {g : TG} {tt : TT} {te : TE} {k : Nat}
theorem pe_maxG (hr : Room (k + 1) X.A) (hn : X.N.Nodup) (hgl : Gl X "max") (hm : X.mg "max" = none) (TB : LamX.TabB X.base X.mg c P) (hcode : X.env.code = .ref c) (G : GScp scope) (ok : BlkOk X.N X.env.scope scope own) (hi : PI X tg iter wi)
    (hg : GPG X k scope tg g) (ht : GPT X k scope ifs tt) (he : GPE X k scope elt te)
    (hb : bootBuiltins "max" = some (.builtin "max") := by first | rfl | decide +kernel) (hs : ∀ v, genFold iter X.env v = pure v := by intro _; rfl)
    (hst : starEach [.GeneratorExp elt [⟨tg, iter, ifs, 0⟩] scope gpos] X.env = (false, eval (.GeneratorExp elt [⟨tg, iter, ifs, 0⟩] scope gpos) X.env) :: starEach [] X.env := by rfl) :
    PE X (.Call (.Name "max" p) [.GeneratorExp elt [⟨tg, iter, ifs, 0⟩] scope gpos] [] pos) (tMaxG P wi g tt te (own.map (·.2))) := by
  refine ⟨fun pins s σ H Q I h => ?_⟩
  refine wpAny_Call_Name_kw (ld_blt I hgl hm hb ?_)
  refine PyProof.Rows.callWith_builtin1 ?_ hst (by rfl)
  rw [hst]
  show wpAny _ _ (spliced ((false, eval (.GeneratorExp elt [⟨tg, iter, ifs, 0⟩] scope gpos) X.env) :: backTo pos (starEach [] X.env))) _ _ s
  refine Calls.spliced_cons (gen_made (R := fun J H1 => _) hr TB hcode G ok hi hs I h fun J H1 H2 s4 cenv fp it tn a gn s5 q tb M => ?_)
  refine Calls.spliced_nil (call_maxP M.isg ?_)
  obtain ⟨W, ⟨m, w0⟩, st⟩ := q H2 tb
  obtain ⟨code, hce⟩ := M.env
  subst hce
  have hlt : a < s5.heap.objs.size := by rw [M.lt]; exact Nat.lt_succ_self a
  obtain ⟨O, rd⟩ := gen_rdy (B := X.A.in1.in1) (Sx := [s5.heap.objs.size]) hr (nearA2 _) G ok hn M (fun A r => hg _ _ _ _ _ _ A r) (fun A r => ht _ _ _ _ _ _ A r) (fun A r => he _ _ _ _ _ _ A r) (fun b z => by rw [List.mem_singleton.mp z]; exact hlt) eInt_mono (tMaxG_step st) m ⟨[], rfl, w0⟩
  have hpush : ∀ b o, s5.heap.get? b = some o → (s5.heap.push (bestL #[] 0)).get? b = some o := fun b o e => Heap.get?_push_of_some _ e
  refine max_first (Qd := fun k H => Q (.int k) H) (S := s5.heap.objs.size) (Y := mkY X s4 H2 _ fp X.A.in1.in1 (wipe σ (own.map (·.2))) (.GeneratorExp elt [⟨tg, iter, ifs, 0⟩] scope gpos) it a gn [s5.heap.objs.size] eInt (fun ys H => ∃ zs, ys = zs.map V.int ∧ zs ≠ [] ∧ Q (.int (maxs zs)) H)) O rfl rfl rfl rfl hr.hd hr.depth (fun k t σ' H' s1 I' q => ?_) m H2 _ s5 _ 0 rd ?_ ?_ ?_ ?_ (Heap.get?_push_size _ rfl)
  · exact ⟨.int k, H', GEx.out (Y := mkY X s4 H2 _ fp X.A.in1.in1 (wipe σ (own.map (·.2))) (.GeneratorExp elt [⟨tg, iter, ifs, 0⟩] scope gpos) it a gn [s5.heap.objs.size] eInt (fun ys H => ∃ zs, ys = zs.map V.int ∧ zs ≠ [] ∧ Q (.int (maxs zs)) H)) M.inv (fun b hb => (M.fps b hb).1) I' (Aft.refl I'.bare), ⟨t, rfl⟩, q⟩
  · refine ⟨rfl, ?_, fun b o _ e => hpush b o e, fun b hb => ?_⟩
    · show AllBare s5.gens
      rw [M.gens]
      exact M.inv.bare.push rfl
    · rw [List.mem_singleton.mp hb]
      exact ⟨_, Heap.get?_push_size _ rfl, fun v z => by cases z⟩
  · obtain ⟨o, n1, n2, e, r⟩ := M.isg
    exact ⟨o, n1, n2, hpush _ _ e, r⟩
  · show s5.gens[gn]? = _
    rw [M.gens, M.num]
    simp
  · exact (M.inv.nolimit.keeps M.keep).push _
end
end
section
variable {K : PySem.W.Frag} {a : Addr} {xs : List V} {g : TG} {tt : TT} {te : TE} {vs : List Nat} {σ : L2.St} {H2 : Hp} {Q : VK}
/-- over a list that the element leaves as it is -/
theorem max_list (Pv : Nat → List Int → Hp → Prop) (h0 : Pv 0 [] H2) (hl : ∀ i zs H, i ≤ xs.length → Pv i zs H → SqL K H a xs)
    (hs : ∀ i zs x H, xs[i]? = some x → Pv i zs H → g x (wipe σ vs) H fun σ2 H2 => wipe σ2 vs = wipe σ vs ∧ tt σ2 H2 fun b H3 => if b = true then te σ2 H3 fun y H4 => MN (Pv (i + 1)) zs y H4 else MZ (Pv (i + 1)) zs H3) (hd : ∀ zs H, Pv xs.length zs H → zs ≠ [] ∧ Q (.int (maxs zs)) H) :
    ∃ W : Nat → Nat → List Int → Hp → Prop, (∃ m, W 0 m [] H2) ∧ ∀ i m zs H, W i m zs H → ((Itl K a).stop i H ∧ zs ≠ [] ∧ Q (.int (maxs zs)) H) ∨ ((Itl K a).go i H ∧ ∃ Nx : List Int → Hp → Prop, (∀ zs' H', Nx zs' H' → ∃ m', m' < m ∧ W (i + 1) m' zs' H') ∧
      ∀ x H', (Itl K a).yld i H x H' → g x (wipe σ vs) H' fun σ2 H2 => wipe σ2 vs = wipe σ vs ∧ tt σ2 H2 fun b H3 => if b = true then te σ2 H3 fun y H4 => MN Nx zs y H4 else MZ Nx zs H3) := by
  refine ⟨fun i m zs H => m = xs.length - i ∧ i ≤ xs.length ∧ Pv i zs H, ⟨xs.length, by simp, Nat.zero_le _, h0⟩, fun i m zs H w => ?_⟩
  obtain ⟨hm, hi, p⟩ := w
  have q := hl i zs H hi p
  rcases Nat.lt_or_ge i xs.length with z | z
  · refine .inr ⟨⟨xs, xs[i], q, by simp [z]⟩, Pv (i + 1), fun zs' H' p' => ⟨xs.length - (i + 1), by omega, rfl, z, p'⟩, fun x H' y => ?_⟩
    obtain ⟨rfl, y⟩ := y
    exact hs i zs x _ (y xs q) p
  · obtain rfl : i = xs.length := by omega
    exact .inl ⟨⟨xs, q, Nat.le_refl _⟩, hd zs H p⟩
end
end Sk

set_option Elab.async false
set_option linter.all false
set_option maxRecDepth 100000
set_option maxHeartbeats 4000000
namespace Sk
open PySem PySem.Spec PyProof.Rows L2
/-! ### separated boxes -/
/-- what the laws want of the rules -/
structure RuD where
  la : Int
  ve : Int
  ra : Int
  ba : Int
structure RuAt (H : Hp) (ru : Addr) (r : RuD) : Prop where
  ex : ∃ kvs, H ru = some (.dK kvs) ∧ valV kvs (.inr "lateral") = some (.int r.la) ∧ valV kvs (.inr "vertical") = some (.int r.ve) ∧ valV kvs (.inr "radius") = some (.int r.ra) ∧ valV kvs (.inr "band") = some (.int r.ba)
  bd : 1 ≤ r.la ∧ r.la ≤ 1000 ∧ 1 ≤ r.ve ∧ r.ve ≤ 1000 ∧ 0 ≤ r.ra ∧ r.ra ≤ 1000 ∧ 0 ≤ r.ba ∧ r.ba ≤ 1000
section
variable {H H' : Hp} {ru : Addr} {r : RuD}
theorem RuAt.same (R : RuAt H ru r) (s : Same H H') : RuAt H' ru r := ⟨let ⟨kvs, e, h⟩ := R.ex; ⟨kvs, s _ _ e, h⟩, R.bd⟩
theorem RuAt.keep {d : Addr} (R : RuAt H ru r) (s : Keep d H H') (n : ru ≠ d) : RuAt H' ru r := ⟨let ⟨kvs, e, h⟩ := R.ex; ⟨kvs, s _ _ e n, h⟩, R.bd⟩
theorem RuAt.st {T : List Addr} (R : RuAt H ru r) (s : SameT T H H') (t : Tabs T H) : RuAt H' ru r := ⟨let ⟨kvs, e, h⟩ := R.ex; ⟨kvs, s.d t e, h⟩, R.bd⟩
theorem RuAt.gla (R : RuAt H ru r) : DGet H ru (.str "lateral") (some (.int r.la)) := let ⟨_, e, h, _⟩ := R.ex; h ▸ DGet.k (k := .inr "lateral") e
theorem RuAt.gve (R : RuAt H ru r) : DGet H ru (.str "vertical") (some (.int r.ve)) := let ⟨_, e, _, h, _⟩ := R.ex; h ▸ DGet.k (k := .inr "vertical") e
theorem RuAt.gra (R : RuAt H ru r) : DGet H ru (.str "radius") (some (.int r.ra)) := let ⟨_, e, _, _, h, _⟩ := R.ex; h ▸ DGet.k (k := .inr "radius") e
theorem RuAt.gba (R : RuAt H ru r) : DGet H ru (.str "band") (some (.int r.ba)) := let ⟨_, e, _, _, _, h⟩ := R.ex; h ▸ DGet.k (k := .inr "band") e
end
def Seg.li (s : Seg) : List Int := [s.ax, s.ay, s.bx, s.bw, s.d]
theorem segs_of {P : Seg → Prop} : ∀ {xss : List (List Int)}, (∀ xs ∈ xss, ∃ s : Seg, xs = s.li ∧ P s) → ∃ ss : List Seg, xss = ss.map Seg.li ∧ ∀ s ∈ ss, P s
  | [], _ => ⟨[], rfl, fun _ h => nomatch h⟩
  | xs :: xss, h => by
    obtain ⟨s, e, p⟩ := h xs List.mem_cons_self
    obtain ⟨ss, e2, q⟩ := segs_of (P := P) (xss := xss) fun ys hy => h ys (List.mem_cons_of_mem _ hy)
    refine ⟨s :: ss, by rw [e, e2]; rfl, fun t ht => ?_⟩
    rcases List.mem_cons.mp ht with rfl | ht
    · exact p
    · exact q t ht
theorem LoT.segs {H : Hp} {l : Addr} {ss : List Seg} (L : LoT H l (ss.map Seg.li)) (hb : ∀ s ∈ ss, SegBd 200 100 s) : ∃ xs, H l = some (.lst xs) ∧ SegsAt H xs ss := by
  obtain ⟨qs, h1, h2, h3⟩ := L
  have el : qs.length = ss.length := by
    have := congrArg List.length h3
    rw [List.length_map, List.length_map] at this
    exact this
  refine ⟨_, h1, by rw [List.length_map]; exact el, fun i s hs => ?_⟩
  have hi := (List.getElem?_eq_some_iff.mp hs).1
  have hi2 : i < qs.length := by omega
  have e : qs[i].2 = s.li := by
    have e1 : (qs.map (·.2))[i]? = (ss.map Seg.li)[i]? := by rw [h3]
    rw [List.getElem?_map, List.getElem?_map, hs, List.getElem?_eq_getElem hi2] at e1
    exact Option.some.inj e1
  refine ⟨qs[i].1, by rw [List.getElem?_map, List.getElem?_eq_getElem hi2]; rfl, ?_, hb s (List.mem_of_getElem? hs)⟩
  have := h2 _ (List.getElem_mem hi2)
  rw [e] at this
  exact this
/-- the piece's segments are small and have a length -/
theorem plc_bd {D : CD} {ns : List Str} (b : Bd D) {k : Nat} {p : Int} (h0 : -100000000 ≤ p) (h1 : p ≤ 100000000) (hk : k ≤ 20) : ∃ x y, plc D ns k p = [x, y] ∧ BdN 200 x ∧ BdN 200 y := by
  have a1 := b (rn ns k)
  have a2 := b (rn ns (k + 1))
  have l0 := D.len_nn (rn ns k) (rn ns (k + 1))
  have l1 := D.len_le b (rn ns k) (rn ns (k + 1))
  have g0 := bg_nn D ns k
  have g1 := bg_le b ns k
  have e : ((2 ^ 30 : Nat) : Int) = 1073741824 := by decide
  have q : ∀ x : Int, -1000000000 ≤ x → x ≤ 1000000000 → BdN 30 x := fun x u v => BdN.of (by rw [e]; omega) (by rw [e]; omega)
  refine ⟨_, _, rfl, (((q _ (by omega) (by omega)).mul (q _ (by omega) (by omega))).add ((q _ (by omega) (by omega)).mul (q _ (by omega) (by omega)))).mono (by decide), (((q _ (by omega) (by omega)).mul (q _ (by omega) (by omega))).add ((q _ (by omega) (by omega)).mul (q _ (by omega) (by omega)))).mono (by decide)⟩
theorem seg_bd {D : CD} {ns : List Str} (b : Bd D) (pos : PosR D ns) {k : Nat} {s e : Int} (h0 : -100000000 ≤ s) (h1 : s ≤ 100000000) (h2 : -100000000 ≤ e) (h3 : e ≤ 100000000) (hk : k ≤ 20) (hk2 : k + 1 < ns.length) : ∃ t : Seg, seg D ns k s e = t.li ∧ SegBd 200 100 t ∧ 1 ≤ t.d := by
  obtain ⟨x, y, e1, b1, b2⟩ := plc_bd (D := D) (ns := ns) b (k := k) (p := s) h0 h1 hk
  obtain ⟨x', y', e2, b3, b4⟩ := plc_bd (D := D) (ns := ns) b (k := k) (p := e) h2 h3 hk
  have l1 := D.len_le b (rn ns k) (rn ns (k + 1))
  have l0 := pos k hk2
  have e : ((2 ^ 30 : Nat) : Int) = 1073741824 := by decide
  refine ⟨⟨x, y, x', y', D.len (rn ns k) (rn ns (k + 1))⟩, ?_, ⟨b1, b2, b3, b4, (BdN.of (x := D.len (rn ns k) (rn ns (k + 1))) (n := 30) (by rw [e]; omega) (by rw [e]; omega)).mono (by decide)⟩, l0⟩
  show plc D ns k s ++ (plc D ns k _ ++ _) = _
  rw [e1, e2]
  rfl
theorem pcs_segs {D : CD} {ns : List Str} (b : Bd D) (pos : PosR D ns) (n2 : 2 ≤ ns.length) (n20 : ns.length ≤ 20) {lo hi : Int} (h0 : -100000000 ≤ lo) (h1 : lo ≤ 100000000) (h2 : -100000000 ≤ hi) (h3 : hi ≤ 100000000) : ∃ ss : List Seg, pcs D ns lo hi = ss.map Seg.li ∧ ∀ s ∈ ss, SegBd 200 100 s ∧ 1 ≤ s.d := by
  refine segs_of (P := fun s => SegBd 200 100 s ∧ 1 ≤ s.d) fun xs hx => ?_
  have t0 := bg_nn D ns (ns.length - 1)
  have t1 := bg_le b ns (ns.length - 1)
  unfold pcs at hx
  dsimp only at hx
  generalize ef : (if 0 > lo then 0 else lo) = f at hx
  generalize el : (if bg D ns (ns.length - 1) < hi then bg D ns (ns.length - 1) else hi) = l at hx
  have f0 : -100000000 ≤ f ∧ f ≤ 100000000 := by split at ef <;> omega
  have l0 : -100000000 ≤ l ∧ l ≤ 100000000 := by split at el <;> omega
  split at hx
  · cases hx
  · split at hx
    · rw [List.mem_singleton.mp hx]
      have := (lat_cases D ns (ns.length - 1 - 1) f).1
      exact seg_bd b pos f0.1 f0.2 f0.1 f0.2 (by omega) (by omega)
    · obtain ⟨k, hk, e⟩ := List.mem_filterMap.mp hx
      have hk := List.mem_range.mp hk
      unfold segOf at e
      dsimp only at e
      have g0 := bg_nn D ns k
      have g1 := bg_le b ns k
      have g2 := bg_nn D ns (k + 1)
      have g3 := bg_le b ns (k + 1)
      generalize eu : (if bg D ns k > f then bg D ns k else f) = u at e
      generalize ev : (if bg D ns (k + 1) < l then bg D ns (k + 1) else l) = v at e
      split at e
      · rw [← Option.some.inj e]
        exact seg_bd b pos (by split at eu <;> omega) (by split at eu <;> omega) (by split at ev <;> omega) (by split at ev <;> omega) (by omega) (by omega)
      · cases e
structure Bx where
  lo : Int
  hi : Int
  dn : Int
  up : Int
def Bx.t (b : Bx) : HO := .tup [.int b.lo, .int b.hi, .int b.dn, .int b.up]
structure Bx.ok (b : Bx) : Prop where
  le : b.lo ≤ b.hi
  l0 : -100000000 ≤ b.lo
  h1 : b.hi ≤ 100000000
  d0 : -100000000 ≤ b.dn
  d1 : b.dn ≤ 100000000
def lvA (r : RuD) (x y : Bx) : Bool := decide (r.ve + 2 * r.ba ≤ x.dn - y.up) || decide (r.ve + 2 * r.ba ≤ y.dn - x.up)
def anyC (ss ts : List Seg) (l : Int) : Bool := ss.any fun s => ts.any fun t => clo s t l
theorem anyC_swap (ss ts : List Seg) (l : Int) : anyC ts ss l = anyC ss ts l := by
  unfold anyC
  rw [Bool.eq_iff_iff, List.any_eq_true, List.any_eq_true]
  constructor
  · rintro ⟨t, ht, h⟩
    obtain ⟨s, hs, h⟩ := List.any_eq_true.mp h
    exact ⟨s, hs, List.any_eq_true.mpr ⟨t, ht, by rw [← clo_swap]; exact h⟩⟩
  · rintro ⟨s, hs, h⟩
    obtain ⟨t, ht, h⟩ := List.any_eq_true.mp h
    exact ⟨t, ht, List.any_eq_true.mpr ⟨s, hs, by rw [← clo_swap]; exact h⟩⟩
def sepB (r : RuD) (x y : Bx) (ss ts : List Seg) : Bool := lvA r x y || !anyC ss ts (r.la + 2 * r.ra)
theorem sepB_swap (r : RuD) (x y : Bx) (ss ts : List Seg) : sepB r y x ts ss = sepB r x y ss ts := by
  unfold sepB lvA
  rw [anyC_swap, Bool.or_comm (decide (r.ve + 2 * r.ba ≤ y.dn - x.up))]
def spLvA : Sp := fun vs H Q _ => ∃ (ru b1 b2 : Addr) (r : RuD) (x y : Bx), vs = [.ref ru, .ref b1, .ref b2] ∧ RuAt H ru r ∧ H b1 = some x.t ∧ H b2 = some y.t ∧ Q (.bl (lvA r x y)) H
def spLeast : Sp := fun vs H Q _ => ∃ (ru : Addr) (r : RuD), vs = [.ref ru] ∧ RuAt H ru r ∧ Q (.int (r.la + 2 * r.ra)) H
def spSep (C : Addr) (TT : List Addr) : Sp := fun vs H Q _ => ∃ (ru p1 b1 p2 b2 r1 r2 : Addr) (r : RuD) (x y : Bx) (D : CD) (ns ms : List Str) (ss ts : List Seg), vs = [.ref ru, .ref p1, .ref b1, .ref p2, .ref b2] ∧ RuAt H ru r ∧ H b1 = some x.t ∧ H b2 = some y.t ∧ x.lo ≤ x.hi ∧ y.lo ≤ y.hi ∧
  PathAt C H p1 D ns r1 ∧ PathAt C H p2 D ms r2 ∧ Bd D ∧ 2 ≤ ns.length ∧ ns.length ≤ 20 ∧ 2 ≤ ms.length ∧ ms.length ≤ 20 ∧ pcs D ns x.lo x.hi = ss.map Seg.li ∧ (∀ s ∈ ss, SegBd 200 100 s ∧ 1 ≤ s.d) ∧ pcs D ms y.lo y.hi = ts.map Seg.li ∧ (∀ s ∈ ts, SegBd 200 100 s ∧ 1 ≤ s.d) ∧ Tabs TT H ∧
  ∀ H', SameT TT H H' → Q (.bl (sepB r x y ss ts)) H'
def spLSep : Sp := fun vs H Q _ => ∃ (ru b1 q1 b2 q2 : Addr) (r : RuD) (x y : Bx) (ss ts : List Seg), vs = [.ref ru, .ref b1, .ref q1, .ref b2, .ref q2] ∧ RuAt H ru r ∧ H b1 = some x.t ∧ H b2 = some y.t ∧ LoT H q1 (ss.map Seg.li) ∧ LoT H q2 (ts.map Seg.li) ∧ (∀ s ∈ ss, SegBd 200 100 s ∧ 1 ≤ s.d) ∧ (∀ s ∈ ts, SegBd 200 100 s ∧ 1 ≤ s.d) ∧ ss.length ≤ 100 ∧ ts.length ≤ 100 ∧
  ∀ H', Same H H' → Q (.bl (sepB r x y ss ts)) H'
def spRulesB (K : PySem.W.Frag) : Sp := fun vs H Q _ => ∃ (d c : Addr), vs = [.ref d] ∧ St1 K H d c ∧ ∀ ru (r : RuD) H', H ru = none → RuAt H' ru r → St1 K H' d c → Keep d H H' → Q (.ref ru) H'
def spBoxB (K : PySem.W.Frag) : Sp := fun vs H Q _ => ∃ (d c b : Addr) (D : CD) (ns : List Str), vs = [.ref d, .ref b] ∧ St1 K H d c ∧ H b = some (.lst ((bgs D ns).map V.int)) ∧ Bd D ∧ 2 ≤ ns.length ∧ ns.length ≤ 20 ∧ ∀ q (x : Bx) H', H q = none → x.ok → H' q = some x.t → St1 K H' d c → Keep d H H' → Q (.ref q) H'
end Sk

set_option Elab.async false
set_option linter.all false
set_option maxRecDepth 100000
set_option maxHeartbeats 4000000
namespace Sk
open PySem PySem.Spec PyProof.Rows L2
/-! a place of a stretch is on one of the segments of its piece -/
/-- (px / d, py / d) is on the segment -/
def OnS (px py d : Int) (s : Seg) : Prop := ∃ u v : Int, 0 ≤ u ∧ 0 ≤ v ∧ 1 ≤ u + v ∧ px * s.d * (u + v) = d * (u * s.ax + v * s.bx) ∧ py * s.d * (u + v) = d * (u * s.ay + v * s.bw)
theorem on_first {s : Seg} {px py : Int} (hx : px = s.ax) (hy : py = s.ay) : OnS px py s.d s := by
  refine ⟨1, 0, by decide, by decide, by decide, ?_, ?_⟩
  · rw [hx]; grind
  · rw [hy]; grind
theorem between {A B n g p st en : Int} : (A * n + B * (p - g)) * n * (en - p + (p - st)) = n * ((en - p) * (A * n + B * (st - g)) + (p - st) * (A * n + B * (en - g))) := by grind
theorem at_end {A B n g' : Int} {px d : Int} (h : px = A * d) (en : n * 1 = n) : px * n * (0 + 1) = d * (0 * g' + 1 * (A * n)) := by
  rw [h]; grind
theorem plc_eq (D : CD) (ns : List Str) (k : Nat) (p : Int) : plc D ns k p = [(D.xy (rn ns k)).1 * D.len (rn ns k) (rn ns (k + 1)) + ((D.xy (rn ns (k + 1))).1 - (D.xy (rn ns k)).1) * (p - bg D ns k), (D.xy (rn ns k)).2 * D.len (rn ns k) (rn ns (k + 1)) + ((D.xy (rn ns (k + 1))).2 - (D.xy (rn ns k)).2) * (p - bg D ns k)] := rfl
theorem li_inj {s t : Seg} (h : s.li = t.li) : s = t := by
  obtain ⟨a, b, c, d, e⟩ := s
  obtain ⟨a', b', c', d', e'⟩ := t
  simp only [Seg.li, List.cons.injEq, and_true] at h
  obtain ⟨rfl, rfl, rfl, rfl, rfl⟩ := h
  rfl
theorem place_on_piece {D : CD} {ns : List Str} (pos : PosR D ns) (n2 : 2 ≤ ns.length) {lo hi p px py : Int} {ss : List Seg} (e : pcs D ns lo hi = ss.map Seg.li)
    (h0 : 0 ≤ p) (h1 : p < bg D ns (ns.length - 1)) (hl : lo ≤ p) (hh : p ≤ hi) (hp : plc D ns (lat D ns (ns.length - 1 - 1) p) p = [px, py]) :
    ∃ s ∈ ss, OnS px py (D.len (rn ns (lat D ns (ns.length - 1 - 1) p)) (rn ns (lat D ns (ns.length - 1 - 1) p + 1))) s := by
  obtain ⟨c0, c1, c2⟩ := lat_cases D ns (ns.length - 1 - 1) p
  generalize hk : lat D ns (ns.length - 1 - 1) p = k at *
  have hk1 : k + 1 < ns.length := by omega
  have pk := pos k hk1
  have gk : bg D ns k ≤ p := by
    match k, c1 with
    | 0, _ => exact h0
    | k + 1, c1 => exact c1 k (by omega)
  have gk2 : p < bg D ns (k + 1) := by
    by_cases z : k < ns.length - 1 - 1
    · exact c2 z
    · have : k + 1 = ns.length - 1 := by omega
      rw [this]; exact h1
  have gs : bg D ns (k + 1) = bg D ns k + D.len (rn ns k) (rn ns (k + 1)) := rfl
  rw [plc_eq] at hp
  have hpx := (List.cons.inj hp).1.symm
  have hpy := (List.cons.inj (List.cons.inj hp).2).1.symm
  unfold pcs at e
  dsimp only at e
  rw [if_neg (by omega)] at e
  generalize ef : (if 0 > lo then 0 else lo) = f at e
  generalize el : (if bg D ns (ns.length - 1) < hi then bg D ns (ns.length - 1) else hi) = l at e
  have hf : f ≤ p ∧ 0 ≤ f := by split at ef <;> omega
  have hlp : p ≤ l := by split at el <;> omega
  have hlt : l ≤ bg D ns (ns.length - 1) := by split at el <;> omega
  by_cases fl : f = l
  · rw [if_pos fl] at e
    have fp : f = p := by omega
    rw [fp, hk] at e
    obtain ⟨s, rfl, es⟩ : ∃ s, ss = [s] ∧ s.li = seg D ns k p p := by
      cases ss with
      | nil => cases e
      | cons s r =>
        cases r with
        | nil => exact ⟨s, rfl, (List.cons.inj e).1.symm⟩
        | cons t r =>
          have := congrArg List.length e
          simp at this
    have ed : s.d = D.len (rn ns k) (rn ns (k + 1)) := by
      simp only [seg, plc_eq, Seg.li, List.cons_append, List.nil_append, List.cons.injEq, and_true] at es
      exact es.2.2.2.2
    have ea : s.ax = px ∧ s.ay = py := by
      simp only [seg, plc_eq, Seg.li, List.cons_append, List.nil_append, List.cons.injEq, and_true] at es
      exact ⟨by rw [hpx]; exact es.1, by rw [hpy]; exact es.2.1⟩
    refine ⟨s, List.mem_singleton.mpr rfl, ?_⟩
    rw [← ed]
    exact on_first ea.1.symm ea.2.symm
  · rw [if_neg fl] at e
    have mem : ∀ (k' : Nat) (st en : Int), k' < ns.length - 1 → (if bg D ns k' > f then bg D ns k' else f) = st → (if bg D ns (k' + 1) < l then bg D ns (k' + 1) else l) = en → st < en →
        ∃ s ∈ ss, s.li = seg D ns k' st en := fun k' st en h1 h2 h3 h4 => by
      have hm : seg D ns k' st en ∈ segsOf D ns f l (List.range (ns.length - 1)) := by
        refine List.mem_filterMap.mpr ⟨k', List.mem_range.mpr h1, ?_⟩
        unfold segOf
        dsimp only
        rw [h2, h3, if_pos h4]
      rw [e] at hm
      obtain ⟨s, hs, es⟩ := List.mem_map.mp hm
      exact ⟨s, hs, es⟩
    generalize est : (if bg D ns k > f then bg D ns k else f) = st
    generalize een : (if bg D ns (k + 1) < l then bg D ns (k + 1) else l) = en
    have hst : st ≤ p := by split at est <;> omega
    have hen : p ≤ en := by split at een <;> omega
    by_cases lt : st < en
    · obtain ⟨s, hs, es⟩ := mem k st en (by omega) est een lt
      refine ⟨s, hs, en - p, p - st, by omega, by omega, by omega, ?_, ?_⟩
      all_goals
        simp only [seg, plc_eq, Seg.li, List.cons_append, List.nil_append, List.cons.injEq, and_true] at es
        obtain ⟨e1, e2, e3, e4, e5⟩ := es
      · rw [hpx, e1, e3, e5]
        exact between
      · rw [hpy, e2, e4, e5]
        exact between
    · -- the joint: p is the end of the leg before
      have pst : st = p ∧ en = p := by omega
      have pl : l = p := by
        have := pst.2
        split at een <;> omega
      have pg : bg D ns k = p := by
        have := pst.1
        split at est <;> omega
      have k0 : k ≠ 0 := fun z => by
        rw [z] at pg
        have : (0 : Int) = p := pg
        omega
      obtain ⟨j, rfl⟩ : ∃ j, k = j + 1 := ⟨k - 1, by omega⟩
      have pj := pos j (by omega)
      have gj : bg D ns (j + 1) = bg D ns j + D.len (rn ns j) (rn ns (j + 1)) := rfl
      generalize est' : (if bg D ns j > f then bg D ns j else f) = st'
      have h5 : (if bg D ns (j + 1) < l then bg D ns (j + 1) else l) = p := by split <;> omega
      have h6 : st' < p := by split at est' <;> omega
      obtain ⟨s, hs, es⟩ := mem j st' p (by omega) est' h5 h6
      refine ⟨s, hs, 0, 1, by decide, by decide, by decide, ?_, ?_⟩
      all_goals
        simp only [seg, plc_eq, Seg.li, List.cons_append, List.nil_append, List.cons.injEq, and_true] at es
        obtain ⟨e1, e2, e3, e4, e5⟩ := es
        have q : p - bg D ns j = D.len (rn ns j) (rn ns (j + 1)) := by omega
        have q2 : p - bg D ns (j + 1) = 0 := by omega
        rw [q] at e3 e4
        rw [q2] at hpx hpy
      · rw [hpx, e3, e5]
        grind
      · rw [hpy, e4, e5]
        grind
/-! the greatest rounded down, the least rounded up, of the ends of some segments -/
def c0 (i : Nat) (s : Seg) : Int := if i = 0 then s.ax else s.ay
def c1 (i : Nat) (s : Seg) : Int := if i = 0 then s.bx else s.bw
def dn (i : Nat) (ss : List Seg) : List Int := ss.flatMap fun s => [c0 i s / s.d, c1 i s / s.d]
def up (i : Nat) (ss : List Seg) : List Int := ss.flatMap fun s => [-(-c0 i s / s.d), -(-c1 i s / s.d)]
theorem maxs_eq {zs : List Int} {m : Int} (h : m ∈ zs) (g : ∀ z ∈ zs, z ≤ m) : maxs zs = m := by
  have ne : zs ≠ [] := fun e => by rw [e] at h; cases h
  obtain ⟨a, b⟩ := maxs_spec ne
  have := g _ a
  have := b _ h
  omega
theorem mins_eq {zs : List Int} {m : Int} (h : m ∈ zs) (g : ∀ z ∈ zs, m ≤ z) : mins zs = m := by
  have ne : zs ≠ [] := fun e => by rw [e] at h; cases h
  obtain ⟨a, b⟩ := mins_spec ne
  have := g _ a
  have := b _ h
  omega
theorem maxs_same {zs ws : List Int} (h : ∀ z, z ∈ zs ↔ z ∈ ws) (ne : zs ≠ []) : maxs zs = maxs ws := by
  obtain ⟨a, b⟩ := maxs_spec ne
  exact (maxs_eq ((h _).mp a) fun z hz => b z ((h z).mpr hz)).symm
theorem mins_same {zs ws : List Int} (h : ∀ z, z ∈ zs ↔ z ∈ ws) (ne : zs ≠ []) : mins zs = mins ws := by
  obtain ⟨a, b⟩ := mins_spec ne
  exact (mins_eq ((h _).mp a) fun z hz => b z ((h z).mpr hz)).symm
/-- the ends as fractions, in the program's order -/
def ends (i : Nat) (ss : List Seg) : List (Int × Int) := ss.map (fun s => (c0 i s, s.d)) ++ ss.map (fun s => (c1 i s, s.d))
theorem ends_dn (i : Nat) (ss : List Seg) (z : Int) : z ∈ (ends i ss).map (fun e => e.1 / e.2) ↔ z ∈ dn i ss := by
  unfold ends dn
  simp only [List.map_append, List.map_map, List.mem_append, List.mem_map, List.mem_flatMap, List.mem_cons, List.not_mem_nil, or_false, Function.comp]
  constructor
  · rintro (⟨s, h, e⟩ | ⟨s, h, e⟩)
    · exact ⟨s, h, .inl e.symm⟩
    · exact ⟨s, h, .inr e.symm⟩
  · rintro ⟨s, h, e | e⟩
    · exact .inl ⟨s, h, e.symm⟩
    · exact .inr ⟨s, h, e.symm⟩
theorem ends_up (i : Nat) (ss : List Seg) (z : Int) : z ∈ (ends i ss).map (fun e => -(-e.1 / e.2)) ↔ z ∈ up i ss := by
  unfold ends up
  simp only [List.map_append, List.map_map, List.mem_append, List.mem_map, List.mem_flatMap, List.mem_cons, List.not_mem_nil, or_false, Function.comp]
  constructor
  · rintro (⟨s, h, e⟩ | ⟨s, h, e⟩)
    · exact ⟨s, h, .inl e.symm⟩
    · exact ⟨s, h, .inr e.symm⟩
  · rintro ⟨s, h, e | e⟩
    · exact .inl ⟨s, h, e.symm⟩
    · exact .inr ⟨s, h, e.symm⟩
theorem ends_ne {i : Nat} {ss : List Seg} (h : ss ≠ []) : ends i ss ≠ [] := by
  cases ss with
  | nil => exact absurd rfl h
  | cons s ss => intro z; cases z
theorem ends_bd {i : Nat} {ss : List Seg} (h : ∀ s ∈ ss, SegBd 200 100 s ∧ 1 ≤ s.d) : ∀ e ∈ ends i ss, BdN 200 e.1 ∧ BdN 100 e.2 ∧ 1 ≤ e.2 := fun e he => by
  unfold ends at he
  rcases List.mem_append.mp he with he | he
  · obtain ⟨s, hs, rfl⟩ := List.mem_map.mp he
    obtain ⟨b, d⟩ := h s hs
    exact ⟨by show BdN 200 (c0 i s); unfold c0; split; exact b.ax; exact b.ay, b.d, d⟩
  · obtain ⟨s, hs, rfl⟩ := List.mem_map.mp he
    obtain ⟨b, d⟩ := h s hs
    exact ⟨by show BdN 200 (c1 i s); unfold c1; split; exact b.bx; exact b.bw, b.d, d⟩
/-! the estimate -/
structure Est where
  x1 : Int
  x2 : Int
  y1 : Int
  y2 : Int
def Est.v (e : Est) : List V := [.int e.x1, .int e.x2, .int e.y1, .int e.y2]
def nlo (low told m : Int) (i : Nat) (ss : List Seg) : Int := if told - m - maxs (dn i ss) > low then told - m - maxs (dn i ss) else low
def nhi (high told m : Int) (i : Nat) (ss : List Seg) : Int := if told + m - mins (up i ss) < high then told + m - mins (up i ss) else high
def nar (e : Est) (m x y : Int) (ss : List Seg) : Option Est :=
  if nlo e.x1 x m 0 ss > nhi e.x2 x m 0 ss ∨ nlo e.y1 y m 1 ss > nhi e.y2 y m 1 ss then none else some ⟨nlo e.x1 x m 0 ss, nhi e.x2 x m 0 ss, nlo e.y1 y m 1 ss, nhi e.y2 y m 1 ss⟩
/-- what lies below the greatest end, lies below it rounded down -/
theorem below_max {px d u v w : Int} {i : Nat} {s : Seg} {ss : List Seg} (hs : s ∈ ss) (d1 : 1 ≤ d) (sd : 1 ≤ s.d) (u0 : 0 ≤ u) (v0 : 0 ≤ v) (uv : 1 ≤ u + v) (e : px * s.d * (u + v) = d * (u * c0 i s + v * c1 i s)) (h : w * d ≤ px) : w ≤ maxs (dn i ss) := by
  have ne : dn i ss ≠ [] := fun z => by
    have : c0 i s / s.d ∈ dn i ss := List.mem_flatMap.mpr ⟨s, hs, by simp⟩
    rw [z] at this; cases this
  obtain ⟨_, b⟩ := maxs_spec ne
  have b0 := b _ (show c0 i s / s.d ∈ dn i ss from List.mem_flatMap.mpr ⟨s, hs, by simp⟩)
  have b1 := b _ (show c1 i s / s.d ∈ dn i ss from List.mem_flatMap.mpr ⟨s, hs, by simp⟩)
  rcases Int.lt_or_le (maxs (dn i ss)) w with z | z
  · exfalso
    have q0 : c0 i s < w * s.d := by
      have := Int.lt_ediv_add_one_mul_self (c0 i s) (show 0 < s.d by omega)
      have := Int.mul_le_mul_of_nonneg_right (show c0 i s / s.d + 1 ≤ w by omega) (show 0 ≤ s.d by omega)
      omega
    have q1 : c1 i s < w * s.d := by
      have := Int.lt_ediv_add_one_mul_self (c1 i s) (show 0 < s.d by omega)
      have := Int.mul_le_mul_of_nonneg_right (show c1 i s / s.d + 1 ≤ w by omega) (show 0 ≤ s.d by omega)
      omega
    have r0 : u * c0 i s ≤ u * (w * s.d - 1) := Int.mul_le_mul_of_nonneg_left (by omega) u0
    have r1 : v * c1 i s ≤ v * (w * s.d - 1) := Int.mul_le_mul_of_nonneg_left (by omega) v0
    have r2 : u * (w * s.d - 1) + v * (w * s.d - 1) = (u + v) * (w * s.d) - (u + v) := by grind
    have r3 : u * c0 i s + v * c1 i s ≤ (u + v) * (w * s.d) - 1 := by omega
    have r4 := Int.mul_le_mul_of_nonneg_left r3 (show 0 ≤ d by omega)
    have r5 := Int.mul_le_mul_of_nonneg_right (Int.mul_le_mul_of_nonneg_right h (show 0 ≤ s.d by omega)) (show 0 ≤ u + v by omega)
    have r6 : w * d * s.d * (u + v) = d * ((u + v) * (w * s.d)) := by grind
    have r7 : d * ((u + v) * (w * s.d) - 1) = d * ((u + v) * (w * s.d)) - d := by grind
    omega
  · exact z
theorem above_min {px d u v w : Int} {i : Nat} {s : Seg} {ss : List Seg} (hs : s ∈ ss) (d1 : 1 ≤ d) (sd : 1 ≤ s.d) (u0 : 0 ≤ u) (v0 : 0 ≤ v) (uv : 1 ≤ u + v) (e : px * s.d * (u + v) = d * (u * c0 i s + v * c1 i s)) (h : px ≤ w * d) : mins (up i ss) ≤ w := by
  have ne : up i ss ≠ [] := fun z => by
    have : -(-c0 i s / s.d) ∈ up i ss := List.mem_flatMap.mpr ⟨s, hs, by simp⟩
    rw [z] at this; cases this
  obtain ⟨_, b⟩ := mins_spec ne
  have b0 := b _ (show -(-c0 i s / s.d) ∈ up i ss from List.mem_flatMap.mpr ⟨s, hs, by simp⟩)
  have b1 := b _ (show -(-c1 i s / s.d) ∈ up i ss from List.mem_flatMap.mpr ⟨s, hs, by simp⟩)
  rcases Int.lt_or_le w (mins (up i ss)) with z | z
  · exfalso
    have q0 : w * s.d < c0 i s := by
      have := Int.lt_ediv_add_one_mul_self (-c0 i s) (show 0 < s.d by omega)
      have := Int.mul_le_mul_of_nonneg_right (show -c0 i s / s.d + 1 ≤ -w by omega) (show 0 ≤ s.d by omega)
      rw [Int.neg_mul] at this
      omega
    have q1 : w * s.d < c1 i s := by
      have := Int.lt_ediv_add_one_mul_self (-c1 i s) (show 0 < s.d by omega)
      have := Int.mul_le_mul_of_nonneg_right (show -c1 i s / s.d + 1 ≤ -w by omega) (show 0 ≤ s.d by omega)
      rw [Int.neg_mul] at this
      omega
    have r0 : u * (w * s.d + 1) ≤ u * c0 i s := Int.mul_le_mul_of_nonneg_left (by omega) u0
    have r1 : v * (w * s.d + 1) ≤ v * c1 i s := Int.mul_le_mul_of_nonneg_left (by omega) v0
    have r2 : u * (w * s.d + 1) + v * (w * s.d + 1) = (u + v) * (w * s.d) + (u + v) := by grind
    have r3 : (u + v) * (w * s.d) + 1 ≤ u * c0 i s + v * c1 i s := by omega
    have r4 := Int.mul_le_mul_of_nonneg_left r3 (show 0 ≤ d by omega)
    have r5 := Int.mul_le_mul_of_nonneg_right (Int.mul_le_mul_of_nonneg_right h (show 0 ≤ s.d by omega)) (show 0 ≤ u + v by omega)
    have r6 : w * d * s.d * (u + v) = d * ((u + v) * (w * s.d)) := by grind
    have r7 : d * ((u + v) * (w * s.d) + 1) = d * ((u + v) * (w * s.d)) + d := by grind
    omega
  · exact z
/-- squares and sides -/
theorem side_of {a b m : Int} (hm : 0 ≤ m) (h : a * a + b * b ≤ m * m) : -m ≤ a ∧ a ≤ m := by
  have hb : 0 ≤ b * b := sq0 b
  constructor
  · rcases Int.lt_or_le a (-m) with z | z
    · have := Int.mul_le_mul (show m + 1 ≤ -a by omega) (show m + 1 ≤ -a by omega) (by omega) (by omega)
      rw [Int.neg_mul_neg] at this
      have e : (m + 1) * (m + 1) = m * m + 2 * m + 1 := by grind
      omega
    · exact z
  · rcases Int.lt_or_le m a with z | z
    · have := Int.mul_le_mul (show m + 1 ≤ a by omega) (show m + 1 ≤ a by omega) (by omega) (by omega)
      have e : (m + 1) * (m + 1) = m * m + 2 * m + 1 := by grind
      omega
    · exact z
theorem tri {a b c e M N : Int} (hM : 0 ≤ M) (hN : 0 ≤ N) (h1 : a * a + b * b ≤ M * M) (h2 : c * c + e * e ≤ N * N) : (a + c) * (a + c) + (b + e) * (b + e) ≤ (M + N) * (M + N) := by
  have dot : a * c + b * e ≤ M * N := by
    rcases Int.lt_or_le (M * N) (a * c + b * e) with z | z
    · exfalso
      have mn : 0 ≤ M * N := Int.mul_nonneg hM hN
      have q1 := Int.mul_le_mul (show M * N + 1 ≤ a * c + b * e by omega) (show M * N + 1 ≤ a * c + b * e by omega) (by omega) (by omega)
      have q2 := Int.mul_le_mul h1 h2 (Int.add_nonneg (sq0 c) (sq0 e)) (Int.mul_nonneg hM hM)
      have q3 : (a * c + b * e) * (a * c + b * e) + (a * e - b * c) * (a * e - b * c) = (a * a + b * b) * (c * c + e * e) := by grind
      have q4 := sq0 (a * e - b * c)
      have q5 : (M * N + 1) * (M * N + 1) = M * M * (N * N) + 2 * (M * N) + 1 := by grind
      omega
    · exact z
  have e1 : (a + c) * (a + c) + (b + e) * (b + e) = (a * a + b * b) + (c * c + e * e) + 2 * (a * c + b * e) := by grind
  have e2 : (M + N) * (M + N) = M * M + N * N + 2 * (M * N) := by grind
  omega
end Sk
namespace Sk
open PySem PySem.Spec PyProof.Rows L2
/-- the error of the radars -/
def RrAt (H : Hp) (ru : Addr) (rd : Int) : Prop := ∃ kvs, H ru = some (.dK kvs) ∧ valV kvs (.inr "radar") = some (.int rd)
section
variable {H H' : Hp} {ru : Addr} {rd : Int}
theorem RrAt.same (R : RrAt H ru rd) (s : Same H H') : RrAt H' ru rd := let ⟨kvs, e, h⟩ := R; ⟨kvs, s _ _ e, h⟩
theorem RrAt.keep {d : Addr} (R : RrAt H ru rd) (s : Keep d H H') (n : ru ≠ d) : RrAt H' ru rd := let ⟨kvs, e, h⟩ := R; ⟨kvs, s _ _ e n, h⟩
theorem RrAt.st {T : List Addr} (R : RrAt H ru rd) (s : SameT T H H') (t : Tabs T H) : RrAt H' ru rd := let ⟨kvs, e, h⟩ := R; ⟨kvs, s.d t e, h⟩
theorem RrAt.g (R : RrAt H ru rd) : DGet H ru (.str "radar") (some (.int rd)) := let ⟨_, e, h⟩ := R; h ▸ DGet.k (k := .inr "radar") e
end
def spRulesR (K : PySem.W.Frag) : Sp := fun vs H Q _ => ∃ (d c : Addr), vs = [.ref d] ∧ St1 K H d c ∧ ∀ ru (r : RuD) (rd : Int) H', H ru = none → RuAt H' ru r → RrAt H' ru rd → 0 ≤ rd → rd ≤ 1000 → St1 K H' d c → Keep d H H' → Q (.ref ru) H'
/-- a list of pairs -/
def PrAt (H : Hp) (l : Addr) (es : List (Int × Int)) : Prop := ∃ qs : List (Addr × Int × Int), H l = some (.lst (qs.map fun q => V.ref q.1)) ∧ (∀ q ∈ qs, H q.1 = some (.tup [.int q.2.1, .int q.2.2])) ∧ qs.map (·.2) = es
theorem PrAt.same {H H' : Hp} {l : Addr} {es : List (Int × Int)} (L : PrAt H l es) (e : Same H H') : PrAt H' l es := let ⟨qs, h1, h2, h3⟩ := L; ⟨qs, e _ _ h1, fun q h => e _ _ (h2 q h), h3⟩
theorem PrAt.st {T : List Addr} {H H' : Hp} {l : Addr} {es : List (Int × Int)} (L : PrAt H l es) (s : SameT T H H') (t : Tabs T H) : PrAt H' l es := let ⟨qs, h1, h2, h3⟩ := L; ⟨qs, s.l t h1, fun q h => s.t t (h2 q h), h3⟩
theorem PrAt.nil {H : Hp} {l : Addr} (h : H l = some (.lst [])) : PrAt H l [] := ⟨[], h, (fun _ h => nomatch h), rfl⟩
theorem PrAt.snoc {H : Hp} {l p : Addr} {es : List (Int × Int)} {a b : Int} {ys : List V} (L : PrAt H l es) (hl : H l = some (.lst ys)) (hp : H p = some (.tup [.int a, .int b])) : PrAt (upd H l (.lst (ys ++ [.ref p]))) l (es ++ [(a, b)]) := by
  obtain ⟨qs, h1, h2, h3⟩ := L
  rw [hl] at h1
  cases h1
  refine ⟨qs ++ [(p, a, b)], by rw [upd_same, List.map_append]; rfl, fun q hq => ?_, by rw [List.map_append, h3]; rfl⟩
  have ht : H q.1 = some (.tup [.int q.2.1, .int q.2.2]) := by
    rcases List.mem_append.mp hq with h | h
    · exact h2 q h
    · rw [List.mem_singleton.mp h]; exact hp
  rw [upd_ne (ne_of ht hl (by intro z; cases z))]
  exact ht
theorem PrAt.cat {H : Hp} {l m p : Addr} {es fs : List (Int × Int)} {xs ys : List V} (L : PrAt H l es) (M : PrAt H m fs) (hl : H l = some (.lst xs)) (hm : H m = some (.lst ys)) (hp : H p = none) : PrAt (upd H p (.lst (xs ++ ys))) p (es ++ fs) := by
  obtain ⟨qs, h1, h2, h3⟩ := L
  obtain ⟨rs, g1, g2, g3⟩ := M
  rw [hl] at h1
  rw [hm] at g1
  cases h1
  cases g1
  refine ⟨qs ++ rs, by rw [upd_same, List.map_append], fun q hq => same_new hp _ _ ?_, by rw [List.map_append, h3, g3]⟩
  rcases List.mem_append.mp hq with h | h
  · exact h2 q h
  · exact g2 q h
theorem PrAt.len {H : Hp} {l : Addr} {es : List (Int × Int)} (L : PrAt H l es) : ∃ ys : List V, H l = some (.lst ys) ∧ ys.length = es.length := let ⟨qs, h1, _, h3⟩ := L; ⟨_, h1, by rw [List.length_map, ← h3, List.length_map]⟩
/-- the pair at a place -/
theorem PrAt.at {H : Hp} {l : Addr} {es : List (Int × Int)} (L : PrAt H l es) : ∃ ps : List Addr, H l = some (.lst (ps.map V.ref)) ∧ ps.length = es.length ∧ ∀ (i : Nat) (v : V), (ps.map V.ref)[i]? = some v → ∃ (p : Addr) (e : Int × Int), v = .ref p ∧ es[i]? = some e ∧ H p = some (.tup [.int e.1, .int e.2]) := by
  obtain ⟨qs, h1, h2, h3⟩ := L
  refine ⟨qs.map (·.1), by rw [List.map_map]; exact h1, by rw [List.length_map, ← h3, List.length_map], fun i v h => ?_⟩
  rw [List.map_map, List.getElem?_map] at h
  cases e : qs[i]? with
  | none => rw [e] at h; cases h
  | some q =>
    rw [e] at h
    refine ⟨q.1, q.2, (Option.some.inj h).symm, by rw [← h3, List.getElem?_map, e]; rfl, h2 q (List.mem_of_getElem? e)⟩
/-- the segment at a place -/
theorem LoT.at {H : Hp} {l : Addr} {ss : List Seg} (L : LoT H l (ss.map Seg.li)) : ∃ ps : List Addr, H l = some (.lst (ps.map V.ref)) ∧ ps.length = ss.length ∧ ∀ (i : Nat) (v : V), (ps.map V.ref)[i]? = some v → ∃ (p : Addr) (s : Seg), v = .ref p ∧ ss[i]? = some s ∧ H p = some (.tup (s.li.map V.int)) := by
  obtain ⟨qs, h1, h2, h3⟩ := L
  have hl : qs.length = ss.length := by
    have := congrArg List.length h3
    rw [List.length_map, List.length_map] at this
    exact this
  refine ⟨qs.map (·.1), by rw [List.map_map]; exact h1, by rw [List.length_map]; exact hl, fun i v h => ?_⟩
  rw [List.map_map, List.getElem?_map] at h
  cases e : qs[i]? with
  | none => rw [e] at h; cases h
  | some q =>
    rw [e] at h
    have hi : i < ss.length := by rw [← hl]; exact (List.getElem?_eq_some_iff.mp e).1
    refine ⟨q.1, ss[i], (Option.some.inj h).symm, List.getElem?_eq_getElem hi, ?_⟩
    have e1 : (qs.map (·.2))[i]? = (ss.map Seg.li)[i]? := by rw [h3]
    rw [List.getElem?_map, List.getElem?_map, e, List.getElem?_eq_getElem hi] at e1
    have e2 : q.2 = ss[i].li := Option.some.inj e1
    rw [← e2]
    exact h2 q (List.mem_of_getElem? e)
/-! promises -/
def spEnds (i : Nat) : Sp := fun vs H Q _ => ∃ (l : Addr) (ss : List Seg), vs = [.ref l] ∧ LoT H l (ss.map Seg.li) ∧ ss.length ≤ 100 ∧ ∀ p H', Same H H' → PrAt H' p (ends i ss) → Q (.ref p) H'
def rlo (low told m : Int) (es : List (Int × Int)) : Int := if told - m - maxs (es.map fun e => e.1 / e.2) > low then told - m - maxs (es.map fun e => e.1 / e.2) else low
def rhi (high told m : Int) (es : List (Int × Int)) : Int := if told + m - mins (es.map fun e => -(-e.1 / e.2)) < high then told + m - mins (es.map fun e => -(-e.1 / e.2)) else high
def spRange (TT : List Addr) : Sp := fun vs H Q _ => ∃ (lo hi told m : Int) (l : Addr) (es : List (Int × Int)), vs = [.int lo, .int hi, .int told, .int m, .ref l] ∧ PrAt H l es ∧ es ≠ [] ∧ es.length ≤ 1000 ∧ (∀ e ∈ es, BdN 200 e.1 ∧ BdN 100 e.2 ∧ 1 ≤ e.2) ∧ Tabs TT H ∧
  ∀ q H', SameT TT H H' → H' q = some (.tup [.int (rlo lo told m es), .int (rhi hi told m es)]) → Q (.ref q) H'
theorem rlo_eq {low told m : Int} {i : Nat} {ss : List Seg} (h : ss ≠ []) : rlo low told m (ends i ss) = nlo low told m i ss := by
  have ne : (ends i ss).map (fun e => e.1 / e.2) ≠ [] := fun z => ends_ne h (List.map_eq_nil_iff.mp z)
  unfold rlo nlo
  rw [maxs_same (ends_dn i ss) ne]
theorem rhi_eq {high told m : Int} {i : Nat} {ss : List Seg} (h : ss ≠ []) : rhi high told m (ends i ss) = nhi high told m i ss := by
  have ne : (ends i ss).map (fun e => -(-e.1 / e.2)) ≠ [] := fun z => ends_ne h (List.map_eq_nil_iff.mp z)
  unfold rhi nhi
  rw [mins_same (ends_up i ss) ne]
/-- a tuple of the estimate, or None -/
def optE (H : Hp) (o : Option Est) (v : V) : Prop := match o with
  | none => v = .non
  | some e => ∃ q, v = .ref q ∧ H q = some (.tup e.v)
def pdE : Option Est → PyData
  | none => .none
  | some e => .tuple ([e.x1, e.x2, e.y1, e.y2].map .int)
theorem optE.dp {K : PySem.W.Frag} {H : Hp} {o : Option Est} {v : V} (h : optE H o v) : Dp K H v (pdE o) := by
  cases o with
  | none => rw [show v = .non from h]; exact .non
  | some e =>
    obtain ⟨q, rfl, hq⟩ := h
    exact .tup (.inl (.inl hq)) (dpAll_int [e.x1, e.x2, e.y1, e.y2])
theorem optE.same {H H' : Hp} {o : Option Est} {v : V} (h : optE H o v) (s : Same H H') : optE H' o v := by
  cases o with
  | none => exact h
  | some e =>
    obtain ⟨q, rfl, hq⟩ := h
    exact ⟨q, rfl, s _ _ hq⟩
theorem optE.st {T : List Addr} {H H' : Hp} {o : Option Est} {v : V} (h : optE H o v) (s : SameT T H H') (t : Tabs T H) : optE H' o v := by
  cases o with
  | none => exact h
  | some e =>
    obtain ⟨q, rfl, hq⟩ := h
    exact ⟨q, rfl, s.t t hq⟩
theorem can_e (o : Option Est) : (pdE o).canLay0 = true := by
  cases o with
  | none => rfl
  | some e => exact can_pd _
theorem sh_e (o : Option Est) : SeqAt.shaped (pdE o) = true := by
  cases o with
  | none => rfl
  | some e => exact sh_pd _
structure PtB (H : Hp) (q : Addr) (x y z : Int) : Prop where
  t : H q = some (.tup [.int x, .int y, .int z])
def spNar (C : Addr) (TT : List Addr) : Sp := fun vs H Q _ => ∃ (ru e p b q r1 : Addr) (r : RuD) (rd : Int) (E : Est) (D : CD) (ns : List Str) (x : Bx) (px py pz : Int) (ss : List Seg), vs = [.ref ru, .ref e, .ref p, .ref b, .ref q] ∧ RuAt H ru r ∧ RrAt H ru rd ∧ H e = some (.tup E.v) ∧ H b = some x.t ∧ x.lo ≤ x.hi ∧
  H q = some (.tup [.int px, .int py, .int pz]) ∧ PathAt C H p D ns r1 ∧ Bd D ∧ 2 ≤ ns.length ∧ ns.length ≤ 20 ∧ pcs D ns x.lo x.hi = ss.map Seg.li ∧ (∀ s ∈ ss, SegBd 200 100 s ∧ 1 ≤ s.d) ∧ ss ≠ [] ∧ ss.length ≤ 100 ∧ Tabs TT H ∧
  ∀ v H', SameT TT H H' → optE H' (nar E (rd + r.ra) px py ss) v → Q v H'
/-- what the correction gives -/
def mid (a b : Int) : Int := (a + b) / 2
def side (a b : Int) : Int := if mid a b - a > b - mid a b then mid a b - a else b - mid a b
def spCor : Sp := fun vs H Q _ => ∃ (ru e q : Addr) (rd : Int) (E : Est) (px py pz : Int), vs = [.ref ru, .ref e, .ref q] ∧ RrAt H ru rd ∧ H e = some (.tup E.v) ∧ H q = some (.tup [.int px, .int py, .int pz]) ∧
  0 ≤ side E.x1 E.x2 ∧ side E.x1 E.x2 ≤ 1000000 ∧ 0 ≤ side E.y1 E.y2 ∧ side E.y1 E.y2 ≤ 1000000 ∧
  ∀ (u v : Addr) (H' : Hp), Same H H' → H' u = some (.tup [.ref v, .int (rd + rt (side E.x1 E.x2 * side E.x1 E.x2 + side E.y1 E.y2 * side E.y1 E.y2))]) → H' v = some (.tup [.int (px - mid E.x1 E.x2), .int (py - mid E.y1 E.y2), .int pz]) → Q (.ref u) H'
end Sk
namespace Sk
open PySem PySem.Spec PyProof.Rows L2 GenW GxR
section
variable {K : PySem.W.Frag} {a : Addr} {xs : List V} {g : TG} {tt : TT} {te : TE} {vs : List Nat} {σ : L2.St} {H2 : Hp} {R : List Int → Hp → Prop}
/-- over a list that the element leaves as it is -/
theorem gen_listR (Pv : Nat → List Int → Hp → Prop) (h0 : Pv 0 [] H2) (hl : ∀ i zs H, i ≤ xs.length → Pv i zs H → SqL K H a xs)
    (hs : ∀ i zs x H, xs[i]? = some x → Pv i zs H → g x (wipe σ vs) H fun σ2 H2 => wipe σ2 vs = wipe σ vs ∧ tt σ2 H2 fun b H3 => if b = true then te σ2 H3 fun y H4 => MN (Pv (i + 1)) zs y H4 else MZ (Pv (i + 1)) zs H3) (hd : ∀ zs H, Pv xs.length zs H → zs ≠ [] ∧ R zs H) :
    ∃ W : Nat → Nat → List Int → Hp → Prop, (∃ m, W 0 m [] H2) ∧ ∀ i m zs H, W i m zs H → ((Itl K a).stop i H ∧ zs ≠ [] ∧ R zs H) ∨ ((Itl K a).go i H ∧ ∃ Nx : List Int → Hp → Prop, (∀ zs' H', Nx zs' H' → ∃ m', m' < m ∧ W (i + 1) m' zs' H') ∧
      ∀ x H', (Itl K a).yld i H x H' → g x (wipe σ vs) H' fun σ2 H2 => wipe σ2 vs = wipe σ vs ∧ tt σ2 H2 fun b H3 => if b = true then te σ2 H3 fun y H4 => MN Nx zs y H4 else MZ Nx zs H3) := by
  refine ⟨fun i m zs H => m = xs.length - i ∧ i ≤ xs.length ∧ Pv i zs H, ⟨xs.length, by simp, Nat.zero_le _, h0⟩, fun i m zs H w => ?_⟩
  obtain ⟨hm, hi, p⟩ := w
  have q := hl i zs H hi p
  rcases Nat.lt_or_ge i xs.length with z | z
  · refine .inr ⟨⟨xs, xs[i], q, by simp [z]⟩, Pv (i + 1), fun zs' H' p' => ⟨xs.length - (i + 1), by omega, rfl, z, p'⟩, fun x H' y => ?_⟩
    obtain ⟨rfl, y⟩ := y
    exact hs i zs x _ (y xs q) p
  · obtain rfl : i = xs.length := by omega
    exact .inl ⟨⟨xs, q, Nat.le_refl _⟩, hd zs H p⟩
end
theorem sameU {H H' : Hp} {L : Addr} {o : HO} (hL : H L = none) (sm : Same H H') : Same H (upd H' L o) := fun b u e => by
  rw [upd_ne (ne_of_none e hL)]
  exact sm b u e
end Sk
namespace Sk
open PySem PySem.Spec PyProof.Rows L2
def aLo (E : Est) (i : Nat) : Int := if i = 0 then E.x1 else E.y1
def aHi (E : Est) (i : Nat) : Int := if i = 0 then E.x2 else E.y2
def aP (px py : Int) (i : Nat) : Int := if i = 0 then px else py
theorem est_lo (E : Est) {i : Nat} (h : i < 2) : atI E.v (2 * (0 + (i : Int))) = some (.int (aLo E i)) := by
  match i, h with
  | 0, _ => rfl
  | 1, _ => rfl
theorem est_hi (E : Est) {i : Nat} (h : i < 2) : atI E.v (2 * (0 + (i : Int)) + 1) = some (.int (aHi E i)) := by
  match i, h with
  | 0, _ => rfl
  | 1, _ => rfl
theorem plot_at (px py pz : Int) {i : Nat} (h : i < 2) : atI [V.int px, .int py, .int pz] (0 + (i : Int)) = some (.int (aP px py i)) := by
  match i, h with
  | 0, _ => rfl
  | 1, _ => rfl
theorem seg_at0 (s : Seg) {i : Nat} (h : i < 2) : atI (s.li.map V.int) (0 + (i : Int)) = some (.int (c0 i s)) := by
  match i, h with
  | 0, _ => rfl
  | 1, _ => rfl
theorem seg_at1 (s : Seg) {i : Nat} (h : i < 2) : atI (s.li.map V.int) (0 + (i : Int) + 2) = some (.int (c1 i s)) := by
  match i, h with
  | 0, _ => rfl
  | 1, _ => rfl
theorem two_step {a b : Int} {f : Int → Int} {k : Nat} {x : V} (h : ([V.int a, V.int b])[k]? = some x) : ∃ z, x = .int z ∧ ([f a, f b].take (k + 1)) = [f a, f b].take k ++ [f z] ∧ (z = a ∨ z = b) := by
  match k, h with
  | 0, h => exact ⟨a, (Option.some.inj h).symm, rfl, .inl rfl⟩
  | 1, h => exact ⟨b, (Option.some.inj h).symm, rfl, .inr rfl⟩
theorem dn_step {i j : Nat} {ss : List Seg} {s : Seg} (h : ss[j]? = some s) : dn i (ss.take (j + 1)) = dn i (ss.take j) ++ [c0 i s / s.d, c1 i s / s.d] := by
  unfold dn
  rw [List.take_add_one, h, List.flatMap_append]
  simp
theorem up_step {i j : Nat} {ss : List Seg} {s : Seg} (h : ss[j]? = some s) : up i (ss.take (j + 1)) = up i (ss.take j) ++ [-(-c0 i s / s.d), -(-c1 i s / s.d)] := by
  unfold up
  rw [List.take_add_one, h, List.flatMap_append]
  simp
theorem dn_len (i : Nat) (ss : List Seg) : (dn i ss).length = 2 * ss.length := by
  unfold dn
  induction ss with
  | nil => rfl
  | cons s ss ih => rw [List.flatMap_cons, List.length_append, ih]; simp only [List.length_cons, List.length_nil]; omega
theorem up_len (i : Nat) (ss : List Seg) : (up i ss).length = 2 * ss.length := by
  unfold up
  induction ss with
  | nil => rfl
  | cons s ss ih => rw [List.flatMap_cons, List.length_append, ih]; simp only [List.length_cons, List.length_nil]; omega
/-- both bounds along an axis -/
def axLo (E : Est) (m px py : Int) (ss : List Seg) (i : Nat) : Int := nlo (aLo E i) (aP px py i) m i ss
def axHi (E : Est) (m px py : Int) (ss : List Seg) (i : Nat) : Int := nhi (aHi E i) (aP px py i) m i ss
def axs (E : Est) (m px py : Int) (ss : List Seg) : Nat → List Int
  | 0 => []
  | i + 1 => axs E m px py ss i ++ [axLo E m px py ss i, axHi E m px py ss i]
theorem nar_none {E : Est} {m px py : Int} {ss : List Seg} {i : Nat} (h : i < 2) (c : axHi E m px py ss i < axLo E m px py ss i) : nar E m px py ss = none := by
  unfold nar
  match i, h with
  | 0, _ => rw [if_pos (.inl c)]
  | 1, _ => rw [if_pos (.inr c)]
theorem nar_some {E : Est} {m px py : Int} {ss : List Seg} (c : ∀ i, i < 2 → axLo E m px py ss i ≤ axHi E m px py ss i) : nar E m px py ss = some ⟨axLo E m px py ss 0, axHi E m px py ss 0, axLo E m px py ss 1, axHi E m px py ss 1⟩ := by
  have a : nlo E.x1 px m 0 ss ≤ nhi E.x2 px m 0 ss := c 0 (by decide)
  have b : nlo E.y1 py m 1 ss ≤ nhi E.y2 py m 1 ss := c 1 (by decide)
  unfold nar
  rw [if_neg (by omega)]
  rfl
def spVecR (K : PySem.W.Frag) : Sp := fun vs H Q _ => ∃ (d c : Addr) (m : Int), vs = [.ref d, .int m] ∧ St1 K H d c ∧ 0 ≤ m ∧ m ≤ 2000 ∧
  ∀ (q : Addr) (x y : Int) (H' : Hp), H q = none → H' q = some (.tup [.int x, .int y]) → -m ≤ x → x ≤ m → -m ≤ y → y ≤ m → St1 K H' d c → Keep d H H' → Q (.ref q) H'
def spLNar : Sp := fun vs H Q _ => ∃ (e q l : Addr) (m : Int) (E : Est) (px py pz : Int) (ss : List Seg), vs = [.ref e, .int m, .ref q, .ref l] ∧ H e = some (.tup E.v) ∧ H q = some (.tup [.int px, .int py, .int pz]) ∧ LoT H l (ss.map Seg.li) ∧ (∀ s ∈ ss, SegBd 200 100 s ∧ 1 ≤ s.d) ∧ ss ≠ [] ∧ ss.length ≤ 100 ∧
  ∀ (v : V) (H' : Hp), Same H H' → optE H' (nar E m px py ss) v → Q v H'
def nearB (px py d x y m : Int) : Bool := decide ((px - x * d) * (px - x * d) + (py - y * d) * (py - y * d) ≤ m * m * d * d)
def spNear : Sp := fun vs H Q _ => ∃ (q : Addr) (px py d x y m : Int), vs = [.ref q, .int x, .int y, .int m] ∧ H q = some (.tup [.int px, .int py, .int d]) ∧ BdN 200 px ∧ BdN 200 py ∧ BdN 30 d ∧ BdN 300 x ∧ BdN 300 y ∧ BdN 100 m ∧ Q (.bl (nearB px py d x y m)) H
def spLCor : Sp := fun vs H Q _ => ∃ (e q : Addr) (rd : Int) (E : Est) (px py pz : Int), vs = [.ref e, .ref q, .int rd] ∧ H e = some (.tup E.v) ∧ H q = some (.tup [.int px, .int py, .int pz]) ∧
  0 ≤ side E.x1 E.x2 ∧ side E.x1 E.x2 ≤ 1000000 ∧ 0 ≤ side E.y1 E.y2 ∧ side E.y1 E.y2 ≤ 1000000 ∧
  ∀ (u v : Addr) (H' : Hp), Same H H' → H' u = some (.tup [.ref v, .int (rd + rt (side E.x1 E.x2 * side E.x1 E.x2 + side E.y1 E.y2 * side E.y1 E.y2))]) → H' v = some (.tup [.int (px - mid E.x1 E.x2), .int (py - mid E.y1 E.y2), .int pz]) → Q (.ref u) H'
end Sk
namespace Sk
open PySem PySem.Spec PyProof.Rows L2
structure EstOk (E : Est) (ox oy : Int) : Prop where
  x0 : E.x1 ≤ ox
  x1 : ox ≤ E.x2
  y0 : E.y1 ≤ oy
  y1 : oy ≤ E.y2
  bx0 : -20000 ≤ E.x1
  bx1 : E.x2 ≤ 20000
  by0 : -20000 ≤ E.y1
  by1 : E.y2 ≤ 20000
theorem near_sides {px py d x y m : Int} (hd : 1 ≤ d) (hm : 0 ≤ m) (h : nearB px py d x y m = true) : ((x - m) * d ≤ px ∧ px ≤ (x + m) * d) ∧ (y - m) * d ≤ py ∧ py ≤ (y + m) * d := by
  have h := of_decide_eq_true h
  have e : m * m * d * d = (m * d) * (m * d) := by grind
  rw [e] at h
  have md : 0 ≤ m * d := Int.mul_nonneg hm (by omega)
  have a := side_of md h
  have b := side_of md (show (py - y * d) * (py - y * d) + (px - x * d) * (px - x * d) ≤ (m * d) * (m * d) by omega)
  have e1 : (x - m) * d = x * d - m * d := Int.sub_mul ..
  have e2 : (x + m) * d = x * d + m * d := Int.add_mul ..
  have e3 : (y - m) * d = y * d - m * d := Int.sub_mul ..
  have e4 : (y + m) * d = y * d + m * d := Int.add_mul ..
  omega
theorem nar_fits {E : Est} {ox oy m x y px py d : Int} {ss : List Seg} (hd : 1 ≤ d) (hm : 0 ≤ m) (ok : EstOk E ox oy) (on : ∃ s ∈ ss, OnS px py d s) (sd : ∀ s ∈ ss, SegBd 200 100 s ∧ 1 ≤ s.d) (near : nearB px py d x y m = true) :
    ∃ E2, nar E m (x + ox) (y + oy) ss = some E2 ∧ EstOk E2 ox oy ∧ E.x1 ≤ E2.x1 ∧ E2.y2 ≤ E.y2 := by
  obtain ⟨s, hs, u, v, u0, v0, uv, ex, ey⟩ := on
  obtain ⟨⟨a, b⟩, c, e⟩ := near_sides hd hm near
  have s1 := (sd s hs).2
  have p1 : x - m ≤ maxs (dn 0 ss) := below_max (i := 0) hs hd s1 u0 v0 uv ex a
  have p2 : mins (up 0 ss) ≤ x + m := above_min (i := 0) hs hd s1 u0 v0 uv ex b
  have p3 : y - m ≤ maxs (dn 1 ss) := below_max (i := 1) hs hd s1 u0 v0 uv ey c
  have p4 : mins (up 1 ss) ≤ y + m := above_min (i := 1) hs hd s1 u0 v0 uv ey e
  obtain ⟨k1, k2, k3, k4, k5, k6, k7, k8⟩ := ok
  have q1 : nlo E.x1 (x + ox) m 0 ss ≤ ox ∧ E.x1 ≤ nlo E.x1 (x + ox) m 0 ss := by unfold nlo; split <;> omega
  have q2 : ox ≤ nhi E.x2 (x + ox) m 0 ss ∧ nhi E.x2 (x + ox) m 0 ss ≤ E.x2 := by unfold nhi; split <;> omega
  have q3 : nlo E.y1 (y + oy) m 1 ss ≤ oy ∧ E.y1 ≤ nlo E.y1 (y + oy) m 1 ss := by unfold nlo; split <;> omega
  have q4 : oy ≤ nhi E.y2 (y + oy) m 1 ss ∧ nhi E.y2 (y + oy) m 1 ss ≤ E.y2 := by unfold nhi; split <;> omega
  refine ⟨⟨nlo E.x1 (x + ox) m 0 ss, nhi E.x2 (x + ox) m 0 ss, nlo E.y1 (y + oy) m 1 ss, nhi E.y2 (y + oy) m 1 ss⟩, ?_, ⟨q1.1, q2.1, q3.1, q4.1, ?_, ?_, ?_, ?_⟩, q1.2, q4.2⟩
  · unfold nar
    rw [if_neg (by omega)]
  all_goals (dsimp only; omega)
theorem side_bd {a b : Int} (h : a ≤ b) : 0 ≤ side a b ∧ side a b ≤ b - a := by
  unfold side mid
  split <;> omega
theorem side_in {a b o : Int} (h0 : a ≤ o) (h1 : o ≤ b) : -(side a b) ≤ o - mid a b ∧ o - mid a b ≤ side a b := by
  unfold side mid
  split <;> omega
theorem near_told {E : Est} {ox oy m x y px py d R : Int} (hd : 1 ≤ d) (hm : 0 ≤ m) (hR : 0 ≤ R) (ok : EstOk E ox oy) (near : nearB px py d x y m = true) (hS : side E.x1 E.x2 * side E.x1 E.x2 + side E.y1 E.y2 * side E.y1 E.y2 ≤ R * R) :
    nearB px py d (x + ox - mid E.x1 E.x2) (y + oy - mid E.y1 E.y2) (m + R) = true := by
  have near := of_decide_eq_true near
  obtain ⟨k1, k2, k3, k4, _, _, _, _⟩ := ok
  have sx := side_in k1 k2
  have sy := side_in k3 k4
  have bx := side_bd (show E.x1 ≤ E.x2 by omega)
  have by' := side_bd (show E.y1 ≤ E.y2 by omega)
  generalize side E.x1 E.x2 = sx' at *
  generalize side E.y1 E.y2 = sy' at *
  generalize ec : ox - mid E.x1 E.x2 = cx at *
  generalize ee : oy - mid E.y1 E.y2 = cy at *
  have h1 := sq_le sx.1 sx.2
  have h2 := sq_le sy.1 sy.2
  have md : 0 ≤ m * d := Int.mul_nonneg hm (by omega)
  have rdd : 0 ≤ R * d := Int.mul_nonneg hR (by omega)
  have e1 : m * m * d * d = (m * d) * (m * d) := by grind
  rw [e1] at near
  have h3 : (-(cx * d)) * (-(cx * d)) + (-(cy * d)) * (-(cy * d)) ≤ (R * d) * (R * d) := by
    have q := Int.mul_le_mul_of_nonneg_right (show cx * cx + cy * cy ≤ R * R by omega) (sq0 d)
    have e2 : (-(cx * d)) * (-(cx * d)) + (-(cy * d)) * (-(cy * d)) = (cx * cx + cy * cy) * (d * d) := by grind
    have e3 : (R * d) * (R * d) = R * R * (d * d) := by grind
    rw [e2, e3]
    exact q
  have t := tri md rdd near h3
  refine decide_eq_true ?_
  have e4 : px - (x + ox - mid E.x1 E.x2) * d = (px - x * d) + -(cx * d) := by rw [← ec]; grind
  have e5 : py - (y + oy - mid E.y1 E.y2) * d = (py - y * d) + -(cy * d) := by rw [← ee]; grind
  have e6 : (m + R) * (m + R) * d * d = (m * d + R * d) * (m * d + R * d) := by grind
  rw [e4, e5, e6]
  exact t
theorem BdN.ediv {n : Nat} {x d : Int} (h : BdN n x) (hd : 1 ≤ d) : BdN n (x / d) := by
  have a : (x / d).natAbs ≤ x.natAbs := by
    rcases Int.lt_or_le x 0 with z | z
    · have h1 : x / d < 0 := Int.ediv_neg_of_neg_of_pos z (by omega)
      have h2 : x ≤ x / d := by
        rw [Int.le_ediv_iff_mul_le (by omega)]
        have := Int.mul_le_mul_of_nonpos_left (show x ≤ 0 by omega) (show (1 : Int) ≤ d from hd)
        omega
      omega
    · have h1 : 0 ≤ x / d := Int.ediv_nonneg z (by omega)
      have h2 : x / d ≤ x := Int.ediv_le_self d z
      omega
  exact Nat.le_trans a h
theorem pdc_can (a b c n : Int) : (PyData.tuple [.tuple ([a, b, c].map .int), .int n]).canLay0 = true := by rfl
theorem pdc_sh (a b c n : Int) : SeqAt.shaped (.tuple [.tuple ([a, b, c].map .int), .int n]) = true := by
  refine sh_of (pdc_can a b c n) ?_
  show PyData.depthAll _ + 1 ≤ 64
  have : PyData.depthAll [PyData.tuple ([a, b, c].map .int), .int n] ≤ 3 := dpa fun x hx => by
    simp only [List.mem_cons, List.not_mem_nil, or_false] at hx
    rcases hx with rfl | rfl
    · exact Nat.le_trans (dep_pd [a, b, c]) (by decide)
    · exact Nat.zero_le _
  omega
theorem pdc_dp {K : PySem.W.Frag} {H : Hp} {u v : Addr} {a b c n : Int} (hu : H u = some (.tup [.ref v, .int n])) (hv : H v = some (.tup [.int a, .int b, .int c])) : Dp K H (.ref u) (.tuple [.tuple ([a, b, c].map .int), .int n]) :=
  .tup (.inl (.inl hu)) (.cons (.tup (.inl (.inl hv)) (dpAll_int [_, _, _])) (.cons (.int _) .nil))
end Sk

set_option Elab.async false
set_option linter.all false
set_option maxRecDepth 100000
set_option maxHeartbeats 4000000
namespace Sk
open PySem PySem.Spec PyProof.Rows L2
/-! segments that are not closer than r have no points that are nearer -/
/-- a point that is not nearer than r to a segment, is not nearer to any point of it -/
theorem far_all {x y cx cy dx dy r m w z : Int} (h : r * r * (sqr x y cx cy dx dy).2 ≤ (sqr x y cx cy dx dy).1) (w0 : 0 ≤ w) (z0 : 0 ≤ z) (hm : m = w + z) :
    r * r * (m * m) ≤ (m * x - (w * cx + z * dx)) * (m * x - (w * cx + z * dx)) + (m * y - (w * cy + z * dy)) * (m * y - (w * cy + z * dy)) := by
  subst hm
  unfold sqr at h
  generalize hal : (x - cx) * (dx - cx) + (y - cy) * (dy - cy) = al at h
  generalize hln : (dx - cx) * (dx - cx) + (dy - cy) * (dy - cy) = ln at h
  have ln0 : 0 ≤ ln := by have := sq0 (dx - cx); have := sq0 (dy - cy); omega
  have mm := sq0 (w + z)
  split at h
  · rename_i c
    dsimp only at h
    have e : ((w + z) * x - (w * cx + z * dx)) * ((w + z) * x - (w * cx + z * dx)) + ((w + z) * y - (w * cy + z * dy)) * ((w + z) * y - (w * cy + z * dy)) = ((w + z) * (w + z)) * ((x - cx) * (x - cx) + (y - cy) * (y - cy)) + 2 * (((w + z) * z) * (-al)) + z * z * ln := by
      rw [← hal, ← hln]; grind
    rw [e]
    have q1 := Int.mul_le_mul_of_nonneg_left h mm
    have q2 := Int.mul_nonneg (Int.mul_nonneg (show 0 ≤ w + z by omega) z0) (show 0 ≤ -al by omega)
    have q3 := Int.mul_nonneg (sq0 z) ln0
    have q4 : (w + z) * (w + z) * (r * r * 1) = r * r * ((w + z) * (w + z)) := by grind
    omega
  · rename_i c
    split at h
    · rename_i c2
      dsimp only at h
      have e : ((w + z) * x - (w * cx + z * dx)) * ((w + z) * x - (w * cx + z * dx)) + ((w + z) * y - (w * cy + z * dy)) * ((w + z) * y - (w * cy + z * dy)) = ((w + z) * (w + z)) * ((x - dx) * (x - dx) + (y - dy) * (y - dy)) + 2 * (((w + z) * w) * (al - ln)) + w * w * ln := by
        rw [← hal, ← hln]; grind
      rw [e]
      have q1 := Int.mul_le_mul_of_nonneg_left h mm
      have q2 := Int.mul_nonneg (Int.mul_nonneg (show 0 ≤ w + z by omega) w0) (show 0 ≤ al - ln by omega)
      have q3 := Int.mul_nonneg (sq0 w) ln0
      have q4 : (w + z) * (w + z) * (r * r * 1) = r * r * ((w + z) * (w + z)) := by grind
      omega
    · rename_i c2
      dsimp only at h
      have lp : 0 < ln := by omega
      generalize hD : ((w + z) * x - (w * cx + z * dx)) * ((w + z) * x - (w * cx + z * dx)) + ((w + z) * y - (w * cy + z * dy)) * ((w + z) * y - (w * cy + z * dy)) = Dd
      have e : ln * Dd = ((w + z) * al - z * ln) * ((w + z) * al - z * ln) + ((w + z) * (w + z)) * (trn cx cy dx dy x y * trn cx cy dx dy x y) := by
        rw [← hD, ← hal, ← hln]; unfold trn; grind
      have q0 := sq0 ((w + z) * al - z * ln)
      have q1 := Int.mul_le_mul_of_nonneg_left h mm
      have q4 : (w + z) * (w + z) * (r * r * ln) = ln * (r * r * ((w + z) * (w + z))) := by grind
      have q5 : ln * (r * r * ((w + z) * (w + z))) ≤ ln * Dd := by omega
      exact Int.le_of_mul_le_mul_left q5 lp
/-- squares of sizes -/
theorem sq_lt_of {a b : Int} (h : a * a < b * b) (hb : 0 ≤ b) : -b < a ∧ a < b := by
  constructor
  · rcases Int.lt_or_le (-b) a with z | z
    · exact z
    · have := Int.mul_le_mul (show b ≤ -a by omega) (show b ≤ -a by omega) hb (by omega)
      rw [Int.neg_mul_neg] at this
      omega
  · rcases Int.lt_or_le a b with z | z
    · exact z
    · have := Int.mul_le_mul z z hb (by omega)
      omega
/-- the core, in heights t and feet a over the first segment: C is the nearer end of the second one, its foot not behind the far end -/
theorem core {L R m n v w z aC tC aQ tQ : Int} (L1 : 1 ≤ L) (m1 : 1 ≤ m) (aQ0 : 0 < aQ) (hC : m * m * (tC * tC) ≤ tQ * tQ) (hQ : tQ * tQ < R * (m * m * L)) (R0 : 0 ≤ R)
    (foot : 0 ≤ aC → R * L ≤ tC * tC) (beyond : aC < 0 → R * ((aQ - aC * m) * (aQ - aC * m) * L) ≤ (aQ * tC - aC * tQ) * (aQ * tC - aC * tQ)) (same : 0 ≤ tC * tQ) : False := by
  rcases Int.lt_or_le aC 0 with c | c
  · have b := beyond c
    -- m * (aQ tC - aC tQ) is at most (aQ - aC m) tQ, by size
    have p1 : 0 ≤ aQ * (-aC) * (tC * tQ) := Int.mul_nonneg (Int.mul_nonneg (by omega) (by omega)) same
    have e1 : (m * (aQ * tC - aC * tQ)) * (m * (aQ * tC - aC * tQ)) = aQ * aQ * (m * m * (tC * tC)) + 2 * (m * m * (aQ * (-aC) * (tC * tQ))) + aC * aC * (m * m) * (tQ * tQ) := by grind
    have e2 : (aQ - aC * m) * (aQ - aC * m) * (tQ * tQ) = aQ * aQ * (tQ * tQ) + 2 * (m * (aQ * (-aC) * (tQ * tQ))) + aC * aC * (m * m) * (tQ * tQ) := by grind
    -- m tC tQ is at most tQ tQ
    have s1 : m * (tC * tQ) ≤ tQ * tQ := by
      rcases Int.lt_or_le (tQ * tQ) (m * (tC * tQ)) with k | k
      · exfalso
        have q := Int.mul_le_mul (show tQ * tQ + 1 ≤ m * (tC * tQ) by omega) (show tQ * tQ + 1 ≤ m * (tC * tQ) by omega) (by have := sq0 tQ; omega) (by have := sq0 tQ; omega)
        have q2 := Int.mul_le_mul_of_nonneg_right hC (sq0 tQ)
        have e3 : m * (tC * tQ) * (m * (tC * tQ)) = m * m * (tC * tC) * (tQ * tQ) := by grind
        have e4 : (tQ * tQ + 1) * (tQ * tQ + 1) = tQ * tQ * (tQ * tQ) + 2 * (tQ * tQ) + 1 := by grind
        have := sq0 tQ
        omega
      · exact k
    have s2 := Int.mul_le_mul_of_nonneg_left hC (sq0 aQ)
    have s3 := Int.mul_le_mul_of_nonneg_left s1 (Int.mul_nonneg (Int.mul_nonneg (show 0 ≤ aQ by omega) (show 0 ≤ -aC by omega)) (show 0 ≤ m by omega))
    have e5 : aQ * -aC * m * (m * (tC * tQ)) = m * m * (aQ * (-aC) * (tC * tQ)) := by grind
    have e6 : aQ * -aC * m * (tQ * tQ) = m * (aQ * (-aC) * (tQ * tQ)) := by grind
    have t1 : (m * (aQ * tC - aC * tQ)) * (m * (aQ * tC - aC * tQ)) ≤ (aQ - aC * m) * (aQ - aC * m) * (tQ * tQ) := by omega
    have M1 : 1 ≤ aQ - aC * m := by
      have := Int.mul_le_mul_of_nonneg_left (show 1 ≤ m from m1) (show 0 ≤ -aC by omega)
      have e : -aC * m = -(aC * m) := Int.neg_mul ..
      omega
    have MM : 1 ≤ (aQ - aC * m) * (aQ - aC * m) := by
      have := Int.mul_le_mul M1 M1 (by decide) (by omega)
      omega
    have t2 : (aQ - aC * m) * (aQ - aC * m) * (tQ * tQ) < (aQ - aC * m) * (aQ - aC * m) * (R * (m * m * L)) := Int.mul_lt_mul_of_pos_left hQ (by omega)
    have t3 := Int.mul_le_mul_of_nonneg_left b (sq0 m)
    have e7 : m * m * ((aQ * tC - aC * tQ) * (aQ * tC - aC * tQ)) = (m * (aQ * tC - aC * tQ)) * (m * (aQ * tC - aC * tQ)) := by grind
    have e8 : m * m * (R * ((aQ - aC * m) * (aQ - aC * m) * L)) = (aQ - aC * m) * (aQ - aC * m) * (R * (m * m * L)) := by grind
    omega
  · have f := foot c
    have mm : 1 ≤ m * m := by
      have := Int.mul_le_mul m1 m1 (by decide) (by omega)
      omega
    have t1 := Int.mul_le_mul_of_nonneg_left f (show 0 ≤ m * m by omega)
    have e1 : m * m * (R * L) = R * (m * m * L) := by grind
    omega
end Sk
namespace Sk
open PySem PySem.Spec PyProof.Rows L2
theorem lagr (ex ey X Y : Int) : (ex * ex + ey * ey) * (X * X + Y * Y) = (ex * X + ey * Y) * (ex * X + ey * Y) + (ex * Y - ey * X) * (ex * Y - ey * X) := by grind
/-- the same, told by feet and heights over a direction -/
theorem far_dot {x y cx cy dx dy ex ey r m w z : Int} (h : r * r * (sqr x y cx cy dx dy).2 ≤ (sqr x y cx cy dx dy).1) (w0 : 0 ≤ w) (z0 : 0 ≤ z) (hm : m = w + z) :
    (ex * ex + ey * ey) * (r * r * (m * m)) ≤ (w * ((cx - x) * ex + (cy - y) * ey) + z * ((dx - x) * ex + (dy - y) * ey)) * (w * ((cx - x) * ex + (cy - y) * ey) + z * ((dx - x) * ex + (dy - y) * ey)) + (w * (ex * (cy - y) - ey * (cx - x)) + z * (ex * (dy - y) - ey * (dx - x))) * (w * (ex * (cy - y) - ey * (cx - x)) + z * (ex * (dy - y) - ey * (dx - x))) := by
  have f := far_all h w0 z0 hm
  have l0 : 0 ≤ ex * ex + ey * ey := by have := sq0 ex; have := sq0 ey; omega
  have g := Int.mul_le_mul_of_nonneg_left f l0
  rw [lagr ex ey] at g
  have e1 : ex * (m * x - (w * cx + z * dx)) + ey * (m * y - (w * cy + z * dy)) = -(w * ((cx - x) * ex + (cy - y) * ey) + z * ((dx - x) * ex + (dy - y) * ey)) := by subst hm; grind
  have e2 : ex * (m * y - (w * cy + z * dy)) - ey * (m * x - (w * cx + z * dx)) = -(w * (ex * (cy - y) - ey * (cx - x)) + z * (ex * (dy - y) - ey * (dx - x))) := by subst hm; grind
  rw [e1, e2, Int.neg_mul_neg, Int.neg_mul_neg] at g
  exact g
theorem same_ge {a b : Int} (h : 0 ≤ a * b) (k : a * a ≤ b * b) : a * a ≤ a * b := by
  rcases Int.lt_or_le (a * b) (a * a) with z | z
  · exfalso
    have q1 := Int.mul_le_mul (show a * b + 1 ≤ a * a by omega) (show a * b + 1 ≤ a * a by omega) (by omega) (by have := sq0 a; omega)
    have q2 := Int.mul_le_mul_of_nonneg_left k (sq0 a)
    have e1 : (a * b + 1) * (a * b + 1) = a * a * (b * b) + 2 * (a * b) + 1 := by grind
    omega
  · exact z
theorem nearer {w z tC tD : Int} (w0 : 0 ≤ w) (z0 : 0 ≤ z) (s : 0 ≤ tC * tD) (k : tC * tC ≤ tD * tD) : (w + z) * (w + z) * (tC * tC) ≤ (w * tC + z * tD) * (w * tC + z * tD) ∧ 0 ≤ tC * (w * tC + z * tD) := by
  have g := same_ge s k
  have q1 := Int.mul_le_mul_of_nonneg_left g (Int.mul_nonneg w0 z0)
  have q2 := Int.mul_le_mul_of_nonneg_left k (sq0 z)
  have e1 : (w + z) * (w + z) * (tC * tC) = w * w * (tC * tC) + 2 * (w * z * (tC * tC)) + z * z * (tC * tC) := by grind
  have e2 : (w * tC + z * tD) * (w * tC + z * tD) = w * w * (tC * tC) + 2 * (w * z * (tC * tD)) + z * z * (tD * tD) := by grind
  have e3 : tC * (w * tC + z * tD) = w * (tC * tC) + z * (tC * tD) := by grind
  have q3 := Int.mul_nonneg w0 (sq0 tC)
  have q4 := Int.mul_nonneg z0 s
  constructor <;> omega
/-- both ends of the second segment on one side of the first -/
theorem one_end {L R m w z aC aD tC tD : Int} (L1 : 1 ≤ L) (R0 : 0 ≤ R) (w0 : 0 ≤ w) (z0 : 0 ≤ z) (hm : m = w + z) (m1 : 1 ≤ m) (s : 0 ≤ tC * tD) (k : tC * tC ≤ tD * tD)
    (aQ0 : 0 < w * aC + z * aD) (aQ1 : w * aC + z * aD < m * L) (hQ : (w * tC + z * tD) * (w * tC + z * tD) < R * (m * m * L))
    (farA : ∀ w' z' m' : Int, 0 ≤ w' → 0 ≤ z' → m' = w' + z' → L * (R * (m' * m')) ≤ (w' * aC + z' * aD) * (w' * aC + z' * aD) + (w' * tC + z' * tD) * (w' * tC + z' * tD))
    (farB : ∀ w' z' m' : Int, 0 ≤ w' → 0 ≤ z' → m' = w' + z' → L * (R * (m' * m')) ≤ (w' * (L - aC) + z' * (L - aD)) * (w' * (L - aC) + z' * (L - aD)) + (w' * tC + z' * tD) * (w' * tC + z' * tD))
    (foot : 0 ≤ aC → aC ≤ L → R * L ≤ tC * tC) : False := by
  obtain ⟨n1, n2⟩ := nearer w0 z0 s k
  rw [← hm] at n1
  have beyond : ∀ aC aD : Int, aC < 0 → 0 < w * aC + z * aD → (∀ w' z' m' : Int, 0 ≤ w' → 0 ≤ z' → m' = w' + z' → L * (R * (m' * m')) ≤ (w' * aC + z' * aD) * (w' * aC + z' * aD) + (w' * tC + z' * tD) * (w' * tC + z' * tD)) →
      R * (((w * aC + z * aD) - aC * m) * ((w * aC + z * aD) - aC * m) * L) ≤ ((w * aC + z * aD) * tC - aC * (w * tC + z * tD)) * ((w * aC + z * aD) * tC - aC * (w * tC + z * tD)) := fun aC aD hc hq far => by
    have c1 : 0 ≤ (w * aC + z * aD) - aC * w := by
      have := Int.mul_nonneg (show 0 ≤ -aC by omega) w0
      have e : -aC * w = -(aC * w) := Int.neg_mul ..
      omega
    have c2 : 0 ≤ -aC * z := Int.mul_nonneg (by omega) z0
    have f := far _ _ ((w * aC + z * aD) - aC * m) c1 c2 (by rw [hm]; grind)
    have e1 : ((w * aC + z * aD) - aC * w) * aC + -aC * z * aD = 0 := by grind
    have e2 : ((w * aC + z * aD) - aC * w) * tC + -aC * z * tD = (w * aC + z * aD) * tC - aC * (w * tC + z * tD) := by grind
    rw [e1, e2] at f
    have e3 : L * (R * (((w * aC + z * aD) - aC * m) * ((w * aC + z * aD) - aC * m))) = R * (((w * aC + z * aD) - aC * m) * ((w * aC + z * aD) - aC * m) * L) := by grind
    omega
  rcases Int.lt_or_le L aC with c | c
  · -- the foot is behind the far end: seen from there
    have eq : w * (L - aC) + z * (L - aD) = m * L - (w * aC + z * aD) := by rw [hm]; grind
    refine core (aC := L - aC) (aQ := w * (L - aC) + z * (L - aD)) (tC := tC) (n := 1) (v := 0) (w := 0) (z := 0) L1 m1 (by omega) n1 hQ R0 (fun h => absurd h (by omega)) (fun h => beyond (L - aC) (L - aD) h (by omega) farB) n2
  · exact core (n := 1) (v := 0) (w := 0) (z := 0) L1 m1 aQ0 n1 hQ R0 (fun h => foot h c) (fun h => beyond aC aD h aQ0 farA) n2
/-- the foot of an end within the segment -/
theorem foot_of {x y ax ay bx bw ex ey r : Int} (h : r * r * (sqr x y ax ay bx bw).2 ≤ (sqr x y ax ay bx bw).1) (eex : bx - ax = ex) (eey : bw - ay = ey) (lp : 0 < ex * ex + ey * ey) :
    0 ≤ (x - ax) * ex + (y - ay) * ey → (x - ax) * ex + (y - ay) * ey ≤ ex * ex + ey * ey → r * r * (ex * ex + ey * ey) ≤ (ex * (y - ay) - ey * (x - ax)) * (ex * (y - ay) - ey * (x - ax)) := fun h0 h1 => by
  have f := far_all (w := (ex * ex + ey * ey) - ((x - ax) * ex + (y - ay) * ey)) (z := (x - ax) * ex + (y - ay) * ey) (m := ex * ex + ey * ey) h (by omega) h0 (by omega)
  have g := Int.mul_le_mul_of_nonneg_left f (Int.le_of_lt lp)
  generalize hl : ex * ex + ey * ey = L at *
  generalize ha : (x - ax) * ex + (y - ay) * ey = aC at *
  have lg := lagr ex ey (L * x - ((L - aC) * ax + aC * bx)) (L * y - ((L - aC) * ay + aC * bw))
  rw [hl] at lg
  rw [lg] at g
  have e1 : ex * (L * x - ((L - aC) * ax + aC * bx)) + ey * (L * y - ((L - aC) * ay + aC * bw)) = 0 := by
    have : ex * (L * x - ((L - aC) * ax + aC * bx)) + ey * (L * y - ((L - aC) * ay + aC * bw)) = L * ((x - ax) * ex + (y - ay) * ey) - aC * (ex * (bx - ax) + ey * (bw - ay)) := by grind
    rw [this, ha, eex, eey, hl]; grind
  have e2 : ex * (L * y - ((L - aC) * ay + aC * bw)) - ey * (L * x - ((L - aC) * ax + aC * bx)) = L * (ex * (y - ay) - ey * (x - ax)) := by
    have : ex * (L * y - ((L - aC) * ay + aC * bw)) - ey * (L * x - ((L - aC) * ax + aC * bx)) = L * (ex * (y - ay) - ey * (x - ax)) - aC * (ex * (bw - ay) - ey * (bx - ax)) := by grind
    rw [this, eex, eey]; grind
  rw [e1, e2] at g
  have ll : 0 < L * L := Int.mul_pos lp lp
  have e3 : L * (r * r * (L * L)) = L * L * (r * r * L) := by grind
  have e4 : 0 * 0 + L * (ex * (y - ay) - ey * (x - ax)) * (L * (ex * (y - ay) - ey * (x - ax))) = L * L * ((ex * (y - ay) - ey * (x - ax)) * (ex * (y - ay) - ey * (x - ax))) := by grind
  rw [e3, e4] at g
  exact Int.le_of_mul_le_mul_left g ll
theorem side_apart {ax ay bx bw cx cy dx dy r n m u v w z : Int} (u0 : 0 ≤ u) (v0 : 0 ≤ v) (w0 : 0 ≤ w) (z0 : 0 ≤ z) (hn : n = u + v) (n1 : 1 ≤ n) (hm : m = w + z) (m1 : 1 ≤ m)
    (hA : r * r * (sqr ax ay cx cy dx dy).2 ≤ (sqr ax ay cx cy dx dy).1) (hB : r * r * (sqr bx bw cx cy dx dy).2 ≤ (sqr bx bw cx cy dx dy).1) (hC : r * r * (sqr cx cy ax ay bx bw).2 ≤ (sqr cx cy ax ay bx bw).1) (hD : r * r * (sqr dx dy ax ay bx bw).2 ≤ (sqr dx dy ax ay bx bw).1)
    (side : 0 ≤ trn ax ay bx bw cx cy * trn ax ay bx bw dx dy) :
    r * r * ((n * m) * (n * m)) ≤ (m * (u * ax + v * bx) - n * (w * cx + z * dx)) * (m * (u * ax + v * bx) - n * (w * cx + z * dx)) + (m * (u * ay + v * bw) - n * (w * cy + z * dy)) * (m * (u * ay + v * bw) - n * (w * cy + z * dy)) := by
  generalize hX : m * (u * ax + v * bx) - n * (w * cx + z * dx) = X
  generalize hY : m * (u * ay + v * bw) - n * (w * cy + z * dy) = Y
  have nn : 1 ≤ n * n := by have := Int.mul_le_mul n1 n1 (by decide) (by omega); omega
  generalize eex : bx - ax = ex at *
  generalize eey : bw - ay = ey at *
  have l0 : 0 ≤ ex * ex + ey * ey := by have := sq0 ex; have := sq0 ey; omega
  rcases Int.lt_or_le 0 (ex * ex + ey * ey) with lp | lz
  · rcases Int.lt_or_le (X * X + Y * Y) (r * r * ((n * m) * (n * m))) with c | c
    · exfalso
      -- feet and heights
      have dA : ∀ w' z' m' : Int, 0 ≤ w' → 0 ≤ z' → m' = w' + z' → _ := fun w' z' m' a b c => far_dot (ex := ex) (ey := ey) hA a b c
      have dB : ∀ w' z' m' : Int, 0 ≤ w' → 0 ≤ z' → m' = w' + z' → _ := fun w' z' m' a b c => far_dot (ex := ex) (ey := ey) hB a b c
      have tCe : trn ax ay bx bw cx cy = ex * (cy - ay) - ey * (cx - ax) := by rw [← eex, ← eey]; unfold trn; rfl
      have tDe : trn ax ay bx bw dx dy = ex * (dy - ay) - ey * (dx - ax) := by rw [← eex, ← eey]; unfold trn; rfl
      have bCa : (cx - bx) * ex + (cy - bw) * ey = ((cx - ax) * ex + (cy - ay) * ey) - (ex * ex + ey * ey) := by rw [← eex, ← eey]; grind
      have bDa : (dx - bx) * ex + (dy - bw) * ey = ((dx - ax) * ex + (dy - ay) * ey) - (ex * ex + ey * ey) := by rw [← eex, ← eey]; grind
      have bCt : ex * (cy - bw) - ey * (cx - bx) = ex * (cy - ay) - ey * (cx - ax) := by rw [← eex, ← eey]; grind
      have bDt : ex * (dy - bw) - ey * (dx - bx) = ex * (dy - ay) - ey * (dx - ax) := by rw [← eex, ← eey]; grind
      rw [bCa, bDa, bCt, bDt] at dB
      rw [tCe, tDe] at side
      have footC := foot_of (x := cx) (y := cy) hC eex eey lp
      have footD := foot_of (x := dx) (y := dy) hD eex eey lp
      -- the two places
      have eX : ex * X + ey * Y = -(n * (w * ((cx - ax) * ex + (cy - ay) * ey) + z * ((dx - ax) * ex + (dy - ay) * ey)) - m * v * (ex * ex + ey * ey)) := by
        rw [← hX, ← hY, hm, show bx = ax + ex by omega, show bw = ay + ey by omega, hn]; grind
      have eY : ex * Y - ey * X = -(n * (w * (ex * (cy - ay) - ey * (cx - ax)) + z * (ex * (dy - ay) - ey * (dx - ax)))) := by
        rw [← hX, ← hY, hm, show bx = ax + ex by omega, show bw = ay + ey by omega, hn]; grind
      have g := lagr ex ey X Y
      rw [eX, eY, Int.neg_mul_neg, Int.neg_mul_neg] at g
      generalize hl : ex * ex + ey * ey = L at *
      generalize ha : (cx - ax) * ex + (cy - ay) * ey = aC at *
      generalize hb : (dx - ax) * ex + (dy - ay) * ey = aD at *
      generalize hc : ex * (cy - ay) - ey * (cx - ax) = tC at *
      generalize hd : ex * (dy - ay) - ey * (dx - ax) = tD at *
      have g2 := Int.mul_lt_mul_of_pos_left c lp
      rw [g] at g2
      generalize haQ : w * aC + z * aD = aQ at *
      generalize htQ : w * tC + z * tD = tQ at *
      have RR : 0 ≤ r * r := sq0 r
      have kA := dA w z m w0 z0 hm
      have kB := dB w z m w0 z0 hm
      rw [haQ, htQ] at kA
      rw [show w * (aC - L) + z * (aD - L) = -(m * L - aQ) by rw [← haQ, hm]; grind, Int.neg_mul_neg, htQ] at kB
      have e1 : n * tQ * (n * tQ) = n * n * (tQ * tQ) := by grind
      have e2 : L * (r * r * (n * m * (n * m))) = n * n * (r * r * (m * m * L)) := by grind
      have e3 : L * (r * r * (m * m)) = r * r * (m * m * L) := by grind
      rw [e1, e2] at g2
      rw [e3] at kA kB
      have s0 := sq0 (n * aQ - m * v * L)
      have hQ : tQ * tQ < r * r * (m * m * L) := Int.lt_of_mul_lt_mul_left (a := n * n) (by omega) (by omega)
      have aQ0 : 0 < aQ := by
        rcases Int.lt_or_le 0 aQ with k | k
        · exact k
        · exfalso
          have q1 : 0 ≤ m * v * L := Int.mul_nonneg (Int.mul_nonneg (by omega) v0) (by omega)
          have q2 : 0 ≤ n * (-aQ) := Int.mul_nonneg (by omega) (by omega)
          have q2' : n * (-aQ) = -(n * aQ) := Int.mul_neg ..
          have q3 := Int.mul_le_mul (show -(n * aQ) ≤ -(n * aQ - m * v * L) by omega) (show -(n * aQ) ≤ -(n * aQ - m * v * L) by omega) (by omega) (by omega)
          rw [Int.neg_mul_neg, Int.neg_mul_neg] at q3
          have q4 : n * aQ * (n * aQ) = n * n * (aQ * aQ) := by grind
          have q5 := Int.mul_le_mul_of_nonneg_left kA (show 0 ≤ n * n by omega)
          rw [Int.mul_add] at q5
          omega
      have aQ1 : aQ < m * L := by
        rcases Int.lt_or_le aQ (m * L) with k | k
        · exact k
        · exfalso
          have q1 : 0 ≤ m * L * u := Int.mul_nonneg (Int.mul_nonneg (by omega) (by omega)) u0
          have q0 : n * aQ - m * v * L - n * (aQ - m * L) = m * L * u := by rw [hn]; grind
          have q2 : 0 ≤ n * (aQ - m * L) := Int.mul_nonneg (by omega) (by omega)
          have q3 := Int.mul_le_mul (show n * (aQ - m * L) ≤ n * aQ - m * v * L by omega) (show n * (aQ - m * L) ≤ n * aQ - m * v * L by omega) q2 (by omega)
          have q4 : n * (aQ - m * L) * (n * (aQ - m * L)) = n * n * ((m * L - aQ) * (m * L - aQ)) := by grind
          have q5 := Int.mul_le_mul_of_nonneg_left kB (show 0 ≤ n * n by omega)
          rw [Int.mul_add] at q5
          omega
      have dB' : ∀ w' z' m' : Int, 0 ≤ w' → 0 ≤ z' → m' = w' + z' → L * (r * r * (m' * m')) ≤ (w' * (L - aC) + z' * (L - aD)) * (w' * (L - aC) + z' * (L - aD)) + (w' * tC + z' * tD) * (w' * tC + z' * tD) := fun w' z' m' a b c => by
        have := dB w' z' m' a b c
        rw [show w' * (aC - L) + z' * (aD - L) = -(w' * (L - aC) + z' * (L - aD)) by grind, Int.neg_mul_neg] at this
        exact this
      rcases Int.lt_or_le (tD * tD) (tC * tC) with k | k
      · refine one_end (L := L) (R := r * r) (m := m) (w := z) (z := w) (aC := aD) (aD := aC) (tC := tD) (tD := tC) (by omega) RR z0 w0 (by omega) m1 (by rw [Int.mul_comm]; exact side) (by omega) (by omega) (by omega) (by rw [show z * tD + w * tC = tQ by omega]; exact hQ) (fun w' z' m' a b c => ?_) (fun w' z' m' a b c => ?_) footD
        · have := dA z' w' m' b a (by omega)
          rw [show z' * aC + w' * aD = w' * aD + z' * aC by omega, show z' * tC + w' * tD = w' * tD + z' * tC by omega] at this
          exact this
        · have := dB' z' w' m' b a (by omega)
          rw [show z' * (L - aC) + w' * (L - aD) = w' * (L - aD) + z' * (L - aC) by omega, show z' * tC + w' * tD = w' * tD + z' * tC by omega] at this
          exact this
      · exact one_end (L := L) (R := r * r) (m := m) (w := w) (z := z) (aC := aC) (aD := aD) (tC := tC) (tD := tD) (by omega) RR w0 z0 hm m1 side k (by omega) (by omega) (by rw [htQ]; exact hQ) dA dB' footC
    · exact c
  · -- the first segment is a place alone
    have x0 : ex = 0 := by
      have := sq0 ex; have := sq0 ey
      have z : ex * ex = 0 := by omega
      rcases Int.mul_eq_zero.mp z with z | z <;> exact z
    have y0 : ey = 0 := by
      have := sq0 ex; have := sq0 ey
      have z : ey * ey = 0 := by omega
      rcases Int.mul_eq_zero.mp z with z | z <;> exact z
    have f := far_all hA w0 z0 hm
    have g := Int.mul_le_mul_of_nonneg_left f (show 0 ≤ n * n by omega)
    have e1 : X = n * (m * ax - (w * cx + z * dx)) := by rw [← hX, show bx = ax by omega, hn]; grind
    have e2 : Y = n * (m * ay - (w * cy + z * dy)) := by rw [← hY, show bw = ay by omega, hn]; grind
    have e3 : X * X + Y * Y = n * n * ((m * ax - (w * cx + z * dx)) * (m * ax - (w * cx + z * dx)) + (m * ay - (w * cy + z * dy)) * (m * ay - (w * cy + z * dy))) := by rw [e1, e2]; grind
    have e4 : r * r * ((n * m) * (n * m)) = n * n * (r * r * (m * m)) := by grind
    omega
end Sk
namespace Sk
open PySem PySem.Spec PyProof.Rows L2
theorem cls_apart {ax ay bx bw cx cy dx dy r n m u v w z : Int} (r0 : 0 < r) (h : cls ax ay bx bw cx cy dx dy r = false) (u0 : 0 ≤ u) (v0 : 0 ≤ v) (w0 : 0 ≤ w) (z0 : 0 ≤ z) (hn : n = u + v) (n1 : 1 ≤ n) (hm : m = w + z) (m1 : 1 ≤ m) :
    r * r * ((n * m) * (n * m)) ≤ (m * (u * ax + v * bx) - n * (w * cx + z * dx)) * (m * (u * ax + v * bx) - n * (w * cx + z * dx)) + (m * (u * ay + v * bw) - n * (w * cy + z * dy)) * (m * (u * ay + v * bw) - n * (w * cy + z * dy)) := by
  have rr : 0 < r * r := Int.mul_pos r0 r0
  unfold cls sqs at h
  by_cases c : crs ax ay bx bw cx cy dx dy = true
  · rw [if_pos c] at h
    simp only [List.any_cons, List.any_nil, Bool.or_false, decide_eq_false_iff_not] at h
    omega
  · rw [if_neg c] at h
    simp only [List.any_cons, List.any_nil, Bool.or_false, Bool.or_eq_false_iff, decide_eq_false_iff_not, Int.not_lt] at h
    obtain ⟨hA, hB, hC, hD⟩ := h
    by_cases s : 0 ≤ trn ax ay bx bw cx cy * trn ax ay bx bw dx dy
    · exact side_apart u0 v0 w0 z0 hn n1 hm m1 hA hB hC hD s
    · have s2 : 0 ≤ trn cx cy dx dy ax ay * trn cx cy dx dy bx bw := by
        rcases Int.lt_or_le (trn cx cy dx dy ax ay * trn cx cy dx dy bx bw) 0 with k | k
        · exfalso
          refine c ?_
          unfold crs
          rw [decide_eq_true (by omega), decide_eq_true k]
          rfl
        · exact k
      have f := side_apart w0 z0 u0 v0 hm m1 hn n1 hC hD hA hB s2
      have e1 : n * (w * cx + z * dx) - m * (u * ax + v * bx) = -(m * (u * ax + v * bx) - n * (w * cx + z * dx)) := by omega
      have e2 : n * (w * cy + z * dy) - m * (u * ay + v * bw) = -(m * (u * ay + v * bw) - n * (w * cy + z * dy)) := by omega
      rw [e1, e2, Int.neg_mul_neg, Int.neg_mul_neg, Int.mul_comm m n] at f
      exact f
/-- two places on segments that are not closer -/
theorem places_apart {s t : Seg} {l px py d qx qy e : Int} (l0 : 0 < l) (sd : 1 ≤ s.d) (td : 1 ≤ t.d) (h : clo s t l = false) (d1 : 1 ≤ d) (e1 : 1 ≤ e) (hp : OnS px py d s) (hq : OnS qx qy e t) :
    l * l * ((d * e) * (d * e)) ≤ (px * e - qx * d) * (px * e - qx * d) + (py * e - qy * d) * (py * e - qy * d) := by
  obtain ⟨u, v, u0, v0, uv, hx, hy⟩ := hp
  obtain ⟨w, z, w0, z0, wz, kx, ky⟩ := hq
  unfold clo at h
  rw [if_neg (by omega)] at h
  have st : 0 < s.d * t.d := Int.mul_pos (by omega) (by omega)
  have f := cls_apart (Int.mul_pos (Int.mul_pos l0 (by omega)) (by omega)) h u0 v0 w0 z0 rfl uv rfl wz
  generalize hn : u + v = n at *
  generalize hm : w + z = m at *
  -- both sides times d d e e
  have de : 0 < d * e := Int.mul_pos (by omega) (by omega)
  have g := Int.mul_le_mul_of_nonneg_left f (show 0 ≤ (d * e) * (d * e) by have := sq0 (d * e); omega)
  have X1 : d * e * (m * (u * (s.ax * t.d) + v * (s.bx * t.d)) - n * (w * (t.ax * s.d) + z * (t.bx * s.d))) = n * m * (s.d * t.d) * (px * e - qx * d) := by
    have a1 : d * e * (m * (u * (s.ax * t.d) + v * (s.bx * t.d))) = e * m * t.d * (d * (u * s.ax + v * s.bx)) := by grind
    have a2 : d * e * (n * (w * (t.ax * s.d) + z * (t.bx * s.d))) = d * n * s.d * (e * (w * t.ax + z * t.bx)) := by grind
    rw [Int.mul_sub, a1, a2, ← hx, ← kx]; grind
  have Y1 : d * e * (m * (u * (s.ay * t.d) + v * (s.bw * t.d)) - n * (w * (t.ay * s.d) + z * (t.bw * s.d))) = n * m * (s.d * t.d) * (py * e - qy * d) := by
    have a1 : d * e * (m * (u * (s.ay * t.d) + v * (s.bw * t.d))) = e * m * t.d * (d * (u * s.ay + v * s.bw)) := by grind
    have a2 : d * e * (n * (w * (t.ay * s.d) + z * (t.bw * s.d))) = d * n * s.d * (e * (w * t.ay + z * t.bw)) := by grind
    rw [Int.mul_sub, a1, a2, ← hy, ← ky]; grind
  generalize m * (u * (s.ax * t.d) + v * (s.bx * t.d)) - n * (w * (t.ax * s.d) + z * (t.bx * s.d)) = X at *
  generalize m * (u * (s.ay * t.d) + v * (s.bw * t.d)) - n * (w * (t.ay * s.d) + z * (t.bw * s.d)) = Y at *
  have g1 : d * e * (d * e) * (X * X + Y * Y) = (d * e * X) * (d * e * X) + (d * e * Y) * (d * e * Y) := by grind
  rw [g1, X1, Y1] at g
  have q : 0 < (n * m * (s.d * t.d)) * (n * m * (s.d * t.d)) := by
    have := Int.mul_pos (Int.mul_pos (show 0 < n by omega) (show 0 < m by omega)) st
    exact Int.mul_pos this this
  have g2 : d * e * (d * e) * (l * s.d * t.d * (l * s.d * t.d) * (n * m * (n * m))) = (n * m * (s.d * t.d)) * (n * m * (s.d * t.d)) * (l * l * ((d * e) * (d * e))) := by grind
  generalize px * e - qx * d = A at *
  generalize py * e - qy * d = B at *
  have g3 : n * m * (s.d * t.d) * A * (n * m * (s.d * t.d) * A) + n * m * (s.d * t.d) * B * (n * m * (s.d * t.d) * B) = (n * m * (s.d * t.d)) * (n * m * (s.d * t.d)) * (A * A + B * B) := by grind
  rw [g2, g3] at g
  exact Int.le_of_mul_le_mul_left g q
theorem tri_lt {a b c e M N : Int} (hM : 0 ≤ M) (hN : 0 ≤ N) (h1 : a * a + b * b < M * M) (h2 : c * c + e * e ≤ N * N) : (a + c) * (a + c) + (b + e) * (b + e) < (M + N) * (M + N) := by
  have t := tri (a := a) (b := b) (c := c) (e := e) hM hN (by omega) h2
  rcases Int.lt_or_le ((a + c) * (a + c) + (b + e) * (b + e)) ((M + N) * (M + N)) with z | z
  · exact z
  · exfalso
    -- the dot product alone
    have dot : a * c + b * e ≤ M * N := by
      rcases Int.lt_or_le (M * N) (a * c + b * e) with z | z
      · exfalso
        have mn : 0 ≤ M * N := Int.mul_nonneg hM hN
        have q1 := Int.mul_le_mul (show M * N + 1 ≤ a * c + b * e by omega) (show M * N + 1 ≤ a * c + b * e by omega) (by omega) (by omega)
        have q2 := Int.mul_le_mul (show a * a + b * b ≤ M * M by omega) h2 (Int.add_nonneg (sq0 c) (sq0 e)) (Int.mul_nonneg hM hM)
        have q3 : (a * c + b * e) * (a * c + b * e) + (a * e - b * c) * (a * e - b * c) = (a * a + b * b) * (c * c + e * e) := by grind
        have q4 := sq0 (a * e - b * c)
        have q5 : (M * N + 1) * (M * N + 1) = M * M * (N * N) + 2 * (M * N) + 1 := by grind
        omega
      · exact z
    have e1 : (a + c) * (a + c) + (b + e) * (b + e) = (a * a + b * b) + (c * c + e * e) + 2 * (a * c + b * e) := by grind
    have e2 : (M + N) * (M + N) = M * M + N * N + 2 * (M * N) := by grind
    omega
/-- and each moved by at most ra -/
theorem moved_apart {la ra px py d qx qy e mx my kx ky : Int} (la0 : 0 < la) (ra0 : 0 ≤ ra) (d1 : 1 ≤ d) (e1 : 1 ≤ e) (hm : mx * mx + my * my ≤ ra * ra) (hk : kx * kx + ky * ky ≤ ra * ra)
    (h : (la + 2 * ra) * (la + 2 * ra) * ((d * e) * (d * e)) ≤ (px * e - qx * d) * (px * e - qx * d) + (py * e - qy * d) * (py * e - qy * d)) :
    ¬ ((px + mx * d) * e - (qx + kx * e) * d) * ((px + mx * d) * e - (qx + kx * e) * d) + ((py + my * d) * e - (qy + ky * e) * d) * ((py + my * d) * e - (qy + ky * e) * d) < la * la * (d * e) * (d * e) := fun c => by
  have de : 0 < d * e := Int.mul_pos (by omega) (by omega)
  have w := tri (a := mx) (b := my) (c := -kx) (e := -ky) ra0 ra0 hm (by rw [Int.neg_mul_neg, Int.neg_mul_neg]; exact hk)
  have w2 := Int.mul_le_mul_of_nonneg_left w (show 0 ≤ (d * e) * (d * e) by have := sq0 (d * e); omega)
  have a1 : (-((mx + -kx) * (d * e))) * (-((mx + -kx) * (d * e))) + (-((my + -ky) * (d * e))) * (-((my + -ky) * (d * e))) = d * e * (d * e) * ((mx + -kx) * (mx + -kx) + (my + -ky) * (my + -ky)) := by grind
  have a2 : d * e * (d * e) * ((ra + ra) * (ra + ra)) = (2 * ra * (d * e)) * (2 * ra * (d * e)) := by grind
  have a3 : la * la * (d * e) * (d * e) = (la * (d * e)) * (la * (d * e)) := by grind
  rw [a3] at c
  have t := tri_lt (Int.mul_nonneg (Int.le_of_lt la0) (Int.le_of_lt de)) (Int.mul_nonneg (show 0 ≤ 2 * ra by omega) (Int.le_of_lt de)) c (show (-((mx + -kx) * (d * e))) * (-((mx + -kx) * (d * e))) + (-((my + -ky) * (d * e))) * (-((my + -ky) * (d * e))) ≤ (2 * ra * (d * e)) * (2 * ra * (d * e)) by omega)
  have b1 : (px + mx * d) * e - (qx + kx * e) * d + -((mx + -kx) * (d * e)) = px * e - qx * d := by grind
  have b2 : (py + my * d) * e - (qy + ky * e) * d + -((my + -ky) * (d * e)) = py * e - qy * d := by grind
  have b3 : (la * (d * e) + 2 * ra * (d * e)) * (la * (d * e) + 2 * ra * (d * e)) = (la + 2 * ra) * (la + 2 * ra) * ((d * e) * (d * e)) := by grind
  rw [b1, b2, b3] at t
  omega
end Sk
namespace Sk
open PySem PySem.Spec PyProof.Rows L2
def spRulesS (K : PySem.W.Frag) : Sp := fun vs H Q _ => ∃ (d c : Addr), vs = [.ref d] ∧ St1 K H d c ∧ ∀ ru (r : RuD) H', H ru = none → RuAt H' ru r → r.ra ≤ 10 → r.ba ≤ 10 → St1 K H' d c → Keep d H H' → Q (.ref ru) H'
def spInBox (K : PySem.W.Frag) : Sp := fun vs H Q _ => ∃ (d c b q : Addr) (D : CD) (ns : List Str) (x : Bx), vs = [.ref d, .ref b, .ref q] ∧ St1 K H d c ∧ H b = some (.lst ((bgs D ns).map V.int)) ∧ H q = some x.t ∧ x.ok ∧ Bd D ∧ 2 ≤ ns.length ∧ ns.length ≤ 20 ∧
  Q .non H ∧ ∀ (p : Int) (H' : Hp), 0 ≤ p → p < bg D ns (ns.length - 1) → x.lo ≤ p → p ≤ x.hi → St1 K H' d c → Keep d H H' → Q (.int p) H'
def spVec16 (K : PySem.W.Frag) : Sp := fun vs H Q _ => ∃ (d c : Addr) (m : Int), vs = [.ref d, .int m] ∧ St1 K H d c ∧ 0 ≤ m ∧ m ≤ 10 ∧
  ∀ (q : Addr) (x y : Int) (H' : Hp), H' q = some (.tup [.int x, .int y]) → x * x + y * y ≤ m * m → St1 K H' d c → Keep d H H' → Q (.ref q) H'
def spBox16 (K : PySem.W.Frag) : Sp := fun vs H Q _ => ∃ (d c b : Addr) (lo : Int), vs = [.ref d, .ref b, .int lo] ∧ St1 K H d c ∧ -10000000 ≤ lo ∧ lo ≤ 10000000 ∧ ∀ q (x : Bx) H', H q = none → x.ok → x.dn ≤ x.up → x.up ≤ x.dn + 100 → H' q = some x.t → St1 K H' d c → Keep d H H' → Q (.ref q) H'
/-- vectors in a list -/
def VecsAt (H : Hp) (l : Addr) (m : Int) (xs : List V) : Prop := H l = some (.lst xs) ∧ ∀ v ∈ xs, ∃ (q : Addr) (x y : Int), v = .ref q ∧ H q = some (.tup [.int x, .int y]) ∧ x * x + y * y ≤ m * m
theorem bgs_bd {D : CD} {ns : List Str} (b : Bd D) (n20 : ns.length ≤ 20) {x : Int} (h : x ∈ bgs D ns) : 0 ≤ x ∧ x ≤ 6000000 := by
  obtain ⟨j, hj, rfl⟩ := List.mem_map.mp h
  have hj := List.mem_range.mp hj
  have h1 := bg_nn D ns j
  have h2 := bg_le b ns j
  omega
theorem bgs_ne {D : CD} {ns : List Str} (n2 : 2 ≤ ns.length) : (bgs D ns).map V.int ≠ [] := fun z => by
  have e := congrArg List.length z
  rw [bgs_len] at e
  exact absurd (show ns.length = 0 from e) (by omega)
end Sk

set_option Elab.async false
set_option linter.all false
set_option maxRecDepth 100000
set_option maxHeartbeats 4000000
namespace Sk
open PySem PySem.Spec PyProof.Rows L2
/-! reach of foreign aircraft: who is near is within reach -/
theorem reach_near {s : Seg} {la ra R px py d sx sy x y mx my : Int} (la1 : 1 ≤ la) (ra0 : 0 ≤ ra) (R0 : 0 ≤ R) (sd : 1 ≤ s.d) (d1 : 1 ≤ d) (hp : OnS px py d s) (hm : mx * mx + my * my ≤ ra * ra) (he : (x - sx) * (x - sx) + (y - sy) * (y - sy) ≤ R * R)
    (hc : (px + (mx - x) * d) * (px + (mx - x) * d) + (py + (my - y) * d) * (py + (my - y) * d) < la * la * d * d) : clo s ⟨sx, sy, sx, sy, 1⟩ (la + ra + R) = true := by
  cases h : clo s ⟨sx, sy, sx, sy, 1⟩ (la + ra + R) with
  | true => rfl
  | false =>
    exfalso
    have hq : OnS sx sy 1 ⟨sx, sy, sx, sy, 1⟩ := ⟨1, 0, by decide, by decide, by decide, by dsimp only; omega, by dsimp only; omega⟩
    have p := places_apart (show 0 < la + ra + R by omega) sd (Int.le_refl 1) h d1 (by decide) hp hq
    rw [Int.mul_one, Int.mul_one, Int.mul_one] at p
    have w := tri (a := x - sx) (b := y - sy) (c := -mx) (e := -my) R0 ra0 he (by rw [Int.neg_mul_neg, Int.neg_mul_neg]; exact hm)
    have w2 := Int.mul_le_mul_of_nonneg_left w (sq0 d)
    have a1 : ((x - sx + -mx) * d) * ((x - sx + -mx) * d) + ((y - sy + -my) * d) * ((y - sy + -my) * d) = d * d * ((x - sx + -mx) * (x - sx + -mx) + (y - sy + -my) * (y - sy + -my)) := by grind
    have a2 : d * d * ((R + ra) * (R + ra)) = ((R + ra) * d) * ((R + ra) * d) := by grind
    have a3 : la * la * d * d = (la * d) * (la * d) := by grind
    rw [a3] at hc
    have t := tri_lt (M := la * d) (N := (R + ra) * d) (Int.mul_nonneg (by omega) (by omega)) (Int.mul_nonneg (by omega) (by omega)) hc (show ((x - sx + -mx) * d) * ((x - sx + -mx) * d) + ((y - sy + -my) * d) * ((y - sy + -my) * d) ≤ ((R + ra) * d) * ((R + ra) * d) by omega)
    have b1 : px + (mx - x) * d + (x - sx + -mx) * d = px - sx * d := by grind
    have b2 : py + (my - y) * d + (y - sy + -my) * d = py - sy * d := by grind
    have b3 : (la * d + (R + ra) * d) * (la * d + (R + ra) * d) = (la + ra + R) * (la + ra + R) * (d * d) := by grind
    rw [b1, b2, b3] at t
    omega
/-- a step of at most fo behind a way of at most R -/
theorem step_in {x y sx sy dx dy R fo : Int} (R0 : 0 ≤ R) (f0 : 0 ≤ fo) (h : (x - sx) * (x - sx) + (y - sy) * (y - sy) ≤ R * R) (k : dx * dx + dy * dy ≤ fo * fo) : (x + dx - sx) * (x + dx - sx) + (y + dy - sy) * (y + dy - sy) ≤ (R + fo) * (R + fo) := by
  have t := tri (a := x - sx) (b := y - sy) (c := dx) (e := dy) R0 f0 h k
  have e1 : x + dx - sx = x - sx + dx := by omega
  have e2 : y + dy - sy = y - sy + dy := by omega
  rw [e1, e2]
  exact t
/-- rules, all that reach wants -/
structure RF where
  la : Int
  ve : Int
  ra : Int
  ba : Int
  rd : Int
  ht : Int
  fo : Int
  cl : Int
structure RfAt (H : Hp) (ru : Addr) (r : RF) : Prop where
  ex : ∃ kvs, H ru = some (.dK kvs) ∧ valV kvs (.inr "lateral") = some (.int r.la) ∧ valV kvs (.inr "vertical") = some (.int r.ve) ∧ valV kvs (.inr "radius") = some (.int r.ra) ∧ valV kvs (.inr "band") = some (.int r.ba) ∧ valV kvs (.inr "radar") = some (.int r.rd) ∧ valV kvs (.inr "height") = some (.int r.ht) ∧ valV kvs (.inr "foreign") = some (.int r.fo) ∧ valV kvs (.inr "climb") = some (.int r.cl)
  bd : (1 ≤ r.la ∧ r.la ≤ 1000 ∧ 1 ≤ r.ve ∧ r.ve ≤ 1000) ∧ (0 ≤ r.ra ∧ r.ra ≤ 1000 ∧ 0 ≤ r.ba ∧ r.ba ≤ 1000) ∧ (0 ≤ r.rd ∧ r.rd ≤ 1000 ∧ 0 ≤ r.ht ∧ r.ht ≤ 1000) ∧ (0 ≤ r.fo ∧ r.fo ≤ 1000 ∧ 0 ≤ r.cl ∧ r.cl ≤ 1000)
section
variable {H H' : Hp} {ru : Addr} {r : RF}
theorem RfAt.same (R : RfAt H ru r) (s : Same H H') : RfAt H' ru r := ⟨let ⟨kvs, e, h⟩ := R.ex; ⟨kvs, s _ _ e, h⟩, R.bd⟩
theorem RfAt.keep {d : Addr} (R : RfAt H ru r) (s : Keep d H H') (n : ru ≠ d) : RfAt H' ru r := ⟨let ⟨kvs, e, h⟩ := R.ex; ⟨kvs, s _ _ e n, h⟩, R.bd⟩
theorem RfAt.st {T : List Addr} (R : RfAt H ru r) (s : SameT T H H') (t : Tabs T H) : RfAt H' ru r := ⟨let ⟨kvs, e, h⟩ := R.ex; ⟨kvs, s.d t e, h⟩, R.bd⟩
theorem RfAt.gla (R : RfAt H ru r) : DGet H ru (.str "lateral") (some (.int r.la)) := let ⟨_, e, h, _⟩ := R.ex; h ▸ DGet.k (k := .inr "lateral") e
theorem RfAt.gve (R : RfAt H ru r) : DGet H ru (.str "vertical") (some (.int r.ve)) := let ⟨_, e, _, h, _⟩ := R.ex; h ▸ DGet.k (k := .inr "vertical") e
theorem RfAt.gra (R : RfAt H ru r) : DGet H ru (.str "radius") (some (.int r.ra)) := let ⟨_, e, _, _, h, _⟩ := R.ex; h ▸ DGet.k (k := .inr "radius") e
theorem RfAt.gba (R : RfAt H ru r) : DGet H ru (.str "band") (some (.int r.ba)) := let ⟨_, e, _, _, _, h, _⟩ := R.ex; h ▸ DGet.k (k := .inr "band") e
theorem RfAt.grd (R : RfAt H ru r) : DGet H ru (.str "radar") (some (.int r.rd)) := let ⟨_, e, _, _, _, _, h, _⟩ := R.ex; h ▸ DGet.k (k := .inr "radar") e
theorem RfAt.ght (R : RfAt H ru r) : DGet H ru (.str "height") (some (.int r.ht)) := let ⟨_, e, _, _, _, _, _, h, _⟩ := R.ex; h ▸ DGet.k (k := .inr "height") e
theorem RfAt.gfo (R : RfAt H ru r) : DGet H ru (.str "foreign") (some (.int r.fo)) := let ⟨_, e, _, _, _, _, _, _, h, _⟩ := R.ex; h ▸ DGet.k (k := .inr "foreign") e
theorem RfAt.gcl (R : RfAt H ru r) : DGet H ru (.str "climb") (some (.int r.cl)) := let ⟨_, e, _, _, _, _, _, _, _, h⟩ := R.ex; h ▸ DGet.k (k := .inr "climb") e
end
/-- what near_reach answers: t, the sighting's time past; ss, the piece's segments -/
def nearR (r : RF) (b : Bx) (x y z t : Int) (ss : List Seg) : Bool := !(decide (r.ve ≤ b.dn - r.ba - (z + (r.ht + r.cl * t))) || decide (r.ve ≤ z - (r.ht + r.cl * t) - (b.up + r.ba))) && ss.any fun s => clo s ⟨x, y, x, y, 1⟩ (r.la + r.ra + (r.rd + r.fo * t))
def spRulesF (K : PySem.W.Frag) : Sp := fun vs H Q _ => ∃ (d c : Addr), vs = [.ref d] ∧ St1 K H d c ∧ ∀ ru (r : RF) H', H ru = none → RfAt H' ru r → ru ≠ c → St1 K H' d c → Keep d H H' → Q (.ref ru) H'
def spReach : Sp := fun vs H Q _ => ∃ (ru s : Addr) (r : RF) (x y z n t : Int), vs = [.ref ru, .ref s, .int t] ∧ RfAt H ru r ∧ H s = some (.tup [.int x, .int y, .int z, .int n]) ∧ 0 ≤ t - n ∧ t - n ≤ 1000 ∧
  ∀ q, H q = none → Q (.ref q) (upd H q (.tup [.int (r.rd + r.fo * (t - n)), .int (z - (r.ht + r.cl * (t - n))), .int (z + (r.ht + r.cl * (t - n)))]))
def spNearReach (C : Addr) (TT : List Addr) : Sp := fun vs H Q _ => ∃ (ru p b s_ pr : Addr) (r : RF) (B : Bx) (D : CD) (ns : List Str) (ss : List Seg) (x y z n t : Int), vs = [.ref ru, .ref p, .ref b, .ref s_, .int t] ∧ RfAt H ru r ∧ H b = some B.t ∧ H s_ = some (.tup [.int x, .int y, .int z, .int n]) ∧ B.lo ≤ B.hi ∧ 0 ≤ t - n ∧ t - n ≤ 1000 ∧
  PathAt C H p D ns pr ∧ Bd D ∧ 2 ≤ ns.length ∧ ns.length ≤ 20 ∧ pcs D ns B.lo B.hi = ss.map Seg.li ∧ (∀ s ∈ ss, SegBd 200 100 s ∧ 1 ≤ s.d) ∧ BdN 100 x ∧ BdN 100 y ∧ Tabs TT H ∧
  ∀ H', SameT TT H H' → Q (.bl (nearR r B x y z (t - n) ss)) H'
theorem point_at {H : Hp} {q : Addr} {x y : Int} (hq : H q = some (.tup [.int x, .int y, .int x, .int y, .int 1])) (bx : BdN 100 x) (bY : BdN 100 y) : SegsAt H [.ref q] [⟨x, y, x, y, 1⟩] := by
  refine ⟨rfl, fun i s h => ?_⟩
  cases i with
  | zero =>
    cases h
    have b1 : BdN 100 (1 : Int) := Nat.one_le_two_pow
    exact ⟨q, rfl, hq, bx.mono (by decide), bY.mono (by decide), bx.mono (by decide), bY.mono (by decide), b1⟩
  | succ i => cases h
def spVectorR (K : PySem.W.Frag) : Sp := fun vs H Q _ => ∃ (d c : Addr) (r : Int), vs = [.ref d, .int r] ∧ St1 K H d c ∧ 0 ≤ r ∧ r ≤ 1000 ∧ ∀ q x y H', H q = none → H' q = some (.tup [.int x, .int y]) → -1000 ≤ x → x ≤ 1000 → -1000 ≤ y → y ≤ 1000 → x * x + y * y ≤ r * r → St1 K H' d c → Keep d H H' → Q (.ref q) H'
def spNearLaw : Sp := fun vs H Q _ => ∃ (ru l b s_ : Addr) (r : RF) (B : Bx) (ss : List Seg) (x y z n t : Int), vs = [.ref ru, .ref l, .ref b, .ref s_, .int t] ∧ RfAt H ru r ∧ LoT H l (ss.map Seg.li) ∧ H b = some B.t ∧ H s_ = some (.tup [.int x, .int y, .int z, .int n]) ∧ 0 ≤ t ∧ t ≤ 1000 ∧ (∀ s ∈ ss, SegBd 200 100 s ∧ 1 ≤ s.d) ∧ ss.length ≤ 100 ∧ BdN 100 x ∧ BdN 100 y ∧
  ∀ H', Same H H' → Q (.bl (nearR r B x y z t ss)) H'
end Sk

set_option Elab.async false
set_option linter.all false
set_option maxRecDepth 100000
set_option maxHeartbeats 4000000
namespace Sk
open PySem PySem.Spec PyProof.Rows L2
def top (i : Nat) : Stmt := PySem.Challenge.pw_skyapart_k38_reach_of_foreign_aircraft.main.body.getD i (.Pass ⟨0, 0, 0, 0⟩)
abbrev s_law_start : Stmt := top 23
abbrev s_law_draw : Stmt := top 24
abbrev s_law_pick : Stmt := top 25
abbrev s_law_is_number : Stmt := top 26
section
variable {P : Program} {w : World} {K : PySem.W.Frag} {mg : Str → Option Value} {base : Heap}
theorem sc_law_start : FnScope ["script", "cell"] ["script"] (defScope s_law_start) := ⟨rfl, rfl, rfl, by decide +kernel, rfl, by decide +kernel, by decide +kernel⟩
theorem ok_law_start {f : Addr} {fd : FuncData} (F : Fun K "_law_start" "_law_start" s_law_start f fd) (T : Txt0 mg) : FnOk P w K mg base CX0 1 f fd ["script"] (spStart K) := by
  refine F.ok sc_law_start (fun vs H Q E h => ?_) (fun cdv A outer s H vs Q E hr h => ?_)
  · obtain ⟨a, ns, rfl, _⟩ := h
    rfl
  · obtain ⟨a, ns, rfl, hS, hl, k⟩ := h
    refine ⟨_, (pss_one (ps_ret (pe_disp (pps_cons pe_str (pe_lc (own := [("cell", 1)]) (g := gName 1) (by rfl) sc_law_start.nd (pi_list (pv 0)) (blkOk_by (own := [("cell", 1)]) (N := ["script", "cell"]) (sc := defScope s_law_start) (by decide +kernel)) (fun _ _ _ _ _ => (pg_name (i := 1) sc_law_start.nd rfl (Or.inl rfl))) (fun _ _ _ _ _ => pts_nil) (fun _ _ _ _ _ => (pe_callB call_abs (by rfl) T.abs boot_abs (pa_cons (pe_callTy call_int1 (by rfl) T.int boot_int (pa_cons (pv 1) pa_nil)) pa_nil)))) (pps_cons pe_str pe_int (pps_cons pe_str pe_int (pps_cons pe_str (pe_op op_add pe_int (pe_callB call_len_seq (by rfl) T.len boot_len (pa_cons (pv 0) pa_nil))) pps_nil)))) (by rfl) (by rfl) (fun z => by cases z) (by decide)))), ?_⟩
    -- the dict
    intro d hd
    have s0 : Same H (upd H d (.dK [])) := same_new hd
    refine ⟨_, rfl, a, rfl, ⟨_, s0.seq hS⟩, fun D hD => ?_⟩
    have nDd : d ≠ D := fun z => by rw [← z, upd_same] at hD; cases hD
    refine lc_list (K := K) (a := a) (xs := ns.map V.int) (fun i H' => ∃ cs : List Int, H' D = some (.lst (cs.map V.int)) ∧ cs.length = i ∧ (∀ x ∈ cs, 0 ≤ x) ∧ Same H H' ∧ H' d = some (.dK []))
      ⟨[], upd_same, rfl, (fun _ h => nomatch h), fun b o e => (same_new hD) b o (s0 b o e), by rw [upd_ne nDd, upd_same]⟩ (fun i H' _ ⟨_, _, _, _, s2, _⟩ => s2.seq hS) ?_ ?_
    · rintro i x H' hx ⟨cs, hc, hi, hn, s2, h2⟩
      obtain ⟨z, rfl⟩ : ∃ z, x = V.int z := by
        rw [List.getElem?_map] at hx
        cases e : ns[i]? with
        | none => rw [e] at hx; cases hx
        | some z => rw [e] at hx; exact ⟨z, (Option.some.inj hx).symm⟩
      have hil : i < (ns.map V.int).length := (List.getElem?_eq_some_iff.mp hx).1
      rw [List.length_map] at hil
      refine ⟨rfl, ?_⟩
      refine ⟨_, rfl, .inl ⟨_, rfl, _, rfl, _, hc, ?_, cs ++ [if z < 0 then -z else z], ?_, ?_, ?_, ?_, ?_⟩⟩
      · rw [List.length_map]; exact small1000 (by omega)
      · rw [upd_same, List.map_append]; rfl
      · rw [List.length_append, hi]; rfl
      · intro y hy
        rcases List.mem_append.mp hy with hy | hy
        · exact hn y hy
        · rw [List.mem_singleton.mp hy]; split <;> omega
      · intro b o e
        rw [upd_ne (ne_of_none e (s0.free hD))]
        exact s2 b o e
      · rw [upd_ne nDd]; exact h2
    · rintro H' ⟨cs, hc, hi, hn, s2, h2⟩
      refine ⟨_, rfl, a, _, rfl, .inl (s2.seq hS), _, _, rfl, rfl, h2, stK D 0 0 (7 + ((ns.map V.int).length : Int)), rfl, (by show 4 ≤ 15; decide), ?_⟩
      rw [merge_st]
      have hDd : D ≠ d := fun z => nDd z.symm
      refine k d D _ hd (s0.free hD) ⟨cs, 0, 0, _, upd_same, (by rw [upd_ne hDd]; exact hc), hn, by omega, by omega, ?_, ?_⟩ fun b o e => ?_
      · omega
      · rw [List.length_map]; omega
      · rw [upd_ne (ne_of_none e hd)]
        exact s2 b o e
theorem sc_law_draw : FnScope ["state", "bound", "cell", "number"] ["state", "bound"] (defScope s_law_draw) := ⟨rfl, rfl, rfl, by decide +kernel, rfl, by decide +kernel, by decide +kernel⟩
theorem ok_law_draw {f : Addr} {fd : FuncData} (F : Fun K "_law_draw" "_law_draw" s_law_draw f fd) (T : Txt0 mg) : FnOk P w K mg base CX0 1 f fd ["state", "bound"] (spDraw K) := by
  refine F.ok sc_law_draw (fun vs H Q E h => ?_) (fun cdv A outer s H vs Q E hr h => ?_)
  · obtain ⟨d, c, b, rfl, _⟩ := h
    rfl
  · obtain ⟨d, c, b, rfl, S1, b0, b1, k⟩ := h
    have hu := hu_of hr
    have hm : ∀ x : Int, 0 ≤ x % b ∧ x % b < b := fun x => ⟨Int.emod_nonneg x (by omega), Int.emod_lt_of_pos x b0⟩
    have hmx : ∀ x : Int, 0 ≤ x % 2147483647 ∧ x % 2147483647 < 2147483648 := fun x => by omega
    refine ⟨_, (pss_cons (ps_if (PW.pt (pw_and (pt_cmpR op_eq (pe_dget hu (pv 0) pe_str (fun _ _ => rfl)) pe_int (nomark _)) (pw_and1 (pt_cmpR op_lt (pe_dget hu (pv 0) pe_str (fun _ _ => rfl)) (pe_callB call_len_seq (by rfl) T.len boot_len (pa_cons (pe_dget hu (pv 0) pe_str (fun _ _ => rfl)) pa_nil)) (nomark _))))) (pss_cons (ps_set (i := 2) sc_law_draw.nd rfl (Or.inl rfl) (pe_ix ix_list (pe_dget hu (pv 0) pe_str (fun _ _ => rfl)) (pe_dget hu (pv 0) pe_str (fun _ _ => rfl)) (fun _ _ => rfl)))
    (pss_cons (ps_dput hu (pv 0) pe_str (pe_op op_add (pe_dget hu (pv 0) pe_str (fun _ _ => rfl)) pe_int) rfl)
    (pss_cons (ps_dput hu (pv 0) pe_str (pe_op op_mod (pe_callTy call_int1 (by rfl) T.int boot_int (pa_cons (pe_op op_add (pe_op op_add (pe_op op_mul (pe_dget hu (pv 0) pe_str (fun _ _ => rfl)) pe_int) (pv 2)) pe_int) pa_nil)) pe_int) rfl)
    (pss_cons (ps_if (pt_cmpR op_lt (pv 2) (pe_op op_pow pe_int pe_int) (nomark _)) (pss_one (ps_ret (pe_op op_mod (pe_callTy call_int1 (by rfl) T.int boot_int (pa_cons (pv 2) pa_nil)) (pv 1))))
      pss_nil)
    (pss_one (ps_dput hu (pv 0) pe_str (pv 2) rfl))))))
      pss_nil)
    (pss_cons (ps_if (pt_cmpR op_gt (pe_dget hu (pv 0) pe_str (fun _ _ => rfl)) pe_int (nomark _)) (pss_cons (ps_set (i := 3) sc_law_draw.nd rfl (Or.inl rfl) (pe_op op_mod (pe_callTy call_int1 (by rfl) T.int boot_int (pa_cons (pe_dget hu (pv 0) pe_str (fun _ _ => rfl)) pa_nil)) (pv 1)))
    (pss_cons (ps_dput hu (pv 0) pe_str (pe_op op_fdivW (pe_dget hu (pv 0) pe_str (fun _ _ => rfl)) (pv 1)) rfl)
    (pss_one (ps_ret (pv 3)))))
      pss_nil)
    (pss_cons (ps_dput hu (pv 0) pe_str (pe_op op_mod (pe_callTy call_int1 (by rfl) T.int boot_int (pa_cons (pe_op op_add (pe_op op_mul (pe_dget hu (pv 0) pe_str (fun _ _ => rfl)) pe_int) pe_int) pa_nil)) pe_int) rfl)
    (pss_one (ps_ret (pe_op op_mod (pe_callTy call_int1 (by rfl) T.int boot_int (pa_cons (pe_op op_mod (pe_callTy call_int1 (by rfl) T.int boot_int (pa_cons (pe_op op_add (pe_op op_mul (pe_dget hu (pv 0) pe_str (fun _ _ => rfl)) pe_int) pe_int) pa_nil)) pe_int) pa_nil)) (pv 1))))))), ?_⟩
    refine cut (fun σ' H' => ∃ v2 v3, σ' = [some (.ref d), some (.int b), v2, v3] ∧ St1 K H' d c ∧ Keep d H H') ?_ (fun rest => ?_)
    · -- the rest: from a number that is left, or from the mix
      rintro σ' H' ⟨v2, v3, rfl, ⟨ns, i, l, m, S⟩, kp⟩
      refine ⟨_, rfl, _, _, rfl, dg_left S.dc, _, _, rfl, rfl, _, rfl, ite2 (fun e => ?_) (fun e => ?_)⟩
      · refine ⟨_, rfl, _, _, rfl, dg_left S.dc, .inl ⟨_, rfl, _, rfl, _, _, rfl, rfl, b0, ?_⟩⟩
        refine ⟨_, rfl, _, _, rfl, dg_left S.dc, _, rfl, _, _, rfl, rfl, log_of b0 b1, _, rfl, _, _, rfl, dp_left S.dc, ?_⟩
        refine ⟨_, rfl, ?_⟩
        exact k _ _ (hm l).1 (hm l).2 ⟨_, _, _, _, S.put S.i0 (Int.ediv_nonneg S.l0 (by omega)) S.m0 S.m1⟩ (kp.trans (Keep.upd _ _ _))
      · refine ⟨_, rfl, _, _, rfl, dg_mix S.dc, _, _, rfl, rfl, .inr ⟨by decide, by decide⟩, _, _, rfl, rfl, .inl ⟨_, rfl, _, _, rfl, rfl, (by show (0:Int) < 2147483647; decide), _, rfl, _, _, rfl, dp_mix S.dc, ?_⟩⟩
        have S2 := S.put (i' := i) (l' := l) S.i0 S.l0 (hmx (m * 48271 + 11)).1 (hmx (m * 48271 + 11)).2
        refine ⟨_, rfl, _, _, rfl, dg_mix S2.dc, _, _, rfl, rfl, .inr ⟨by decide, by decide⟩, _, _, rfl, rfl, .inl ⟨_, rfl, _, _, rfl, rfl, (by show (0:Int) < 2147483629; decide), .inl ⟨_, rfl, _, rfl, _, _, rfl, rfl, b0, ?_⟩⟩⟩
        exact k _ _ (hm _).1 (hm _).2 ⟨_, _, _, _, S2⟩ (kp.trans (Keep.upd _ _ _))
    · -- the first if
      obtain ⟨ns, i, l, m, S⟩ := id S1
      refine ⟨_, rfl, _, _, rfl, dg_left S.dc, rfl, _, rfl, ite2 (fun e => ?_) (fun e => ?_)⟩
      · refine ⟨_, rfl, _, _, rfl, dg_at S.dc, _, rfl, _, _, rfl, dg_cells S.dc, _, _, rfl, .inl (.inl (.inl S.cs)), _, _, rfl, rfl, _, rfl, ite2 (fun e => ?_) (fun e => ?_)⟩
        · have hi : i < (ns.length : Int) := by
            have := of_decide_eq_true e
            rw [List.length_map] at this
            exact this
          obtain ⟨j, rfl⟩ : ∃ j : Nat, i = (j : Int) := ⟨i.toNat, by have := S.i0; omega⟩
          have hj : j < ns.length := by omega
          refine ⟨_, rfl, _, _, rfl, dg_cells S.dc, _, rfl, _, _, rfl, dg_at S.dc, _, _, _, _, rfl, rfl, .inl (.inl S.cs), atI_nat (j := j) (v := .int ns[j]) (by simp [hj]), ?_⟩
          have S2 := S.put (i' := (j : Int) + 1) (l' := l) (m' := m) (by omega) S.l0 S.m0 S.m1
          refine ⟨_, rfl, _, _, rfl, dg_at S.dc, _, _, rfl, rfl, _, rfl, _, _, rfl, dp_at S.dc, ?_⟩
          refine ⟨_, rfl, _, _, rfl, dg_mix S2.dc, _, _, rfl, rfl, .inr ⟨by decide, by decide⟩, _, rfl, _, _, rfl, rfl, _, _, rfl, rfl, .inl ⟨_, rfl, _, _, rfl, rfl, (by show (0:Int) < 2147483647; decide), _, rfl, _, _, rfl, dp_mix S2.dc, ?_⟩⟩
          have S3 := S2.put (i' := (j : Int) + 1) (l' := l) S2.i0 S.l0 (hmx (m * 48271 + ns[j] + 11)).1 (hmx (m * 48271 + ns[j] + 11)).2
          refine ⟨_, rfl, _, _, rfl, rfl, ⟨by decide, by decide, by decide⟩, _, _, rfl, rfl, _, rfl, ite2 (fun e => ?_) (fun e => ?_)⟩
          · refine ⟨_, rfl, .inl ⟨_, rfl, _, rfl, _, _, rfl, rfl, b0, ?_⟩⟩
            exact k _ _ (hm _).1 (hm _).2 ⟨_, _, _, _, S3⟩ ((Keep.upd _ _ _).trans (Keep.upd _ _ _))
          · refine ⟨_, rfl, _, rfl, _, _, rfl, dp_left S3.dc, ?_⟩
            have S4 := S3.put (i' := (j : Int) + 1) (l' := ns[j]) S2.i0 (S.nn _ (List.getElem_mem hj)) S3.m0 S3.m1
            exact rest _ _ ⟨_, _, rfl, ⟨_, _, _, _, S4⟩, ((Keep.upd _ _ _).trans (Keep.upd _ _ _)).trans (Keep.upd _ _ _)⟩
        · exact rest _ _ ⟨_, _, rfl, S1, Keep.refl _ _⟩
      · refine iteF ?_
        exact rest _ _ ⟨_, _, rfl, S1, Keep.refl _ _⟩
theorem sc_law_pick : FnScope ["state", "things"] ["state", "things"] (defScope s_law_pick) := ⟨rfl, rfl, rfl, by decide +kernel, rfl, by decide +kernel, by decide +kernel⟩
theorem ok_law_pick {f : Addr} {fd : FuncData} (F : Fun K "_law_pick" "_law_pick" s_law_pick f fd) (T : Txt0 mg) (D_law_draw : Def P w K mg base 1 "_law_draw" ["state", "bound"] (spDraw K)) : FnOk P w K mg base CX0 2 f fd ["state", "things"] (spPick K) := by
  refine F.ok sc_law_pick (fun vs H Q E h => ?_) (fun cdv A outer s H vs Q E hr h => ?_)
  · obtain ⟨d, c, l, xs, rfl, _⟩ := h
    rfl
  · obtain ⟨d, c, l, xs, rfl, S, hl, hn, hz, k⟩ := h
    refine ⟨_, (pss_one (ps_ret (pe_ix ix_list (pv 1) (pe_def D_law_draw (hr.mono (by decide)) (by rfl) (pa_cons (pv 0) (pa_cons (pe_callB call_len_seq (by rfl) T.len boot_len (pa_cons (pv 1) pa_nil)) pa_nil))) (fun _ _ => rfl)))), ?_⟩
    have hp : 0 < xs.length := List.length_pos_iff.mpr hn
    refine ⟨_, rfl, _, rfl, _, rfl, _, _, rfl, .inl hl, d, c, _, rfl, S, by omega, by omega, fun n H' n0 n1 S' kp => ?_⟩
    obtain ⟨kvs, hd⟩ := S.dk
    obtain ⟨j, rfl⟩ : ∃ j : Nat, n = (j : Int) := ⟨n.toNat, by omega⟩
    have hj : j < xs.length := by omega
    refine ⟨_, _, _, _, rfl, rfl, kp.seq hd hl, atI_nat (j := j) (v := xs[j]) (by simp [hj]), ?_⟩
    exact k _ _ (List.getElem_mem hj) S' kp
theorem sc_law_is_number : FnScope ["thing"] ["thing"] (defScope s_law_is_number) := ⟨rfl, rfl, rfl, by decide +kernel, rfl, by decide +kernel, by decide +kernel⟩
theorem ok_law_is_number {f : Addr} {fd : FuncData} (F : Fun K "_law_is_number" "_law_is_number" s_law_is_number f fd) (T : Txt0 mg) : FnOk P w K mg base CX0 1 f fd ["thing"] spIsNum := by
  refine F.ok sc_law_is_number (fun vs H Q E h => ?_) (fun cdv A outer s H vs Q E hr h => ?_)
  · obtain ⟨n, rfl, _⟩ := h
    rfl
  · obtain ⟨n, rfl, k⟩ := h
    refine ⟨_, (pss_one (ps_ret (pe_and (pe_callB call_isi (by rfl) T.isinstance boot_isinstance (pa_cons (pv 0) (pa_cons (pe_bltn (v := .ty "int") (by rfl) T.int boot_int rfl) pa_nil))) (pe_one (pe_not (pe_callB call_isi (by rfl) T.isinstance boot_isinstance (pa_cons (pv 0) (pa_cons (pe_bltn (v := .ty "bool") (by rfl) T.bool boot_bool rfl) pa_nil)))))))), ?_⟩
    refine ⟨_, rfl, _, _, _, _, true, rfl, ClsV.ty _, .base (.int n), kit_ty (by decide +kernel), true, rfl, ?_⟩
    refine iteT ?_
    refine ⟨_, rfl, _, _, _, _, false, rfl, ClsV.ty _, .base (.int n), kit_ty (by decide +kernel), false, rfl, ?_⟩
    exact k
end
end Sk

set_option Elab.async false
set_option linter.all false
set_option maxRecDepth 100000
set_option maxHeartbeats 4000000
namespace Sk
open PySem PySem.Spec PyProof.Rows L2
abbrev s_root_down : Stmt := top 3
abbrev s_root_up : Stmt := top 4
abbrev s_leg_length : Stmt := top 18
abbrev s_leg_between : Stmt := top 19
abbrev s_law_is : Stmt := top 27
abbrev s_law_root_up : Stmt := top 28
abbrev s_law_names : Stmt := top 33
abbrev s_law_legs : Stmt := top 34
abbrev s_law_chart : Stmt := top 35
abbrev s_law_leg : Stmt := top 36
abbrev s_law_lengths : Stmt := top 37
abbrev s_law_walk : Stmt := top 39
local macro_rules | `(tactic| walk_at "ms") => `(tactic| first | exact .inl ⟨by decide, by decide⟩ | exact .inl ⟨by omega, by omega⟩ | exact .inr ⟨by omega, by omega⟩ | exact wm (by omega) (by omega) | exact log_of (by omega) (by omega) | (show (0:Int) < _; omega) | exact ⟨by decide, by decide, by decide⟩)
/-- the places of a chart, by name -/
def CE (D : CD) : Prop := ∃ ns : List Str, D.fs.map (·.1) = ns.map Sum.inr ∧ ns.Nodup ∧ 2 ≤ ns.length ∧ ns.length ≤ 7 ∧ (∀ n ∈ ns, sOk n ∧ ∃ a x y, D.pt n = some (a, x, y)) ∧ ∀ s ∈ ns, ∀ e ∈ ns, s ≠ e → 1 ≤ D.len s e
def spChartB (K : PySem.W.Frag) : Sp := fun vs H Q _ => ∃ (d c : Addr) (m z : Int), vs = [.ref d, .int m, .int z] ∧ St1 K H d c ∧ 2 ≤ m ∧ m ≤ 7 ∧ 1 ≤ z ∧ z ≤ 9000 ∧
  ∀ (D : CD) ch H', CE D → H D.lg = none → (∀ l ∈ D.ls, 1 ≤ D.len l.s l.e) → ChartAt H' ch D → H ch = none → H D.fx = none → St1 K H' d c → Keep d H H' → Q (.ref ch) H'
theorem keys_put {kvs : List (Key × V)} {ns : List Str} {i : Nat} {v : V} (h : kvs.map (·.1) = (ns.take i).map Sum.inr) (nd : ns.Nodup) (hi : i < ns.length) : (putK kvs (.inr ns[i]) v).map (·.1) = (ns.take i ++ [ns[i]]).map Sum.inr := by
  unfold putK
  rw [if_neg, List.map_append, h, List.map_append]
  · rfl
  · intro w
    obtain ⟨kv, hkv, e⟩ := List.any_eq_true.mp w
    have e := of_decide_eq_true e
    have m : (Sum.inr ns[i] : Key) ∈ kvs.map (·.1) := List.mem_map.mpr ⟨kv, hkv, e⟩
    rw [h] at m
    obtain ⟨n, hn, en⟩ := List.mem_map.mp m
    obtain rfl := Sum.inr.inj en
    obtain ⟨j, hj, ej⟩ := List.getElem_of_mem hn
    rw [List.length_take] at hj
    rw [List.getElem_take] at ej
    exact nodup_ne nd (show j < ns.length by omega) hi (by omega) ej
def spSmall (K : PySem.W.Frag) : Sp := fun vs H Q _ => ∃ (d c : Addr), vs = [.ref d] ∧ St1 K H d c ∧
  ∀ (D : CD) ch H', D.ls ≠ [] → (∀ l ∈ D.ls, 1 ≤ D.len l.s l.e) → ChartAt H' ch D → H ch = none → H D.fx = none → St1 K H' d c → Keep d H H' → Q (.ref ch) H'
section
variable {P : Program} {w : World} {K : PySem.W.Frag} {mg : Str → Option Value} {base : Heap}
theorem sc_root_down : FnScope ["n"] ["n"] (defScope s_root_down) := ⟨rfl, rfl, rfl, by decide +kernel, rfl, by decide +kernel, by decide +kernel⟩
theorem ok_root_down {f : Addr} {fd : FuncData} (F : Fun K "root_down" "root_down" s_root_down f fd) (T : TxtA mg) (Tq : mg "isqrt" = some (.builtin "math.isqrt")) : FnOk P w K mg base CX0 1 f fd ["n"] (spDownR) := by
  refine F.ok sc_root_down (fun vs H Q E h => ?_) (fun cdv A outer s H vs Q E hr h => ?_)
  · obtain ⟨n, rfl, _⟩ := h
    rfl
  · obtain ⟨n, rfl, hn, k⟩ := h
    refine ⟨_, (pss_cons (ps_if (pt_cmpR op_le (pv 0) pe_int (nomark _)) (pss_one (ps_ret pe_int))
      pss_nil)
    (pss_one (ps_ret (pe_callBfun cr_isqrt (by rfl) Tq (pa_cons (pv 0) pa_nil))))), ?_⟩
    refine ⟨_, rfl, _, _, rfl, rfl, _, rfl, ite2 (fun e => ?_) (fun e => ?_)⟩
    · have e := of_decide_eq_true e
      exact k 0 (by omega) (fun _ => rfl) (fun h => by omega)
    · have e : ¬ n ≤ 0 := fun z => e (decide_eq_true z)
      exact ⟨_, rfl, n, rfl, by omega, hn, fun r h0 h1 h2 => k r h0 (fun z => absurd z e) (fun _ => ⟨h1, h2⟩)⟩
theorem sc_root_up : FnScope ["n", "low"] ["n"] (defScope s_root_up) := ⟨rfl, rfl, rfl, by decide +kernel, rfl, by decide +kernel, by decide +kernel⟩
theorem ok_root_up {f : Addr} {fd : FuncData} (F : Fun K "root_up" "root_up" s_root_up f fd) (T : TxtA mg)
    (D_root_down : Def P w K mg base 1 "root_down" ["n"] (spDownR)) : FnOk P w K mg base CX0 2 f fd ["n"] (spUpR) := by
  refine F.ok sc_root_up (fun vs H Q E h => ?_) (fun cdv A outer s H vs Q E hr h => ?_)
  · obtain ⟨n, rfl, _⟩ := h
    rfl
  · obtain ⟨n, rfl, hn0, hn, k⟩ := h
    refine ⟨_, (pss_cons (ps_set (i := 1) sc_root_up.nd rfl (Or.inl rfl) (pe_def D_root_down (hr.mono (by decide)) (by rfl) (pa_cons (pv 0) pa_nil)))
    (pss_cons (ps_if (pt_cmpR op_lt (pe_op op_mulW (pv 1) (pv 1)) (pv 0) (nomark _)) (pss_one (ps_ret (pe_op op_add (pv 1) pe_int)))
      pss_nil)
    (pss_one (ps_ret (pv 1))))), ?_⟩
    refine ⟨_, rfl, n, rfl, by omega, fun r h0 h1 h2 => ?_⟩
    obtain ⟨h3, h4⟩ := h2 hn0
    have hr' : r.natAbs < 2 ^ 249 := by
      rcases ltge r 1 with h3 | h3
      · have : r = 0 := by omega
        subst this; decide
      · have := Int.mul_le_mul_of_nonneg_left h3 h0
        omega
    refine ⟨_, rfl, _, rfl, _, _, rfl, rfl, wm (by omega) (by omega), _, rfl, _, _, rfl, rfl, _, rfl, ite2 (fun e => ?_) (fun e => ?_)⟩
    · have e := of_decide_eq_true e
      have hq : IsRt n (r + 1) := ⟨by omega, by omega, .inr (by rw [show r + 1 - 1 = r by omega]; exact e)⟩
      refine ⟨_, rfl, _, _, rfl, rfl, ?_⟩
      show Q (.int (r + 1)) H
      rw [hq.eq (rt_is hn0)]
      exact k
    · have e : ¬ r * r < n := fun z => e (decide_eq_true z)
      have hq : IsRt n r := by
        refine ⟨h0, by omega, ?_⟩
        rcases ltge 0 r with w | w
        · right
          have : (r - 1) * (r - 1) = r * r - 2 * r + 1 := by
            rw [Int.sub_mul, Int.mul_sub, Int.mul_sub]; omega
          omega
        · left; omega
      refine ⟨_, rfl, ?_⟩
      show Q (.int r) H
      rw [hq.eq (rt_is hn0)]
      exact k
theorem sc_leg_length : FnScope ["chart", "start", "end", "ax", "ay", "bx", "by"] ["chart", "start", "end"] (defScope s_leg_length) := ⟨rfl, rfl, rfl, by decide +kernel, rfl, by decide +kernel, by decide +kernel⟩
theorem ok_leg_length {f : Addr} {fd : FuncData} (F : Fun K "leg_length" "leg_length" s_leg_length f fd) (T : TxtA mg)
    (D_root_up : Def P w K mg base 2 "root_up" ["n"] (spUpR)) : FnOk P w K mg base CX0 3 f fd ["chart", "start", "end"] (spLegLen) := by
  refine F.ok sc_leg_length (fun vs H Q E h => ?_) (fun cdv A outer s H vs Q E hr h => ?_)
  · obtain ⟨_, _, _, _, _, _, _, _, _, _, rfl, _⟩ := h
    rfl
  · obtain ⟨ch, D, s', e', a, b, ax, ay, bx, by', rfl, C, h1, h2, k⟩ := h
    have hu := hu_of hr
    refine ⟨_, (pss_cons (ps_asg (pe_dget hu (pe_dget hu (pv 0) pe_str (fun _ _ => rfl)) (pv 1) (fun _ _ => rfl)) (pg_tup (by rfl) (pgs_cons (pg_name (i := 3) sc_leg_length.nd rfl (Or.inl rfl)) (pgs_cons (pg_name (i := 4) sc_leg_length.nd rfl (Or.inl rfl)) pgs_nil))))
    (pss_cons (ps_asg (pe_dget hu (pe_dget hu (pv 0) pe_str (fun _ _ => rfl)) (pv 2) (fun _ _ => rfl)) (pg_tup (by rfl) (pgs_cons (pg_name (i := 5) sc_leg_length.nd rfl (Or.inl rfl)) (pgs_cons (pg_name (i := 6) sc_leg_length.nd rfl (Or.inl rfl)) pgs_nil))))
    (pss_one (ps_ret (pe_def D_root_up (hr.mono (by decide)) (by rfl) (pa_cons (pe_op op_add (pe_op op_mul (pe_op op_sub (pv 5) (pv 3)) (pe_op op_sub (pv 5) (pv 3))) (pe_op op_mul (pe_op op_sub (pv 6) (pv 4)) (pe_op op_sub (pv 6) (pv 4)))) pa_nil)))))), ?_⟩
    have hz0 : 0 ≤ (bx - ax) * (bx - ax) + (by' - ay) * (by' - ay) := Int.add_nonneg (sq0 _) (sq0 _)
    obtain ⟨p1, p2, p3, p4, p5, p6⟩ := C.pf _ _ _ _ h1
    obtain ⟨q1, q2, q3, q4, q5, q6⟩ := C.pf _ _ _ _ h2
    have hz1 : ((bx - ax) * (bx - ax) + (by' - ay) * (by' - ay)).natAbs < 2 ^ 240 := by
      have e1 := sq_le (show -200000 ≤ bx - ax by omega) (show bx - ax ≤ 200000 by omega)
      have e2 := sq_le (show -200000 ≤ by' - ay by omega) (show by' - ay ≤ 200000 by omega)
      omega
    refine ⟨_, rfl, _, _, rfl, C.gf, _, rfl, _, _, rfl, C.gp h1, _, _, rfl, .inl (.inl p2), rfl, _, _, rfl, _, _, rfl, rfl, ?_⟩
    refine ⟨_, rfl, _, _, rfl, C.gf, _, rfl, _, _, rfl, C.gp h2, _, _, rfl, .inl (.inl q2), rfl, _, _, rfl, _, _, rfl, rfl, ?_⟩
    refine ⟨_, rfl, _, rfl, _, _, rfl, rfl, _, rfl, _, rfl, _, _, rfl, rfl, _, _, rfl, rfl, (by walk_at "ms"), _, rfl, _, rfl, _, _, rfl, rfl, _, rfl, _, rfl, _, _, rfl, rfl, _, _, rfl, rfl, (by walk_at "ms"), _, _, rfl, rfl, _, rfl, hz0, hz1, ?_⟩
    rw [← D.len_eq h1 h2]
    exact k
theorem sc_leg_between : FnScope ["chart", "start", "end", "leg"] ["chart", "start", "end"] (defScope s_leg_between) := ⟨rfl, rfl, rfl, by decide +kernel, rfl, by decide +kernel, by decide +kernel⟩
theorem ok_leg_between {f : Addr} {fd : FuncData} (F : Fun K "leg_between" "leg_between" s_leg_between f fd) (T : TxtA mg) : FnOk P w K mg base CX0 1 f fd ["chart", "start", "end"] (spLegBt) := by
  refine F.ok sc_leg_between (fun vs H Q E h => ?_) (fun cdv A outer s H vs Q E hr h => ?_)
  · obtain ⟨_, _, _, _, rfl, _⟩ := h
    rfl
  · obtain ⟨ch, D, s', e', rfl, C, k⟩ := h
    have hu := hu_of hr
    refine ⟨_, (pss_cons (ps_for PassesOwn.never rfl (pi_list (pe_dget hu (pv 0) pe_str (fun _ _ => rfl))) (pg_name (i := 3) sc_leg_between.nd rfl (Or.inl rfl))
      (pss_one (ps_if (PW.pt (pw_and (pt_cmpR op_eq (pe_ix (r := rIxT K) ix_tup (pv 3) pe_int (fun _ _ => rfl)) (pv 1) (nomark _)) (pw_and1 (pt_cmpR op_eq (pe_ix (r := rIxT K) ix_tup (pv 3) pe_int (fun _ _ => rfl)) (pv 2) (nomark _))))) (pss_one (ps_ret (pv 3)))
      pss_nil)))
    (pss_one (ps_ret pe_non))), ?_⟩
    refine ⟨_, rfl, _, _, rfl, C.gl, _, rfl, ⟨_, .inl (.inl C.lg)⟩, for_list (K := K) (a := D.lg) (xs := D.ls.map fun l => V.ref l.a) (fun i σ H2 => ∃ v, σ = [some (.ref ch), some (.str s'), some (.str e'), v] ∧ H2 = H ∧ (D.ls.take i).find? (fun l => decide (l.s = s') && decide (l.e = e')) = none)
      ⟨none, rfl, rfl, rfl⟩ (fun i σ H2 _ ⟨_, _, e, _⟩ => .inl (.inl (e ▸ C.lg))) ?_ ?_⟩
    · rintro i y σ H2 hi ⟨v, rfl, rfl, hf⟩
      obtain ⟨l, rfl, hl, hil, ht⟩ := getMap hi
      have hq := C.lt l hl
      refine ⟨_, rfl, _, _, _, .str l.s, rfl, rfl, .inl (.inl hq), rfl, _, rfl, rfl, _, rfl, ite2 (fun e1 => ?_) (fun e1 => ?_)⟩
      · have e1 := V.str.inj (of_decide_eq_true e1)
        refine ⟨_, rfl, _, _, _, .str l.e, rfl, rfl, .inl (.inl hq), rfl, _, rfl, rfl, _, rfl, ite2 (fun e2 => ?_) (fun e2 => ?_)⟩
        · have e2 := V.str.inj (of_decide_eq_true e2)
          refine ⟨_, rfl, ?_⟩
          have e3 : D.leg s' e' = some l := by
            unfold CD.leg
            rw [← List.take_append_drop (i + 1) D.ls, List.find?_append, ht, List.find?_append, hf]
            simp [e1, e2]
          rw [e3] at k
          exact k
        · refine ⟨_, rfl, rfl, ?_⟩
          rw [ht, List.find?_append, hf]
          have : ¬ l.e = e' := fun z => e2 (decide_eq_true (congrArg V.str z))
          simp [this]
      · refine iteF ?_
        refine ⟨_, rfl, rfl, ?_⟩
        rw [ht, List.find?_append, hf]
        have : ¬ l.s = s' := fun z => e1 (decide_eq_true (congrArg V.str z))
        simp [this]
    · rintro σ H2 ⟨v, rfl, rfl, hf⟩
      rw [List.length_map, List.take_length] at hf
      have e3 : D.leg s' e' = none := hf
      rw [e3] at k
      exact k
theorem sc_law_is : FnScope ["actual", "due"] ["actual", "due"] (defScope s_law_is) := ⟨rfl, rfl, rfl, by decide +kernel, rfl, by decide +kernel, by decide +kernel⟩
theorem ok_law_is {f : Addr} {fd : FuncData} (F : Fun K "_law_is" "_law_is" s_law_is f fd) (T : TxtA mg) : FnOk P w K mg base CX0 1 f fd ["actual", "due"] (spIs) := by
  refine F.ok sc_law_is (fun vs H Q E h => ?_) (fun cdv A outer s H vs Q E hr h => ?_)
  · obtain ⟨_, _, rfl, _⟩ := h
    rfl
  · obtain ⟨a, b, rfl, k⟩ := h
    refine ⟨_, (pss_one (ps_ret (pe_and (pe_callB call_isi (by rfl) T.isinstance boot_isinstance (pa_cons (pv 0) (pa_cons (pe_bltn (v := .ty "bool") (by rfl) T.bool boot_bool rfl) pa_nil))) (pe_one (pe_cmpR op_eq (pv 0) (pv 1) (nomark _)))))), ?_⟩
    refine ⟨_, rfl, _, _, _, _, true, rfl, ClsV.ty _, .base (.bl a), kit_ty (by decide +kernel), true, rfl, ?_⟩
    refine iteT ?_
    refine ⟨_, rfl, _, rfl, rfl, ?_⟩
    have e : decide (V.bl a = V.bl b) = decide (a = b) := by
      by_cases h : a = b
      · rw [h]; simp
      · rw [decide_eq_false h, decide_eq_false fun z => h (V.bl.inj z)]
    show Q (.bl (decide (V.bl a = V.bl b))) H
    rw [e]
    exact k
theorem sc_law_root_up : FnScope ["n", "low", "high", "k", "middle"] ["n"] (defScope s_law_root_up) := ⟨rfl, rfl, rfl, by decide +kernel, rfl, by decide +kernel, by decide +kernel⟩
theorem ok_law_root_up {f : Addr} {fd : FuncData} (F : Fun K "_law_root_up" "_law_root_up" s_law_root_up f fd) (T : TxtA mg) : FnOk P w K mg base CX0 1 f fd ["n"] (spRootR) := by
  refine F.ok sc_law_root_up (fun vs H Q E h => ?_) (fun cdv A outer s H vs Q E hr h => ?_)
  · obtain ⟨n, rfl, _⟩ := h
    rfl
  · obtain ⟨n, rfl, hn0, hn1, k⟩ := h
    refine ⟨_, (pss_cons (ps_set (i := 1) sc_law_root_up.nd rfl (Or.inl rfl) pe_int)
    (pss_cons (ps_set (i := 2) sc_law_root_up.nd rfl (Or.inl rfl) (pe_op op_pow pe_int pe_int))
    (pss_cons (ps_for PassesOwn.never rfl (pi_range1 (by rfl) T.range (pa_cons pe_int pa_nil)) (pg_name (i := 3) sc_law_root_up.nd rfl (Or.inl rfl))
      (pss_cons (ps_set (i := 4) sc_law_root_up.nd rfl (Or.inl rfl) (pe_op op_fdivW (pe_op op_add (pv 1) (pv 2)) pe_int))
    (pss_one (ps_if (pt_cmpR op_ge (pe_op op_mul (pv 4) (pv 4)) (pv 0) (nomark _)) (pss_one (ps_set (i := 2) sc_law_root_up.nd rfl (Or.inl rfl) (pv 4)))
      (pss_one (ps_set (i := 1) sc_law_root_up.nd rfl (Or.inl rfl) (pe_op op_add (pv 4) pe_int)))))))
    (pss_one (ps_ret (pv 2)))))), ?_⟩
    refine ⟨_, _, rfl, rfl, ⟨by decide, by decide, by decide⟩, ?_⟩
    refine ⟨_, rfl, by decide, by decide, for_range (n := 24) (fun i σ H2 => ∃ lw hg v3 v4, σ = [some (.int n), some (.int lw), some (.int hg), v3, v4] ∧ 0 ≤ lw ∧ lw ≤ hg ∧ hg ≤ 10000000 ∧ hg - lw < pw i ∧ n ≤ hg * hg ∧ (lw = 0 ∨ (lw - 1) * (lw - 1) < n) ∧ H2 = H) ⟨0, 10000000, none, none, rfl, by omega, by omega, by omega, by decide, by omega, .inl rfl, rfl⟩ ?_ ?_⟩
    · rintro i σ H2 hi ⟨lw, hg, v3, v4, rfl, l0, l1, h0, hw, hu', hl', rfl⟩
      have hp := pw_step hi
      refine ⟨_, rfl, _, rfl, _, _, rfl, rfl, _, _, rfl, rfl, log_of (by decide) (by decide), ?_⟩
      refine ⟨_, rfl, _, rfl, _, _, rfl, rfl, .inl ⟨by omega, by omega⟩, _, rfl, _, _, rfl, rfl, _, rfl, ite2 (fun e => ?_) (fun e => ?_)⟩
      · have e := of_decide_eq_true e
        refine ⟨_, rfl, lw, (lw + hg) / 2, _, _, rfl, by omega, by omega, by omega, by omega, e, hl', rfl⟩
      · have e : ¬ n ≤ (lw + hg) / 2 * ((lw + hg) / 2) := fun z => e (decide_eq_true z)
        have hlt : (lw + hg) / 2 < hg := by
          rcases ltge ((lw + hg) / 2) hg with w | w
          · exact w
          · have := mono_sq (show 0 ≤ hg by omega) w
            omega
        refine ⟨_, rfl, _, _, rfl, rfl, (lw + hg) / 2 + 1, hg, _, _, rfl, by omega, by omega, by omega, by omega, hu', .inr ?_, rfl⟩
        rw [show (lw + hg) / 2 + 1 - 1 = (lw + hg) / 2 by omega]
        omega
    · rintro σ H2 ⟨lw, hg, v3, v4, rfl, l0, l1, h0, hw, hu', hl', rfl⟩
      have hp : pw 24 = 1 := by decide
      have hq : IsRt n hg := ⟨by omega, hu', by rw [show hg = lw by omega]; exact hl'⟩
      refine ⟨_, rfl, ?_⟩
      show Q (.int hg) H2
      rw [hq.eq (rt_is hn0)]
      exact k
theorem sc_law_names : FnScope ["state", "many", "shift", "names", "k", "letter"] ["state", "many"] (defScope s_law_names) := ⟨rfl, rfl, rfl, by decide +kernel, rfl, by decide +kernel, by decide +kernel⟩
theorem ok_law_names {f : Addr} {fd : FuncData} (F : Fun K "_law_names" "_law_names" s_law_names f fd) (T : TxtA mg)
    (D_law_draw : Def P w K mg base 1 "_law_draw" ["state", "bound"] (spDraw K))
    (D_law_pick : Def P w K mg base 2 "_law_pick" ["state", "things"] (spPick K)) : FnOk P w K mg base CX0 3 f fd ["state", "many"] (spNames K) := by
  refine F.ok sc_law_names (fun vs H Q E h => ?_) (fun cdv A outer s H vs Q E hr h => ?_)
  · obtain ⟨_, _, _, rfl, _⟩ := h
    rfl
  · obtain ⟨d, c, m, rfl, S, m0, m1, k⟩ := h
    refine ⟨_, (pss_cons (ps_set (i := 2) sc_law_names.nd rfl (Or.inl rfl) (pe_def D_law_draw (hr.mono (by decide)) (by rfl) (pa_cons (pv 0) (pa_cons pe_int pa_nil))))
    (pss_cons (ps_set (i := 3) sc_law_names.nd rfl (Or.inl rfl) (pe_lst pa_nil))
    (pss_cons (ps_for PassesOwn.never rfl (pi_range1 (by rfl) T.range (pa_cons (pv 1) pa_nil)) (pg_name (i := 4) sc_law_names.nd rfl (Or.inl rfl))
      (pss_cons (ps_set (i := 5) sc_law_names.nd rfl (Or.inl rfl) (pe_ix ix_str pe_str (pe_op op_mod (pe_callTy call_int1 (by rfl) T.int boot_int (pa_cons (pe_op op_add (pv 4) (pv 2)) pa_nil)) pe_int) (fun _ _ => rfl)))
    (pss_one (ps_expr (pe_bm PySem.F.plainAttrs_list PySem.F.slot_list_append PySem.F.type_list_append mt_append (pv 3) (pa_cons (pe_op op_add_str (pv 5) (pe_def D_law_pick (hr.mono (by decide)) (by rfl) (pa_cons (pv 0) (pa_cons (pe_lst (pa_cons pe_str (pa_cons pe_str (pa_cons pe_str (pa_cons pe_str (pa_cons pe_str (pa_cons pe_str pa_nil))))))) pa_nil)))) pa_nil))))))
    (pss_one (ps_ret (pv 3)))))), ?_⟩
    refine ⟨_, rfl, d, c, _, rfl, S, (by omega), (by omega), fun x1 H1 x1a x1b S1 kp1 => ?_⟩
    refine ⟨szOk rfl, fun p2 hp2 => ?_⟩
    have npd : p2 ≠ d := S1.nd hp2
    have npc : p2 ≠ c := S1.nc hp2
    refine ⟨_, rfl, _, rfl, by omega, by omega, for_range (n := m.toNat) (fun i σ H2 => ∃ (ns : List Str) (v4 v5 : Option V), σ = [some (.ref d), some (.int m), some (.int x1), some (.ref p2), v4, v5] ∧ St1 K H2 d c ∧ H2 p2 = some (.lst (ns.map V.str)) ∧ ns.length = i ∧ (∀ n ∈ ns, sOk n) ∧ Let1 ns x1 ∧ ∀ b o, H b = some o → b ≠ d → H2 b = some o)
      ⟨[], none, none, rfl, (S1.new hp2), upd_same, rfl, (fun _ h => nomatch h), (fun j h => absurd h (Nat.not_lt_zero j)), fun b o e nb => same_new hp2 _ _ (kp1 b o e nb)⟩ ?_ ?_⟩
    · rintro i σ H2 hi ⟨ns, v4, v5, rfl, S0, hL, hlen, hok, hlet, hk⟩
      have nHp : H p2 = none := by
        cases e : H p2 with
        | none => rfl
        | some o => rw [kp1 _ _ e npd] at hp2; cases hp2
      obtain ⟨c1, hc1, hc2⟩ : ∃ c1, atI ("QXAMBZKCTDRE" : Str).cps.toList ((0 + (i : Int) + x1) % 12) = some c1 ∧ c1 < 1114112 := by
        obtain ⟨j, hj⟩ : ∃ j : Nat, (0 + (i : Int) + x1) % 12 = (j : Int) := ⟨((0 + (i : Int) + x1) % 12).toNat, by omega⟩
        rw [hj]
        have hj2 : j < 12 := by omega
        have hall : ∀ c ∈ ("QXAMBZKCTDRE" : Str).cps.toList, c < 1114112 := by decide +kernel
        exact ⟨_, atI_nat (List.getElem?_eq_getElem (by show j < 12; exact hj2)), hall _ (List.getElem_mem _)⟩
      refine ⟨_, rfl, _, rfl, _, _, rfl, rfl, .inl ⟨_, rfl, _, _, rfl, rfl, (by show (0:Int) < 12; decide), _, _, _, rfl, rfl, (by show 12 ≤ sizeLine; decide), hc1, ?_⟩⟩
      refine ⟨_, rfl, (.inl ⟨rfl, _, .inl (.inl hL)⟩), _, rfl, _, rfl, szOk rfl, fun p3 hp3 => ?_⟩
      refine ⟨d, c, _, _, rfl, (S0.new hp3), .inl (.inl upd_same), (fun z => nomatch z), (by show 6 ≤ 1000; decide), fun v4 H4 hv4 S4 kp4 => ?_⟩
      have hL := kp4.l (S0.new hp3) (same_new hp3 _ _ hL)
      obtain ⟨z4, rfl, hz4, hzk4⟩ : ∃ z : Str, v4 = .str z ∧ z.length ≤ 4 ∧ sOk z := by
        simp only [List.mem_cons, List.not_mem_nil, or_false] at hv4
        rcases hv4 with rfl | rfl | rfl | rfl | rfl | rfl <;> exact ⟨_, rfl, by decide +kernel, by decide +kernel⟩
      refine ⟨_, _, rfl, rfl, Nat.le_trans (Nat.add_le_add (show (1 : Nat) ≤ 1 from Nat.le_refl 1) hz4) (by decide), ?_⟩
      refine ⟨_, _, _, rfl, rfl, hL, (by rw [List.length_map]; exact small1000 (by omega)), ?_⟩
      refine ⟨ns ++ [⟨#[c1]⟩ ++ z4], _, _, rfl, St1.put S4 npd npc, by rw [upd_same, List.map_append]; rfl, by rw [List.length_append, hlen]; rfl, fun n hn => ?_, fun j hj => ?_, fun b o e nb => ?_⟩
      · rcases List.mem_append.mp hn with h | h
        · exact hok n h
        · rw [List.mem_singleton.mp h]
          exact sOk_app (by show PySem.PyData.strOk ⟨#[c1]⟩ = true; simp [PySem.PyData.strOk, hc2]) hzk4
      · rw [List.length_append, List.length_singleton] at hj
        by_cases ej : j < ns.length
        · obtain ⟨c, y1, y2⟩ := hlet j ej
          exact ⟨c, by rw [List.getElem_append_left ej]; exact y1, y2⟩
        · have ej2 : j = i := by omega
          subst ej2
          refine ⟨c1, ?_, by rw [← Int.zero_add (j : Int)]; exact hc1⟩
          rw [List.getElem_append_right (by omega)]
          simp only [hlen, Nat.sub_self, List.getElem_cons_zero]
          show ((#[c1] ++ z4.cps : Array Nat).toList).head? = some c1
          rw [Array.toList_append]
          rfl
      rw [upd_ne (fun z => by rw [z, nHp] at e; cases e)]
      exact kp4 _ _ (same_new hp3 _ _ (hk b o e nb)) nb
    · rintro σ H2 ⟨ns, v4, v5, rfl, S0, hL, hlen, hok, hlet, hk⟩
      have nHp : H p2 = none := by
        cases e : H p2 with
        | none => rfl
        | some o => rw [kp1 _ _ e npd] at hp2; cases hp2
      refine ⟨_, rfl, k ns p2 H2 (by omega) hok (let_nodup hlet (by omega)) nHp hL S0 fun b o e nb => hk b o e nb⟩
theorem sc_law_legs : FnScope ["state", "names", "legs", "many", "k", "j", "other", "levels", "leg"] ["state", "names"] (defScope s_law_legs) := ⟨rfl, rfl, rfl, by decide +kernel, rfl, by decide +kernel, by decide +kernel⟩
theorem ok_law_legs {f : Addr} {fd : FuncData} (F : Fun K "_law_legs" "_law_legs" s_law_legs f fd) (T : TxtA mg)
    (D_law_draw : Def P w K mg base 1 "_law_draw" ["state", "bound"] (spDraw K))
    (D_law_pick : Def P w K mg base 2 "_law_pick" ["state", "things"] (spPick K)) : FnOk P w K mg base CX0 3 f fd ["state", "names"] (spLegs K) := by
  refine F.ok sc_law_legs (fun vs H Q E h => ?_) (fun cdv A outer s H vs Q E hr h => ?_)
  · obtain ⟨_, _, _, _, rfl, _⟩ := h
    rfl
  · obtain ⟨d, c, l, ns, rfl, S, hN, n2, n12, k⟩ := h
    refine ⟨_, (pss_cons (ps_set (i := 2) sc_law_legs.nd rfl (Or.inl rfl) (pe_lst pa_nil))
    (pss_cons (ps_set (i := 3) sc_law_legs.nd rfl (Or.inl rfl) (pe_callB (r := rLenK K) call_len_seq (by rfl) T.len boot_len (pa_cons (pv 1) pa_nil)))
    (pss_cons (ps_for PassesOwn.never rfl (pi_range1 (by rfl) T.range (pa_cons (pv 3) pa_nil)) (pg_name (i := 4) sc_law_legs.nd rfl (Or.inr rfl))
      (pss_one (ps_for PassesOwn.never rfl (pi_range1 (by rfl) T.range (pa_cons (pe_def D_law_pick (hr.mono (by decide)) (by rfl) (pa_cons (pv 0) (pa_cons (pe_lst (pa_cons pe_int (pa_cons pe_int (pa_cons pe_int (pa_cons pe_int (pa_cons pe_int pa_nil)))))) pa_nil))) pa_nil)) (pg_name (i := 5) sc_law_legs.nd rfl (Or.inl rfl))
      (pss_cons (ps_set (i := 6) sc_law_legs.nd rfl (Or.inr rfl) (pe_ix (r := rIxL K) ix_list (pv 1) (pe_op op_mod (pe_callTy call_int1 (by rfl) T.int boot_int (pa_cons (pe_op op_add (pe_op op_add (pv 4) pe_int) (pe_def D_law_draw (hr.mono (by decide)) (by rfl) (pa_cons (pv 0) (pa_cons (pe_op op_sub (pv 3) pe_int) pa_nil)))) pa_nil)) (pv 3)) (fun _ _ => rfl)))
    (pss_one (ps_if (pt_not (pt_val (pe_callB (cr_any rfl) (by rfl) T.any boot_any (pa_cons (pe_lc (own := [("leg", 8)]) (g := gName 8) (by rfl) sc_law_legs.nd (pi_list (pv 2)) (blkOk_by (own := [("leg", 8)]) (N := ["state", "names", "legs", "many", "k", "j", "other", "levels", "leg"]) (sc := defScope s_law_legs) (by decide +kernel)) (fun _ _ _ _ _ => (pg_name (i := 8) sc_law_legs.nd rfl (Or.inl rfl))) (fun _ _ _ _ _ => pts_nil) (fun _ _ _ _ _ => (pe_and (pe_cmpR op_eq (pe_ix (r := rIxT K) ix_tup (pv 8) pe_int (fun _ _ => rfl)) (pe_ix (r := rIxL K) ix_list (pv 1) (pv 4) (fun _ _ => rfl)) (nomark _)) (pe_one (pe_cmpR op_eq (pe_ix (r := rIxT K) ix_tup (pv 8) pe_int (fun _ _ => rfl)) (pv 6) (nomark _)))))) pa_nil)))) (pss_cons (ps_set (i := 7) sc_law_legs.nd rfl (Or.inl rfl) (pe_def D_law_pick (hr.mono (by decide)) (by rfl) (pa_cons (pv 0) (pa_cons (pe_lst (pa_cons (pe_tup (pa_cons pe_int (pa_cons pe_int pa_nil))) (pa_cons (pe_tup (pa_cons pe_int (pa_cons pe_int pa_nil))) (pa_cons (pe_tup (pa_cons pe_int (pa_cons pe_int pa_nil))) (pa_cons (pe_tup (pa_cons pe_int (pa_cons pe_int pa_nil))) (pa_cons (pe_tup (pa_cons pe_int (pa_cons pe_int pa_nil))) pa_nil)))))) pa_nil))))
    (pss_one (ps_expr (pe_bm PySem.F.plainAttrs_list PySem.F.slot_list_append PySem.F.type_list_append mt_append (pv 2) (pa_cons (pe_tup (pa_cons (pe_ix (r := rIxL K) ix_list (pv 1) (pv 4) (fun _ _ => rfl)) (pa_cons (pv 6) (pa_cons (pe_def D_law_pick (hr.mono (by decide)) (by rfl) (pa_cons (pv 0) (pa_cons (pe_lst (pa_cons pe_str (pa_cons pe_str (pa_cons pe_str pa_nil)))) pa_nil))) (pa_cons (pe_ix (r := rIxT K) ix_tup (pv 7) pe_int (fun _ _ => rfl)) (pa_cons (pe_ix (r := rIxT K) ix_tup (pv 7) pe_int (fun _ _ => rfl)) pa_nil)))))) pa_nil)))))
      pss_nil))))))
    (pss_one (ps_ret (pv 2)))))), ?_⟩
    refine ⟨szOk rfl, fun p1 hp1 => ?_⟩
    refine ⟨_, rfl, _, _, rfl, (.inl (.inl (.inl (same_new hp1 _ _ hN)))), ?_⟩
    have npd : p1 ≠ d := S.nd hp1
    have npc : p1 ≠ c := S.nc hp1
    have npl : l ≠ p1 := ne_of_none hN hp1
    have nHp : H p1 = none := hp1
    refine ⟨_, rfl, _, rfl, by rw [List.length_map]; omega, by rw [List.length_map]; omega, for_range (n := ((ns.map V.str).length : Int).toNat) (fun i σ H2 => ∃ (ls : List Lg) (v_k v_j v_other v_levels v_leg : Option V), σ = [some (.ref d), some (.ref l), some (.ref p1), some (.int (ns.length : Int)), v_k, v_j, v_other, v_levels, v_leg] ∧ St1 K H2 d c ∧ H2 l = some (.lst (ns.map V.str)) ∧ LegsAt H2 p1 ns ls ∧ ls.length ≤ 3 * i ∧ Keep d H H2)
      ⟨[], none, none, none, none, none, by rw [List.length_map]; rfl, (S.new hp1), (same_new hp1 _ _ hN), ⟨upd_same, (fun _ h => nomatch h), (fun _ h => nomatch h), (fun _ h => nomatch h), fun _ _ h => nomatch h⟩, Nat.le_refl _, Keep.of (same_new hp1)⟩ ?_ ?_⟩
    · rintro i σ H2 hi ⟨ls, v_k, v_j, v_other, v_levels, v_leg, rfl, S0, hN, hL, hlen, hk⟩
      have hik : i < ns.length := by rw [List.length_map] at hi; omega
      refine ⟨_, rfl, szOk rfl, fun p2 hp2 => ?_⟩
      refine ⟨d, c, _, _, rfl, (S0.new hp2), .inl (.inl upd_same), (fun z => nomatch z), (by show 5 ≤ 1000; decide), fun v3 H3 hv3 S3 kp3 => ?_⟩
      have hN := kp3.l (S0.new hp2) (same_new hp2 _ _ hN)
      have hL := (hL.same (same_new hp2)).keep (S0.new hp2) kp3
      obtain ⟨x3, rfl, x3a, x3b⟩ : ∃ z : Int, v3 = .int z ∧ 0 ≤ z ∧ z ≤ 3 := by
        simp only [List.mem_cons, List.not_mem_nil, or_false] at hv3
        rcases hv3 with rfl | rfl | rfl | rfl | rfl <;> exact ⟨_, rfl, by decide, by decide⟩
      refine ⟨_, rfl, by omega, by omega, for_range (n := x3.toNat) (fun j σ H2 => ∃ (ls : List Lg) (v_j v_other v_levels v_leg : Option V), σ = [some (.ref d), some (.ref l), some (.ref p1), some (.int (ns.length : Int)), some (.int (0 + (i : Int))), v_j, v_other, v_levels, v_leg] ∧ St1 K H2 d c ∧ H2 l = some (.lst (ns.map V.str)) ∧ LegsAt H2 p1 ns ls ∧ ls.length ≤ 3 * i + j ∧ Keep d H H2)
        ⟨ls, _, _, _, _, rfl, S3, hN, hL, by omega, hk.trans ((Keep.of (same_new hp2)).trans kp3)⟩ ?_ ?_⟩
      · rintro j σ H2 hj ⟨ls, v_j, v_other, v_levels, v_leg, rfl, S0, hN, hL, hlen, hk⟩
        refine ⟨_, rfl, _, rfl, _, _, rfl, rfl, _, rfl, _, rfl, _, _, rfl, rfl, d, c, _, rfl, S0, (by omega), (by omega), fun x4 H4 x4a x4b S4 kp4 => ?_⟩
        have hN := kp4.l S0 hN
        have hL := hL.keep S0 kp4
        obtain ⟨oj, hoj, hoe, hat⟩ := at_mod2 (f := V.str) (ns := ns) (z := 0 + (i : Int) + 1 + x4) (m := (ns.length : Int)) rfl (by omega)
        have hone : ns.Nodup → ns[i] ≠ ns[oj] := fun nd => nodup_ne nd hik hoj (mod_ne (by omega) x4a x4b hoe)
        have hoth : ns[oj] ∈ ns := List.getElem_mem hoj
        generalize ns[oj] = oth at hat hone hoth
        refine ⟨_, _, rfl, rfl, .inl ⟨_, rfl, _, rfl, _, _, rfl, rfl, (by show 0 < (ns.length : Int); omega), _, _, _, _, rfl, rfl, .inl (.inl hN), hat, ?_⟩⟩
        refine ⟨_, rfl, p1, rfl, ⟨_, .inl (.inl hL.li)⟩, fun D hD => ?_⟩
        refine lc_list (K := K) (a := p1) (xs := ls.map fun l => V.ref l.a) (fun u H' => ∃ bs : List Bool, H' = upd H4 D (.lst (bs.map V.bl)) ∧ bs.length = u) ⟨[], rfl, rfl⟩ (fun u H' _ ⟨_, e, _⟩ => .inl (.inl (by rw [e, upd_ne (ne_of_none hL.li hD)]; exact hL.li))) ?_ ?_
        · rintro u y H' hu1 ⟨bs, rfl, hbs⟩
          obtain ⟨q, rfl, hq, hul, _⟩ := getMap hu1
          have ht := same_new (o := .lst (bs.map V.bl)) hD _ _ (hL.tu q hq)
          have hN2 := same_new (o := .lst (bs.map V.bl)) hD _ _ hN
          refine ⟨rfl, ?_⟩
          refine ⟨_, rfl, _, _, _, .str q.s, rfl, rfl, .inl (.inl ht), rfl, _, rfl, _, rfl, _, _, _, _, rfl, rfl, .inl (.inl hN2), atI0 (mapAt hik), rfl, _, rfl, ite2 (fun e1 => ?_) (fun e1 => ?_)⟩
          · refine ⟨_, rfl, _, _, _, .str q.e, rfl, rfl, .inl (.inl ht), rfl, _, rfl, rfl, _, upd_same, (by rw [List.length_map]; exact small1000 (by omega)), bs ++ [decide (V.str q.e = V.str oth)], ?_, by rw [List.length_append, hbs]; rfl⟩
            rw [upd_upd, List.map_append]
            rfl
          · refine ⟨_, upd_same, (by rw [List.length_map]; exact small1000 (by omega)), bs ++ [false], ?_, by rw [List.length_append, hbs]; rfl⟩
            rw [upd_upd, List.map_append]
            rfl
        rintro H' ⟨bs, rfl, hbs⟩
        refine ⟨D, bs, rfl, .inl (.inl upd_same), _, rfl, ?_⟩
        have hk1 : Keep d H (upd H4 D (.lst (bs.map V.bl))) := (hk.trans kp4).trans (Keep.of (same_new hD))
        have S1 := S4.new (o := .lst (bs.map V.bl)) hD
        have hN1 := same_new (o := .lst (bs.map V.bl)) hD _ _ hN
        have hL1 := hL.same (same_new (o := .lst (bs.map V.bl)) hD)
        generalize upd H4 D (.lst (bs.map V.bl)) = Hb at hk1 S1 hN1 hL1 ⊢
        cases hb : bs.any id with
        | true => exact ⟨ls, _, _, _, _, rfl, S1, hN1, hL1, by omega, hk1⟩
        | false =>
          refine ⟨_, rfl, szOk rfl, fun p5 hp5 => ?_⟩
          refine ⟨szOk rfl, fun p6 hp6 => ?_⟩
          refine ⟨szOk rfl, fun p7 hp7 => ?_⟩
          refine ⟨szOk rfl, fun p8 hp8 => ?_⟩
          refine ⟨szOk rfl, fun p9 hp9 => ?_⟩
          refine ⟨szOk rfl, fun p10 hp10 => ?_⟩
          refine ⟨d, c, _, _, rfl, ((((((S1.new hp5).new hp6).new hp7).new hp8).new hp9).new hp10), .inl (.inl upd_same), (fun z => nomatch z), (by show 5 ≤ 1000; decide), fun v11 H11 hv11 S11 kp11 => ?_⟩
          obtain ⟨lv, lo', hi', rfl, hlv⟩ : ∃ a lo' hi', v11 = .ref a ∧ H11 a = some (.tup [.int lo', .int hi']) := by
            simp only [List.mem_cons, List.not_mem_nil, or_false] at hv11
            rcases hv11 with rfl | rfl | rfl | rfl | rfl
            · exact ⟨_, _, _, rfl, kp11.t ((((((S1.new hp5).new hp6).new hp7).new hp8).new hp9).new hp10) (same_new hp10 _ _ (same_new hp9 _ _ (same_new hp8 _ _ (same_new hp7 _ _ (same_new hp6 _ _ upd_same)))))⟩
            · exact ⟨_, _, _, rfl, kp11.t ((((((S1.new hp5).new hp6).new hp7).new hp8).new hp9).new hp10) (same_new hp10 _ _ (same_new hp9 _ _ (same_new hp8 _ _ (same_new hp7 _ _ upd_same))))⟩
            · exact ⟨_, _, _, rfl, kp11.t ((((((S1.new hp5).new hp6).new hp7).new hp8).new hp9).new hp10) (same_new hp10 _ _ (same_new hp9 _ _ (same_new hp8 _ _ upd_same)))⟩
            · exact ⟨_, _, _, rfl, kp11.t ((((((S1.new hp5).new hp6).new hp7).new hp8).new hp9).new hp10) (same_new hp10 _ _ (same_new hp9 _ _ upd_same))⟩
            · exact ⟨_, _, _, rfl, kp11.t ((((((S1.new hp5).new hp6).new hp7).new hp8).new hp9).new hp10) (same_new hp10 _ _ upd_same)⟩
          have hN1 := kp11.l ((((((S1.new hp5).new hp6).new hp7).new hp8).new hp9).new hp10) (same_new hp10 _ _ (same_new hp9 _ _ (same_new hp8 _ _ (same_new hp7 _ _ (same_new hp6 _ _ (same_new hp5 _ _ hN1))))))
          have hL1 := ((((((hL1.same (same_new hp5)).same (same_new hp6)).same (same_new hp7)).same (same_new hp8)).same (same_new hp9)).same (same_new hp10)).keep ((((((S1.new hp5).new hp6).new hp7).new hp8).new hp9).new hp10) kp11
          have hk2 : Keep d H H11 := ((((((hk1.trans (Keep.of (same_new hp5))).trans (Keep.of (same_new hp6))).trans (Keep.of (same_new hp7))).trans (Keep.of (same_new hp8))).trans (Keep.of (same_new hp9))).trans (Keep.of (same_new hp10))).trans kp11
          refine ⟨_, rfl, (.inl ⟨rfl, _, .inl (.inl hL1.li)⟩), _, rfl, _, rfl, _, _, _, _, rfl, rfl, (.inl (.inl hN1)), (atI0 (mapAt hik)), _, rfl, _, rfl, szOk rfl, fun p12 hp12 => ?_⟩
          refine ⟨d, c, _, _, rfl, (S11.new hp12), .inl (.inl upd_same), (fun z => nomatch z), (by show 3 ≤ 1000; decide), fun v13 H13 hv13 S13 kp13 => ?_⟩
          have hN1 := kp13.l (S11.new hp12) (same_new hp12 _ _ hN1)
          have hL1 := (hL1.same (same_new hp12)).keep (S11.new hp12) kp13
          have hlv := kp13.t (S11.new hp12) (same_new hp12 _ _ hlv)
          obtain ⟨sec, rfl, hsec⟩ : ∃ z : Str, v13 = .str z ∧ sOk z := by
            simp only [List.mem_cons, List.not_mem_nil, or_false] at hv13
            rcases hv13 with rfl | rfl | rfl <;> exact ⟨_, rfl, by decide +kernel⟩
          refine ⟨_, rfl, _, _, _, _, rfl, rfl, (.inl (.inl hlv)), rfl, _, rfl, _, _, _, _, rfl, rfl, (.inl (.inl hlv)), rfl, szOk rfl, fun p14 hp14 => ?_⟩
          refine ⟨_, _, _, rfl, rfl, (hL1.same (same_new hp14)).li, (by rw [List.length_map]; exact small1000 (by omega)), ?_⟩
          have hk3 : Keep d H (upd H13 p14 (.tup (Lg.v (Lg.mk p14 ns[i] oth sec lo' hi')))) := ((hk2.trans (Keep.of (same_new hp12))).trans kp13).trans (Keep.of (same_new hp14))
          refine ⟨ls ++ [(Lg.mk p14 ns[i] oth sec lo' hi')], _, _, _, _, rfl, St1.put (S13.new hp14) npd npc, by rw [upd_ne npl]; exact (same_new hp14 _ _ hN1), LegsAt.snoc (q := (Lg.mk p14 ns[i] oth sec lo' hi')) (hL1.same (same_new hp14)) upd_same (List.getElem_mem hik) hoth hsec hone, by rw [List.length_append, List.length_singleton]; omega, fun b o e nb => ?_⟩
          rw [upd_ne (fun z => by rw [z, nHp] at e; cases e)]
          exact hk3 b o e nb
      · rintro σ H2 ⟨ls, v_j, v_other, v_levels, v_leg, rfl, S0, hN, hL, hlen, hk⟩
        exact ⟨ls, _, _, _, _, _, rfl, S0, hN, hL, by omega, hk⟩
    · rintro σ H2 ⟨ls, v_k, v_j, v_other, v_levels, v_leg, rfl, S0, hN, hL, hlen, hk⟩
      refine ⟨_, rfl, k ls p1 H2 hL ?_ nHp S0 hk⟩
      have : ((ns.map V.str).length : Int).toNat = ns.length := by rw [List.length_map]; omega
      omega
theorem sc_law_chart : FnScope ["state", "many", "size", "names", "fixes", "k", "legs", "holds", "leg", "back", "runways", "chart", "name", "other"] ["state", "many", "size"] (defScope s_law_chart) := ⟨rfl, rfl, rfl, by decide +kernel, rfl, by decide +kernel, by decide +kernel⟩
theorem ok_law_chart {f : Addr} {fd : FuncData} (F : Fun K "_law_chart" "_law_chart" s_law_chart f fd) (T : TxtA mg)
    (D_law_draw : Def P w K mg base 1 "_law_draw" ["state", "bound"] (spDraw K))
    (D_law_names : Def P w K mg base 3 "_law_names" ["state", "many"] (spNames K))
    (D_law_legs : Def P w K mg base 3 "_law_legs" ["state", "names"] (spLegs K)) : FnOk P w K mg base CX0 4 f fd ["state", "many", "size"] (spChartB K) := by
  refine F.ok sc_law_chart (fun vs H Q E h => ?_) (fun cdv A outer s H vs Q E hr h => ?_)
  · obtain ⟨_, _, _, _, rfl, _⟩ := h
    rfl
  · obtain ⟨d, c, m, z, rfl, S, m0, m1, z0, z1, k⟩ := h
    have hu := hu_of hr
    refine ⟨_, (pss_cons (ps_set (i := 3) sc_law_chart.nd rfl (Or.inl rfl) (pe_def D_law_names (hr.mono (by decide)) (by rfl) (pa_cons (pv 0) (pa_cons (pv 1) pa_nil))))
    (pss_cons (ps_set (i := 4) sc_law_chart.nd rfl (Or.inl rfl) pe_dnewK)
    (pss_cons (ps_for PassesOwn.never rfl (pi_range1 (by rfl) T.range (pa_cons (pv 1) pa_nil)) (pg_name (i := 5) sc_law_chart.nd rfl (Or.inl rfl))
      (pss_one (ps_dput hu (pv 4) (pe_ix (r := rIxL K) ix_list (pv 3) (pv 5) (fun _ _ => rfl)) (pe_tup (pa_cons (pe_op op_sub (pe_def D_law_draw (hr.mono (by decide)) (by rfl) (pa_cons (pv 0) (pa_cons (pe_op op_add (pe_op op_mul pe_int (pv 2)) pe_int) pa_nil))) (pv 2)) (pa_cons (pe_op op_add (pe_op op_mul (pv 1) (pe_op op_sub (pe_def D_law_draw (hr.mono (by decide)) (by rfl) (pa_cons (pv 0) (pa_cons (pe_op op_add (pe_op op_mul pe_int (pv 2)) pe_int) pa_nil))) (pv 2))) (pv 5)) pa_nil))) rfl)))
    (pss_cons (ps_set (i := 6) sc_law_chart.nd rfl (Or.inl rfl) (pe_def D_law_legs (hr.mono (by decide)) (by rfl) (pa_cons (pv 0) (pa_cons (pv 3) pa_nil))))
    (pss_cons (ps_set (i := 7) sc_law_chart.nd rfl (Or.inl rfl) pe_dnewK)
    (pss_cons (ps_for PassesOwn.never rfl (pi_list (pv 6)) (pg_name (i := 8) sc_law_chart.nd rfl (Or.inr rfl))
      (pss_cons (ps_setLc (i := 9) (own := [("other", 13)]) (g := gName 13) (by rfl) sc_law_chart.nd rfl rfl (sw_true rfl rfl rfl (by decide +kernel)) (pi_list (pv 6)) (blkOk_by (own := [("other", 13)]) (N := ["state", "many", "size", "names", "fixes", "k", "legs", "holds", "leg", "back", "runways", "chart", "name", "other"]) (sc := defScope s_law_chart) (by decide +kernel)) (fun _ _ _ _ _ => (pg_name (i := 13) sc_law_chart.nd rfl (Or.inl rfl))) (fun _ _ _ _ _ => pts_one (PW.pt (pw_and (pt_cmpR op_eq (pe_ix (r := rIxT K) ix_tup (pv 13) pe_int (fun _ _ => rfl)) (pe_ix (r := rIxT K) ix_tup (pv 8) pe_int (fun _ _ => rfl)) (nomark _)) (pw_and1 (pt_cmpR op_eq (pe_ix (r := rIxT K) ix_tup (pv 13) pe_int (fun _ _ => rfl)) (pe_ix (r := rIxT K) ix_tup (pv 8) pe_int (fun _ _ => rfl)) (nomark _)))))) (fun _ _ _ _ _ => (pv 13)))
    (pss_one (ps_if (PW.pt (pw_and (pt_cmpR op_gt (pe_callB (r := rLenK K) call_len_seq (by rfl) T.len boot_len (pa_cons (pv 9) pa_nil)) pe_int (nomark _)) (pw_and1 (pt_cmpR op_eq (pe_def D_law_draw (hr.mono (by decide)) (by rfl) (pa_cons (pv 0) (pa_cons pe_int pa_nil))) pe_int (nomark _))))) (pss_one (ps_dput hu (pv 7) (pe_ix (r := rIxT K) ix_tup (pv 8) pe_int (fun _ _ => rfl)) (pe_ix (r := rIxT K) ix_tup (pv 8) pe_int (fun _ _ => rfl)) rfl))
      pss_nil))))
    (pss_cons (ps_setLc (i := 10) (own := [("name", 12)]) (g := gName 12) (by rfl) sc_law_chart.nd rfl rfl (sw_true rfl rfl rfl (by decide +kernel)) (pi_list (pv 3)) (blkOk_by (own := [("name", 12)]) (N := ["state", "many", "size", "names", "fixes", "k", "legs", "holds", "leg", "back", "runways", "chart", "name", "other"]) (sc := defScope s_law_chart) (by decide +kernel)) (fun _ _ _ _ _ => (pg_name (i := 12) sc_law_chart.nd rfl (Or.inl rfl))) (fun _ _ _ _ _ => pts_one (pt_cmpR op_eq (pe_def D_law_draw (hr.mono (by decide)) (by rfl) (pa_cons (pv 0) (pa_cons pe_int pa_nil))) pe_int (nomark _))) (fun _ _ _ _ _ => (pv 12)))
    (pss_cons (ps_set (i := 11) sc_law_chart.nd rfl (Or.inl rfl) (pe_disp (pps_cons pe_str (pv 4) (pps_cons pe_str (pv 6) (pps_cons pe_str (pe_lst pa_nil) (pps_cons pe_str (pe_slice sl_list (pv 10) po_none (po_some pe_int)) (pps_cons pe_str (pv 7) pps_nil))))) (by rfl) (by rfl) (fun z => by cases z) (by decide)))
    (pss_cons (ps_dput hu (pv 11) pe_str (pe_lst pa_nil) rfl)
    (pss_cons (ps_dput hu (pv 11) pe_str pe_dnewK rfl)
    (pss_one (ps_ret (pv 11))))))))))))), ?_⟩
    refine ⟨_, rfl, _, rfl, d, c, m, rfl, S, by omega, by omega, fun ns ln Hn hns hnok hnd hln hN Sn kpn => ?_⟩
    have hnl : ns.length ≤ 7 ∧ 2 ≤ ns.length := by omega
    intro fd hfd
    have nfd : fd ≠ d := Sn.nd hfd
    have nfc : fd ≠ c := Sn.nc hfd
    have nfl : ln ≠ fd := ne_of_none hN hfd
    have nHf : H fd = none := kpn.none nfd hfd
    refine ⟨_, rfl, _, rfl, by omega, by omega, for_range (n := m.toNat) (fun i σ H2 => ∃ (kvs : List (Key × V)) (pt : Str → Option (Addr × Int × Int)) (v_k v_legs v_holds v_leg v_back v_runways v_chart v_name v_other : Option V), σ = [some (.ref d), some (.int m), some (.int z), some (.ref ln), some (.ref fd), v_k, v_legs, v_holds, v_leg, v_back, v_runways, v_chart, v_name, v_other] ∧ St1 K H2 d c ∧ H2 ln = some (.lst (ns.map V.str)) ∧ FixAt H2 fd kvs pt (ns.take i) ∧ kvs.length ≤ i ∧ Keep2 d fd Hn H2 ∧ Sep pt ns m i ∧ kvs.map (·.1) = (ns.take i).map Sum.inr)
      ⟨[], fun _ => none, none, none, none, none, none, none, none, none, none, rfl, (Sn.new hfd), (same_new hfd _ _ hN), ⟨upd_same, (fun _ _ _ _ h => nomatch h), fun _ h => nomatch h⟩, Nat.le_refl _, (Keep2.refl d fd Hn).new hfd, fun j _ h => absurd h (Nat.not_lt_zero j), rfl⟩ ?_ ?_⟩
    · rintro i σ H2 hi ⟨kvs, pt, v_k, v_legs, v_holds, v_leg, v_back, v_runways, v_chart, v_name, v_other, rfl, S0, hN, hF, hlen, hk, hsep, hks⟩
      have hik : i < ns.length := by omega
      have e1 : ns.take (i + 1) = ns.take i ++ [ns[i]] := by rw [List.take_add_one, List.getElem?_eq_getElem hik]; rfl
      refine ⟨_, rfl, _, rfl, _, _, rfl, rfl, (by walk_at "ms"), _, _, rfl, rfl, d, c, _, rfl, S0, (by omega), (by omega), fun x2 H2 x2a x2b S2 kp2 => ?_⟩
      have hF := hF.keep S0 kp2 nfd
      have hN := kp2.l S0 hN
      refine ⟨_, rfl, _, _, rfl, rfl, _, rfl, _, rfl, _, rfl, _, _, rfl, rfl, (by walk_at "ms"), _, _, rfl, rfl, d, c, _, rfl, S2, (by omega), (by omega), fun x3 H3 x3a x3b S3 kp3 => ?_⟩
      have hF := hF.keep S2 kp3 nfd
      have hN := kp3.l S2 hN
      refine ⟨_, rfl, _, _, rfl, rfl, _, _, rfl, rfl, .inl ⟨by omega, by omega⟩, _, rfl, _, _, rfl, rfl, szOk rfl, fun p4 hp4 => ?_⟩
      have hb : -100000 ≤ (x2 - z) ∧ (x2 - z) ≤ 100000 ∧ -100000 ≤ (m * (x3 - z) + (0 + (i : Int))) ∧ (m * (x3 - z) + (0 + (i : Int))) ≤ 100000 := by
        have h1 : m * (x3 - z) ≤ 7 * 9000 := by
          rcases ltge (x3 - z) 0 with w | w
          · have := Int.mul_nonneg (show 0 ≤ m by omega) (show 0 ≤ -(x3 - z) by omega)
            rw [Int.mul_neg] at this
            omega
          · exact Int.mul_le_mul (by omega) (by omega) w (by decide)
        have h2 : m * -(x3 - z) ≤ 7 * 9000 := by
          rcases ltge (-(x3 - z)) 0 with w | w
          · have := Int.mul_nonneg (show 0 ≤ m by omega) (show 0 ≤ (x3 - z) by omega)
            rw [Int.mul_neg]
            omega
          · exact Int.mul_le_mul (by omega) (by omega) w (by decide)
        rw [Int.mul_neg] at h2
        omega
      refine ⟨_, rfl, _, rfl, _, rfl, _, _, _, _, rfl, rfl, .inl (.inl (same_new hp4 _ _ hN)), atI0 (mapAt hik), _, _, rfl, DPut.k (k := .inr ns[i]) (hF.same (same_new hp4)).dc (small1000 (by omega)), ?_⟩
      refine ⟨_, _, _, _, _, _, _, _, _, _, _, rfl, St1.put (S3.new hp4) nfd nfc, by rw [upd_ne nfl]; exact (same_new hp4 _ _ hN), by rw [e1]; exact FixAt.put (hF.same (same_new hp4)) upd_same hb, Nat.le_trans putK_len (by omega), (((hk.k kp2).k kp3).new hp4).put, Sep.put hnd hsep hik (y_mod (by omega) (by omega)), by rw [e1]; exact keys_put hks hnd hik⟩
    rintro σ H2 ⟨kvs, pt, v_k, v_legs, v_holds, v_leg, v_back, v_runways, v_chart, v_name, v_other, rfl, S0, hN, hF, hlen, hk, hsep, hks⟩
    have hm0 : ns.take m.toNat = ns := List.take_of_length_le (by omega)
    rw [hm0] at hF hks
    refine ⟨_, rfl, _, rfl, d, c, ln, ns, rfl, S0, hN, by omega, by omega, fun ls lg Hl hL hls nlg Sl kpl => ?_⟩
    have hF := hF.keep S0 kpl nfd
    have hN := kpl.l S0 hN
    have nlgd : lg ≠ d := let ⟨_, w⟩ := Sl.dk; ne_of hL.li w (by intro w; cases w)
    have nHl : H2 lg = none := nlg
    intro hd hhd
    have nhd : hd ≠ d := Sl.nd hhd
    have nhc : hd ≠ c := Sl.nc hhd
    have nhf : fd ≠ hd := ne_of_none hF.dc hhd
    have Sl0 := Sl
    refine ⟨_, rfl, lg, rfl, ⟨_, .inl (.inl (same_new hhd _ _ hL.li))⟩, for_list (K := K) (a := lg) (xs := ls.map fun l => V.ref l.a) (fun i σ H3 => ∃ (hv : List (Key × V)) (v_k v_leg v_back v_runways v_chart v_name v_other : Option V), σ = [some (.ref d), some (.int m), some (.int z), some (.ref ln), some (.ref fd), v_k, some (.ref lg), some (.ref hd), v_leg, v_back, v_runways, v_chart, v_name, v_other] ∧ St1 K H3 d c ∧ H3 hd = some (.dK hv) ∧ hv.length ≤ i ∧ Keep2 d hd Hl H3)
      ⟨[], _, _, _, _, _, _, _, rfl, Sl.new hhd, upd_same, Nat.le_refl _, (Keep2.refl d hd Hl).new hhd⟩ (fun i σ H3 _ ⟨hv, _, _, _, _, _, _, _, _, _, _, _, hk3⟩ => .inl (.inl (hk3 _ _ hL.li nlgd (ne_of_none hL.li hhd)))) ?_ ?_⟩
    · rintro i y σ H3 hi ⟨hv, v_k, v_leg, v_back, v_runways, v_chart, v_name, v_other, rfl, S3, hH, hvl, hk3⟩
      obtain ⟨q, rfl, hq, hil, _⟩ := getMap hi
      have hL3 : H3 lg = some (.lst (ls.map fun l => V.ref l.a)) := hk3 _ _ hL.li nlgd (ne_of_none hL.li hhd)
      have hT3 : ∀ q ∈ ls, H3 q.a = some (.tup q.v) := fun q hq => hk3 _ _ (hL.tu q hq) (let ⟨_, w⟩ := Sl.dk; ne_of (hL.tu q hq) w (by intro w; cases w)) (ne_of_none (hL.tu q hq) hhd)
      refine ⟨_, rfl, lg, rfl, ⟨_, .inl (.inl hL3)⟩, fun D hD => ?_⟩
      refine lc_list (K := K) (a := lg) (xs := ls.map fun l => V.ref l.a) (fun u H' => ∃ xs : List V, H' = upd H3 D (.lst xs) ∧ xs.length ≤ u) ⟨[], rfl, Nat.le_refl _⟩ (fun u H' _ ⟨_, e, _⟩ => .inl (.inl (by rw [e, upd_ne (ne_of_none hL3 hD)]; exact hL3))) ?_ ?_
      · rintro u y H' hu1 ⟨xs, rfl, hxs⟩
        obtain ⟨o, rfl, ho, hul, _⟩ := getMap hu1
        have ht := same_new (o := .lst xs) hD _ _ (hT3 o ho)
        have htq := same_new (o := .lst xs) hD _ _ (hT3 q hq)
        refine ⟨rfl, ?_⟩
        refine ⟨_, rfl, _, _, _, .str o.s, rfl, rfl, .inl (.inl ht), rfl, _, rfl, _, _, _, .str q.e, rfl, rfl, .inl (.inl htq), rfl, rfl, _, rfl, ite2 (fun e1 => ?_) (fun e1 => ?_)⟩
        · refine ⟨_, rfl, _, _, _, .str o.e, rfl, rfl, .inl (.inl ht), rfl, _, rfl, _, _, _, .str q.s, rfl, rfl, .inl (.inl htq), rfl, rfl, _, rfl, ite2 (fun e2 => ?_) (fun e2 => ?_)⟩
          · refine ⟨_, rfl, _, upd_same, small1000 (by omega), xs ++ [.ref o.a], by rw [upd_upd], by rw [List.length_append, List.length_singleton]; omega⟩
          · exact ⟨xs, rfl, by omega⟩
        · refine iteF ?_
          exact ⟨xs, rfl, by omega⟩
      rintro H' ⟨xs, rfl, hxs⟩
      have S4 := S3.new (o := .lst xs) hD
      have hk4 := hk3.new (o := .lst xs) hD
      have hH4 := same_new (o := .lst xs) hD _ _ hH
      refine ⟨_, rfl, _, _, rfl, .inl (.inl (.inl upd_same)), _, _, rfl, rfl, _, rfl, ite2 (fun e1 => ?_) (fun e1 => ?_)⟩
      · refine ⟨_, rfl, d, c, _, rfl, S4, by decide, by decide, fun x5 H5 _ _ S5 kp5 => ⟨rfl, _, rfl, ite2 (fun e2 => ?_) (fun e2 => ?_)⟩⟩
        · have hT5 := kp5.t S4 (same_new (o := .lst xs) hD _ _ (hT3 q hq))
          have hH5 := kp5 _ _ hH4 nhd
          refine ⟨_, rfl, _, _, _, .str q.e, rfl, rfl, .inl (.inl hT5), rfl, _, rfl, _, rfl, _, _, _, .str q.s, rfl, rfl, .inl (.inl hT5), rfl, _, _, rfl, DPut.k (k := .inr q.s) hH5 (small1000 (by omega)), ?_⟩
          exact ⟨_, _, _, _, _, _, _, _, rfl, S5.put nhd nhc, upd_same, Nat.le_trans putK_len (by omega), (hk4.k kp5).put⟩
        · exact ⟨_, _, _, _, _, _, _, _, rfl, S5, kp5 _ _ hH4 nhd, by omega, hk4.k kp5⟩
      · exact ⟨_, _, _, _, _, _, _, _, rfl, S4, hH4, by omega, hk4⟩
    rintro σ H3 ⟨hv, v_k, v_leg, v_back, v_runways, v_chart, v_name, v_other, rfl, S3, hH, hvl, hk3⟩
    have hN3 : H3 ln = some (.lst (ns.map V.str)) := hk3 _ _ hN (let ⟨_, w⟩ := Sl.dk; ne_of hN w (by intro w; cases w)) (ne_of_none hN hhd)
    refine ⟨_, rfl, ln, rfl, ⟨_, .inl (.inl hN3)⟩, fun D hD => ?_⟩
    have nDd : D ≠ d := S3.nd hD
    have nDc : D ≠ c := S3.nc hD
    have nDl : ln ≠ D := ne_of_none hN3 hD
    have nDh : hd ≠ D := ne_of_none hH hD
    refine lc_list (K := K) (a := ln) (xs := ns.map V.str) (fun u H' => ∃ xs : List V, H' D = some (.lst xs) ∧ xs.length ≤ u ∧ St1 K H' d c ∧ Keep2 d D H3 H') ⟨[], upd_same, Nat.le_refl _, S3.new hD, (Keep2.refl d D H3).new hD⟩
      (fun u H' _ ⟨_, _, _, _, e⟩ => .inl (.inl (e _ _ hN3 (let ⟨_, w⟩ := S3.dk; ne_of hN3 w (by intro w; cases w)) nDl))) ?_ ?_
    · rintro u y H' hu1 ⟨xs, hxs, hxl, S4, hk4⟩
      obtain ⟨o, rfl, ho, hul, _⟩ := getMap hu1
      refine ⟨rfl, ?_⟩
      refine ⟨_, rfl, d, c, _, rfl, S4, by decide, by decide, fun x5 H5 _ _ S5 kp5 => ⟨rfl, _, rfl, ite2 (fun e2 => ?_) (fun e2 => ?_)⟩⟩
      · refine ⟨_, rfl, _, kp5.l S4 hxs, small1000 (by omega), _, upd_same, by rw [List.length_append, List.length_singleton]; omega, S5.put nDd nDc, (hk4.k kp5).put⟩
      · exact ⟨xs, kp5.l S4 hxs, by omega, S5, hk4.k kp5⟩
    rintro H' ⟨xs, hxs, hxl, S4, hk4⟩
    -- the chart
    intro ch hch
    refine ⟨_, rfl, _, rfl, szOk rfl, fun zo hzo => ?_⟩
    refine ⟨_, rfl, _, rfl, D, xs, rfl, .inl (.inl (same_new hzo _ _ (same_new hch _ _ hxs))), fun ru hru => ?_⟩
    refine ⟨_, rfl, same_new hru _ _ (same_new hzo _ _ upd_same), [(.inr "fixes", .ref fd), (.inr "legs", .ref lg), (.inr "zones", .ref zo), (.inr "runways", .ref ru), (.inr "holds", .ref hd)], rfl, (by show 5 ≤ 15; decide), ?_⟩
    have nchd : ch ≠ d := S4.nd hch
    have nchc : ch ≠ c := S4.nc hch
    have hlen5 := ch_len (f := V.ref fd) (l := .ref lg) (z := .ref zo) (r := .ref ru) (h := .ref hd)
    have nHd : H3 hd ≠ none := by rw [hH]; intro w; cases w
    refine ⟨szOk rfl, fun ho hho => ⟨_, rfl, _, _, rfl, DPut.k (k := .inr "hours") (same_new hho _ _ upd_same) (small1000 (Nat.le_trans hlen5 (by decide))), ?_⟩⟩
    intro ca hca
    refine ⟨_, rfl, _, _, rfl, DPut.k (k := .inr "capacities") (same_new hca _ _ upd_same) (small1000 (Nat.le_trans putK_len (by omega))), ?_⟩
    refine ⟨_, rfl, ?_⟩
    have E : ∀ b o, H' b = some o → b ≠ ch → (upd (upd (upd (upd (upd (upd (upd (upd H' ch (.dK [])) zo (.lst [])) ru (.lst (cutV xs none (some 4)))) ch (.dK (mergeK [] [(.inr "fixes", V.ref fd), (.inr "legs", .ref lg), (.inr "zones", .ref zo), (.inr "runways", .ref ru), (.inr "holds", .ref hd)]))) ho (.lst [])) ch (.dK (putK (mergeK [] [(.inr "fixes", V.ref fd), (.inr "legs", .ref lg), (.inr "zones", .ref zo), (.inr "runways", .ref ru), (.inr "holds", .ref hd)]) (.inr "hours") (.ref ho)))) ca (.dK [])) ch (.dK (chK (.ref fd) (.ref lg) (.ref zo) (.ref ru) (.ref hd) (.ref ho) (.ref ca)))) b = some o := fun b o e n => by
      rw [upd_ne n]
      refine same_new hca _ _ ?_
      rw [upd_ne n]
      refine same_new hho _ _ ?_
      rw [upd_ne n]
      exact same_new hru _ _ (same_new hzo _ _ (same_new hch _ _ e))
    have tneD : ∀ (a : Addr) xs0, H3 a = some (.tup xs0) → a ≠ d := fun a xs0 e => let ⟨_, w⟩ := S3.dk; ne_of e w (by intro w; cases w)
    have A : ∀ b o, Hl b = some o → b ≠ d → H' b = some o := fun b o e n => hk4 _ _ (hk3 _ _ e n (ne_of_none e hhd)) n (fun w => by have := hk3 _ _ e n (ne_of_none e hhd); rw [w, hD] at this; cases this)
    have nlc : ∀ b o, Hl b = some o → b ≠ d → b ≠ ch := fun b o e n => ne_of_none (A b o e n) hch
    have tl : ∀ (a : Addr) xs0, Hl a = some (.tup xs0) → a ≠ d := fun a xs0 e => let ⟨_, w⟩ := Sl.dk; ne_of e w (by intro w; cases w)
    have back : ∀ b, b ≠ d → H' b = none → H b = none := fun b n e => by
      cases w : H b with
      | none => rfl
      | some o =>
        exfalso
        have w1 := kpn _ _ w n
        have w2 := hk _ _ w1 n (ne_of_none w1 hfd)
        have w3 := A _ _ (kpl _ _ w2 n) n
        rw [e] at w3
        cases w3
    have hlgH : H lg = none := by
      cases w : H lg with
      | none => rfl
      | some o =>
        exfalso
        have w1 := kpn _ _ w nlgd
        have w2 := hk _ _ w1 nlgd (ne_of_none w1 hfd)
        rw [nHl] at w2
        cases w2
    refine k ⟨fd, lg, kvs, pt, ls⟩ ch _ ⟨ns, hks, hnd, by omega, by omega, fun n hn => ⟨hnok n hn, hF.nm n hn⟩, fun s hs e he n => Sep.len (D := ⟨fd, lg, kvs, pt, ls⟩) (m := m) (by rw [show ns.length = m.toNat by omega]; exact hsep) hnd hs he n⟩ hlgH (fun l hl => Sep.len (D := ⟨fd, lg, kvs, pt, ls⟩) (m := m) (by rw [show ns.length = m.toNat by omega]; exact hsep) hnd (hL.nm l hl).1 (hL.nm l hl).2 (hL.ne hnd l hl)) ⟨⟨_, upd_same, ch_fix, ch_leg⟩, E _ _ (A _ _ hF.dc nfd) (nlc _ _ hF.dc nfd), E _ _ (A _ _ hL.li nlgd) (nlc _ _ hL.li nlgd), (fun l hl => E _ _ (A _ _ (hL.tu l hl) (tl _ _ (hL.tu l hl))) (nlc _ _ (hL.tu l hl) (tl _ _ (hL.tu l hl)))),
      (fun n a x y h => let ⟨h1, h2, h3⟩ := hF.pf n a x y h; ⟨h1, E _ _ (A _ _ h2 (tl _ _ h2)) (nlc _ _ h2 (tl _ _ h2)), h3⟩), (fun l hl => ⟨hF.nm _ (hL.nm l hl).1, hF.nm _ (hL.nm l hl).2⟩), (fun l hl => ⟨hnok _ (hL.nm l hl).1, hnok _ (hL.nm l hl).2, hL.ck l hl⟩), hls⟩ (back ch nchd hch) nHf ?_ ?_
    · obtain ⟨_, w1⟩ := S4.dk
      obtain ⟨_, w2⟩ := S4.cl
      exact S4.of ((E _ _ w1 nchd.symm).trans w1.symm) ((E _ _ w2 nchc.symm).trans w2.symm)
    · intro b o e n
      have w1 := kpn _ _ e n
      have w2 := hk _ _ w1 n (ne_of_none w1 hfd)
      have w3 := A _ _ (kpl _ _ w2 n) n
      exact E _ _ w3 (ne_of_none w3 hch)
theorem sc_law_leg : FnScope ["chart", "start", "end", "found", "leg"] ["chart", "start", "end"] (defScope s_law_leg) := ⟨rfl, rfl, rfl, by decide +kernel, rfl, by decide +kernel, by decide +kernel⟩
theorem ok_law_leg {f : Addr} {fd : FuncData} (F : Fun K "_law_leg" "_law_leg" s_law_leg f fd) (T : TxtA mg) : FnOk P w K mg base CX0 1 f fd ["chart", "start", "end"] (spLegS) := by
  refine F.ok sc_law_leg (fun vs H Q E h => ?_) (fun cdv A outer s H vs Q E hr h => ?_)
  · obtain ⟨_, _, _, _, rfl, _⟩ := h
    rfl
  · obtain ⟨ch, D, s', e', rfl, C, k⟩ := h
    have hu := hu_of hr
    refine ⟨_, (pss_cons (ps_setLc (i := 3) (own := [("leg", 4)]) (g := gName 4) (by rfl) sc_law_leg.nd rfl rfl (sw_true rfl rfl rfl (by decide +kernel)) (pi_list (pe_dget hu (pv 0) pe_str (fun _ _ => rfl))) (blkOk_by (own := [("leg", 4)]) (N := ["chart", "start", "end", "found", "leg"]) (sc := defScope s_law_leg) (by decide +kernel)) (fun _ _ _ _ _ => (pg_name (i := 4) sc_law_leg.nd rfl (Or.inl rfl))) (fun _ _ _ _ _ => pts_one (PW.pt (pw_and (pt_cmpR op_eq (pe_ix (r := rIxT K) ix_tup (pv 4) pe_int (fun _ _ => rfl)) (pv 1) (nomark _)) (pw_and1 (pt_cmpR op_eq (pe_ix (r := rIxT K) ix_tup (pv 4) pe_int (fun _ _ => rfl)) (pv 2) (nomark _)))))) (fun _ _ _ _ _ => (pv 4)))
    (pss_one (ps_ret (pe_ifExp (pt_cmpR op_gt (pe_callB (r := rLenK K) call_len_seq (by rfl) T.len boot_len (pa_cons (pv 3) pa_nil)) pe_int (nomark _)) (pe_ix (r := rIxL K) ix_list (pv 3) pe_int (fun _ _ => rfl)) pe_non)))), ?_⟩
    refine ⟨_, rfl, _, _, rfl, C.gl, _, rfl, ⟨_, .inl (.inl C.lg)⟩, fun B hB => ?_⟩
    refine lc_list (K := K) (a := D.lg) (xs := D.ls.map fun l => V.ref l.a) (fun u H' => H' = upd H B (.lst (((D.ls.take u).filter fun l => decide (l.s = s') && decide (l.e = e')).map fun l => V.ref l.a))) rfl (fun u H' _ e => .inl (.inl (by rw [e, upd_ne (ne_of_none C.lg hB)]; exact C.lg))) ?_ ?_
    · rintro u y H' hu1 rfl
      obtain ⟨q, rfl, hq, hul, ht⟩ := getMap hu1
      have htq := same_new (o := .lst (((D.ls.take u).filter fun l => decide (l.s = s') && decide (l.e = e')).map fun l => V.ref l.a)) hB _ _ (C.lt q hq)
      have hle : (((D.ls.take u).filter fun l => decide (l.s = s') && decide (l.e = e')).map fun l => V.ref l.a).length ≤ 100 := by
        rw [List.length_map]
        have h1 := List.length_filter_le (fun l : Lg => decide (l.s = s') && decide (l.e = e')) (D.ls.take u)
        have h2 := List.length_take_le' u D.ls
        have h3 := C.n
        omega
      refine ⟨rfl, ?_⟩
      refine ⟨_, rfl, _, _, _, .str q.s, rfl, rfl, .inl (.inl htq), rfl, _, rfl, rfl, _, rfl, ite2 (fun e1 => ?_) (fun e1 => ?_)⟩
      · have e1 := V.str.inj (of_decide_eq_true e1)
        refine ⟨_, rfl, _, _, _, .str q.e, rfl, rfl, .inl (.inl htq), rfl, _, rfl, rfl, _, rfl, ite2 (fun e2 => ?_) (fun e2 => ?_)⟩
        · have e2 := V.str.inj (of_decide_eq_true e2)
          refine ⟨_, rfl, _, upd_same, small1000 (by omega), ?_⟩
          rw [upd_upd, ht, List.filter_append, List.map_append]
          simp [e1, e2]
        · have e2 : ¬ q.e = e' := fun z => e2 (decide_eq_true (congrArg V.str z))
          show _ = _
          rw [ht, List.filter_append]
          simp [e2]
      · refine iteF ?_
        have e1 : ¬ q.s = s' := fun z => e1 (decide_eq_true (congrArg V.str z))
        show _ = _
        rw [ht, List.filter_append]
        simp [e1]
    rintro H' rfl
    rw [List.length_map, List.take_length]
    have hfd := head_find (fun l : Lg => decide (l.s = s') && decide (l.e = e')) D.ls
    have hsm := same_new (o := .lst ((D.ls.filter fun l => decide (l.s = s') && decide (l.e = e')).map fun l => V.ref l.a)) hB
    refine ⟨_, rfl, _, _, rfl, .inl (.inl (.inl upd_same)), _, _, rfl, rfl, _, rfl, ite2 (fun e1 => ?_) (fun e1 => ?_)⟩
    · have e1 := of_decide_eq_true e1
      cases hf : D.ls.filter fun l => decide (l.s = s') && decide (l.e = e') with
      | nil => rw [hf] at e1; simp at e1
      | cons l r =>
        rw [hf] at hfd hsm
        have e2 : D.leg s' e' = some l := hfd.symm
        refine ⟨_, rfl, _, _, _, .ref l.a, rfl, rfl, .inl (.inl upd_same), atI_nat (j := 0) rfl, ?_⟩
        have := k _ hsm
        rw [e2] at this
        exact this
    · have e1 : ¬ _ := fun z => e1 (decide_eq_true z)
      cases hf : D.ls.filter fun l => decide (l.s = s') && decide (l.e = e') with
      | cons l r => rw [hf] at e1; simp at e1
      | nil =>
        rw [hf] at hfd hsm
        have e2 : D.leg s' e' = none := hfd.symm
        have := k _ hsm
        rw [e2] at this
        exact this
theorem sc_law_lengths : FnScope ["chart", "lengths", "leg", "a", "b"] ["chart"] (defScope s_law_lengths) := ⟨rfl, rfl, rfl, by decide +kernel, rfl, by decide +kernel, by decide +kernel⟩
theorem ok_law_lengths {f : Addr} {fd : FuncData} (F : Fun K "_law_lengths" "_law_lengths" s_law_lengths f fd) (T : TxtA mg)
    (D_law_root_up : Def P w K mg base 1 "_law_root_up" ["n"] (spRootR)) : FnOk P w K mg base CX0 2 f fd ["chart"] (spLens) := by
  refine F.ok sc_law_lengths (fun vs H Q E h => ?_) (fun cdv A outer s H vs Q E hr h => ?_)
  · obtain ⟨_, _, rfl, _⟩ := h
    rfl
  · obtain ⟨ch, D, rfl, C, k⟩ := h
    have hu := hu_of hr
    refine ⟨_, (pss_cons (ps_set (i := 1) sc_law_lengths.nd rfl (Or.inl rfl) pe_dnewT)
    (pss_cons (ps_for PassesOwn.never rfl (pi_list (pe_dget hu (pv 0) pe_str (fun _ _ => rfl))) (pg_name (i := 2) sc_law_lengths.nd rfl (Or.inl rfl))
      (pss_cons (ps_set (i := 3) sc_law_lengths.nd rfl (Or.inl rfl) (pe_dget hu (pe_dget hu (pv 0) pe_str (fun _ _ => rfl)) (pe_ix (r := rIxT K) ix_tup (pv 2) pe_int (fun _ _ => rfl)) (fun _ _ => rfl)))
    (pss_cons (ps_set (i := 4) sc_law_lengths.nd rfl (Or.inl rfl) (pe_dget hu (pe_dget hu (pv 0) pe_str (fun _ _ => rfl)) (pe_ix (r := rIxT K) ix_tup (pv 2) pe_int (fun _ _ => rfl)) (fun _ _ => rfl)))
    (pss_one (ps_dput hu (pv 1) (pe_tup (pa_cons (pe_ix (r := rIxT K) ix_tup (pv 2) pe_int (fun _ _ => rfl)) (pa_cons (pe_ix (r := rIxT K) ix_tup (pv 2) pe_int (fun _ _ => rfl)) pa_nil))) (pe_def D_law_root_up (hr.mono (by decide)) (by rfl) (pa_cons (pe_op op_add (pe_op op_mul (pe_op op_sub (pe_ix (r := rIxT K) ix_tup (pv 3) pe_int (fun _ _ => rfl)) (pe_ix (r := rIxT K) ix_tup (pv 4) pe_int (fun _ _ => rfl))) (pe_op op_sub (pe_ix (r := rIxT K) ix_tup (pv 3) pe_int (fun _ _ => rfl)) (pe_ix (r := rIxT K) ix_tup (pv 4) pe_int (fun _ _ => rfl)))) (pe_op op_mul (pe_op op_sub (pe_ix (r := rIxT K) ix_tup (pv 3) pe_int (fun _ _ => rfl)) (pe_ix (r := rIxT K) ix_tup (pv 4) pe_int (fun _ _ => rfl))) (pe_op op_sub (pe_ix (r := rIxT K) ix_tup (pv 3) pe_int (fun _ _ => rfl)) (pe_ix (r := rIxT K) ix_tup (pv 4) pe_int (fun _ _ => rfl))))) pa_nil)) rfl)))))
    (pss_one (ps_ret (pv 1))))), ?_⟩
    intro ld hld
    refine ⟨_, rfl, _, _, rfl, (C.same (same_new hld)).gl, _, rfl, ⟨_, .inl (.inl (same_new hld _ _ C.lg))⟩, for_list (K := K) (a := D.lg) (xs := D.ls.map fun l => V.ref l.a) (fun i σ H2 => ∃ (kvs : List (List Key × V)) (v_leg v_a v_b : Option V), σ = [some (.ref ch), some (.ref ld), v_leg, v_a, v_b] ∧ H2 ld = some (.dT kvs) ∧ kvs.length ≤ i ∧ Same H H2 ∧ ∀ l ∈ D.ls.take i, valV kvs [(.inr l.s : Key), .inr l.e] = some (.int (D.len l.s l.e)))
      ⟨[], none, none, none, rfl, upd_same, Nat.le_refl _, same_new hld, fun _ h => nomatch h⟩ (fun i σ H2 _ ⟨_, _, _, _, _, _, _, e, _⟩ => .inl (.inl (e _ _ C.lg))) ?_ ?_⟩
    · rintro i y σ H2 hi ⟨kvs, v_leg, v_a, v_b, rfl, hd, hl, sm, hv⟩
      obtain ⟨q, rfl, hq, hil, ht⟩ := getMap hi
      have C2 := C.same sm
      have htq := C2.lt q hq
      obtain ⟨⟨a1, x1, y1, h1⟩, a2, x2, y2, h2⟩ := C.wf q hq
      obtain ⟨p1, p2, p3, p4, p5, p6⟩ := C2.pf _ _ _ _ h1
      obtain ⟨q1, q2, q3, q4, q5, q6⟩ := C2.pf _ _ _ _ h2
      have b1 := sq_le (show -200000 ≤ x1 - x2 by omega) (show x1 - x2 ≤ 200000 by omega)
      have b2 := sq_le (show -200000 ≤ y1 - y2 by omega) (show y1 - y2 ≤ 200000 by omega)
      refine ⟨_, rfl, _, _, rfl, C2.gf, _, rfl, _, _, _, .str q.s, rfl, rfl, .inl (.inl htq), rfl, _, _, rfl, C2.gp h1, ?_⟩
      refine ⟨_, rfl, _, _, rfl, C2.gf, _, rfl, _, _, _, .str q.e, rfl, rfl, .inl (.inl htq), rfl, _, _, rfl, C2.gp h2, ?_⟩
      refine ⟨_, rfl, _, _, _, _, rfl, rfl, (.inl (.inl p2)), rfl, _, rfl, _, _, _, _, rfl, rfl, (.inl (.inl q2)), rfl, _, _, rfl, rfl, _, rfl, _, _, _, _, rfl, rfl, (.inl (.inl p2)), rfl, _, rfl, _, _, _, _, rfl, rfl, (.inl (.inl q2)), rfl, _, _, rfl, rfl, _, _, rfl, rfl, (by walk_at "ms"), _, rfl, _, _, _, _, rfl, rfl, (.inl (.inl p2)), rfl, _, rfl, _, _, _, _, rfl, rfl, (.inl (.inl q2)), rfl, _, _, rfl, rfl, _, rfl, _, _, _, _, rfl, rfl, (.inl (.inl p2)), rfl, _, rfl, _, _, _, _, rfl, rfl, (.inl (.inl q2)), rfl, _, _, rfl, rfl, _, _, rfl, rfl, (by walk_at "ms"), _, _, rfl, rfl, _, rfl, Int.add_nonneg (sq0 _) (sq0 _), (by omega), ?_⟩
      rw [sq_swap x1, sq_swap y1, ← D.len_eq h1 h2]
      refine ⟨_, rfl, _, rfl, _, _, _, .str q.s, rfl, rfl, .inl (.inl htq), rfl, _, rfl, _, _, _, .str q.e, rfl, rfl, .inl (.inl htq), rfl, szOk rfl, fun p5 hp5 => ?_⟩
      have nld : ld ≠ p5 := ne_of_none hd hp5
      refine ⟨_, _, rfl, DPut.t (k := [(.inr q.s : Key), .inr q.e]) (same_new hp5 _ _ hd) upd_same (small1000 (by have := C.n; omega)), ?_⟩
      refine ⟨_, _, _, _, rfl, upd_same, ?_, fun b o e => ?_, fun l hl' => ?_⟩
      · unfold putK
        split
        · rw [List.length_map]; (try omega)
        · rw [List.length_append, List.length_singleton]; (try omega)
      · rw [upd_ne (ne_of_none e hld)]
        exact same_new hp5 _ _ (sm _ _ e)
      · rw [valV_put]
        by_cases e : [(Sum.inr l.s : Key), Sum.inr l.e] = [Sum.inr q.s, Sum.inr q.e]
        · rw [if_pos e]
          have e1 : l.s = q.s := Sum.inr.inj (List.cons.inj e).1
          have e2 : l.e = q.e := Sum.inr.inj (List.cons.inj (List.cons.inj e).2).1
          rw [e1, e2]
        · rw [if_neg e]
          rw [ht] at hl'
          rcases List.mem_append.mp hl' with h | h
          · exact hv l h
          · rw [List.mem_singleton.mp h] at e
            exact absurd rfl e
    · rintro σ H2 ⟨kvs, v_leg, v_a, v_b, rfl, hd, hl, sm, hv⟩
      rw [List.length_map, List.take_length] at hv
      refine ⟨_, rfl, k ld H2 hld ⟨kvs, hd, fun a b l h => ?_⟩ sm⟩
      obtain ⟨h1, h2, h3⟩ := CD.leg_mem h
      have := hv l h1
      rw [h2, h3] at this
      exact this
theorem sc_law_walk : FnScope ["state", "chart", "most", "starts", "route", "k", "ends", "leg"] ["state", "chart", "most"] (defScope s_law_walk) := ⟨rfl, rfl, rfl, by decide +kernel, rfl, by decide +kernel, by decide +kernel⟩
theorem ok_law_walk {f : Addr} {fd : FuncData} (F : Fun K "_law_walk" "_law_walk" s_law_walk f fd) (T : TxtA mg)
    (D_law_draw : Def P w K mg base 1 "_law_draw" ["state", "bound"] (spDraw K))
    (D_law_pick : Def P w K mg base 2 "_law_pick" ["state", "things"] (spPick K)) : FnOk P w K mg base CX0 3 f fd ["state", "chart", "most"] (spWalk K) := by
  refine F.ok sc_law_walk (fun vs H Q E h => ?_) (fun cdv A outer s H vs Q E hr h => ?_)
  · obtain ⟨_, _, _, _, _, rfl, _⟩ := h
    rfl
  · obtain ⟨d, c, ch, D, m, rfl, S, C, n1, n2, hls, m0, m1, k⟩ := h
    have hu := hu_of hr
    refine ⟨_, (pss_cons (ps_setLc (i := 3) (own := [("leg", 7)]) (g := gName 7) (by rfl) sc_law_walk.nd rfl rfl (sw_true rfl rfl rfl (by decide +kernel)) (pi_list (pe_dget hu (pv 1) pe_str (fun _ _ => rfl))) (blkOk_by (own := [("leg", 7)]) (N := ["state", "chart", "most", "starts", "route", "k", "ends", "leg"]) (sc := defScope s_law_walk) (by decide +kernel)) (fun _ _ _ _ _ => (pg_name (i := 7) sc_law_walk.nd rfl (Or.inl rfl))) (fun _ _ _ _ _ => pts_nil) (fun _ _ _ _ _ => (pe_ix (r := rIxT K) ix_tup (pv 7) pe_int (fun _ _ => rfl))))
    (pss_cons (ps_set (i := 4) sc_law_walk.nd rfl (Or.inr rfl) (pe_lst (pa_cons (pe_def D_law_pick (hr.mono (by decide)) (by rfl) (pa_cons (pv 0) (pa_cons (pv 3) pa_nil))) pa_nil)))
    (pss_cons (ps_for PassesOwn.never rfl (pi_range1 (by rfl) T.range (pa_cons (pe_op op_add pe_int (pe_def D_law_draw (hr.mono (by decide)) (by rfl) (pa_cons (pv 0) (pa_cons (pv 2) pa_nil)))) pa_nil)) (pg_name (i := 5) sc_law_walk.nd rfl (Or.inl rfl))
      (pss_cons (ps_setLc (i := 6) (own := [("leg", 7)]) (g := gName 7) (by rfl) sc_law_walk.nd rfl rfl (sw_true rfl rfl rfl (by decide +kernel)) (pi_list (pe_dget hu (pv 1) pe_str (fun _ _ => rfl))) (blkOk_by (own := [("leg", 7)]) (N := ["state", "chart", "most", "starts", "route", "k", "ends", "leg"]) (sc := defScope s_law_walk) (by decide +kernel)) (fun _ _ _ _ _ => (pg_name (i := 7) sc_law_walk.nd rfl (Or.inl rfl))) (fun _ _ _ _ _ => pts_one (pt_cmpR op_eq (pe_ix (r := rIxT K) ix_tup (pv 7) pe_int (fun _ _ => rfl)) (pe_ix (r := rIxL K) ix_list (pv 4) (pe_op op_sub (pe_callB (r := rLenK K) call_len_seq (by rfl) T.len boot_len (pa_cons (pv 4) pa_nil)) pe_int) (fun _ _ => rfl)) (nomark _))) (fun _ _ _ _ _ => (pe_ix (r := rIxT K) ix_tup (pv 7) pe_int (fun _ _ => rfl))))
    (pss_one (ps_if (pt_cmpR op_gt (pe_callB (r := rLenK K) call_len_seq (by rfl) T.len boot_len (pa_cons (pv 6) pa_nil)) pe_int (nomark _)) (pss_one (ps_expr (pe_bm PySem.F.plainAttrs_list PySem.F.slot_list_append PySem.F.type_list_append mt_append (pv 4) (pa_cons (pe_def D_law_pick (hr.mono (by decide)) (by rfl) (pa_cons (pv 0) (pa_cons (pv 6) pa_nil))) pa_nil))))
      pss_nil))))
    (pss_one (ps_ret (pe_callTy call_tuple_of (by rfl) T.tuple boot_tuple (pa_cons (pv 4) pa_nil))))))), ?_⟩
    refine ⟨_, rfl, _, _, rfl, C.gl, _, rfl, ⟨_, .inl (.inl C.lg)⟩, fun B hB => ?_⟩
    refine lc_list (K := K) (a := D.lg) (xs := D.ls.map fun l => V.ref l.a) (fun u H' => H' = upd H B (.lst ((D.ls.take u).map fun l => V.str l.s))) rfl (fun u H' _ e => .inl (.inl (by rw [e, upd_ne (ne_of_none C.lg hB)]; exact C.lg))) ?_ ?_
    · rintro u y H' hu1 rfl
      obtain ⟨q, rfl, hq, hul, ht⟩ := getMap hu1
      have htq := same_new (o := .lst ((D.ls.take u).map fun l => V.str l.s)) hB _ _ (C.lt q hq)
      have hn := C.n
      refine ⟨rfl, ?_⟩
      refine ⟨_, rfl, _, _, _, .str q.s, rfl, rfl, .inl (.inl htq), rfl, _, upd_same, (by rw [List.length_map]; have := List.length_take_le' u D.ls; exact small1000 (by omega)), ?_⟩
      rw [upd_upd, ht, List.map_append]
      rfl
    rintro H' rfl
    rw [List.length_map, List.take_length]
    have C1 := C.same (same_new (o := .lst (D.ls.map fun l => V.str l.s)) hB)
    refine ⟨_, rfl, _, rfl, d, c, _, _, rfl, S.new hB, .inl (.inl upd_same), (fun z => hls (List.map_eq_nil_iff.mp z)), (by rw [List.length_map]; have := C.n; omega), fun v2 H2 hv2 S2 kp2 => ?_⟩
    obtain ⟨l0, hl0, rfl⟩ := List.mem_map.mp hv2
    have C2 := C1.keep (S.new hB) kp2 n1 n2
    have k2 : Keep d H H2 := (Keep.of (same_new hB)).trans kp2
    refine ⟨szOk rfl, fun rl hrl => ?_⟩
    have nrd : rl ≠ d := S2.nd hrl
    have nrc : rl ≠ c := S2.nc hrl
    have nHr : H rl = none := k2.none nrd hrl
    refine ⟨_, rfl, _, rfl, d, c, _, rfl, (S2.new hrl), (by omega), (by omega), fun x1 H1 x1a x1b S1 kp1 => ?_⟩
    refine ⟨_, _, rfl, rfl, ?_⟩
    have hRl := kp1.l (S2.new hrl) (upd_same (H := H2) (a := rl) (o := .lst [.str l0.s]))
    refine ⟨_, rfl, by omega, by omega, for_range (n := (1 + x1).toNat) (fun i σ H3 => ∃ (ns : List Str) (v_k v_ends v_leg : Option V), σ = [some (.ref d), some (.ref ch), some (.int m), some (.ref B), some (.ref rl), v_k, v_ends, v_leg] ∧ St1 K H3 d c ∧ ChartAt H3 ch D ∧ H3 rl = some (.lst (ns.map V.str)) ∧ ns.length ≤ i + 1 ∧ Chain D ns ∧ (∃ a, ns.getLast? = some a ∧ (i = 0 → ∃ l ∈ D.ls, l.s = a)) ∧ (1 ≤ i → 2 ≤ ns.length) ∧ Keep d H H3)
      ⟨[l0.s], none, none, none, rfl, S1, (C2.same (same_new hrl)).keep (S2.new hrl) kp1 n1 n2, hRl, by simp, (fun j hj => by simp at hj), ⟨_, rfl, fun _ => ⟨l0, hl0, rfl⟩⟩, (fun h => by omega), (k2.trans (Keep.of (same_new hrl))).trans kp1⟩ ?_ ?_⟩
    · rintro i σ H3 hi ⟨ns, v_k, v_ends, v_leg, rfl, S0, C0, hR, hln, hch, hst, h2, hk⟩
      obtain ⟨a, ha, ha0⟩ := hst
      refine ⟨_, rfl, _, _, rfl, C0.gl, _, rfl, ⟨_, .inl (.inl C0.lg)⟩, fun B1 hB1 => ?_⟩
      refine lc_list (K := K) (a := D.lg) (xs := D.ls.map fun l => V.ref l.a) (fun u H' => H' = upd H3 B1 (.lst (((D.ls.take u).filter fun l => decide (l.s = a)).map fun l => V.str l.e))) rfl (fun u H' _ e => .inl (.inl (by rw [e, upd_ne (ne_of_none C0.lg hB1)]; exact C0.lg))) ?_ ?_
      · rintro u y H' hu1 rfl
        obtain ⟨q, rfl, hq, hul, ht⟩ := getMap hu1
        have htq := same_new (o := .lst (((D.ls.take u).filter fun l => decide (l.s = a)).map fun l => V.str l.e)) hB1 _ _ (C0.lt q hq)
        have hR1 := same_new (o := .lst (((D.ls.take u).filter fun l => decide (l.s = a)).map fun l => V.str l.e)) hB1 _ _ hR
        have hn := C0.n
        have h1 := List.length_filter_le (fun l : Lg => decide (l.s = a)) (D.ls.take u)
        have h3 := List.length_take_le' u D.ls
        refine ⟨rfl, ?_⟩
        refine ⟨_, rfl, _, _, _, .str q.s, rfl, rfl, .inl (.inl htq), rfl, _, rfl, _, rfl, _, _, rfl, .inl (.inl (.inl hR1)), _, _, rfl, rfl, _, _, _, .str a, rfl, rfl, .inl (.inl hR1), atI_lastn rfl (by rw [List.getLast?_map, ha]; rfl), rfl, _, rfl, ite2 (fun e1 => ?_) (fun e1 => ?_)⟩
        · have e1 := V.str.inj (of_decide_eq_true e1)
          refine ⟨_, rfl, _, _, _, .str q.e, rfl, rfl, .inl (.inl htq), rfl, _, upd_same, (by rw [List.length_map]; exact small1000 (by omega)), ?_⟩
          rw [upd_upd, ht, List.filter_append, List.map_append]
          simp [e1]
        · have e1 : ¬ q.s = a := fun z => e1 (decide_eq_true (congrArg V.str z))
          show _ = _
          rw [ht, List.filter_append]
          simp [e1]
      rintro H' rfl
      rw [List.length_map, List.take_length]
      have S4 := S0.new (o := .lst ((D.ls.filter fun l => decide (l.s = a)).map fun l => V.str l.e)) hB1
      have C4 := C0.same (same_new (o := .lst ((D.ls.filter fun l => decide (l.s = a)).map fun l => V.str l.e)) hB1)
      have hR4 := same_new (o := .lst ((D.ls.filter fun l => decide (l.s = a)).map fun l => V.str l.e)) hB1 _ _ hR
      have k4 := hk.trans (Keep.of (same_new (o := .lst ((D.ls.filter fun l => decide (l.s = a)).map fun l => V.str l.e)) hB1))
      refine ⟨_, rfl, _, _, rfl, .inl (.inl (.inl upd_same)), _, _, rfl, rfl, _, rfl, ite2 (fun e1 => ?_) (fun e1 => ?_)⟩
      · have e1 := of_decide_eq_true e1
        have hn := C0.n
        have h1 := List.length_filter_le (fun l : Lg => decide (l.s = a)) D.ls
        refine ⟨_, rfl, .inl ⟨rfl, _, .inl (.inl hR4)⟩, _, rfl, _, rfl, d, c, _, _, rfl, S4, .inl (.inl upd_same), (fun z => by rw [z] at e1; simp at e1), (by rw [List.length_map]; omega), fun v5 H5 hv5 S5 kp5 => ?_⟩
        obtain ⟨l1, hl1, rfl⟩ := List.mem_map.mp hv5
        obtain ⟨hm1, hs1⟩ := List.mem_filter.mp hl1
        have hs1 := of_decide_eq_true hs1
        have hR5 := kp5.l S4 hR4
        refine ⟨_, _, _, rfl, rfl, hR5, (by rw [List.length_map]; exact small1000 (by omega)), ?_⟩
        refine ⟨ns ++ [l1.e], _, _, _, rfl, S5.put nrd nrc, ?_, by rw [upd_same, List.map_append]; rfl, by rw [List.length_append, List.length_singleton]; omega, hch.snoc ha (hs1 ▸ CD.leg_some hm1), ⟨l1.e, by simp, fun h => by omega⟩, (fun _ => ?_), ?_⟩
        · have C5 := C4.keep S4 kp5 n1 n2
          obtain ⟨⟨kvs, q1, q2, q3⟩, q4, q5, q6, q7, q8, q8', q9⟩ := C5
          have hRx : ∀ b o, H5 b = some o → (∀ xs, o ≠ .lst xs) → (upd H5 rl (.lst (ns.map V.str ++ [.str l1.e]))) b = some o := fun b o e n => by
            rw [upd_ne (ne_of e hR5 (n _))]
            exact e
          have nlg : D.lg ≠ rl := fun w => by
            have w1 := C.lg
            rw [w, nHr] at w1
            cases w1
          exact ⟨⟨kvs, hRx _ _ q1 (by intro _ z; cases z), q2, q3⟩, hRx _ _ q4 (by intro _ z; cases z), by rw [upd_ne nlg]; exact q5, fun l hl => hRx _ _ (q6 l hl) (by intro _ z; cases z), fun n a x y h => let ⟨z1, z2, z3⟩ := q7 n a x y h; ⟨z1, hRx _ _ z2 (by intro _ z; cases z), z3⟩, q8, q8', q9⟩
        · rw [List.length_append, List.length_singleton]
          obtain ⟨ys, rfl⟩ := List.getLast?_eq_some_iff.mp ha
          simp
        · intro b o e nb
          rw [upd_ne (fun w => by rw [w, nHr] at e; cases e)]
          exact kp5 _ _ (k4 _ _ e nb) nb
      · refine ⟨ns, _, _, _, rfl, S4, C4, hR4, by omega, hch, ⟨a, ha, fun h => by omega⟩, (fun _ => ?_), k4⟩
        by_cases h0 : i = 0
        · exfalso
          obtain ⟨l, hl, e⟩ := ha0 h0
          refine e1 (decide_eq_true ?_)
          rw [List.length_map]
          have : l ∈ D.ls.filter fun l => decide (l.s = a) := List.mem_filter.mpr ⟨hl, decide_eq_true e⟩
          have := List.length_pos_of_mem this
          omega
        · exact h2 (by omega)
    · rintro σ H3 ⟨ns, v_k, v_ends, v_leg, rfl, S0, C0, hR, hln, hch, hst, h2, hk⟩
      refine ⟨_, rfl, rl, _, rfl, .inl ⟨.inl (.inl hR), fun r hr' => ?_⟩⟩
      refine k ns r _ ⟨h2 (by omega), by omega, hch⟩ ?_ upd_same (S0.new hr') (hk.trans (Keep.of (same_new hr')))
      exact hk.none (S0.nd hr') hr'
end
end Sk

set_option Elab.async false
set_option linter.all false
set_option maxRecDepth 100000
set_option maxHeartbeats 4000000
namespace Sk
open PySem PySem.Spec PyProof.Rows L2
abbrev s_Path_total : Stmt := inClass (top 21) 2
abbrev s_Path_leg_at : Stmt := inClass (top 21) 3
abbrev s_Path_leg : Stmt := inClass (top 21) 5
abbrev s_Path_route : Stmt := inClass (top 21) 9
abbrev s_Path__point : Stmt := inClass (top 21) 12
abbrev s_Path__segment : Stmt := inClass (top 21) 11
abbrev s_Path__segments : Stmt := inClass (top 21) 10
abbrev s_Path_place : Stmt := inClass (top 21) 7
abbrev s_Path_piece : Stmt := inClass (top 21) 8
abbrev s_Path__join : Stmt := inClass (top 21) 1
abbrev s_Path___init__ : Stmt := inClass (top 21) 0
section
variable {P : Program} {w : World} {K : PySem.W.Frag} {mg : Str → Option Value} {base : Heap}
theorem sc_Path_total : FnScope ["self"] ["self"] (defScope s_Path_total) := ⟨rfl, rfl, rfl, by decide +kernel, rfl, by decide +kernel, by decide +kernel⟩
theorem ok_Path_total {f : Addr} {fd : FuncData} {C : Addr} (F : Fun K "total" "Path.total" s_Path_total f fd) (T : TxtA mg) (Y : PathY K mg C) : FnOk P w K mg base CX0 1 f fd ["self"] (spTotal C) := by
  refine F.ok sc_Path_total (fun vs H Q E h => ?_) (fun cdv A outer s H vs Q E hr h => ?_)
  · obtain ⟨_, _, _, _, _, _, _, _, _, _, rfl, _⟩ := h
    rfl
  · obtain ⟨p, r, dx, l1, l2, l3, l4, D, ns, i, rfl, ho, hb, k⟩ := h
    refine ⟨_, (pss_one (ps_ret (pe_ix (r := rIxL K) ix_list (pe_fld (pv 0) rfl) (pe_un un_neg pe_int) (fun _ _ => rfl)))), ?_⟩
    refine ⟨_, rfl, _, _, _, _, _, rfl, ho, Y.cl, Y.n5, pf5, _, rfl, _, _, _, _, rfl, rfl, .inl (.inl hb), atI_back (v := .int (bg D ns i)) (by simp [List.range_succ]), ?_⟩
    exact k
theorem sc_Path_leg_at : FnScope ["self", "progress", "last", "index"] ["self", "progress"] (defScope s_Path_leg_at) := ⟨rfl, rfl, rfl, by decide +kernel, rfl, by decide +kernel, by decide +kernel⟩
theorem ok_Path_leg_at {f : Addr} {fd : FuncData} {C : Addr} (F : Fun K "leg_at" "Path.leg_at" s_Path_leg_at f fd) (T : TxtA mg) (Y : PathY K mg C) : FnOk P w K mg base CX0 1 f fd ["self", "progress"] (spLegAt C) := by
  refine F.ok sc_Path_leg_at (fun vs H Q E h => ?_) (fun cdv A outer s H vs Q E hr h => ?_)
  · obtain ⟨_, _, _, _, _, rfl, _⟩ := h
    rfl
  · obtain ⟨p, r, D, ns, x, rfl, PA, n2, n20, k⟩ := h
    refine ⟨_, (pss_cons (ps_set (i := 2) sc_Path_leg_at.nd rfl (Or.inl rfl) (pe_op op_sub (pe_callB (r := rLenK K) call_len_seq (by rfl) T.len boot_len (pa_cons (pe_fld (pv 0) rfl) pa_nil)) pe_int))
    (pss_cons (ps_for PassesOwn.never rfl (pi_range1 (by rfl) T.range (pa_cons (pv 2) pa_nil)) (pg_name (i := 3) sc_Path_leg_at.nd rfl (Or.inl rfl))
      (pss_one (ps_if (pt_cmpR op_lt (pv 1) (pe_ix (r := rIxL K) ix_list (pe_fld (pv 0) rfl) (pe_op op_add (pv 3) pe_int) (fun _ _ => rfl)) (nomark _)) (pss_one (ps_ret (pv 3)))
      pss_nil)))
    (pss_one (ps_ret (pv 2))))), ?_⟩
    obtain ⟨dx, l1, l2, l3, l4, sa, va, P⟩ := id PA
    refine ⟨_, rfl, _, _, _, _, _, rfl, P.ob, Y.cl, Y.n2, pf2, _, _, rfl, .inl (.inl (.inl P.lg)), _, _, rfl, rfl, ?_⟩
    refine nm ?_
    dsimp only
    rw [List.length_map, List.length_range]
    have e0 : ((ns.length - 1 : Nat) : Int) - 1 = ((ns.length - 1 - 1 : Nat) : Int) := by omega
    rw [e0]
    generalize hm : ns.length - 1 - 1 = m at k ⊢
    refine ⟨_, rfl, _, rfl, by omega, by omega, for_range (n := ((m : Nat) : Int).toNat) (fun i σ H2 => ∃ v3, σ = [some (.ref p), some (.int x), some (.int (m : Int)), v3] ∧ H2 = H ∧ ∀ j, j < i → bg D ns (j + 1) ≤ x)
      ⟨none, rfl, rfl, fun j hj => by omega⟩ ?_ ?_⟩
    · rintro i σ H2 hi ⟨v3, rfl, rfl, hj⟩
      have hi : i < m := by omega
      refine ⟨_, rfl, _, rfl, _, _, _, _, _, rfl, P.ob, Y.cl, Y.n5, pf5, _, rfl, _, _, rfl, rfl, _, _, _, .int (bg D ns (i + 1)), rfl, rfl, .inl (.inl P.bgn), ?_, _, _, rfl, rfl, _, rfl, ite2 (fun e => ?_) (fun e => ?_)⟩
      · have e1 : 0 + (i : Int) + 1 = ((i + 1 : Nat) : Int) := by omega
        rw [e1]
        refine atI_nat ?_
        rw [List.getElem?_map, List.getElem?_range (by omega)]
        rfl
      · have e := of_decide_eq_true e
        rw [lat_eq (Nat.le_of_lt hi) hj fun _ => e] at k
        refine ⟨_, rfl, ?_⟩
        show Q (.int (0 + (i : Int))) H2
        rw [Int.zero_add]
        exact k
      · have e : ¬ x < bg D ns (i + 1) := fun z => e (decide_eq_true z)
        refine ⟨_, rfl, rfl, fun j h => ?_⟩
        by_cases w : j = i
        · rw [w]; omega
        · exact hj j (by omega)
    · rintro σ H2 ⟨v3, rfl, rfl, hj⟩
      rw [lat_eq (Nat.le_refl m) (fun i hi => hj i (by omega)) fun z => absurd z (Nat.lt_irrefl _)] at k
      exact ⟨_, rfl, k⟩
theorem sc_Path_leg : FnScope ["self", "index"] ["self", "index"] (defScope s_Path_leg) := ⟨rfl, rfl, rfl, by decide +kernel, rfl, by decide +kernel, by decide +kernel⟩
theorem ok_Path_leg {f : Addr} {fd : FuncData} {C : Addr} (F : Fun K "leg" "Path.leg" s_Path_leg f fd) (T : TxtA mg) (Y : PathY K mg C) : FnOk P w K mg base CX0 1 f fd ["self", "index"] (spLegI C) := by
  refine F.ok sc_Path_leg (fun vs H Q E h => ?_) (fun cdv A outer s H vs Q E hr h => ?_)
  · obtain ⟨_, _, _, _, _, _, rfl, _⟩ := h
    rfl
  · obtain ⟨p, r, D, ns, j, z, rfl, rfl, PA, hj, k⟩ := h
    refine ⟨_, (pss_one (ps_ret (pe_ix (r := rIxL K) ix_list (pe_fld (pv 0) rfl) (pv 1) (fun _ _ => rfl)))), ?_⟩
    obtain ⟨dx, l1, l2, l3, l4, sa, va, P⟩ := id PA
    refine ⟨_, rfl, _, _, _, _, _, rfl, P.ob, Y.cl, Y.n2, pf2, _, rfl, _, _, _, optL (D.leg (rn ns j) (rn ns (j + 1))), rfl, rfl, .inl (.inl P.lg), atI_nat (by rw [List.getElem?_map, List.getElem?_range hj]; rfl), ?_⟩
    exact k
theorem sc_Path_route : FnScope ["self"] ["self"] (defScope s_Path_route) := ⟨rfl, rfl, rfl, by decide +kernel, rfl, by decide +kernel, by decide +kernel⟩
theorem ok_Path_route {f : Addr} {fd : FuncData} {C : Addr} (F : Fun K "route" "Path.route" s_Path_route f fd) (T : TxtA mg) (Y : PathY K mg C) : FnOk P w K mg base CX0 1 f fd ["self"] (spRoute C) := by
  refine F.ok sc_Path_route (fun vs H Q E h => ?_) (fun cdv A outer s H vs Q E hr h => ?_)
  · obtain ⟨_, _, _, _, rfl, _⟩ := h
    rfl
  · obtain ⟨p, r, D, ns, rfl, PA, k⟩ := h
    refine ⟨_, (pss_one (ps_ret (pe_fld (pv 0) rfl))), ?_⟩
    obtain ⟨dx, l1, l2, l3, l4, sa, va, P⟩ := id PA
    refine ⟨_, rfl, _, _, _, _, _, rfl, P.ob, Y.cl, Y.n1, pf1, ?_⟩
    exact k
theorem sc_Path__point : FnScope ["self", "index", "progress", "x", "y", "dx", "dy", "length", "along"] ["self", "index", "progress"] (defScope s_Path__point) := ⟨rfl, rfl, rfl, by decide +kernel, rfl, by decide +kernel, by decide +kernel⟩
theorem ok_Path__point {f : Addr} {fd : FuncData} {C : Addr} (F : Fun K "_point" "Path._point" s_Path__point f fd) (T : TxtA mg) (Y : PathY K mg C) : FnOk P w K mg base CX0 1 f fd ["self", "index", "progress"] (spPoint C) := by
  refine F.ok sc_Path__point (fun vs H Q E h => ?_) (fun cdv A outer s H vs Q E hr h => ?_)
  · obtain ⟨_, _, _, _, _, _, _, rfl, _⟩ := h
    rfl
  · obtain ⟨p, r, D, ns, j, z, x, rfl, rfl, PA, hB, hj, k⟩ := h
    refine ⟨_, (pss_cons (ps_asg (pe_ix (r := rIxL K) ix_list (pe_fld (pv 0) rfl) (pv 1) (fun _ _ => rfl)) (pg_tup (by rfl) (pgs_cons (pg_name (i := 3) sc_Path__point.nd rfl (Or.inl rfl)) (pgs_cons (pg_name (i := 4) sc_Path__point.nd rfl (Or.inl rfl)) pgs_nil))))
    (pss_cons (ps_asg (pe_ix (r := rIxL K) ix_list (pe_fld (pv 0) rfl) (pv 1) (fun _ _ => rfl)) (pg_tup (by rfl) (pgs_cons (pg_name (i := 5) sc_Path__point.nd rfl (Or.inl rfl)) (pgs_cons (pg_name (i := 6) sc_Path__point.nd rfl (Or.inl rfl)) (pgs_cons (pg_name (i := 7) sc_Path__point.nd rfl (Or.inl rfl)) pgs_nil)))))
    (pss_cons (ps_set (i := 8) sc_Path__point.nd rfl (Or.inl rfl) (pe_op op_sub (pv 2) (pe_ix (r := rIxL K) ix_list (pe_fld (pv 0) rfl) (pv 1) (fun _ _ => rfl))))
    (pss_one (ps_ret (pe_tup (pa_cons (pe_op op_add (pe_op op_mul (pv 3) (pv 7)) (pe_op op_mul (pv 5) (pv 8))) (pa_cons (pe_op op_add (pe_op op_mul (pv 4) (pv 7)) (pe_op op_mul (pv 6) (pv 8))) pa_nil)))))))), ?_⟩
    obtain ⟨dx, l1, l2, l3, l4, sa, va, P⟩ := id PA
    have hs : j < sa.length := by rw [P.sl]; exact hj
    have hv : j < va.length := by rw [P.vl]; exact hj
    have b1 := hB (rn ns j)
    have b2 := hB (rn ns (j + 1))
    refine ⟨_, rfl, _, _, _, _, _, rfl, P.ob, Y.cl, Y.n3, pf3, _, rfl, _, _, _, _, rfl, rfl, .inl (.inl P.st), atI_nat (mapAt hs), _, _, rfl, .inl (.inl (P.sx j hs)), rfl, _, _, rfl, _, _, rfl, rfl, ?_⟩
    refine ⟨_, rfl, _, _, _, _, _, rfl, P.ob, Y.cl, Y.n4, pf4, _, rfl, _, _, _, _, rfl, rfl, .inl (.inl P.ve), atI_nat (mapAt hv), _, _, rfl, .inl (.inl (P.vx j hv)), rfl, _, _, rfl, _, _, rfl, _, _, rfl, rfl, ?_⟩
    refine ⟨_, rfl, _, rfl, _, _, _, _, _, rfl, P.ob, Y.cl, Y.n5, pf5, _, rfl, _, _, _, .int (bg D ns j), rfl, rfl, .inl (.inl P.bgn), atI_nat (by rw [List.getElem?_map, List.getElem?_range (by omega)]; rfl), _, _, rfl, rfl, ?_⟩
    refine ⟨_, rfl, _, rfl, _, _, rfl, rfl, .inl ⟨by omega, by omega⟩, _, rfl, _, rfl, _, _, rfl, rfl, .inl ⟨by omega, by omega⟩, _, _, rfl, rfl, _, rfl, _, rfl, _, _, rfl, rfl, .inl ⟨by omega, by omega⟩, _, rfl, _, rfl, _, _, rfl, rfl, .inl ⟨by omega, by omega⟩, _, _, rfl, rfl, szOk rfl, fun q hq => ?_⟩
    exact k q _ hq (same_new hq) upd_same
theorem sc_Path__segment : FnScope ["self", "index", "start", "end"] ["self", "index", "start", "end"] (defScope s_Path__segment) := ⟨rfl, rfl, rfl, by decide +kernel, rfl, by decide +kernel, by decide +kernel⟩
theorem ok_Path__segment {f : Addr} {fd : FuncData} {C : Addr} (F : Fun K "_segment" "Path._segment" s_Path__segment f fd) (T : TxtA mg) (Y : PathY K mg C)
    (M_point : MDef P w K mg base 1 C "_point" ["self", "index", "progress"] (spPoint C)) : FnOk P w K mg base CX0 2 f fd ["self", "index", "start", "end"] (spSeg C) := by
  refine F.ok sc_Path__segment (fun vs H Q E h => ?_) (fun cdv A outer s H vs Q E hr h => ?_)
  · obtain ⟨_, _, _, _, _, _, _, _, rfl, _⟩ := h
    rfl
  · obtain ⟨p, r, D, ns, j, z, s1, e1, rfl, rfl, PA, hB, hj, k⟩ := h
    refine ⟨_, (pss_one (ps_ret (pe_tup (StX.pa_star (pe_mdef M_point Y.cl (hr.mono (by decide)) (pv 0) (pa_cons (pv 1) (pa_cons (pv 2) pa_nil))) (StX.pa_star (pe_mdef M_point Y.cl (hr.mono (by decide)) (pv 0) (pa_cons (pv 1) (pa_cons (pv 3) pa_nil))) (pa_cons (pe_ix (r := rIxT K) ix_tup (pe_ix (r := rIxL K) ix_list (pe_fld (pv 0) rfl) (pv 1) (fun _ _ => rfl)) pe_int (fun _ _ => rfl)) pa_nil)))))), ?_⟩
    obtain ⟨dx, l1, l2, l3, l4, sa, va, P⟩ := id PA
    refine ⟨_, rfl, _, _, _, rfl, P.ob, rfl, _, rfl, _, rfl, p, r, D, ns, j, _, _, rfl, rfl, PA, hB, hj, fun q1 H1 hq1 sm1 ht1 => ?_⟩
    refine ⟨_, _, rfl, .inl (.inl (.inl ht1)), _, rfl, _, _, _, rfl, sm1 _ _ P.ob, rfl, _, rfl, _, rfl, p, r, D, ns, j, _, _, rfl, rfl, PA.same sm1, hB, hj, fun q2 H2 hq2 sm2 ht2 => ?_⟩
    have P2 := (P.same sm1).same sm2
    have hv : j < va.length := by rw [P.vl]; exact hj
    refine ⟨_, _, rfl, .inl (.inl (.inl ht2)), _, rfl, _, _, _, _, _, rfl, P2.ob, Y.cl, Y.n4, pf4, _, rfl, _, _, _, _, rfl, rfl, .inl (.inl P2.ve), atI_nat (mapAt hv), _, _, _, .int (D.len (rn ns j) (rn ns (j + 1))), rfl, rfl, .inl (.inl (P2.vx j hv)), rfl, szOk rfl, fun q hq => ?_⟩
    refine k q _ (sm1.free (sm2.free hq)) (fun b o e => same_new hq _ _ (sm2 _ _ (sm1 _ _ e))) ?_
    exact upd_same
theorem sc_Path__segments : FnScope ["self", "first", "last", "line", "index", "start", "end"] ["self", "first", "last"] (defScope s_Path__segments) := ⟨rfl, rfl, rfl, by decide +kernel, rfl, by decide +kernel, by decide +kernel⟩
theorem ok_Path__segments {f : Addr} {fd : FuncData} {C : Addr} (F : Fun K "_segments" "Path._segments" s_Path__segments f fd) (T : TxtA mg) (Y : PathY K mg C)
    (M_leg_at : MDef P w K mg base 1 C "leg_at" ["self", "progress"] (spLegAt C))
    (M_segment : MDef P w K mg base 2 C "_segment" ["self", "index", "start", "end"] (spSeg C)) : FnOk P w K mg base CX0 3 f fd ["self", "first", "last"] (spSegs C) := by
  refine F.ok sc_Path__segments (fun vs H Q E h => ?_) (fun cdv A outer s H vs Q E hr h => ?_)
  · obtain ⟨_, _, _, _, _, _, rfl, _⟩ := h
    rfl
  · obtain ⟨p, r, D, ns, f1, l, rfl, PA, hB, n2, n20, hfl, k⟩ := h
    refine ⟨_, (pss_cons (ps_set (i := 3) sc_Path__segments.nd rfl (Or.inl rfl) (pe_lst pa_nil))
    (pss_cons (ps_for PassesOwn.never rfl (pi_range2 (by rfl) T.range (pa_cons (pe_mdef M_leg_at Y.cl (hr.mono (by decide)) (pv 0) (pa_cons (pv 1) pa_nil)) (pa_cons (pe_op op_add (pe_mdef M_leg_at Y.cl (hr.mono (by decide)) (pv 0) (pa_cons (pv 2) pa_nil)) pe_int) pa_nil))) (pg_name (i := 4) sc_Path__segments.nd rfl (Or.inl rfl))
      (pss_cons (ps_set (i := 5) sc_Path__segments.nd rfl (Or.inl rfl) (pe_callB (call_max2 rfl) (by rfl) T.max boot_max (pa_cons (pv 1) (pa_cons (pe_ix (r := rIxL K) ix_list (pe_fld (pv 0) rfl) (pv 4) (fun _ _ => rfl)) pa_nil))))
    (pss_cons (ps_set (i := 6) sc_Path__segments.nd rfl (Or.inl rfl) (pe_callB (call_min2 rfl) (by rfl) T.min boot_min (pa_cons (pv 2) (pa_cons (pe_ix (r := rIxL K) ix_list (pe_fld (pv 0) rfl) (pe_op op_add (pv 4) pe_int) (fun _ _ => rfl)) pa_nil))))
    (pss_one (ps_if (pt_cmpR op_lt (pv 5) (pv 6) (nomark _)) (pss_one (ps_expr (pe_bm PySem.F.plainAttrs_list PySem.F.slot_list_append PySem.F.type_list_append mt_append (pv 3) (pa_cons (pe_mdef M_segment Y.cl (hr.mono (by decide)) (pv 0) (pa_cons (pv 4) (pa_cons (pv 5) (pa_cons (pv 6) pa_nil)))) pa_nil))))
      pss_nil)))))
    (pss_one (ps_ret (pv 3))))), ?_⟩
    obtain ⟨dx, l1, l2, l3, l4, sa, va, P⟩ := id PA
    refine ⟨szOk rfl, fun ln hln => ?_⟩
    have sm0 : Same H (upd H ln (.lst [])) := same_new hln
    have P0 := P.same sm0
    refine ⟨_, rfl, _, _, _, rfl, P0.ob, rfl, _, rfl, p, r, D, ns, f1, rfl, PA.same sm0, n2, n20, ?_⟩
    refine ⟨_, rfl, _, _, _, rfl, P0.ob, rfl, _, rfl, p, r, D, ns, l, rfl, PA.same sm0, n2, n20, ?_⟩
    obtain ⟨a1, b1, c1⟩ := lat_cases D ns (ns.length - 1 - 1) f1
    obtain ⟨a2, b2, c2⟩ := lat_cases D ns (ns.length - 1 - 1) l
    have hm := lat_mono D ns (ns.length - 1 - 1) hfl
    have hse := segs_eq (D := D) (ns := ns) (m := ns.length - 1 - 1) hfl hm
    rw [show ns.length - 1 - 1 + 1 = ns.length - 1 by omega] at hse
    rw [hse] at k
    generalize hu : lat D ns (ns.length - 1 - 1) f1 = u at *
    generalize hv : lat D ns (ns.length - 1 - 1) l = v at *
    refine ⟨_, _, rfl, rfl, _, _, rfl, ⟨by omega, by omega, by omega, by omega⟩, for_range (lo := (u : Int)) (n := ((v : Int) + 1 - (u : Int)).toNat) (fun i σ H2 => ∃ v4 v5 v6, σ = [some (.ref p), some (.int f1), some (.int l), some (.ref ln), v4, v5, v6] ∧ Same H H2 ∧ LoT H2 ln (segsOf D ns f1 l ((List.range i).map (u + ·))))
      ⟨none, none, none, rfl, sm0, LoT.nil upd_same⟩ ?_ ?_⟩
    · rintro i σ H2 hi ⟨v4, v5, v6, rfl, sm, hL⟩
      have hi : u + i ≤ v := by omega
      have P2 := P.same sm
      have hsn : segsOf D ns f1 l ((List.range (i + 1)).map (u + ·)) = segsOf D ns f1 l ((List.range i).map (u + ·)) ++ (match segOf D ns f1 l (u + i) with | some x => [x] | none => []) := by
        unfold segsOf
        rw [List.range_succ, List.map_append, List.filterMap_append]
        congr 1
        show List.filterMap (segOf D ns f1 l) [u + i] = _
        cases e : segOf D ns f1 l (u + i) <;> simp [e]
      have eu : (u : Int) + (i : Int) = ((u + i : Nat) : Int) := by omega
      refine ⟨_, rfl, _, rfl, _, _, _, _, _, rfl, P2.ob, Y.cl, Y.n5, pf5, _, rfl, _, _, _, .int (bg D ns (u + i)), rfl, rfl, .inl (.inl P2.bgn), by rw [eu]; exact atI_nat (by rw [List.getElem?_map, List.getElem?_range (by omega)]; rfl), _, _, rfl, ?_⟩
      refine ⟨_, rfl, _, rfl, _, _, _, _, _, rfl, P2.ob, Y.cl, Y.n5, pf5, _, rfl, _, _, rfl, rfl, _, _, _, .int (bg D ns (u + i + 1)), rfl, rfl, .inl (.inl P2.bgn), by rw [eu, show ((u + i : Nat) : Int) + 1 = ((u + i + 1 : Nat) : Int) by omega]; exact atI_nat (by rw [List.getElem?_map, List.getElem?_range (by omega)]; rfl), _, _, rfl, ?_⟩
      refine ⟨_, rfl, _, rfl, _, _, rfl, rfl, _, rfl, ite2 (fun e => ?_) (fun e => ?_)⟩
      · have e := of_decide_eq_true e
        have es : segOf D ns f1 l (u + i) = some (seg D ns (u + i) (if bg D ns (u + i) > f1 then bg D ns (u + i) else f1) (if bg D ns (u + i + 1) < l then bg D ns (u + i + 1) else l)) := by
          unfold segOf
          dsimp only
          rw [if_pos e]
        obtain ⟨ys, hy, hyl⟩ := hL.li
        have hys : ys.length ≤ 100 := by
          rw [hyl]
          have := List.length_filterMap_le (segOf D ns f1 l) ((List.range i).map (u + ·))
          rw [List.length_map, List.length_range] at this
          unfold segsOf
          omega
        refine ⟨_, rfl, .inl ⟨rfl, _, .inl (.inl hy)⟩, _, rfl, _, _, _, rfl, P2.ob, rfl, _, rfl, _, rfl, _, rfl, p, r, D, ns, u + i, _, _, _, rfl, eu, PA.same sm, hB, by omega, fun q H3 hq sm3 ht => ?_⟩
        refine ⟨_, _, _, rfl, rfl, sm3 _ _ hy, small1000 (by omega), ?_⟩
        refine ⟨_, _, _, rfl, fun b o e => ?_, ?_⟩
        · rw [upd_ne (ne_of_none e hln)]
          exact sm3 _ _ (sm _ _ e)
        · rw [hsn, es]
          exact LoT.snoc (hL.same sm3) (sm3 _ _ hy) ht
      · have e : ¬ _ := fun z => e (decide_eq_true z)
        have es : segOf D ns f1 l (u + i) = none := by
          unfold segOf
          dsimp only
          rw [if_neg e]
        refine ⟨_, _, _, rfl, sm, ?_⟩
        rw [hsn, es, List.append_nil]
        exact hL
    · rintro σ H2 ⟨v4, v5, v6, rfl, sm, hL⟩
      refine ⟨_, rfl, k ln H2 hln sm ?_⟩
      rw [show ((v : Int) + 1 - (u : Int)).toNat = v + 1 - u by omega] at hL
      exact hL
theorem sc_Path_place : FnScope ["self", "progress", "index", "x", "y"] ["self", "progress"] (defScope s_Path_place) := ⟨rfl, rfl, rfl, by decide +kernel, rfl, by decide +kernel, by decide +kernel⟩
theorem ok_Path_place {f : Addr} {fd : FuncData} {C : Addr} (F : Fun K "place" "Path.place" s_Path_place f fd) (T : TxtA mg) (Y : PathY K mg C)
    (M_leg_at : MDef P w K mg base 1 C "leg_at" ["self", "progress"] (spLegAt C))
    (M_point : MDef P w K mg base 1 C "_point" ["self", "index", "progress"] (spPoint C)) : FnOk P w K mg base CX0 2 f fd ["self", "progress"] (spPlace C) := by
  refine F.ok sc_Path_place (fun vs H Q E h => ?_) (fun cdv A outer s H vs Q E hr h => ?_)
  · obtain ⟨_, _, _, _, _, rfl, _⟩ := h
    rfl
  · obtain ⟨p, r, D, ns, x, rfl, PA, hB, n2, n20, k⟩ := h
    refine ⟨_, (pss_cons (ps_set (i := 2) sc_Path_place.nd rfl (Or.inl rfl) (pe_mdef M_leg_at Y.cl (hr.mono (by decide)) (pv 0) (pa_cons (pv 1) pa_nil)))
    (pss_cons (ps_asg (pe_mdef M_point Y.cl (hr.mono (by decide)) (pv 0) (pa_cons (pv 2) (pa_cons (pv 1) pa_nil))) (pg_tup (by rfl) (pgs_cons (pg_name (i := 3) sc_Path_place.nd rfl (Or.inl rfl)) (pgs_cons (pg_name (i := 4) sc_Path_place.nd rfl (Or.inl rfl)) pgs_nil))))
    (pss_one (ps_ret (pe_tup (pa_cons (pv 3) (pa_cons (pv 4) (pa_cons (pe_ix (r := rIxT K) ix_tup (pe_ix (r := rIxL K) ix_list (pe_fld (pv 0) rfl) (pv 2) (fun _ _ => rfl)) pe_int (fun _ _ => rfl)) pa_nil)))))))), ?_⟩
    obtain ⟨dx, l1, l2, l3, l4, sa, va, P⟩ := id PA
    obtain ⟨a1, b1, c1⟩ := lat_cases D ns (ns.length - 1 - 1) x
    refine ⟨_, rfl, _, _, _, rfl, P.ob, rfl, _, rfl, p, r, D, ns, x, rfl, PA, n2, n20, ?_⟩
    generalize hu : lat D ns (ns.length - 1 - 1) x = u at *
    refine ⟨_, rfl, _, _, _, rfl, P.ob, rfl, _, rfl, _, rfl, p, r, D, ns, u, _, _, rfl, rfl, PA, hB, by omega, fun q1 H1 hq1 sm1 ht1 => ?_⟩
    have P1 := P.same sm1
    have hv : u < va.length := by rw [P.vl]; omega
    refine ⟨_, _, rfl, .inl (.inl ht1), rfl, _, _, rfl, _, _, rfl, rfl, ?_⟩
    refine ⟨_, rfl, _, rfl, _, rfl, _, _, _, _, _, rfl, P1.ob, Y.cl, Y.n4, pf4, _, rfl, _, _, _, _, rfl, rfl, .inl (.inl P1.ve), atI_nat (mapAt hv), _, _, _, .int (D.len (rn ns u) (rn ns (u + 1))), rfl, rfl, .inl (.inl (P1.vx u hv)), rfl, szOk rfl, fun q hq => ?_⟩
    exact k q _ (sm1.free hq) (fun b o e => same_new hq _ _ (sm1 _ _ e)) upd_same
theorem sc_Path_piece : FnScope ["self", "low", "high", "first", "last", "index"] ["self", "low", "high"] (defScope s_Path_piece) := ⟨rfl, rfl, rfl, by decide +kernel, rfl, by decide +kernel, by decide +kernel⟩
theorem ok_Path_piece {f : Addr} {fd : FuncData} {C : Addr} (F : Fun K "piece" "Path.piece" s_Path_piece f fd) (T : TxtA mg) (Y : PathY K mg C)
    (M_total : MDef P w K mg base 1 C "total" ["self"] (spTotal C))
    (M_leg_at : MDef P w K mg base 1 C "leg_at" ["self", "progress"] (spLegAt C))
    (M_segments : MDef P w K mg base 3 C "_segments" ["self", "first", "last"] (spSegs C))
    (M_segment : MDef P w K mg base 2 C "_segment" ["self", "index", "start", "end"] (spSeg C)) : FnOk P w K mg base CX0 4 f fd ["self", "low", "high"] (spPiece C) := by
  refine F.ok sc_Path_piece (fun vs H Q E h => ?_) (fun cdv A outer s H vs Q E hr h => ?_)
  · obtain ⟨_, _, _, _, _, _, rfl, _⟩ := h
    rfl
  · obtain ⟨p, r, D, ns, lo0, hi0, rfl, PA, hB, n2, n20, hlh, k⟩ := h
    refine ⟨_, (pss_cons (ps_if (PW.pt (pw_or (pt_cmpR op_lt (pv 2) pe_int (nomark _)) (pw_or1 (pt_cmpR op_ge (pv 1) (pe_mdef0 M_total Y.cl (hr.mono (by decide)) (pv 0)) (nomark _))))) (pss_one (ps_ret (pe_lst pa_nil)))
      pss_nil)
    (pss_cons (ps_set (i := 3) sc_Path_piece.nd rfl (Or.inl rfl) (pe_callB (call_max2 rfl) (by rfl) T.max boot_max (pa_cons (pv 1) (pa_cons pe_int pa_nil))))
    (pss_cons (ps_set (i := 4) sc_Path_piece.nd rfl (Or.inl rfl) (pe_callB (call_min2 rfl) (by rfl) T.min boot_min (pa_cons (pv 2) (pa_cons (pe_mdef0 M_total Y.cl (hr.mono (by decide)) (pv 0)) pa_nil))))
    (pss_cons (ps_if (pt_cmpR op_eq (pv 3) (pv 4) (nomark _)) (pss_cons (ps_set (i := 5) sc_Path_piece.nd rfl (Or.inl rfl) (pe_mdef M_leg_at Y.cl (hr.mono (by decide)) (pv 0) (pa_cons (pv 3) pa_nil)))
    (pss_one (ps_ret (pe_lst (pa_cons (pe_mdef M_segment Y.cl (hr.mono (by decide)) (pv 0) (pa_cons (pv 5) (pa_cons (pv 3) (pa_cons (pv 3) pa_nil)))) pa_nil)))))
      pss_nil)
    (pss_one (ps_ret (pe_mdef M_segments Y.cl (hr.mono (by decide)) (pv 0) (pa_cons (pv 3) (pa_cons (pv 4) pa_nil))))))))), ?_⟩
    obtain ⟨dx, l1, l2, l3, l4, sa, va, P⟩ := id PA
    have nl0 : ∀ H' : Hp, ∀ q, H q = none → H' = upd H q (.lst []) → (hi0 < 0 ∨ bg D ns (ns.length - 1) ≤ lo0) → Q (.ref q) H' := fun H' q hq e h => by
      subst e
      refine k q _ hq (same_new hq) ?_
      unfold pcs
      dsimp only
      rw [if_pos h]
      exact LoT.nil upd_same
    refine ⟨_, rfl, _, _, rfl, rfl, _, rfl, ite2 (fun e => ?_) (fun e => ?_)⟩
    · have e := of_decide_eq_true e
      exact ⟨szOk rfl, fun q hq => nl0 _ q hq rfl (.inl e)⟩
    · have e : ¬ hi0 < 0 := fun z => e (decide_eq_true z)
      refine ⟨_, rfl, _, rfl, _, _, _, rfl, P.ob, rfl, p, r, dx, l1, l2, l3, l4, D, ns, _, rfl, P.ob, P.bgn, _, _, rfl, rfl, _, rfl, ite2 (fun e2 => ?_) (fun e2 => ?_)⟩
      · have e2 := of_decide_eq_true e2
        exact ⟨szOk rfl, fun q hq => nl0 _ q hq rfl (.inr e2)⟩
      · have e2 : ¬ bg D ns (ns.length - 1) ≤ lo0 := fun z => e2 (decide_eq_true z)
        have hpc : pcs D ns lo0 hi0 = if (if 0 > lo0 then 0 else lo0) = (if bg D ns (ns.length - 1) < hi0 then bg D ns (ns.length - 1) else hi0) then [seg D ns (lat D ns (ns.length - 1 - 1) (if 0 > lo0 then 0 else lo0)) (if 0 > lo0 then 0 else lo0) (if 0 > lo0 then 0 else lo0)] else segsOf D ns (if 0 > lo0 then 0 else lo0) (if bg D ns (ns.length - 1) < hi0 then bg D ns (ns.length - 1) else hi0) (List.range (ns.length - 1)) := by
          unfold pcs
          dsimp only
          rw [if_neg (by omega)]
        rw [hpc] at k
        refine ⟨_, rfl, _, _, rfl, ?_⟩
        refine ⟨_, rfl, _, rfl, _, _, _, rfl, P.ob, rfl, p, r, dx, l1, l2, l3, l4, D, ns, _, rfl, P.ob, P.bgn, _, _, rfl, ?_⟩
        have hfl : (if 0 > lo0 then 0 else lo0) ≤ (if bg D ns (ns.length - 1) < hi0 then bg D ns (ns.length - 1) else hi0) := by
          have := bg_nn D ns (ns.length - 1)
          split <;> split <;> omega
        refine nm ?_
        dsimp only
        generalize (if 0 > lo0 then 0 else lo0) = f1 at *
        generalize (if bg D ns (ns.length - 1) < hi0 then bg D ns (ns.length - 1) else hi0) = l at *
        obtain ⟨a1, b1, c1⟩ := lat_cases D ns (ns.length - 1 - 1) f1
        refine ⟨_, rfl, _, rfl, rfl, _, rfl, ite2 (fun e3 => ?_) (fun e3 => ?_)⟩
        · have e3 := V.int.inj (of_decide_eq_true e3)
          rw [if_pos e3] at k
          refine ⟨_, rfl, _, _, _, rfl, P.ob, rfl, _, rfl, p, r, D, ns, f1, rfl, PA, n2, n20, ?_⟩
          generalize hu : lat D ns (ns.length - 1 - 1) f1 = u at *
          refine ⟨_, rfl, _, _, _, rfl, P.ob, rfl, _, rfl, _, rfl, _, rfl, p, r, D, ns, u, _, _, _, rfl, rfl, PA, hB, by omega, fun q1 H1 hq1 sm1 ht1 => ?_⟩
          refine ⟨szOk rfl, fun q hq => ?_⟩
          refine k q _ (sm1.free hq) (fun b o e => same_new hq _ _ (sm1 _ _ e)) ?_
          exact ⟨[(q1, _)], upd_same, fun z hz => by rw [List.mem_singleton.mp hz]; exact same_new hq _ _ ht1, rfl⟩
        · have e3 : ¬ f1 = l := fun z => e3 (decide_eq_true (congrArg V.int z))
          rw [if_neg e3] at k
          exact ⟨_, rfl, _, _, _, rfl, P.ob, rfl, _, rfl, _, rfl, p, r, D, ns, f1, l, rfl, PA, hB, n2, n20, hfl, k⟩
theorem sc_Path__join : FnScope ["self", "chart", "start", "end", "ax", "ay", "bx", "by", "length"] ["self", "chart", "start", "end"] (defScope s_Path__join) := ⟨rfl, rfl, rfl, by decide +kernel, rfl, by decide +kernel, by decide +kernel⟩
theorem ok_Path__join {f : Addr} {fd : FuncData} {C : Addr} (F : Fun K "_join" "Path._join" s_Path__join f fd) (T : TxtA mg) (Y : PathY K mg C)
    (D_leg_length : Def P w K mg base 3 "leg_length" ["chart", "start", "end"] (spLegLen))
    (D_leg_between : Def P w K mg base 1 "leg_between" ["chart", "start", "end"] (spLegBt))
    (M_total : MDef P w K mg base 1 C "total" ["self"] (spTotal C)) : FnOk P w K mg base CX0 4 f fd ["self", "chart", "start", "end"] (spJoin C) := by
  refine F.ok sc_Path__join (fun vs H Q E h => ?_) (fun cdv A outer s H vs Q E hr h => ?_)
  · obtain ⟨_, _, _, _, _, _, _, _, _, _, _, _, _, rfl, _⟩ := h
    rfl
  · obtain ⟨p, ch, r, dx, l1, l2, l3, l4, D, ns, i, sa, va, rfl, C0, P, hlg, hi, k⟩ := h
    have hu := hu_of hr
    refine ⟨_, (pss_cons (ps_asg (pe_dget hu (pe_dget hu (pv 1) pe_str (fun _ _ => rfl)) (pv 2) (fun _ _ => rfl)) (pg_tup (by rfl) (pgs_cons (pg_name (i := 4) sc_Path__join.nd rfl (Or.inl rfl)) (pgs_cons (pg_name (i := 5) sc_Path__join.nd rfl (Or.inl rfl)) pgs_nil))))
    (pss_cons (ps_asg (pe_dget hu (pe_dget hu (pv 1) pe_str (fun _ _ => rfl)) (pv 3) (fun _ _ => rfl)) (pg_tup (by rfl) (pgs_cons (pg_name (i := 6) sc_Path__join.nd rfl (Or.inl rfl)) (pgs_cons (pg_name (i := 7) sc_Path__join.nd rfl (Or.inl rfl)) pgs_nil))))
    (pss_cons (ps_set (i := 8) sc_Path__join.nd rfl (Or.inl rfl) (pe_def D_leg_length (hr.mono (by decide)) (by rfl) (pa_cons (pv 1) (pa_cons (pv 2) (pa_cons (pv 3) pa_nil)))))
    (pss_cons (ps_expr (pe_bm PySem.F.plainAttrs_list PySem.F.slot_list_append PySem.F.type_list_append mt_append (pe_fld (pv 0) rfl) (pa_cons (pe_def D_leg_between (hr.mono (by decide)) (by rfl) (pa_cons (pv 1) (pa_cons (pv 2) (pa_cons (pv 3) pa_nil)))) pa_nil)))
    (pss_cons (ps_expr (pe_bm PySem.F.plainAttrs_list PySem.F.slot_list_append PySem.F.type_list_append mt_append (pe_fld (pv 0) rfl) (pa_cons (pe_tup (pa_cons (pv 4) (pa_cons (pv 5) pa_nil))) pa_nil)))
    (pss_cons (ps_expr (pe_bm PySem.F.plainAttrs_list PySem.F.slot_list_append PySem.F.type_list_append mt_append (pe_fld (pv 0) rfl) (pa_cons (pe_tup (pa_cons (pe_op op_sub (pv 6) (pv 4)) (pa_cons (pe_op op_sub (pv 7) (pv 5)) (pa_cons (pv 8) pa_nil)))) pa_nil)))
    (pss_one (ps_expr (pe_bm PySem.F.plainAttrs_list PySem.F.slot_list_append PySem.F.type_list_append mt_append (pe_fld (pv 0) rfl) (pa_cons (pe_op op_add (pe_mdef0 M_total Y.cl (hr.mono (by decide)) (pv 0)) (pv 8)) pa_nil)))))))))), ?_⟩
    obtain ⟨lg, hlg'⟩ := hlg
    obtain ⟨hm, hs, he⟩ := CD.leg_mem hlg'
    obtain ⟨⟨a1, x1, y1, h1⟩, a2, x2, y2, h2⟩ := C0.wf lg hm
    rw [hs] at h1
    rw [he] at h2
    obtain ⟨p1, p2, _⟩ := C0.pf _ _ _ _ h1
    obtain ⟨q1, q2, _⟩ := C0.pf _ _ _ _ h2
    refine ⟨_, rfl, _, _, rfl, C0.gf, _, rfl, _, _, rfl, C0.gp h1, _, _, rfl, .inl (.inl p2), rfl, _, _, rfl, _, _, rfl, rfl, ?_⟩
    refine ⟨_, rfl, _, _, rfl, C0.gf, _, rfl, _, _, rfl, C0.gp h2, _, _, rfl, .inl (.inl q2), rfl, _, _, rfl, _, _, rfl, rfl, ?_⟩
    refine ⟨_, rfl, _, rfl, _, rfl, ch, D, rn ns i, rn ns (i + 1), _, _, _, _, _, _, rfl, C0, h1, h2, ?_⟩
    have npl : ∀ l xs, H l = some (.lst xs) → p ≠ l := fun l xs e => ne_of P.ob e (by intro z; cases z)
    refine ⟨_, rfl, _, _, _, _, _, rfl, P.ob, Y.cl, Y.n2, pf2, .inl ⟨rfl, _, .inl (.inl P.lg)⟩, _, rfl, _, rfl, _, rfl, ch, D, rn ns i, rn ns (i + 1), rfl, C0, ?_⟩
    refine ⟨_, _, _, rfl, rfl, P.lg, small1000 (by rw [List.length_map, List.length_range]; omega), ?_⟩
    -- starts
    have ob1 : ∀ o, (upd H l1 o) p = some (.ins C dx (pfl r l1 l2 l3 l4)) := fun o => by rw [upd_ne (npl _ _ P.lg)]; exact P.ob
    have st1 : ∀ o, (upd H l1 o) l2 = some (.lst (sa.map V.ref)) := fun o => by rw [upd_ne P.d12.symm]; exact P.st
    refine ⟨_, rfl, _, _, _, _, _, rfl, ob1 _, Y.cl, Y.n3, pf3, .inl ⟨rfl, _, .inl (.inl (st1 _))⟩, _, rfl, _, rfl, szOk rfl, fun t1 ht1 => ?_⟩
    have hH1 : ∀ b, (upd H l1 (.lst ((List.range i).map (fun j => optL (D.leg (rn ns j) (rn ns (j + 1)))) ++ [optL (D.leg (rn ns i) (rn ns (i + 1)))]))) b = none → H b = none := fun b e => by
      by_cases w : b = l1
      · rw [w, upd_same] at e; cases e
      · rw [upd_ne w] at e; exact e
    have n1H : H t1 = none := hH1 _ ht1
    refine ⟨_, _, _, rfl, rfl, same_new ht1 _ _ (st1 _), small1000 (by rw [List.length_map, P.sl]; omega), ?_⟩
    generalize hA : upd H l1 (.lst ((List.range i).map (fun j => optL (D.leg (rn ns j) (rn ns (j + 1)))) ++ [optL (D.leg (rn ns i) (rn ns (i + 1)))])) = HA at ht1 ⊢
    generalize hB : upd (upd HA t1 (.tup [.int x1, .int y1])) l2 (.lst (sa.map V.ref ++ [.ref t1])) = HB
    have fB : ∀ b o, H b = some o → b ≠ l1 → b ≠ l2 → HB b = some o := fun b o e m1 m2 => by
      rw [← hB, upd_ne m2]
      refine same_new ht1 _ _ ?_
      rw [← hA, upd_ne m1]
      exact e
    have B1 : HB l1 = some (.lst ((List.range (i + 1)).map fun j => optL (D.leg (rn ns j) (rn ns (j + 1))))) := by
      rw [← hB, upd_ne P.d12]
      refine same_new ht1 _ _ ?_
      rw [← hA, upd_same, List.range_succ, List.map_append]
      rfl
    have B2 : HB l2 = some (.lst ((sa ++ [t1]).map V.ref)) := by rw [← hB, upd_same, List.map_append]; rfl
    have Bt : HB t1 = some (.tup [.int x1, .int y1]) := by
      rw [← hB, upd_ne (fun w => by rw [w, P.st] at n1H; cases n1H), upd_same]
    -- vectors
    have obB := fB _ _ P.ob (npl _ _ P.lg) (npl _ _ P.st)
    have veB := fB _ _ P.ve P.d13.symm P.d23.symm
    have bgB := fB _ _ P.bgn P.d14.symm P.d24.symm
    refine ⟨_, rfl, _, _, _, _, _, rfl, obB, Y.cl, Y.n4, pf4, .inl ⟨rfl, _, .inl (.inl veB)⟩, _, rfl, _, rfl, _, _, rfl, rfl, _, rfl, _, rfl, _, _, rfl, rfl, _, rfl, szOk rfl, fun t2 ht2 => ?_⟩
    refine ⟨_, _, _, rfl, rfl, same_new ht2 _ _ veB, small1000 (by rw [List.length_map, P.vl]; omega), ?_⟩
    generalize hE : upd (upd HB t2 (.tup [.int (x2 - x1), .int (y2 - y1), .int (D.len (rn ns i) (rn ns (i + 1)))])) l3 (.lst (va.map V.ref ++ [.ref t2])) = HE
    have fE : ∀ b o, HB b = some o → b ≠ l3 → HE b = some o := fun b o e m => by
      rw [← hE, upd_ne m]
      exact same_new ht2 _ _ e
    have E3 : HE l3 = some (.lst ((va ++ [t2]).map V.ref)) := by rw [← hE, upd_same, List.map_append]; rfl
    have Et : HE t2 = some (.tup [.int (x2 - x1), .int (y2 - y1), .int (D.len (rn ns i) (rn ns (i + 1)))]) := by
      rw [← hE, upd_ne (fun w => by rw [w, veB] at ht2; cases ht2), upd_same]
    have obE := fE _ _ obB (npl _ _ P.ve)
    have bgE := fE _ _ bgB P.d34.symm
    -- begins
    refine ⟨_, rfl, _, _, _, _, _, rfl, obE, Y.cl, Y.n5, pf5, .inl ⟨rfl, _, .inl (.inl bgE)⟩, _, rfl, _, _, _, rfl, obE, rfl, p, r, dx, l1, l2, l3, l4, D, ns, i, rfl, obE, bgE, _, rfl, _, _, rfl, rfl, ?_⟩
    refine ⟨_, _, _, rfl, rfl, bgE, small1000 (by rw [List.length_map, List.length_range]; omega), ?_⟩
    generalize hG : upd HE l4 (.lst ((List.range (i + 1)).map (fun j => V.int (bg D ns j)) ++ [.int (bg D ns i + D.len (rn ns i) (rn ns (i + 1)))])) = HG
    have fG : ∀ b o, HE b = some o → b ≠ l4 → HG b = some o := fun b o e m => by
      rw [← hG, upd_ne m]
      exact e
    have G4 : HG l4 = some (.lst ((List.range (i + 1 + 1)).map fun j => V.int (bg D ns j))) := by
      rw [← hG, upd_same, List.range_succ (n := i + 1), List.map_append]
      rfl
    have tup3 : ∀ b xs, HB b = some (.tup xs) → HG b = some (.tup xs) := fun b xs e => fG _ _ (fE _ _ e (ne_of e veB (by intro z; cases z))) (ne_of e bgB (by intro z; cases z))
    have tup0 : ∀ b xs, H b = some (.tup xs) → HG b = some (.tup xs) := fun b xs e => tup3 _ _ (fB _ _ e (ne_of e P.lg (by intro z; cases z)) (ne_of e P.st (by intro z; cases z)))
    refine k t1 t2 HG ⟨fG _ _ obE (npl _ _ P.bgn), tup0 _ _ P.rt, fG _ _ (fE _ _ B1 P.d13) P.d14, fG _ _ (fE _ _ B2 P.d23) P.d24, fG _ _ E3 P.d34, G4, by rw [List.length_append, P.sl]; rfl, by rw [List.length_append, P.vl]; rfl, fun j hj => ?_, fun j hj => ?_, P.d12, P.d13, P.d14, P.d23, P.d24, P.d34⟩ fun b o e m1 m2 m3 m4 => fG _ _ (fE _ _ (fB _ _ e m1 m2) m3) m4
    · by_cases w : j < sa.length
      · rw [List.getElem_append_left w]
        exact tup0 _ _ (P.sx j w)
      · rw [List.length_append, List.length_singleton] at hj
        have ej : j = sa.length := by omega
        subst ej
        have e : (sa ++ [t1])[sa.length] = t1 := by simp
        rw [e, P.sl, CD.xy_eq h1]
        exact tup3 _ _ Bt
    · by_cases w : j < va.length
      · rw [List.getElem_append_left w]
        exact tup0 _ _ (P.vx j w)
      · rw [List.length_append, List.length_singleton] at hj
        have ej : j = va.length := by omega
        subst ej
        have e : (va ++ [t2])[va.length] = t2 := by simp
        rw [e, P.vl, CD.xy_eq h1, CD.xy_eq h2]
        exact fG _ _ Et (ne_of Et bgE (by intro z; cases z))
theorem sc_Path___init__ : FnScope ["self", "chart", "route", "index"] ["self", "chart", "route"] (defScope s_Path___init__) := ⟨rfl, rfl, rfl, by decide +kernel, rfl, by decide +kernel, by decide +kernel⟩
theorem ok_Path___init__ {f : Addr} {fd : FuncData} {C : Addr} (F : Fun K "__init__" "Path.__init__" s_Path___init__ f fd) (T : TxtA mg) (Y : PathY K mg C)
    (M_join : MDef P w K mg base 4 C "_join" ["self", "chart", "start", "end"] (spJoin C)) : FnOk P w K mg base CX0 5 f fd ["self", "chart", "route"] (spPInit C) := by
  refine F.ok sc_Path___init__ (fun vs H Q E h => ?_) (fun cdv A outer s H vs Q E hr h => ?_)
  · obtain ⟨_, _, _, _, _, _, rfl, _⟩ := h
    rfl
  · obtain ⟨p, ch, r, dx, D, ns, rfl, hp, C0, hr0, R, k⟩ := h
    refine ⟨_, (pss_cons (ps_fld (pv 0) (pv 2) rfl)
    (pss_cons (ps_fld (pv 0) (pe_lst pa_nil) rfl)
    (pss_cons (ps_fld (pv 0) (pe_lst pa_nil) rfl)
    (pss_cons (ps_fld (pv 0) (pe_lst pa_nil) rfl)
    (pss_cons (ps_fld (pv 0) (pe_lst (pa_cons pe_int pa_nil)) rfl)
    (pss_one (ps_for PassesOwn.never rfl (pi_range1 (by rfl) T.range (pa_cons (pe_op op_sub (pe_callB (r := rLenK K) call_len_seq (by rfl) T.len boot_len (pa_cons (pv 2) pa_nil)) pe_int) pa_nil)) (pg_name (i := 3) sc_Path___init__.nd rfl (Or.inl rfl))
      (pss_one (ps_expr (pe_mdef M_join Y.cl (hr.mono (by decide)) (pv 0) (pa_cons (pv 1) (pa_cons (pe_ix (r := rIxT K) ix_tup (pv 2) (pv 3) (fun _ _ => rfl)) (pa_cons (pe_ix (r := rIxT K) ix_tup (pv 2) (pe_op op_add (pv 3) pe_int) (fun _ _ => rfl)) pa_nil))))))))))))), ?_⟩
    have pr : p ≠ r := ne_of hp hr0 (by intro z; cases z)
    refine ⟨_, rfl, _, rfl, p, C, dx, [], rfl, hp, Y.cl, Y.n1, (by show 0 < 1000; decide), ?_⟩
    refine ⟨szOk rfl, fun l1 hl1 => ⟨_, rfl, p, C, dx, _, rfl, same_new hl1 _ _ upd_same, Y.cl, Y.n2, (by show 1 < 1000; decide), ?_⟩⟩
    refine ⟨szOk rfl, fun l2 hl2 => ⟨_, rfl, p, C, dx, _, rfl, same_new hl2 _ _ upd_same, Y.cl, Y.n3, (by show 2 < 1000; decide), ?_⟩⟩
    refine ⟨szOk rfl, fun l3 hl3 => ⟨_, rfl, p, C, dx, _, rfl, same_new hl3 _ _ upd_same, Y.cl, Y.n4, (by show 3 < 1000; decide), ?_⟩⟩
    refine ⟨szOk rfl, fun l4 hl4 => ⟨_, rfl, p, C, dx, _, rfl, same_new hl4 _ _ upd_same, Y.cl, Y.n5, (by show 4 < 1000; decide), ?_⟩⟩
    have np : ∀ (Hx : Hp) l o, (upd Hx p o) l = none → p ≠ l ∧ Hx l = none := fun Hx l o e => by
      have w : p ≠ l := fun w => by rw [← w, upd_same] at e; cases e
      exact ⟨w, by rw [upd_ne w.symm] at e; exact e⟩
    obtain ⟨m1, e1⟩ := np _ _ _ hl1
    obtain ⟨m2, e2⟩ := np _ _ _ hl2
    obtain ⟨m3, e3⟩ := np _ _ _ hl3
    obtain ⟨m4, e4⟩ := np _ _ _ hl4
    have nn : ∀ (Hx : Hp) l o b, (upd Hx l o) b = none → b ≠ l ∧ Hx b = none := fun Hx l o b e => by
      have w : b ≠ l := fun w => by rw [w, upd_same] at e; cases e
      exact ⟨w, by rw [upd_ne w] at e; exact e⟩
    obtain ⟨d12, e2a⟩ := nn _ _ _ _ e2
    obtain ⟨d23, e3a⟩ := nn _ _ _ _ e3
    obtain ⟨_, e3b⟩ := np _ _ _ e3a
    obtain ⟨d13, e3c⟩ := nn _ _ _ _ e3b
    obtain ⟨d34, e4a⟩ := nn _ _ _ _ e4
    obtain ⟨_, e4b⟩ := np _ _ _ e4a
    obtain ⟨d24, e4c⟩ := nn _ _ _ _ e4b
    obtain ⟨_, e4d⟩ := np _ _ _ e4c
    obtain ⟨d14, e4e⟩ := nn _ _ _ _ e4d
    obtain ⟨_, f2⟩ := np _ _ _ e2a
    obtain ⟨_, f3⟩ := np _ _ _ e3c
    obtain ⟨_, f4⟩ := np _ _ _ e4e
    generalize hG : upd (upd (upd (upd (upd (upd (upd (upd (upd H p _) l1 _) p _) l2 _) p _) l3 _) p _) l4 _) p _ = HG
    have fr : ∀ b o, H b = some o → b ≠ p → HG b = some o := fun b o e n => by
      rw [← hG, upd_ne n, upd_ne (ne_of_none e f4), upd_ne n, upd_ne (ne_of_none e f3), upd_ne n, upd_ne (ne_of_none e f2), upd_ne n, upd_ne (ne_of_none e e1), upd_ne n]
      exact e
    have g1 : HG l1 = some (.lst []) := by rw [← hG, upd_ne m1.symm, upd_ne d14.symm, upd_ne m1.symm, upd_ne d13.symm, upd_ne m1.symm, upd_ne d12.symm, upd_ne m1.symm, upd_same]
    have g2 : HG l2 = some (.lst []) := by rw [← hG, upd_ne m2.symm, upd_ne d24.symm, upd_ne m2.symm, upd_ne d23.symm, upd_ne m2.symm, upd_same]
    have g3 : HG l3 = some (.lst []) := by rw [← hG, upd_ne m3.symm, upd_ne d34.symm, upd_ne m3.symm, upd_same]
    have g4 : HG l4 = some (.lst [.int 0]) := by rw [← hG, upd_ne m4.symm, upd_same]
    have gp : HG p = some (.ins C dx (pfl r l1 l2 l3 l4)) := by rw [← hG, upd_same]; rfl
    have P0 : PathP C HG p D ns r 0 dx l1 l2 l3 l4 [] [] := ⟨gp, fr _ _ hr0 pr.symm, g1, g2, g3, g4, rfl, rfl, (fun j h => by simp at h), (fun j h => by simp at h), d12.symm, d13.symm, d14.symm, d23.symm, d24.symm, d34.symm⟩
    refine ⟨_, rfl, _, _, rfl, .inr (.inl (.inl P0.rt)), _, _, rfl, rfl, ?_⟩
    refine ⟨_, rfl, by rw [List.length_map]; have := R.n2; omega, by rw [List.length_map]; have := R.n20; omega, for_range (n := (((ns.map V.str).length : Int) - 1).toNat) (fun i σ H2 => ∃ sa va v3, σ = [some (.ref p), some (.ref ch), some (.ref r), v3] ∧ PathP C H2 p D ns r i dx l1 l2 l3 l4 sa va ∧ ∀ b o, H b = some o → b ≠ p → H2 b = some o)
      ⟨[], [], none, rfl, P0, fr⟩ ?_ ?_⟩
    · rintro i σ H2 hi ⟨sa, va, v3, rfl, P, hk⟩
      have hi : i + 1 < ns.length := by rw [List.length_map] at hi; omega
      have eu : 0 + (i : Int) + 1 = ((i + 1 : Nat) : Int) := by omega
      refine ⟨_, rfl, _, _, _, rfl, P.ob, rfl, _, rfl, _, rfl, _, rfl, _, _, _, _, rfl, rfl, .inl (.inl P.rt), atI0 (rn_at (by omega)), _, rfl, _, rfl, _, _, rfl, rfl, _, _, _, .str (rn ns (i + 1)), rfl, rfl, .inl (.inl P.rt), by rw [eu]; exact atI_nat (rn_at hi), p, ch, r, dx, l1, l2, l3, l4, D, ns, i, sa, va, rfl, C0.fr hp hk, P, R.ch i hi, by have := R.n20; omega, fun s v H' P' fr' => ?_⟩
      exact ⟨_, _, _, rfl, P', fun b o e n => fr' _ _ (hk _ _ e n) (ne_of_none e e1) (ne_of_none e f2) (ne_of_none e f3) (ne_of_none e f4)⟩
    · rintro σ H2 ⟨sa, va, v3, rfl, P, hk⟩
      rw [List.length_map] at P
      rw [show ((ns.length : Int) - 1).toNat = ns.length - 1 by omega] at P
      exact k H2 ⟨_, _, _, _, _, _, _, P⟩ hk
end
end Sk

set_option Elab.async false
set_option linter.all false
set_option maxRecDepth 100000
set_option maxHeartbeats 4000000
namespace Sk
open PySem PySem.Spec PyProof.Rows L2
section
variable {P : Program} {w : World} {K : PySem.W.Frag} {mg : Str → Option Value} {base : Heap}
abbrev s_enlarged : Stmt := top 9
theorem sc_enlarged : FnScope ["segment", "factor", "ax", "ay", "bx", "by", "_"] ["segment", "factor"] (defScope s_enlarged) := ⟨rfl, rfl, rfl, by decide +kernel, rfl, by decide +kernel, by decide +kernel⟩
theorem ok_enlarged {f : Addr} {fd : FuncData} (F : Fun K "_enlarged" "_enlarged" s_enlarged f fd) (T : TxtA mg) : FnOk P w K mg base CX0 1 f fd ["segment", "factor"] (spEnl) := by
  refine F.ok sc_enlarged (fun vs H Q E h => ?_) (fun cdv A outer s H vs Q E hr h => ?_)
  · obtain ⟨a, s, f, rfl, _⟩ := h
    rfl
  · obtain ⟨a, s, f, rfl, ha, hs, hf, k⟩ := h
    refine ⟨_, (pss_cons (ps_asg (pv 0) (pg_tup (by rfl) (pgs_cons (pg_name (i := 2) sc_enlarged.nd rfl (Or.inl rfl)) (pgs_cons (pg_name (i := 3) sc_enlarged.nd rfl (Or.inl rfl)) (pgs_cons (pg_name (i := 4) sc_enlarged.nd rfl (Or.inl rfl)) (pgs_cons (pg_name (i := 5) sc_enlarged.nd rfl (Or.inl rfl)) (pgs_cons (pg_name (i := 6) sc_enlarged.nd rfl (Or.inl rfl)) pgs_nil)))))))
    (pss_one (ps_ret (pe_tup (pa_cons (pe_op op_mulW (pv 2) (pv 1)) (pa_cons (pe_op op_mulW (pv 3) (pv 1)) (pa_cons (pe_op op_mulW (pv 4) (pv 1)) (pa_cons (pe_op op_mulW (pv 5) (pv 1)) pa_nil)))))))), ?_⟩
    refine ⟨_, rfl, _, _, rfl, .inl (.inl ha), rfl, ?_⟩
    refine ⟨_, _, rfl, _, _, rfl, _, _, rfl, _, _, rfl, _, _, rfl, rfl, ?_⟩
    refine ⟨_, rfl, _, rfl, _, _, rfl, rfl, wmB hs.ax hf (by decide) (by decide), _, rfl, _, rfl, _, _, rfl, rfl, wmB hs.ay hf (by decide) (by decide), _, rfl, _, rfl, _, _, rfl, rfl, wmB hs.bx hf (by decide) (by decide), _, rfl, _, rfl, _, _, rfl, rfl, wmB hs.bw hf (by decide) (by decide), szOk rfl, fun p hp => ?_⟩
    exact k p hp

abbrev s_turn : Stmt := top 12
theorem sc_turn : FnScope ["segment", "x", "y", "ax", "ay", "bx", "by"] ["segment", "x", "y"] (defScope s_turn) := ⟨rfl, rfl, rfl, by decide +kernel, rfl, by decide +kernel, by decide +kernel⟩
theorem ok_turn {f : Addr} {fd : FuncData} (F : Fun K "_turn" "_turn" s_turn f fd) (T : TxtA mg) : FnOk P w K mg base CX0 1 f fd ["segment", "x", "y"] (spTurn) := by
  refine F.ok sc_turn (fun vs H Q E h => ?_) (fun cdv A outer s H vs Q E hr h => ?_)
  · obtain ⟨a, ax, ay, bx, bw, x, y, rfl, _⟩ := h
    rfl
  · obtain ⟨a, ax, ay, bx, bw, x, y, rfl, ha, h1, h2, h3, h4, h5, h6, k⟩ := h
    refine ⟨_, (pss_cons (ps_asg (pv 0) (pg_tup (by rfl) (pgs_cons (pg_name (i := 3) sc_turn.nd rfl (Or.inl rfl)) (pgs_cons (pg_name (i := 4) sc_turn.nd rfl (Or.inl rfl)) (pgs_cons (pg_name (i := 5) sc_turn.nd rfl (Or.inl rfl)) (pgs_cons (pg_name (i := 6) sc_turn.nd rfl (Or.inl rfl)) pgs_nil))))))
    (pss_one (ps_ret (pe_op op_sub (pe_op op_mulW (pe_op op_sub (pv 5) (pv 3)) (pe_op op_sub (pv 2) (pv 4))) (pe_op op_mulW (pe_op op_sub (pv 6) (pv 4)) (pe_op op_sub (pv 1) (pv 3))))))), ?_⟩
    refine ⟨_, rfl, _, _, rfl, .inl (.inl ha), rfl, ?_⟩
    refine ⟨_, _, rfl, _, _, rfl, _, _, rfl, _, _, rfl, rfl, ?_⟩
    exact ⟨_, rfl, _, rfl, _, _, rfl, rfl, _, rfl, _, rfl, _, _, rfl, rfl, _, _, rfl, rfl, wmB (h3.sub h1) (h6.sub h2) (by decide) (by decide), _, rfl, _, rfl, _, _, rfl, rfl, _, rfl, _, rfl, _, _, rfl, rfl, _, _, rfl, rfl, wmB (h4.sub h2) (h5.sub h1) (by decide) (by decide), _, _, rfl, rfl, k⟩

abbrev s_parted : Stmt := top 11
theorem sc_parted : FnScope ["segment", "ends"] ["segment", "ends"] (defScope s_parted) := ⟨rfl, rfl, rfl, by decide +kernel, rfl, by decide +kernel, by decide +kernel⟩
theorem ok_parted {f : Addr} {fd : FuncData} (F : Fun K "_parted" "_parted" s_parted f fd) (T : TxtA mg)
    (D_turn : Def P w K mg base 1 "_turn" ["segment", "x", "y"] (spTurn)) : FnOk P w K mg base CX0 2 f fd ["segment", "ends"] (spParted) := by
  refine F.ok sc_parted (fun vs H Q E h => ?_) (fun cdv A outer s H vs Q E hr h => ?_)
  · obtain ⟨a, b, ax, ay, bx, bw, cx, cy, dx, dy, rfl, _⟩ := h
    rfl
  · obtain ⟨a, b, ax, ay, bx, bw, cx, cy, dx, dy, rfl, ha, hb, hz, k⟩ := h
    refine ⟨_, (pss_one (ps_ret (pe_cmpR op_lt (pe_op op_mulW (pe_def D_turn (hr.mono (by decide)) (by rfl) (pa_cons (pv 0) (pa_cons (pe_ix (r := rIxT K) ix_tup (pv 1) pe_int (fun _ _ => rfl)) (pa_cons (pe_ix (r := rIxT K) ix_tup (pv 1) pe_int (fun _ _ => rfl)) pa_nil)))) (pe_def D_turn (hr.mono (by decide)) (by rfl) (pa_cons (pv 0) (pa_cons (pe_ix (r := rIxT K) ix_tup (pv 1) pe_int (fun _ _ => rfl)) (pa_cons (pe_ix (r := rIxT K) ix_tup (pv 1) pe_int (fun _ _ => rfl)) pa_nil))))) pe_int (nomark _)))), ?_⟩
    have B := fun z (m : z ∈ [ax, ay, bx, bw, cx, cy, dx, dy]) => hz z m
    refine ⟨_, rfl, _, rfl, _, _, _, _, rfl, rfl, (.inl (.inl hb)), rfl, _, rfl, _, _, _, _, rfl, rfl, (.inl (.inl hb)), rfl, ?_⟩
    refine ⟨a, ax, ay, bx, bw, cx, cy, rfl, ha, B _ (by simp), B _ (by simp), B _ (by simp), B _ (by simp), B _ (by simp), B _ (by simp), ?_⟩
    refine ⟨_, rfl, _, rfl, _, _, _, _, rfl, rfl, (.inl (.inl hb)), rfl, _, rfl, _, _, _, _, rfl, rfl, (.inl (.inl hb)), rfl, ?_⟩
    refine ⟨a, ax, ay, bx, bw, dx, dy, rfl, ha, B _ (by simp), B _ (by simp), B _ (by simp), B _ (by simp), B _ (by simp), B _ (by simp), ?_⟩
    have tb : ∀ x y, BdN 300 x → BdN 300 y → BdN 603 (trn ax ay bx bw x y) := fun x y h5 h6 => (((B bx (by simp)).sub (B ax (by simp))).mul (h6.sub (B ay (by simp)))).sub (((B bw (by simp)).sub (B ay (by simp))).mul (h5.sub (B ax (by simp))))
    exact ⟨_, _, rfl, rfl, wmB (tb _ _ (B _ (by simp)) (B _ (by simp))) (tb _ _ (B _ (by simp)) (B _ (by simp))) (by decide) (by decide), _, _, rfl, rfl, k⟩

abbrev s_cross : Stmt := top 10
theorem sc_cross : FnScope ["first", "second"] ["first", "second"] (defScope s_cross) := ⟨rfl, rfl, rfl, by decide +kernel, rfl, by decide +kernel, by decide +kernel⟩
theorem ok_cross {f : Addr} {fd : FuncData} (F : Fun K "_cross" "_cross" s_cross f fd) (T : TxtA mg)
    (D_parted : Def P w K mg base 2 "_parted" ["segment", "ends"] (spParted)) : FnOk P w K mg base CX0 3 f fd ["first", "second"] (spCross) := by
  refine F.ok sc_cross (fun vs H Q E h => ?_) (fun cdv A outer s H vs Q E hr h => ?_)
  · obtain ⟨a, b, ax, ay, bx, bw, cx, cy, dx, dy, rfl, _⟩ := h
    rfl
  · obtain ⟨a, b, ax, ay, bx, bw, cx, cy, dx, dy, rfl, ha, hb, hz, k⟩ := h
    refine ⟨_, (pss_one (ps_ret (pe_and (pe_def D_parted (hr.mono (by decide)) (by rfl) (pa_cons (pv 0) (pa_cons (pv 1) pa_nil))) (pe_one (pe_def D_parted (hr.mono (by decide)) (by rfl) (pa_cons (pv 1) (pa_cons (pv 0) pa_nil))))))), ?_⟩
    refine ⟨_, rfl, _, rfl, a, b, ax, ay, bx, bw, cx, cy, dx, dy, rfl, ha, hb, hz, _, rfl, ?_⟩
    have k : Q (.bl (decide (trn ax ay bx bw cx cy * trn ax ay bx bw dx dy < 0) && decide (trn cx cy dx dy ax ay * trn cx cy dx dy bx bw < 0))) H := k
    by_cases c : trn ax ay bx bw cx cy * trn ax ay bx bw dx dy < 0
    · rw [decide_eq_true c] at k ⊢
      refine iteT ⟨_, rfl, _, rfl, b, a, cx, cy, dx, dy, ax, ay, bx, bw, rfl, hb, ha, (fun z m => hz z ?_), ?_⟩
      · simp only [List.mem_cons, List.not_mem_nil, or_false] at m ⊢
        rcases m with m | m | m | m | m | m | m | m <;> simp [m]
      · rw [Bool.true_and] at k
        exact k
    · rw [decide_eq_false c] at k ⊢
      exact iteF k

abbrev s_square : Stmt := top 13
theorem sc_square : FnScope ["x", "y", "segment", "ax", "ay", "bx", "by", "dx", "dy", "along", "length", "aside"] ["x", "y", "segment"] (defScope s_square) := ⟨rfl, rfl, rfl, by decide +kernel, rfl, by decide +kernel, by decide +kernel⟩
theorem ok_square {f : Addr} {fd : FuncData} (F : Fun K "_square" "_square" s_square f fd) (T : TxtA mg)
    (D_turn : Def P w K mg base 1 "_turn" ["segment", "x", "y"] (spTurn)) : FnOk P w K mg base CX0 2 f fd ["x", "y", "segment"] (spSquare) := by
  refine F.ok sc_square (fun vs H Q E h => ?_) (fun cdv A outer s H vs Q E hr h => ?_)
  · obtain ⟨a, ax, ay, bx, bw, x, y, rfl, _⟩ := h
    rfl
  · obtain ⟨a, ax, ay, bx, bw, x, y, rfl, ha, h1, h2, h3, h4, h5, h6, k⟩ := h
    refine ⟨_, (pss_cons (ps_asg (pv 2) (pg_tup (by rfl) (pgs_cons (pg_name (i := 3) sc_square.nd rfl (Or.inl rfl)) (pgs_cons (pg_name (i := 4) sc_square.nd rfl (Or.inl rfl)) (pgs_cons (pg_name (i := 5) sc_square.nd rfl (Or.inl rfl)) (pgs_cons (pg_name (i := 6) sc_square.nd rfl (Or.inl rfl)) pgs_nil))))))
    (pss_cons (ps_par (i := 7) (j := 8) (by rfl) sc_square.nd rfl rfl (by decide) rfl rfl (pa_cons (pe_op op_sub (pv 5) (pv 3)) (pa_cons (pe_op op_sub (pv 6) (pv 4)) pa_nil)) (by rfl))
    (pss_cons (ps_set (i := 9) sc_square.nd rfl (Or.inl rfl) (pe_op op_add (pe_op op_mulW (pe_op op_sub (pv 0) (pv 3)) (pv 7)) (pe_op op_mulW (pe_op op_sub (pv 1) (pv 4)) (pv 8))))
    (pss_cons (ps_set (i := 10) sc_square.nd rfl (Or.inl rfl) (pe_op op_add (pe_op op_mulW (pv 7) (pv 7)) (pe_op op_mulW (pv 8) (pv 8))))
    (pss_cons (ps_if (pt_cmpR op_le (pv 9) pe_int (nomark _)) (pss_one (ps_ret (pe_tup (pa_cons (pe_op op_add (pe_op op_mulW (pe_op op_sub (pv 0) (pv 3)) (pe_op op_sub (pv 0) (pv 3))) (pe_op op_mulW (pe_op op_sub (pv 1) (pv 4)) (pe_op op_sub (pv 1) (pv 4)))) (pa_cons pe_int pa_nil)))))
      pss_nil)
    (pss_cons (ps_if (pt_cmpR op_ge (pv 9) (pv 10) (nomark _)) (pss_one (ps_ret (pe_tup (pa_cons (pe_op op_add (pe_op op_mulW (pe_op op_sub (pv 0) (pv 5)) (pe_op op_sub (pv 0) (pv 5))) (pe_op op_mulW (pe_op op_sub (pv 1) (pv 6)) (pe_op op_sub (pv 1) (pv 6)))) (pa_cons pe_int pa_nil)))))
      pss_nil)
    (pss_cons (ps_set (i := 11) sc_square.nd rfl (Or.inl rfl) (pe_def D_turn (hr.mono (by decide)) (by rfl) (pa_cons (pv 2) (pa_cons (pv 0) (pa_cons (pv 1) pa_nil)))))
    (pss_one (ps_ret (pe_tup (pa_cons (pe_op op_mulW (pv 11) (pv 11)) (pa_cons (pv 10) pa_nil)))))))))))), ?_⟩
    refine ⟨_, rfl, _, _, rfl, .inl (.inl ha), rfl, ?_⟩
    refine ⟨_, _, rfl, _, _, rfl, _, _, rfl, _, _, rfl, rfl, ?_⟩
    refine ⟨_, rfl, _, rfl, _, _, rfl, rfl, _, rfl, _, rfl, _, _, rfl, rfl, _, _, rfl, ?_⟩
    refine ⟨_, rfl, _, rfl, _, _, rfl, rfl, _, rfl, _, _, rfl, rfl, wmB (h5.sub h1) (h3.sub h1) (by decide) (by decide), _, rfl, _, rfl, _, _, rfl, rfl, _, rfl, _, _, rfl, rfl, wmB (h6.sub h2) (h4.sub h2) (by decide) (by decide), _, _, rfl, rfl, ?_⟩
    refine ⟨_, rfl, _, rfl, _, _, rfl, rfl, wmB (h3.sub h1) (h3.sub h1) (by decide) (by decide), _, rfl, _, rfl, _, _, rfl, rfl, wmB (h4.sub h2) (h4.sub h2) (by decide) (by decide), _, _, rfl, rfl, ?_⟩
    refine ⟨_, rfl, _, _, rfl, rfl, _, rfl, ?_⟩
    unfold sqr at k
    by_cases c1 : (x - ax) * (bx - ax) + (y - ay) * (bw - ay) ≤ 0
    · rw [if_pos c1] at k
      refine ifY c1 ?_
      refine ⟨_, rfl, _, rfl, _, _, rfl, rfl, _, rfl, _, rfl, _, _, rfl, rfl, _, _, rfl, rfl, wmB (h5.sub h1) (h5.sub h1) (by decide) (by decide), _, rfl, _, rfl, _, _, rfl, rfl, _, rfl, _, rfl, _, _, rfl, rfl, _, _, rfl, rfl, wmB (h6.sub h2) (h6.sub h2) (by decide) (by decide), _, _, rfl, rfl, szOk rfl, fun p hp => ?_⟩
      exact k p hp
    rw [if_neg c1] at k
    refine ifN c1 ?_
    refine ⟨_, rfl, _, rfl, _, _, rfl, rfl, _, rfl, ?_⟩
    by_cases c2 : (bx - ax) * (bx - ax) + (bw - ay) * (bw - ay) ≤ (x - ax) * (bx - ax) + (y - ay) * (bw - ay)
    · rw [if_pos c2] at k
      refine ifY c2 ?_
      refine ⟨_, rfl, _, rfl, _, _, rfl, rfl, _, rfl, _, rfl, _, _, rfl, rfl, _, _, rfl, rfl, wmB (h5.sub h3) (h5.sub h3) (by decide) (by decide), _, rfl, _, rfl, _, _, rfl, rfl, _, rfl, _, rfl, _, _, rfl, rfl, _, _, rfl, rfl, wmB (h6.sub h4) (h6.sub h4) (by decide) (by decide), _, _, rfl, rfl, szOk rfl, fun p hp => ?_⟩
      exact k p hp
    rw [if_neg c2] at k
    refine ifN c2 ?_
    refine ⟨_, rfl, _, rfl, _, rfl, a, ax, ay, bx, bw, x, y, rfl, ha, h1, h2, h3, h4, h5, h6, ?_⟩
    have tb : BdN 603 (trn ax ay bx bw x y) := ((h3.sub h1).mul (h6.sub h2)).sub ((h4.sub h2).mul (h5.sub h1))
    refine ⟨_, rfl, _, rfl, _, _, rfl, rfl, wmB tb tb (by decide) (by decide), _, rfl, szOk rfl, fun p hp => ?_⟩
    exact k p hp

abbrev s_squares : Stmt := top 8
theorem sc_squares : FnScope ["first", "second", "ax", "ay", "bx", "by", "cx", "cy", "dx", "dy"] ["first", "second"] (defScope s_squares) := ⟨rfl, rfl, rfl, by decide +kernel, rfl, by decide +kernel, by decide +kernel⟩
theorem ok_squares {f : Addr} {fd : FuncData} (F : Fun K "_squares" "_squares" s_squares f fd) (T : TxtA mg)
    (D_enlarged : Def P w K mg base 1 "_enlarged" ["segment", "factor"] (spEnl))
    (D_cross : Def P w K mg base 3 "_cross" ["first", "second"] (spCross))
    (D_square : Def P w K mg base 2 "_square" ["x", "y", "segment"] (spSquare)) : FnOk P w K mg base CX0 4 f fd ["first", "second"] (spSquares) := by
  refine F.ok sc_squares (fun vs H Q E h => ?_) (fun cdv A outer s H vs Q E hr h => ?_)
  · obtain ⟨a, b, s, t, rfl, _⟩ := h
    rfl
  · obtain ⟨a, b, s, t, rfl, ha, hb, hs, ht, k⟩ := h
    refine ⟨_, (pss_cons (ps_asg (pe_def D_enlarged (hr.mono (by decide)) (by rfl) (pa_cons (pv 0) (pa_cons (pe_ix (r := rIxT K) ix_tup (pv 1) pe_int (fun _ _ => rfl)) pa_nil))) (pg_tup (by rfl) (pgs_cons (pg_name (i := 2) sc_squares.nd rfl (Or.inl rfl)) (pgs_cons (pg_name (i := 3) sc_squares.nd rfl (Or.inl rfl)) (pgs_cons (pg_name (i := 4) sc_squares.nd rfl (Or.inl rfl)) (pgs_cons (pg_name (i := 5) sc_squares.nd rfl (Or.inl rfl)) pgs_nil))))))
    (pss_cons (ps_asg (pe_def D_enlarged (hr.mono (by decide)) (by rfl) (pa_cons (pv 1) (pa_cons (pe_ix (r := rIxT K) ix_tup (pv 0) pe_int (fun _ _ => rfl)) pa_nil))) (pg_tup (by rfl) (pgs_cons (pg_name (i := 6) sc_squares.nd rfl (Or.inl rfl)) (pgs_cons (pg_name (i := 7) sc_squares.nd rfl (Or.inl rfl)) (pgs_cons (pg_name (i := 8) sc_squares.nd rfl (Or.inl rfl)) (pgs_cons (pg_name (i := 9) sc_squares.nd rfl (Or.inl rfl)) pgs_nil))))))
    (pss_cons (ps_if (pt_val (pe_def D_cross (hr.mono (by decide)) (by rfl) (pa_cons (pe_tup (pa_cons (pv 2) (pa_cons (pv 3) (pa_cons (pv 4) (pa_cons (pv 5) pa_nil))))) (pa_cons (pe_tup (pa_cons (pv 6) (pa_cons (pv 7) (pa_cons (pv 8) (pa_cons (pv 9) pa_nil))))) pa_nil)))) (pss_one (ps_ret (pe_lst (pa_cons (pe_tup (pa_cons pe_int (pa_cons pe_int pa_nil))) pa_nil))))
      pss_nil)
    (pss_one (ps_ret (pe_lst (pa_cons (pe_def D_square (hr.mono (by decide)) (by rfl) (pa_cons (pv 2) (pa_cons (pv 3) (pa_cons (pe_tup (pa_cons (pv 6) (pa_cons (pv 7) (pa_cons (pv 8) (pa_cons (pv 9) pa_nil))))) pa_nil)))) (pa_cons (pe_def D_square (hr.mono (by decide)) (by rfl) (pa_cons (pv 4) (pa_cons (pv 5) (pa_cons (pe_tup (pa_cons (pv 6) (pa_cons (pv 7) (pa_cons (pv 8) (pa_cons (pv 9) pa_nil))))) pa_nil)))) (pa_cons (pe_def D_square (hr.mono (by decide)) (by rfl) (pa_cons (pv 6) (pa_cons (pv 7) (pa_cons (pe_tup (pa_cons (pv 2) (pa_cons (pv 3) (pa_cons (pv 4) (pa_cons (pv 5) pa_nil))))) pa_nil)))) (pa_cons (pe_def D_square (hr.mono (by decide)) (by rfl) (pa_cons (pv 8) (pa_cons (pv 9) (pa_cons (pe_tup (pa_cons (pv 2) (pa_cons (pv 3) (pa_cons (pv 4) (pa_cons (pv 5) pa_nil))))) pa_nil)))) pa_nil)))))))))), ?_⟩
    have e1 : ∀ {x y : Int}, BdN 200 x → BdN 100 y → BdN 300 (x * y) := fun h h' => h.mul h'
    refine ⟨_, rfl, _, rfl, _, _, _, _, rfl, rfl, (.inl (.inl hb)), rfl, a, s, t.d, rfl, ha, hs, ht.d, fun p1 hp1 => ?_⟩
    have s1 := same_new (o := .tup [.int (s.ax * t.d), .int (s.ay * t.d), .int (s.bx * t.d), .int (s.bw * t.d)]) hp1
    refine ⟨_, _, rfl, .inl (.inl upd_same), rfl, ?_⟩
    refine ⟨_, _, rfl, _, _, rfl, _, _, rfl, _, _, rfl, rfl, ?_⟩
    refine ⟨_, rfl, _, rfl, _, _, _, _, rfl, rfl, (.inl (.inl (s1 _ _ ha))), rfl, b, t, s.d, rfl, s1 _ _ hb, ht, hs.d, fun p2 hp2 => ?_⟩
    have s2 := s1.trans (same_new (o := .tup [.int (t.ax * s.d), .int (t.ay * s.d), .int (t.bx * s.d), .int (t.bw * s.d)]) hp2)
    refine ⟨_, _, rfl, .inl (.inl upd_same), rfl, ?_⟩
    refine ⟨_, _, rfl, _, _, rfl, _, _, rfl, _, _, rfl, rfl, ?_⟩
    refine ⟨_, rfl, _, rfl, _, rfl, _, rfl, szOk rfl, fun p3 hp3 => ?_⟩
    have s3 := s2.trans (same_new (o := .tup [.int (s.ax * t.d), .int (s.ay * t.d), .int (s.bx * t.d), .int (s.bw * t.d)]) hp3)
    refine ⟨_, rfl, _, rfl, _, rfl, _, rfl, szOk rfl, fun p4 hp4 => ?_⟩
    have s4 := s3.trans (same_new (o := .tup [.int (t.ax * s.d), .int (t.ay * s.d), .int (t.bx * s.d), .int (t.bw * s.d)]) hp4)
    have b1 := e1 hs.ax ht.d; have b2 := e1 hs.ay ht.d; have b3 := e1 hs.bx ht.d; have b4 := e1 hs.bw ht.d
    have c1 := e1 ht.ax hs.d; have c2 := e1 ht.ay hs.d; have c3 := e1 ht.bx hs.d; have c4 := e1 ht.bw hs.d
    refine ⟨p3, p4, s.ax * t.d, s.ay * t.d, s.bx * t.d, s.bw * t.d, t.ax * s.d, t.ay * s.d, t.bx * s.d, t.bw * s.d, rfl, ?_, upd_same, (fun z m => ?_), _, rfl, ?_⟩
    · rw [upd_ne (ne_of_none (o := .tup [.int (s.ax * t.d), .int (s.ay * t.d), .int (s.bx * t.d), .int (s.bw * t.d)]) upd_same hp4)]
      exact upd_same
    · simp only [List.mem_cons, List.not_mem_nil, or_false] at m
      rcases m with rfl | rfl | rfl | rfl | rfl | rfl | rfl | rfl <;> assumption
    by_cases c : crs (s.ax * t.d) (s.ay * t.d) (s.bx * t.d) (s.bw * t.d) (t.ax * s.d) (t.ay * s.d) (t.bx * s.d) (t.bw * s.d) = true
    · rw [c]
      refine iteT ⟨szOk rfl, fun p5 hp5 => ⟨szOk rfl, fun p6 hp6 => ?_⟩⟩
      have s5 := s4.trans (same_new (o := .tup [.int 0, .int 1]) hp5)
      have s6 := s5.trans (same_new (o := .lst [.ref p5]) hp6)
      refine k p6 _ _ s6 upd_same ?_
      unfold segSqs sqs
      rw [if_pos c]
      refine ⟨rfl, fun i tt ht => ?_⟩
      match i, ht with
      | 0, ht =>
        cases ht
        exact ⟨p5, rfl, by rw [upd_ne (ne_of_none (o := .tup [.int 0, .int 1]) upd_same hp6)]; exact upd_same⟩
    · have c' : crs (s.ax * t.d) (s.ay * t.d) (s.bx * t.d) (s.bw * t.d) (t.ax * s.d) (t.ay * s.d) (t.bx * s.d) (t.bw * s.d) = false := by simpa using c
      rw [c']
      refine iteF ?_
      refine ⟨_, rfl, _, rfl, _, rfl, _, rfl, _, rfl, _, rfl, szOk rfl, fun q1 hq1 => ?_⟩
      have t1 := s4.trans (same_new (o := .tup [.int (t.ax * s.d), .int (t.ay * s.d), .int (t.bx * s.d), .int (t.bw * s.d)]) hq1)
      refine ⟨q1, _, _, _, _, _, _, rfl, upd_same, c1, c2, c3, c4, b1, b2, fun r1 hr1 => ?_⟩
      refine ⟨_, rfl, _, rfl, _, rfl, _, rfl, _, rfl, _, rfl, szOk rfl, fun q2 hq2 => ?_⟩
      refine ⟨q2, _, _, _, _, _, _, rfl, upd_same, c1, c2, c3, c4, b3, b4, fun r2 hr2 => ?_⟩
      refine ⟨_, rfl, _, rfl, _, rfl, _, rfl, _, rfl, _, rfl, szOk rfl, fun q3 hq3 => ?_⟩
      refine ⟨q3, _, _, _, _, _, _, rfl, upd_same, b1, b2, b3, b4, c1, c2, fun r3 hr3 => ?_⟩
      refine ⟨_, rfl, _, rfl, _, rfl, _, rfl, _, rfl, _, rfl, szOk rfl, fun q4 hq4 => ?_⟩
      refine ⟨q4, _, _, _, _, _, _, rfl, upd_same, b1, b2, b3, b4, c3, c4, fun r4 hr4 => ?_⟩
      refine ⟨szOk rfl, fun l hl => ?_⟩
      -- what stood stands
      have kp : ∀ {H0 : Hp} {p q : Addr} {o o' : HO}, H0 p = some o → H0 q = none → upd H0 q o' p = some o := fun h n => by rw [upd_ne (ne_of_none h n)]; exact h
      have a1 := kp (o' := .lst [.ref r1, .ref r2, .ref r3, .ref r4]) (kp (kp (kp (kp (kp (kp upd_same hq2) hr2) hq3) hr3) hq4) hr4) hl
      have a2 := kp (o' := .lst [.ref r1, .ref r2, .ref r3, .ref r4]) (kp (kp (kp (kp upd_same hq3) hr3) hq4) hr4) hl
      have a3 := kp (o' := .lst [.ref r1, .ref r2, .ref r3, .ref r4]) (kp (kp upd_same hq4) hr4) hl
      have a4 := kp (o' := .lst [.ref r1, .ref r2, .ref r3, .ref r4]) upd_same hl
      refine k l _ _ (fun b o e => kp (kp (kp (kp (kp (kp (kp (kp (t1 b o e) hr1) hq2) hr2) hq3) hr3) hq4) hr4) hl) upd_same ?_
      unfold segSqs sqs
      rw [if_neg c]
      refine ⟨rfl, fun i tt ht => ?_⟩
      match i, ht with
      | 0, ht => cases ht; exact ⟨r1, rfl, a1⟩
      | 1, ht => cases ht; exact ⟨r2, rfl, a2⟩
      | 2, ht => cases ht; exact ⟨r3, rfl, a3⟩
      | 3, ht => cases ht; exact ⟨r4, rfl, a4⟩

abbrev s_closer : Stmt := top 6
theorem sc_closer : FnScope ["first", "second", "limit", "reach", "top", "bottom"] ["first", "second", "limit"] (defScope s_closer) := ⟨rfl, rfl, rfl, by decide +kernel, rfl, by decide +kernel, by decide +kernel⟩
theorem ok_closer {f tc tp : Addr} {fd : FuncData} {TT : List Addr} (F : Fun K "closer" "closer" s_closer f fd) (T : TxtA mg) (hc : fd.code = .ref tc) (TB : LamX.TabB base mg tc tp) (hP : tp ∈ TT)
    (D_squares : Def P w K mg base 4 "_squares" ["first", "second"] (spSquares)) : FnOk P w K mg base CX0 5 f fd ["first", "second", "limit"] (spCloser TT) := by
  refine okT F hc sc_closer (fun vs H Q E h => ?_) (fun A outer s H vs Q E hr h => ?_)
  · obtain ⟨a, b, s, t, l, rfl, _⟩ := h
    rfl
  · obtain ⟨a, b, s, t, l, rfl, ha, hb, hs, ht, hl, hT, k⟩ := h
    refine ⟨_, (pss_cons (ps_if (pt_cmpR op_le (pv 2) pe_int (nomark _)) (pss_one (ps_ret pe_bl))
      pss_nil)
    (pss_cons (ps_set (i := 3) sc_closer.nd rfl (Or.inr rfl) (pe_op op_mulW (pe_op op_mulW (pv 2) (pe_ix (r := rIxT K) ix_tup (pv 0) pe_int (fun _ _ => rfl))) (pe_ix (r := rIxT K) ix_tup (pv 1) pe_int (fun _ _ => rfl))))
    (pss_one (ps_ret (pe_anyG (k := 0) (own := [("top", 4), ("bottom", 5)]) (g := (gTup K 2 (gCons (gName 4) (gCons (gName 5) gNil)))) (hr.mono (by decide)) sc_closer.nd (by rfl) T.any TB rfl (gscp_by (by decide +kernel)) (blkOk_by (own := [("top", 4), ("bottom", 5)]) (N := ["first", "second", "limit", "reach", "top", "bottom"]) (sc := defScope s_closer) (by decide +kernel)) (pi_list (pe_def D_squares (hr.mono (by decide)) (by rfl) (pa_cons (pv 0) (pa_cons (pv 1) pa_nil)))) (fun _ _ _ _ _ _ _ r => (pg_tup (by rfl) (pgs_cons (pg_name (i := 4) sc_closer.nd rfl (Or.inl rfl)) (pgs_cons (pg_name (i := 5) sc_closer.nd rfl (Or.inl rfl)) pgs_nil)))) (fun _ _ _ _ _ _ _ r => pts_nil) (fun _ _ _ _ _ _ _ r => (pe_cmpR op_lt (pv 4) (pe_op op_mulW (pe_op op_mulW (pv 3) (pv 3)) (pv 5)) (nomark _)))))))), ?_⟩
    refine ⟨_, rfl, _, _, rfl, rfl, _, rfl, ?_⟩
    unfold clo at k
    by_cases c : l ≤ 0
    · rw [if_pos c] at k
      exact ifY c (k H (SameT.refl TT H))
    rw [if_neg c] at k
    refine ifN c ?_
    refine ⟨_, rfl, _, rfl, _, _, _, _, rfl, rfl, (.inl (.inl ha)), rfl, _, _, rfl, rfl, wmB hl hs.d (by decide) (by decide), _, rfl, _, _, _, _, rfl, rfl, (.inl (.inl hb)), rfl, _, _, rfl, rfl, wmB (hl.mul hs.d) ht.d (by decide) (by decide), ?_⟩
    have hr3 : BdN 300 (l * s.d * t.d) := (hl.mul hs.d).mul ht.d
    refine nm ?_
    dsimp only
    generalize l * s.d * t.d = r at hr3 k ⊢
    refine ⟨_, rfl, _, rfl, a, b, s, t, rfl, ha, hb, hs, ht, fun p H1 xs s1 hl1 hp1 => ?_⟩
    have hT1 : Tabs TT H1 := Same.tabs s1 hT
    refine ⟨_, rfl, ⟨xs, .inl (.inl hl1)⟩, hT1 tp hP, fun H2 tb => ?_⟩
    have s2 : SameT TT H1 H2 := SameT.tabbed hP tb
    have l2 := s2.l hT1 hl1
    have st : SameT TT H H2 := (SameT.of s1).trans s2
    have k : ∀ b : Bool, b = (segSqs s t).any (fun u => decide (u.1 < r * r * u.2)) → Q (.bl b) H2 := fun b e => by
      rw [e]
      exact k H2 st
    have bdp : ∀ u ∈ segSqs s t, BdN 1300 u.2 := fun u hu => segSqs_bd hs ht u hu
    refine till_list (K := K) (a := p) (xs := xs) (fun i H' => H' = H2 ∧ ∀ u ∈ (segSqs s t).take i, ¬ u.1 < r * r * u.2) ⟨rfl, by simp⟩ (fun i H' _ h => by rw [h.1]; exact .inl (.inl l2)) (fun i x H' hx h => ?_) (fun H' h => ?_)
    · obtain ⟨rfl, hn⟩ := h
      have hil := (List.getElem?_eq_some_iff.mp hx).1
      have hil2 : i < (segSqs s t).length := by rw [← hp1.1]; exact hil
      obtain ⟨q, e1, e2⟩ := hp1.2 i (segSqs s t)[i] (by simp [hil2])
      rw [hx] at e1
      cases e1
      have e3 := s2.t hT1 e2
      refine ⟨_, _, rfl, .inl (.inl e3), rfl, ?_⟩
      refine ⟨_, _, rfl, _, _, rfl, rfl, ?_⟩
      refine ⟨rfl, yes_if ?_⟩
      have bp : BdN 1300 (segSqs s t)[i].2 := bdp _ (List.getElem_mem hil2)
      refine ⟨_, rfl, _, rfl, _, rfl, _, _, rfl, rfl, wmB hr3 hr3 (by decide) (by decide), _, rfl, _, _, rfl, rfl, wmB (hr3.mul hr3) bp (by decide) (by decide), _, _, rfl, rfl, _, rfl, ?_⟩
      by_cases c2 : (segSqs s t)[i].1 < r * r * (segSqs s t)[i].2
      · rw [decide_eq_true c2]
        refine (if_pos rfl).mpr (k true ?_)
        symm
        exact List.any_eq_true.mpr ⟨_, List.getElem_mem hil2, decide_eq_true c2⟩
      · rw [decide_eq_false c2]
        refine (if_neg Bool.false_ne_true).mpr ⟨rfl, fun u hu => ?_⟩
        rw [List.take_add_one, List.mem_append] at hu
        rcases hu with hu | hu
        · exact hn u hu
        · rw [List.getElem?_eq_getElem hil2] at hu
          obtain rfl : u = (segSqs s t)[i] := by simpa using hu
          exact c2
    · obtain ⟨rfl, hn⟩ := h
      rw [hp1.1, List.take_length] at hn
      refine k false ?_
      symm
      exact List.any_eq_false.mpr fun u hu => by simpa using hn u hu

abbrev s_lines_closer : Stmt := top 7
theorem sc_lines_closer : FnScope ["first", "second", "limit", "one", "other"] ["first", "second", "limit"] (defScope s_lines_closer) := ⟨rfl, rfl, rfl, by decide +kernel, rfl, by decide +kernel, by decide +kernel⟩
theorem ok_lines_closer {f tc tp : Addr} {fd : FuncData} {TT : List Addr} (F : Fun K "lines_closer" "lines_closer" s_lines_closer f fd) (T : TxtA mg) (hc : fd.code = .ref tc) (TB : LamX.TabB base mg tc tp) (hP : tp ∈ TT)
    (D_closer : Def P w K mg base 5 "closer" ["first", "second", "limit"] (spCloser TT)) : FnOk P w K mg base CX0 7 f fd ["first", "second", "limit"] (spLines K TT) := by
  refine okT F hc sc_lines_closer (fun vs H Q E h => ?_) (fun A outer s H vs Q E hr h => ?_)
  · obtain ⟨a, b, xs, ys, ss, ts, l, rfl, _⟩ := h
    rfl
  · obtain ⟨a, b, xs, ys, ss, ts, l, rfl, ha, hb, hs, ht, hl, hT, k⟩ := h
    refine ⟨_, (pss_one (ps_ret (pe_anyG2 (k := 5) (own := [("one", 3), ("other", 4)]) (vs1 := [4]) (g := gName 3) (g1 := gName 4) (hr.mono (by decide)) sc_lines_closer.nd (by rfl) T.any TB rfl (gscp_by (by decide +kernel)) (blkOk_by (own := [("one", 3), ("other", 4)]) (N := ["first", "second", "limit", "one", "other"]) (sc := defScope s_lines_closer) (by decide +kernel)) (by decide) (pi_list (pv 0)) (fun _ _ _ _ _ _ _ r => (pg_name (i := 3) sc_lines_closer.nd rfl (Or.inl rfl))) (fun _ _ _ _ _ _ _ r => pts_nil) (fun _ _ _ _ _ _ _ r => (pi_list (pv 1))) (fun _ _ _ _ _ _ _ r => (pg_name (i := 4) sc_lines_closer.nd rfl (Or.inl rfl))) (fun _ _ _ _ _ _ _ r => pts_nil) (fun _ _ _ _ _ _ _ r => (pe_def D_closer (r.mono (by decide)) (by rfl) (pa_cons (pv 3) (pa_cons (pv 4) (pa_cons (pv 2) pa_nil))))) iListV_mono gName_mono tYes_mono))), ?_⟩
    refine ⟨_, rfl, _, rfl, ⟨xs, .inl (.inl ha)⟩, hT tp hP, fun H2 tb => ?_⟩
    have s2 : SameT TT H H2 := SameT.tabbed hP tb
    have hT2 := s2.tabs hT
    refine till2_list (K := K) (a := a) (xs := xs) ys.length (fun i H' => SameT TT H H' ∧ ∀ u ∈ ss.take i, ∀ v ∈ ts, clo u v l = false) ⟨s2, by simp⟩ (fun i H' _ h => .inl (.inl (h.1.l hT ha))) (fun i x H' hi hx h => ?_) (fun H' h => ?_)
    · obtain ⟨sH, hn⟩ := h
      have hil2 : i < ss.length := by rw [← hs.1]; exact hi
      obtain ⟨q, e1, e2, e3⟩ := hs.2 i ss[i] (by simp [hil2])
      rw [hx] at e1
      cases e1
      refine ⟨rfl, yes_if ?_⟩
      refine ⟨_, rfl, _, rfl, ⟨ys, .inl (.inl (sH.l hT hb))⟩, ?_⟩
      refine till2_in (K := K) (b := b) (ys := ys) hi (fun j H'' => SameT TT H H'' ∧ ∀ v ∈ ts.take j, clo ss[i] v l = false) ⟨sH, by simp⟩ (fun j H'' _ h => .inl (.inl (h.1.l hT hb))) (fun j y H'' hy h => ?_) (fun H'' h => ?_)
      · obtain ⟨sH', hn'⟩ := h
        have hjl := (List.getElem?_eq_some_iff.mp hy).1
        have hjl2 : j < ts.length := by rw [← ht.1]; exact hjl
        obtain ⟨q2, f1, f2, f3⟩ := ht.2 j ts[j] (by simp [hjl2])
        rw [hy] at f1
        cases f1
        refine ⟨rfl, yes_if ?_⟩
        refine ⟨_, rfl, _, rfl, _, rfl, q, q2, ss[i], ts[j], l, rfl, sH'.t hT e2, sH'.t hT f2, e3, f3, hl, sH'.tabs hT, fun H3 s3 => ?_⟩
        refine ⟨_, rfl, ?_⟩
        cases c : clo ss[i] ts[j] l with
        | true =>
          have kk := k H3 (sH'.trans s3)
          have e : (ss.any fun s => ts.any fun t => clo s t l) = true := List.any_eq_true.mpr ⟨_, List.getElem_mem hil2, List.any_eq_true.mpr ⟨_, List.getElem_mem hjl2, c⟩⟩
          rw [e] at kk
          exact (if_pos rfl).mpr kk
        | false =>
          refine (if_neg Bool.false_ne_true).mpr ⟨sH'.trans s3, fun v hv => ?_⟩
          rw [List.take_add_one, List.mem_append] at hv
          rcases hv with hv | hv
          · exact hn' v hv
          · rw [List.getElem?_eq_getElem hjl2] at hv
            obtain rfl : v = ts[j] := by simpa using hv
            exact c
      · obtain ⟨sH', hn'⟩ := h
        rw [ht.1, List.take_length] at hn'
        refine ⟨sH', fun u hu => ?_⟩
        rw [List.take_add_one, List.mem_append] at hu
        rcases hu with hu | hu
        · exact hn u hu
        · rw [List.getElem?_eq_getElem hil2] at hu
          obtain rfl : u = ss[i] := by simpa using hu
          exact hn'
    · obtain ⟨sH, hn⟩ := h
      rw [hs.1, List.take_length] at hn
      have kk := k H' sH
      have e : (ss.any fun s => ts.any fun t => clo s t l) = false := List.any_eq_false.mpr fun u hu => by
        have : (ts.any fun t => clo u t l) = false := List.any_eq_false.mpr fun v hv => by rw [hn u hu v hv]; exact Bool.false_ne_true
        rw [this]; exact Bool.false_ne_true
      rw [e] at kk
      exact kk

end
end Sk

set_option Elab.async false
set_option linter.all false
set_option maxRecDepth 100000
set_option maxHeartbeats 4000000
namespace Sk
open PySem PySem.Spec PyProof.Rows L2
def spLCross : Sp := fun vs H Q _ => ∃ (o a b : Addr) (ox oy ax ay bx bw : Int), vs = [.ref o, .ref a, .ref b] ∧ H o = some (.tup [.int ox, .int oy]) ∧ H a = some (.tup [.int ax, .int ay]) ∧ H b = some (.tup [.int bx, .int bw]) ∧ BdN 300 ox ∧ BdN 300 oy ∧ BdN 300 ax ∧ BdN 300 ay ∧ BdN 300 bx ∧ BdN 300 bw ∧ Q (.int (trn ox oy ax ay bx bw)) H
def spLDot : Sp := fun vs H Q _ => ∃ (o a b : Addr) (ox oy ax ay bx bw : Int), vs = [.ref o, .ref a, .ref b] ∧ H o = some (.tup [.int ox, .int oy]) ∧ H a = some (.tup [.int ax, .int ay]) ∧ H b = some (.tup [.int bx, .int bw]) ∧ BdN 300 ox ∧ BdN 300 oy ∧ BdN 300 ax ∧ BdN 300 ay ∧ BdN 300 bx ∧ BdN 300 bw ∧ Q (.int (dtp ox oy ax ay bx bw)) H
def spPtc : Sp := fun vs H Q _ => ∃ (p a b : Addr) (px py ax ay bx bw r2 : Int), vs = [.ref p, .ref a, .ref b, .int r2] ∧ H p = some (.tup [.int px, .int py]) ∧ H a = some (.tup [.int ax, .int ay]) ∧ H b = some (.tup [.int bx, .int bw]) ∧ BdN 300 px ∧ BdN 300 py ∧ BdN 300 ax ∧ BdN 300 ay ∧ BdN 300 bx ∧ BdN 300 bw ∧ BdN 700 r2 ∧ Q (.bl (ptc px py ax ay bx bw r2)) H
def spLClo : Sp := fun vs H Q _ => ∃ (a b : Addr) (s t : Seg) (l : Int), vs = [.ref a, .ref b, .int l] ∧ H a = some s.tup ∧ H b = some t.tup ∧ SegBd 200 100 s ∧ SegBd 200 100 t ∧ BdN 100 l ∧ ∀ H', Same H H' → Q (.bl (lclo s t l)) H'
section
variable {P : Program} {w : World} {K : PySem.W.Frag} {mg : Str → Option Value} {base : Heap}
abbrev s_law_cross : Stmt := top 29
theorem sc_law_cross : FnScope ["o", "a", "b"] ["o", "a", "b"] (defScope s_law_cross) := ⟨rfl, rfl, rfl, by decide +kernel, rfl, by decide +kernel, by decide +kernel⟩
theorem ok_law_cross {f : Addr} {fd : FuncData} (F : Fun K "_law_cross" "_law_cross" s_law_cross f fd) (T : TxtA mg) : FnOk P w K mg base CX0 1 f fd ["o", "a", "b"] (spLCross) := by
  refine F.ok sc_law_cross (fun vs H Q E h => ?_) (fun cdv A outer s H vs Q E hr h => ?_)
  · obtain ⟨o, a, b, _, _, _, _, _, _, rfl, _⟩ := h
    rfl
  · obtain ⟨o, a, b, ox, oy, ax, ay, bx, bw, rfl, h0, h1, h2, b1, b2, b3, b4, b5, b6, k⟩ := h
    refine ⟨_, (pss_one (ps_ret (pe_op op_sub (pe_op op_mulW (pe_op op_sub (pe_ix (r := rIxT K) ix_tup (pv 1) pe_int (fun _ _ => rfl)) (pe_ix (r := rIxT K) ix_tup (pv 0) pe_int (fun _ _ => rfl))) (pe_op op_sub (pe_ix (r := rIxT K) ix_tup (pv 2) pe_int (fun _ _ => rfl)) (pe_ix (r := rIxT K) ix_tup (pv 0) pe_int (fun _ _ => rfl)))) (pe_op op_mulW (pe_op op_sub (pe_ix (r := rIxT K) ix_tup (pv 1) pe_int (fun _ _ => rfl)) (pe_ix (r := rIxT K) ix_tup (pv 0) pe_int (fun _ _ => rfl))) (pe_op op_sub (pe_ix (r := rIxT K) ix_tup (pv 2) pe_int (fun _ _ => rfl)) (pe_ix (r := rIxT K) ix_tup (pv 0) pe_int (fun _ _ => rfl))))))), ?_⟩
    exact ⟨_, rfl, _, _, _, _, rfl, rfl, (.inl (.inl h1)), rfl, _, rfl, _, _, _, _, rfl, rfl, (.inl (.inl h0)), rfl, _, _, rfl, rfl, _, rfl, _, _, _, _, rfl, rfl, (.inl (.inl h2)), rfl, _, rfl, _, _, _, _, rfl, rfl, (.inl (.inl h0)), rfl, _, _, rfl, rfl, _, _, rfl, rfl, wmB (b3.sub b1) (b6.sub b2) (by decide) (by decide), _, rfl, _, _, _, _, rfl, rfl, (.inl (.inl h1)), rfl, _, rfl, _, _, _, _, rfl, rfl, (.inl (.inl h0)), rfl, _, _, rfl, rfl, _, rfl, _, _, _, _, rfl, rfl, (.inl (.inl h2)), rfl, _, rfl, _, _, _, _, rfl, rfl, (.inl (.inl h0)), rfl, _, _, rfl, rfl, _, _, rfl, rfl, wmB (b4.sub b2) (b5.sub b1) (by decide) (by decide), _, _, rfl, rfl, k⟩

abbrev s_law_dot : Stmt := top 30
theorem sc_law_dot : FnScope ["o", "a", "b"] ["o", "a", "b"] (defScope s_law_dot) := ⟨rfl, rfl, rfl, by decide +kernel, rfl, by decide +kernel, by decide +kernel⟩
theorem ok_law_dot {f : Addr} {fd : FuncData} (F : Fun K "_law_dot" "_law_dot" s_law_dot f fd) (T : TxtA mg) : FnOk P w K mg base CX0 1 f fd ["o", "a", "b"] (spLDot) := by
  refine F.ok sc_law_dot (fun vs H Q E h => ?_) (fun cdv A outer s H vs Q E hr h => ?_)
  · obtain ⟨o, a, b, _, _, _, _, _, _, rfl, _⟩ := h
    rfl
  · obtain ⟨o, a, b, ox, oy, ax, ay, bx, bw, rfl, h0, h1, h2, b1, b2, b3, b4, b5, b6, k⟩ := h
    refine ⟨_, (pss_one (ps_ret (pe_op op_add (pe_op op_mulW (pe_op op_sub (pe_ix (r := rIxT K) ix_tup (pv 1) pe_int (fun _ _ => rfl)) (pe_ix (r := rIxT K) ix_tup (pv 0) pe_int (fun _ _ => rfl))) (pe_op op_sub (pe_ix (r := rIxT K) ix_tup (pv 2) pe_int (fun _ _ => rfl)) (pe_ix (r := rIxT K) ix_tup (pv 0) pe_int (fun _ _ => rfl)))) (pe_op op_mulW (pe_op op_sub (pe_ix (r := rIxT K) ix_tup (pv 1) pe_int (fun _ _ => rfl)) (pe_ix (r := rIxT K) ix_tup (pv 0) pe_int (fun _ _ => rfl))) (pe_op op_sub (pe_ix (r := rIxT K) ix_tup (pv 2) pe_int (fun _ _ => rfl)) (pe_ix (r := rIxT K) ix_tup (pv 0) pe_int (fun _ _ => rfl))))))), ?_⟩
    exact ⟨_, rfl, _, _, _, _, rfl, rfl, (.inl (.inl h1)), rfl, _, rfl, _, _, _, _, rfl, rfl, (.inl (.inl h0)), rfl, _, _, rfl, rfl, _, rfl, _, _, _, _, rfl, rfl, (.inl (.inl h2)), rfl, _, rfl, _, _, _, _, rfl, rfl, (.inl (.inl h0)), rfl, _, _, rfl, rfl, _, _, rfl, rfl, wmB (b3.sub b1) (b5.sub b1) (by decide) (by decide), _, rfl, _, _, _, _, rfl, rfl, (.inl (.inl h1)), rfl, _, rfl, _, _, _, _, rfl, rfl, (.inl (.inl h0)), rfl, _, _, rfl, rfl, _, rfl, _, _, _, _, rfl, rfl, (.inl (.inl h2)), rfl, _, rfl, _, _, _, _, rfl, rfl, (.inl (.inl h0)), rfl, _, _, rfl, rfl, _, _, rfl, rfl, wmB (b4.sub b2) (b6.sub b2) (by decide) (by decide), _, _, rfl, rfl, k⟩

abbrev s_law_point_closer : Stmt := top 31
theorem sc_law_point_closer : FnScope ["p", "a", "b", "square", "long", "along", "area"] ["p", "a", "b", "square"] (defScope s_law_point_closer) := ⟨rfl, rfl, rfl, by decide +kernel, rfl, by decide +kernel, by decide +kernel⟩
theorem ok_law_point_closer {f : Addr} {fd : FuncData} (F : Fun K "_law_point_closer" "_law_point_closer" s_law_point_closer f fd) (T : TxtA mg)
    (D_law_dot : Def P w K mg base 1 "_law_dot" ["o", "a", "b"] (spLDot))
    (D_law_cross : Def P w K mg base 1 "_law_cross" ["o", "a", "b"] (spLCross)) : FnOk P w K mg base CX0 2 f fd ["p", "a", "b", "square"] (spPtc) := by
  refine F.ok sc_law_point_closer (fun vs H Q E h => ?_) (fun cdv A outer s H vs Q E hr h => ?_)
  · obtain ⟨p, a, b, _, _, _, _, _, _, _, rfl, _⟩ := h
    rfl
  · obtain ⟨p, a, b, px, py, ax, ay, bx, bw, r2, rfl, h0, h1, h2, b1, b2, b3, b4, b5, b6, b7, k⟩ := h
    refine ⟨_, (pss_cons (ps_set (i := 4) sc_law_point_closer.nd rfl (Or.inl rfl) (pe_def D_law_dot (hr.mono (by decide)) (by rfl) (pa_cons (pv 1) (pa_cons (pv 2) (pa_cons (pv 2) pa_nil)))))
    (pss_cons (ps_set (i := 5) sc_law_point_closer.nd rfl (Or.inl rfl) (pe_def D_law_dot (hr.mono (by decide)) (by rfl) (pa_cons (pv 1) (pa_cons (pv 2) (pa_cons (pv 0) pa_nil)))))
    (pss_cons (ps_if (pt_cmpR op_le (pv 5) pe_int (nomark _)) (pss_one (ps_ret (pe_cmpR op_lt (pe_def D_law_dot (hr.mono (by decide)) (by rfl) (pa_cons (pv 1) (pa_cons (pv 0) (pa_cons (pv 0) pa_nil)))) (pv 3) (nomark _))))
      pss_nil)
    (pss_cons (ps_if (pt_cmpR op_ge (pv 5) (pv 4) (nomark _)) (pss_one (ps_ret (pe_cmpR op_lt (pe_def D_law_dot (hr.mono (by decide)) (by rfl) (pa_cons (pv 2) (pa_cons (pv 0) (pa_cons (pv 0) pa_nil)))) (pv 3) (nomark _))))
      pss_nil)
    (pss_cons (ps_set (i := 6) sc_law_point_closer.nd rfl (Or.inl rfl) (pe_def D_law_cross (hr.mono (by decide)) (by rfl) (pa_cons (pv 1) (pa_cons (pv 2) (pa_cons (pv 0) pa_nil)))))
    (pss_one (ps_ret (pe_cmpR op_lt (pe_op op_mulW (pv 6) (pv 6)) (pe_op op_mulW (pv 3) (pv 4)) (nomark _))))))))), ?_⟩
    refine ⟨_, rfl, _, rfl, _, rfl, a, b, b, ax, ay, bx, bw, bx, bw, rfl, h1, h2, h2, b3, b4, b5, b6, b5, b6, ?_⟩
    refine ⟨_, rfl, _, rfl, _, rfl, a, b, p, ax, ay, bx, bw, px, py, rfl, h1, h2, h0, b3, b4, b5, b6, b1, b2, ?_⟩
    refine ⟨_, rfl, _, _, rfl, rfl, _, rfl, ?_⟩
    unfold ptc at k
    by_cases c1 : dtp ax ay bx bw px py ≤ 0
    · rw [if_pos c1] at k
      refine ifY c1 ?_
      exact ⟨_, rfl, _, rfl, _, rfl, a, p, p, ax, ay, px, py, px, py, rfl, h1, h0, h0, b3, b4, b1, b2, b1, b2, _, rfl, _, _, rfl, rfl, k⟩
    rw [if_neg c1] at k
    refine ifN c1 ?_
    refine ⟨_, rfl, _, rfl, _, _, rfl, rfl, _, rfl, ?_⟩
    by_cases c2 : dtp ax ay bx bw bx bw ≤ dtp ax ay bx bw px py
    · rw [if_pos c2] at k
      refine ifY c2 ?_
      exact ⟨_, rfl, _, rfl, _, rfl, b, p, p, bx, bw, px, py, px, py, rfl, h2, h0, h0, b5, b6, b1, b2, b1, b2, _, rfl, _, _, rfl, rfl, k⟩
    rw [if_neg c2] at k
    refine ifN c2 ?_
    refine ⟨_, rfl, _, rfl, _, rfl, a, b, p, ax, ay, bx, bw, px, py, rfl, h1, h2, h0, b3, b4, b5, b6, b1, b2, ?_⟩
    have tb : BdN 603 (trn ax ay bx bw px py) := ((b5.sub b3).mul (b2.sub b4)).sub ((b6.sub b4).mul (b1.sub b3))
    have db : BdN 603 (dtp ax ay bx bw bx bw) := ((b5.sub b3).mul (b5.sub b3)).add ((b6.sub b4).mul (b6.sub b4))
    exact ⟨_, rfl, _, rfl, _, _, rfl, rfl, wmB tb tb (by decide) (by decide), _, rfl, _, rfl, _, _, rfl, rfl, wmB b7 db (by decide) (by decide), _, _, rfl, rfl, k⟩

abbrev s_law_closer : Stmt := top 32
theorem sc_law_closer : FnScope ["first", "second", "limit", "d", "e", "a", "b", "p", "q", "square", "sides"] ["first", "second", "limit"] (defScope s_law_closer) := ⟨rfl, rfl, rfl, by decide +kernel, rfl, by decide +kernel, by decide +kernel⟩
theorem ok_law_closer {f : Addr} {fd : FuncData} (F : Fun K "_law_closer" "_law_closer" s_law_closer f fd) (T : TxtA mg)
    (D_law_cross : Def P w K mg base 1 "_law_cross" ["o", "a", "b"] (spLCross))
    (D_law_point_closer : Def P w K mg base 2 "_law_point_closer" ["p", "a", "b", "square"] (spPtc)) : FnOk P w K mg base CX0 3 f fd ["first", "second", "limit"] (spLClo) := by
  refine F.ok sc_law_closer (fun vs H Q E h => ?_) (fun cdv A outer s H vs Q E hr h => ?_)
  · obtain ⟨a, b, s, t, l, rfl, _⟩ := h
    rfl
  · obtain ⟨a0, b0, s, t, l, rfl, ha, hb, hs, ht, hl, k⟩ := h
    refine ⟨_, (pss_cons (ps_set (i := 3) sc_law_closer.nd rfl (Or.inl rfl) (pe_ix (r := rIxT K) ix_tup (pv 0) pe_int (fun _ _ => rfl)))
    (pss_cons (ps_set (i := 4) sc_law_closer.nd rfl (Or.inl rfl) (pe_ix (r := rIxT K) ix_tup (pv 1) pe_int (fun _ _ => rfl)))
    (pss_cons (ps_set (i := 5) sc_law_closer.nd rfl (Or.inl rfl) (pe_tup (pa_cons (pe_op op_mulW (pe_ix (r := rIxT K) ix_tup (pv 0) pe_int (fun _ _ => rfl)) (pv 4)) (pa_cons (pe_op op_mulW (pe_ix (r := rIxT K) ix_tup (pv 0) pe_int (fun _ _ => rfl)) (pv 4)) pa_nil))))
    (pss_cons (ps_set (i := 6) sc_law_closer.nd rfl (Or.inl rfl) (pe_tup (pa_cons (pe_op op_mulW (pe_ix (r := rIxT K) ix_tup (pv 0) pe_int (fun _ _ => rfl)) (pv 4)) (pa_cons (pe_op op_mulW (pe_ix (r := rIxT K) ix_tup (pv 0) pe_int (fun _ _ => rfl)) (pv 4)) pa_nil))))
    (pss_cons (ps_set (i := 7) sc_law_closer.nd rfl (Or.inl rfl) (pe_tup (pa_cons (pe_op op_mulW (pe_ix (r := rIxT K) ix_tup (pv 1) pe_int (fun _ _ => rfl)) (pv 3)) (pa_cons (pe_op op_mulW (pe_ix (r := rIxT K) ix_tup (pv 1) pe_int (fun _ _ => rfl)) (pv 3)) pa_nil))))
    (pss_cons (ps_set (i := 8) sc_law_closer.nd rfl (Or.inl rfl) (pe_tup (pa_cons (pe_op op_mulW (pe_ix (r := rIxT K) ix_tup (pv 1) pe_int (fun _ _ => rfl)) (pv 3)) (pa_cons (pe_op op_mulW (pe_ix (r := rIxT K) ix_tup (pv 1) pe_int (fun _ _ => rfl)) (pv 3)) pa_nil))))
    (pss_cons (ps_set (i := 9) sc_law_closer.nd rfl (Or.inl rfl) (pe_op op_mulW (pe_op op_mulW (pe_op op_mulW (pe_op op_mulW (pe_op op_mulW (pv 2) (pv 2)) (pv 3)) (pv 3)) (pv 4)) (pv 4)))
    (pss_cons (ps_if (pt_cmpR op_gt (pv 9) pe_int (nomark _)) (pss_cons (ps_set (i := 10) sc_law_closer.nd rfl (Or.inl rfl) (pe_lst (pa_cons (pe_def D_law_cross (hr.mono (by decide)) (by rfl) (pa_cons (pv 5) (pa_cons (pv 6) (pa_cons (pv 7) pa_nil)))) (pa_cons (pe_def D_law_cross (hr.mono (by decide)) (by rfl) (pa_cons (pv 5) (pa_cons (pv 6) (pa_cons (pv 8) pa_nil)))) (pa_cons (pe_def D_law_cross (hr.mono (by decide)) (by rfl) (pa_cons (pv 7) (pa_cons (pv 8) (pa_cons (pv 5) pa_nil)))) (pa_cons (pe_def D_law_cross (hr.mono (by decide)) (by rfl) (pa_cons (pv 7) (pa_cons (pv 8) (pa_cons (pv 6) pa_nil)))) pa_nil))))))
    (pss_one (ps_if (PW.pt (pw_and (pt_cmpR op_lt (pe_op op_mulW (pe_ix (r := rIxL K) ix_list (pv 10) pe_int (fun _ _ => rfl)) (pe_ix (r := rIxL K) ix_list (pv 10) pe_int (fun _ _ => rfl))) pe_int (nomark _)) (pw_and1 (pt_cmpR op_lt (pe_op op_mulW (pe_ix (r := rIxL K) ix_list (pv 10) pe_int (fun _ _ => rfl)) (pe_ix (r := rIxL K) ix_list (pv 10) pe_int (fun _ _ => rfl))) pe_int (nomark _))))) (pss_one (ps_ret pe_bl))
      pss_nil)))
      pss_nil)
    (pss_cons (ps_if (PW.pt (pw_or (pt_val (pe_def D_law_point_closer (hr.mono (by decide)) (by rfl) (pa_cons (pv 5) (pa_cons (pv 7) (pa_cons (pv 8) (pa_cons (pv 9) pa_nil)))))) (pw_or1 (pt_val (pe_def D_law_point_closer (hr.mono (by decide)) (by rfl) (pa_cons (pv 6) (pa_cons (pv 7) (pa_cons (pv 8) (pa_cons (pv 9) pa_nil))))))))) (pss_one (ps_ret pe_bl))
      pss_nil)
    (pss_one (ps_ret (pe_or (pe_def D_law_point_closer (hr.mono (by decide)) (by rfl) (pa_cons (pv 7) (pa_cons (pv 5) (pa_cons (pv 6) (pa_cons (pv 9) pa_nil))))) (pe_one (pe_def D_law_point_closer (hr.mono (by decide)) (by rfl) (pa_cons (pv 8) (pa_cons (pv 5) (pa_cons (pv 6) (pa_cons (pv 9) pa_nil)))))))))))))))))), ?_⟩
    have e1 : ∀ {x y : Int}, BdN 200 x → BdN 100 y → BdN 300 (x * y) := fun h h' => h.mul h'
    refine ⟨_, rfl, _, _, _, _, rfl, rfl, (.inl (.inl ha)), rfl, ?_⟩
    refine ⟨_, rfl, _, _, _, _, rfl, rfl, (.inl (.inl hb)), rfl, ?_⟩
    refine ⟨_, rfl, _, _, _, _, rfl, rfl, (.inl (.inl ha)), rfl, _, rfl, _, _, rfl, rfl, wmB hs.ax ht.d (by decide) (by decide), _, rfl, _, _, _, _, rfl, rfl, (.inl (.inl ha)), rfl, _, rfl, _, _, rfl, rfl, wmB hs.ay ht.d (by decide) (by decide), szOk rfl, fun a ha1 => ?_⟩
    have s1 := same_new (o := .tup [.int (s.ax * t.d), .int (s.ay * t.d)]) ha1
    refine ⟨_, rfl, _, _, _, _, rfl, rfl, (.inl (.inl (s1 _ _ ha))), rfl, _, rfl, _, _, rfl, rfl, wmB hs.bx ht.d (by decide) (by decide), _, rfl, _, _, _, _, rfl, rfl, (.inl (.inl (s1 _ _ ha))), rfl, _, rfl, _, _, rfl, rfl, wmB hs.bw ht.d (by decide) (by decide), szOk rfl, fun b hb1 => ?_⟩
    have s2 := s1.trans (same_new (o := .tup [.int (s.bx * t.d), .int (s.bw * t.d)]) hb1)
    refine ⟨_, rfl, _, _, _, _, rfl, rfl, (.inl (.inl (s2 _ _ hb))), rfl, _, rfl, _, _, rfl, rfl, wmB ht.ax hs.d (by decide) (by decide), _, rfl, _, _, _, _, rfl, rfl, (.inl (.inl (s2 _ _ hb))), rfl, _, rfl, _, _, rfl, rfl, wmB ht.ay hs.d (by decide) (by decide), szOk rfl, fun p hp1 => ?_⟩
    have s3 := s2.trans (same_new (o := .tup [.int (t.ax * s.d), .int (t.ay * s.d)]) hp1)
    refine ⟨_, rfl, _, _, _, _, rfl, rfl, (.inl (.inl (s3 _ _ hb))), rfl, _, rfl, _, _, rfl, rfl, wmB ht.bx hs.d (by decide) (by decide), _, rfl, _, _, _, _, rfl, rfl, (.inl (.inl (s3 _ _ hb))), rfl, _, rfl, _, _, rfl, rfl, wmB ht.bw hs.d (by decide) (by decide), szOk rfl, fun q hq1 => ?_⟩
    have s4 := s3.trans (same_new (o := .tup [.int (t.bx * s.d), .int (t.bw * s.d)]) hq1)
    have kp : ∀ {H0 : Hp} {p q : Addr} {o o' : HO}, H0 p = some o → H0 q = none → upd H0 q o' p = some o := fun h n => by rw [upd_ne (ne_of_none h n)]; exact h
    have A : _ = some (HO.tup [.int (s.ax * t.d), .int (s.ay * t.d)]) := kp (o' := .tup [.int (t.bx * s.d), .int (t.bw * s.d)]) (kp (o' := .tup [.int (t.ax * s.d), .int (t.ay * s.d)]) (kp (o' := .tup [.int (s.bx * t.d), .int (s.bw * t.d)]) upd_same hb1) hp1) hq1
    have B : _ = some (HO.tup [.int (s.bx * t.d), .int (s.bw * t.d)]) := kp (o' := .tup [.int (t.bx * s.d), .int (t.bw * s.d)]) (kp (o' := .tup [.int (t.ax * s.d), .int (t.ay * s.d)]) upd_same hp1) hq1
    have Pp : _ = some (HO.tup [.int (t.ax * s.d), .int (t.ay * s.d)]) := kp (o' := .tup [.int (t.bx * s.d), .int (t.bw * s.d)]) upd_same hq1
    have Qq : _ = some (HO.tup [.int (t.bx * s.d), .int (t.bw * s.d)]) := upd_same (a := q) (H := upd (upd (upd H a (.tup [.int (s.ax * t.d), .int (s.ay * t.d)])) b (.tup [.int (s.bx * t.d), .int (s.bw * t.d)])) p (.tup [.int (t.ax * s.d), .int (t.ay * s.d)]))
    generalize upd (upd (upd (upd H a (.tup [.int (s.ax * t.d), .int (s.ay * t.d)])) b (.tup [.int (s.bx * t.d), .int (s.bw * t.d)])) p (.tup [.int (t.ax * s.d), .int (t.ay * s.d)])) q (.tup [.int (t.bx * s.d), .int (t.bw * s.d)]) = H4 at s4 A B Pp Qq ⊢
    have q1 : BdN 200 (l * l) := hl.mul hl
    have q2 : BdN 300 (l * l * s.d) := q1.mul hs.d
    have q3 : BdN 400 (l * l * s.d * s.d) := q2.mul hs.d
    have q4 : BdN 500 (l * l * s.d * s.d * t.d) := q3.mul ht.d
    have q5 : BdN 600 (l * l * s.d * s.d * t.d * t.d) := q4.mul ht.d
    refine ⟨_, rfl, _, rfl, _, _, rfl, rfl, wmB hl hl (by decide) (by decide), _, rfl, _, _, rfl, rfl, wmB q1 hs.d (by decide) (by decide), _, rfl, _, _, rfl, rfl, wmB q2 hs.d (by decide) (by decide), _, rfl, _, _, rfl, rfl, wmB q3 ht.d (by decide) (by decide), _, rfl, _, _, rfl, rfl, wmB q4 ht.d (by decide) (by decide), ?_⟩
    refine nm ?_
    dsimp only
    have x1 := e1 hs.ax ht.d; have x2 := e1 hs.ay ht.d; have x3 := e1 hs.bx ht.d; have x4 := e1 hs.bw ht.d
    have y1 := e1 ht.ax hs.d; have y2 := e1 ht.ay hs.d; have y3 := e1 ht.bx hs.d; have y4 := e1 ht.bw hs.d
    unfold lclo at k
    generalize l * l * s.d * s.d * t.d * t.d = r2 at q5 k ⊢
    generalize s.ax * t.d = ax at A x1 k ⊢
    generalize s.ay * t.d = ay at A x2 k ⊢
    generalize s.bx * t.d = bx at B x3 k ⊢
    generalize s.bw * t.d = bw at B x4 k ⊢
    generalize t.ax * s.d = cx at Pp y1 k ⊢
    generalize t.ay * s.d = cy at Pp y2 k ⊢
    generalize t.bx * s.d = dx at Qq y3 k ⊢
    generalize t.bw * s.d = dy at Qq y4 k ⊢
    have tb : ∀ {ax ay bx bw x y : Int}, BdN 300 ax → BdN 300 ay → BdN 300 bx → BdN 300 bw → BdN 300 x → BdN 300 y → BdN 603 (trn ax ay bx bw x y) := fun h1 h2 h3 h4 h5 h6 => ((h3.sub h1).mul (h6.sub h2)).sub ((h4.sub h2).mul (h5.sub h1))
    -- what follows the first test
    refine cut (t := tIfS _ _ _) (fun σ' H' => ∃ v, σ' = [some (.ref a0), some (.ref b0), some (.int l), some (.int s.d), some (.int t.d), some (.ref a), some (.ref b), some (.ref p), some (.ref q), some (.int r2), v] ∧ Same H4 H' ∧ (decide (0 < r2) && crs ax ay bx bw cx cy dx dy) = false) ?_ (fun rest => ?_)
    · rintro σ' H' ⟨v, rfl, sH, cf⟩
      rw [cf, Bool.false_or] at k
      have A := sH _ _ A; have B := sH _ _ B; have Pp := sH _ _ Pp; have Qq := sH _ _ Qq
      have k := k H' (s4.trans sH)
      refine ⟨_, rfl, _, rfl, _, rfl, _, rfl, a, p, q, ax, ay, cx, cy, dx, dy, r2, rfl, A, Pp, Qq, x1, x2, y1, y2, y3, y4, q5.mono (by decide), _, rfl, ?_⟩
      cases c1 : ptc ax ay cx cy dx dy r2 with
      | true =>
        rw [c1] at k
        exact (if_pos rfl).mpr ((if_pos rfl).mpr k)
      | false =>
        rw [c1] at k
        refine (if_neg Bool.false_ne_true).mpr ⟨_, rfl, _, rfl, _, rfl, _, rfl, b, p, q, bx, bw, cx, cy, dx, dy, r2, rfl, B, Pp, Qq, x3, x4, y1, y2, y3, y4, q5.mono (by decide), _, rfl, ?_⟩
        cases c2 : ptc bx bw cx cy dx dy r2 with
        | true =>
          rw [c2] at k
          exact (if_pos rfl).mpr k
        | false =>
          rw [c2] at k
          refine (if_neg Bool.false_ne_true).mpr ⟨_, rfl, _, rfl, _, rfl, _, rfl, p, a, b, cx, cy, ax, ay, bx, bw, r2, rfl, Pp, A, B, y1, y2, x1, x2, x3, x4, q5.mono (by decide), _, rfl, ?_⟩
          cases c3 : ptc cx cy ax ay bx bw r2 with
          | true =>
            rw [c3] at k
            exact (if_pos rfl).mpr k
          | false =>
            rw [c3] at k
            exact (if_neg Bool.false_ne_true).mpr ⟨_, rfl, _, rfl, _, rfl, _, rfl, q, a, b, dx, dy, ax, ay, bx, bw, r2, rfl, Qq, A, B, y3, y4, x1, x2, x3, x4, q5.mono (by decide), k⟩
    · refine ⟨_, rfl, _, _, rfl, rfl, _, rfl, ?_⟩
      by_cases c : 0 < r2
      · refine ifY c ?_
        refine ⟨_, rfl, _, rfl, _, rfl, a, b, p, ax, ay, bx, bw, cx, cy, rfl, A, B, Pp, x1, x2, x3, x4, y1, y2, ?_⟩
        refine ⟨_, rfl, _, rfl, _, rfl, a, b, q, ax, ay, bx, bw, dx, dy, rfl, A, B, Qq, x1, x2, x3, x4, y3, y4, ?_⟩
        refine ⟨_, rfl, _, rfl, _, rfl, p, q, a, cx, cy, dx, dy, ax, ay, rfl, Pp, Qq, A, y1, y2, y3, y4, x1, x2, ?_⟩
        refine ⟨_, rfl, _, rfl, _, rfl, p, q, b, cx, cy, dx, dy, bx, bw, rfl, Pp, Qq, B, y1, y2, y3, y4, x3, x4, ?_⟩
        refine ⟨szOk rfl, fun ls hls => ?_⟩
        refine ⟨_, rfl, _, _, _, _, rfl, rfl, (.inl (.inl upd_same)), rfl, _, rfl, _, _, _, _, rfl, rfl, (.inl (.inl upd_same)), rfl, _, _, rfl, rfl, wmB (tb x1 x2 x3 x4 y1 y2) (tb x1 x2 x3 x4 y3 y4) (by decide) (by decide), _, _, rfl, rfl, _, rfl, ?_⟩
        have sL := same_new (o := .lst [.int (trn ax ay bx bw cx cy), .int (trn ax ay bx bw dx dy), .int (trn cx cy dx dy ax ay), .int (trn cx cy dx dy bx bw)]) hls
        by_cases d1 : trn ax ay bx bw cx cy * trn ax ay bx bw dx dy < 0
        · refine ifY d1 ?_
          refine ⟨_, rfl, _, _, _, _, rfl, rfl, (.inl (.inl upd_same)), rfl, _, rfl, _, _, _, _, rfl, rfl, (.inl (.inl upd_same)), rfl, _, _, rfl, rfl, wmB (tb y1 y2 y3 y4 x1 x2) (tb y1 y2 y3 y4 x3 x4) (by decide) (by decide), _, _, rfl, rfl, _, rfl, ?_⟩
          by_cases d2 : trn cx cy dx dy ax ay * trn cx cy dx dy bx bw < 0
          · refine ifY d2 ?_
            have e : (decide (0 < r2) && crs ax ay bx bw cx cy dx dy) = true := by
              unfold crs
              rw [decide_eq_true c, decide_eq_true d1, decide_eq_true d2]
              rfl
            rw [e, Bool.true_or] at k
            exact k _ (s4.trans sL)
          · refine ifN d2 (rest _ _ ⟨_, rfl, sL, ?_⟩)
            unfold crs
            rw [decide_eq_false d2, Bool.and_false, Bool.and_false]
        · refine ifN d1 ?_
          refine (if_neg Bool.false_ne_true).mpr (rest _ _ ⟨_, rfl, sL, ?_⟩)
          unfold crs
          rw [decide_eq_false d1, Bool.false_and, Bool.and_false]
      · refine ifN c (rest _ _ ⟨_, rfl, Same.refl _, ?_⟩)
        rw [decide_eq_false c, Bool.false_and]

end
end Sk

set_option Elab.async false
set_option linter.all false
set_option maxRecDepth 100000
set_option maxHeartbeats 4000000
namespace Sk
open PySem PySem.Spec PyProof.Rows L2
local macro_rules | `(tactic| walk_at "ms") => `(tactic| first | exact .inl ⟨by decide, by decide⟩ | exact .inl ⟨by omega, by omega⟩ | exact .inr ⟨by omega, by omega⟩ | exact wm (by omega) (by omega) | exact log_of (by omega) (by omega) | (show (0:Int) < _; omega) | exact ⟨by decide, by decide, by decide⟩)
abbrev s_law_begins : Stmt := top 40
abbrev s_law_leg_at : Stmt := top 41
abbrev s_law_place_on : Stmt := top 42
abbrev s_law_piece : Stmt := top 43
theorem two_at (f : Nat → Addr) {j : Nat} (h : j < 2) : atI [V.ref (f 0), V.ref (f 1)] (j : Int) = some (.ref (f j)) := by
  match j, h with
  | 0, _ => rfl
  | 1, _ => rfl
theorem LoT.off {H : Hp} {l p : Addr} {o : HO} {xss : List (List Int)} {ys : List V} (L : LoT H l xss) (hp : H p = some (.lst ys)) (n : l ≠ p) : LoT (upd H p o) l xss := by
  obtain ⟨qs, h1, h2, h3⟩ := L
  exact ⟨qs, by rw [upd_ne n]; exact h1, fun q hq => by rw [upd_ne (ne_of (h2 q hq) hp (by intro z; cases z))]; exact h2 q hq, h3⟩
theorem PathAt.off {C H p D ns r ch E o} (P : PathAt C H p D ns r) (R : Route D ns) (C0 : ChartAt H ch D) {ps : List Addr} (hE : H E = some (.lst (ps.map V.ref))) (hp : ∀ q ∈ ps, ∃ dx fs, H q = some (.ins C dx fs)) : PathAt C (upd H E o) p D ns r := by
  obtain ⟨dx, l1, l2, l3, l4, sa, va, P⟩ := P
  have n2 := R.n2
  have nt : ∀ q xs, H q = some (.tup xs) → q ∉ ps := fun q xs e hq => by
    obtain ⟨_, _, z⟩ := hp q hq
    rw [z] at e
    cases e
  have hd : ∀ l (ys : List V), H l = some (.lst ys) → (∃ y, y ∈ ys ∧ ∀ q, y = .ref q → ∃ xs, H q = some (.tup xs)) → l ≠ E := fun l ys hl ⟨y, hy, z⟩ w => by
    rw [w, hE] at hl
    cases hl
    obtain ⟨q, hq, rfl⟩ := List.mem_map.mp hy
    obtain ⟨xs, hx⟩ := z q rfl
    exact nt q xs hx hq
  have e1 : l1 ≠ E := hd l1 _ P.lg ⟨_, List.mem_map.mpr ⟨0, List.mem_range.mpr (by omega), rfl⟩, fun q hq => by
    obtain ⟨g, hg⟩ := R.ch 0 (by omega)
    rw [hg] at hq
    cases hq
    exact ⟨_, C0.lt g (CD.leg_mem hg).1⟩⟩
  have e2 : l2 ≠ E := hd l2 _ P.st ⟨V.ref (sa[0]'(by have := P.sl; omega)), List.mem_map.mpr ⟨_, List.getElem_mem _, rfl⟩, fun q hq => by cases hq; exact ⟨_, P.sx 0 (by have := P.sl; omega)⟩⟩
  have e3 : l3 ≠ E := hd l3 _ P.ve ⟨V.ref (va[0]'(by have := P.vl; omega)), List.mem_map.mpr ⟨_, List.getElem_mem _, rfl⟩, fun q hq => by cases hq; exact ⟨_, P.vx 0 (by have := P.vl; omega)⟩⟩
  have e4 : l4 ≠ E := hd l4 _ P.bgn ⟨_, List.mem_map.mpr ⟨0, List.mem_range.mpr (by omega), rfl⟩, fun q hq => by cases hq⟩
  have et : ∀ q xs, H q = some (.tup xs) → upd H E o q = some (.tup xs) := fun q xs e => by
    rw [upd_ne (ne_of e hE (by intro z; cases z))]
    exact e
  exact ⟨dx, l1, l2, l3, l4, sa, va, { P with
    ob := by rw [upd_ne (ne_of P.ob hE (by intro z; cases z))]; exact P.ob
    rt := et _ _ P.rt
    lg := by rw [upd_ne e1]; exact P.lg
    st := by rw [upd_ne e2]; exact P.st
    ve := by rw [upd_ne e3]; exact P.ve
    bgn := by rw [upd_ne e4]; exact P.bgn
    sx := fun j h => et _ _ (P.sx j h)
    vx := fun j h => et _ _ (P.vx j h) }⟩
theorem nx_ {D : Ends} {σ : L2.St} {H : Hp} (h : D.nx σ H) : tNext D σ H := h
theorem same_app {H H1 : Hp} {a : Addr} {o : HO} (h : H a = none) (s : Same H H1) : Same H (upd H1 a o) := fun b x e => by
  rw [upd_ne (ne_of_none e h)]
  exact s _ _ e
section
variable {P : Program} {w : World} {K : PySem.W.Frag} {mg : Str → Option Value} {base : Heap}
theorem sc_law_begins : FnScope ["lengths", "route", "begins", "k"] ["lengths", "route"] (defScope s_law_begins) := ⟨rfl, rfl, rfl, by decide +kernel, rfl, by decide +kernel, by decide +kernel⟩
theorem ok_law_begins {f : Addr} {fd : FuncData} (F : Fun K "_law_begins" "_law_begins" s_law_begins f fd) (T : TxtA mg) : FnOk P w K mg base CX0 1 f fd ["lengths", "route"] (spBegins) := by
  refine F.ok sc_law_begins (fun vs H Q E h => ?_) (fun cdv A outer s H vs Q E hr h => ?_)
  · obtain ⟨_, _, _, _, rfl, _⟩ := h
    rfl
  · obtain ⟨ld, r, D, ns, rfl, L, hr0, R, k⟩ := h
    have hu := hu_of hr
    refine ⟨_, (pss_cons (ps_set (i := 2) sc_law_begins.nd rfl (Or.inl rfl) (pe_lst (pa_cons pe_int pa_nil)))
    (pss_cons (ps_for PassesOwn.never rfl (pi_range1 (by rfl) T.range (pa_cons (pe_op op_sub (pe_callB (r := rLenK K) call_len_seq (by rfl) T.len boot_len (pa_cons (pv 1) pa_nil)) pe_int) pa_nil)) (pg_name (i := 3) sc_law_begins.nd rfl (Or.inl rfl))
      (pss_one (ps_expr (pe_bm PySem.F.plainAttrs_list PySem.F.slot_list_append PySem.F.type_list_append mt_append (pv 2) (pa_cons (pe_op op_add (pe_ix (r := rIxL K) ix_list (pv 2) (pv 3) (fun _ _ => rfl)) (pe_dget hu (pv 0) (pe_tup (pa_cons (pe_ix (r := rIxT K) ix_tup (pv 1) (pv 3) (fun _ _ => rfl)) (pa_cons (pe_ix (r := rIxT K) ix_tup (pv 1) (pe_op op_add (pv 3) pe_int) (fun _ _ => rfl)) pa_nil))) (fun _ _ => rfl))) pa_nil)))))
    (pss_one (ps_ret (pv 2))))), ?_⟩
    refine ⟨szOk rfl, fun b hb => ?_⟩
    have sm0 : Same H (upd H b (.lst [.int 0])) := same_new hb
    have n2 := R.n2
    have n20 := R.n20
    refine ⟨_, rfl, _, _, rfl, .inr (.inl (.inl (sm0 _ _ hr0))), _, _, rfl, rfl, ?_⟩
    refine ⟨_, rfl, by rw [List.length_map]; omega, by rw [List.length_map]; omega, for_range (n := (((ns.map V.str).length : Int) - 1).toNat) (fun i σ H2 => ∃ v3, σ = [some (.ref ld), some (.ref r), some (.ref b), v3] ∧ Same H H2 ∧ H2 b = some (.lst (((List.range (i + 1)).map (bg D ns)).map V.int)))
      ⟨none, rfl, sm0, upd_same⟩ ?_ ?_⟩
    · rintro i σ H2 hi ⟨v3, rfl, sm, hB⟩
      have hi : i + 1 < ns.length := by rw [List.length_map] at hi; omega
      have eu : 0 + (i : Int) + 1 = ((i + 1 : Nat) : Int) := by omega
      have hr2 := sm _ _ hr0
      refine ⟨_, rfl, .inl ⟨rfl, _, .inl (.inl hB)⟩, _, rfl, _, rfl, _, _, _, .int (bg D ns i), rfl, rfl, .inl (.inl hB), atI0 (by rw [List.getElem?_map, List.getElem?_map, List.getElem?_range (by omega)]; rfl), _, rfl, _, rfl, _, rfl, _, _, _, _, rfl, rfl, .inl (.inl hr2), atI0 (rn_at (by omega)), _, rfl, _, rfl, _, _, rfl, rfl, _, _, _, .str (rn ns (i + 1)), rfl, rfl, .inl (.inl hr2), by rw [eu]; exact atI_nat (rn_at hi), szOk rfl, fun q hq => ?_⟩
      have L2' := (L.same sm).same (same_new (o := .tup [.str (rn ns i), .str (rn ns (i + 1))]) hq)
      refine ⟨_, _, rfl, L2'.g (R.ch i hi) upd_same, _, _, rfl, rfl, ?_⟩
      refine ⟨_, _, _, rfl, rfl, same_new hq _ _ hB, small1000 (by rw [List.length_map, List.length_map, List.length_range]; omega), ?_⟩
      refine ⟨_, rfl, fun c o e => ?_, ?_⟩
      · rw [upd_ne (ne_of_none e hb)]
        exact same_new hq _ _ (sm _ _ e)
      · rw [upd_same, List.range_succ (n := i + 1), List.map_append, List.map_append]
        rfl
    · rintro σ H2 ⟨v3, rfl, sm, hB⟩
      rw [List.length_map, show ((ns.length : Int) - 1).toNat + 1 = ns.length by omega] at hB
      exact ⟨_, rfl, k b H2 hb sm hB⟩
theorem sc_law_leg_at : FnScope ["begins", "progress", "found", "k"] ["begins", "progress"] (defScope s_law_leg_at) := ⟨rfl, rfl, rfl, by decide +kernel, rfl, by decide +kernel, by decide +kernel⟩
theorem ok_law_leg_at {f : Addr} {fd : FuncData} (F : Fun K "_law_leg_at" "_law_leg_at" s_law_leg_at f fd) (T : TxtA mg) : FnOk P w K mg base CX0 1 f fd ["begins", "progress"] (spLawLegAt) := by
  refine F.ok sc_law_leg_at (fun vs H Q E h => ?_) (fun cdv A outer s H vs Q E hr h => ?_)
  · obtain ⟨_, _, _, _, rfl, _⟩ := h
    rfl
  · obtain ⟨b, x, D, ns, rfl, hb, n2, n20, k⟩ := h
    refine ⟨_, (pss_cons (ps_set (i := 2) sc_law_leg_at.nd rfl (Or.inl rfl) pe_int)
    (pss_cons (ps_for PassesOwn.never rfl (pi_range2 (by rfl) T.range (pa_cons pe_int (pa_cons (pe_op op_sub (pe_callB (r := rLenK K) call_len_seq (by rfl) T.len boot_len (pa_cons (pv 0) pa_nil)) pe_int) pa_nil))) (pg_name (i := 3) sc_law_leg_at.nd rfl (Or.inl rfl))
      (pss_one (ps_if (pt_cmpR op_le (pe_ix (r := rIxL K) ix_list (pv 0) (pv 3) (fun _ _ => rfl)) (pv 1) (nomark _)) (pss_one (ps_set (i := 2) sc_law_leg_at.nd rfl (Or.inl rfl) (pv 3)))
      pss_nil)))
    (pss_one (ps_ret (pv 2))))), ?_⟩
    refine ⟨_, rfl, _, _, rfl, .inl (.inl (.inl hb)), _, _, rfl, rfl, ?_⟩
    rw [bgs_len]
    refine ⟨_, _, rfl, ⟨by omega, by omega, by omega, by omega⟩, for_range (lo := 1) (n := ((ns.length : Int) - 1 - 1).toNat) (fun i σ H2 => ∃ v3, σ = [some (.ref b), some (.int x), some (.int (lat D ns i x : Nat)), v3] ∧ H2 = H)
      ⟨none, rfl, rfl⟩ ?_ ?_⟩
    · rintro i σ H2 hi ⟨v3, rfl, rfl⟩
      have e1 : (1 : Int) + (i : Int) = ((i + 1 : Nat) : Int) := by omega
      refine ⟨_, rfl, _, rfl, _, _, _, .int (bg D ns (i + 1)), rfl, rfl, .inl (.inl hb), by rw [e1]; exact atI_nat (bgs_at (by omega)), _, rfl, _, _, rfl, rfl, _, rfl, ite2 (fun e => ?_) (fun e => ?_)⟩
      · have e := of_decide_eq_true e
        refine ⟨_, rfl, some (.int (1 + (i : Int))), ?_, rfl⟩
        rw [lat_succ, if_pos e, e1]
        rfl
      · have e : ¬ bg D ns (i + 1) ≤ x := fun z => e (decide_eq_true z)
        refine ⟨some (.int (1 + (i : Int))), ?_, rfl⟩
        rw [lat_succ, if_neg e]
        rfl
    · rintro σ H2 ⟨v3, rfl, rfl⟩
      rw [show ((ns.length : Int) - 1 - 1).toNat = ns.length - 1 - 1 by omega]
      exact ⟨_, rfl, k⟩
theorem sc_law_place_on : FnScope ["chart", "route", "begins", "k", "progress", "a", "b", "length", "way"] ["chart", "route", "begins", "k", "progress"] (defScope s_law_place_on) := ⟨rfl, rfl, rfl, by decide +kernel, rfl, by decide +kernel, by decide +kernel⟩
theorem ok_law_place_on {f : Addr} {fd : FuncData} (F : Fun K "_law_place_on" "_law_place_on" s_law_place_on f fd) (T : TxtA mg) : FnOk P w K mg base CX0 1 f fd ["chart", "route", "begins", "k", "progress"] (spPlaceOn) := by
  refine F.ok sc_law_place_on (fun vs H Q E h => ?_) (fun cdv A outer s H vs Q E hr h => ?_)
  · obtain ⟨_, _, _, _, _, _, _, _, rfl, _⟩ := h
    rfl
  · obtain ⟨ch, r, b, z, x, D, ns, j, rfl, rfl, C0, hr0, hb, R, hj, k⟩ := h
    have hu := hu_of hr
    refine ⟨_, (pss_cons (ps_set (i := 5) sc_law_place_on.nd rfl (Or.inl rfl) (pe_dget hu (pe_dget hu (pv 0) pe_str (fun _ _ => rfl)) (pe_ix (r := rIxT K) ix_tup (pv 1) (pv 3) (fun _ _ => rfl)) (fun _ _ => rfl)))
    (pss_cons (ps_set (i := 6) sc_law_place_on.nd rfl (Or.inl rfl) (pe_dget hu (pe_dget hu (pv 0) pe_str (fun _ _ => rfl)) (pe_ix (r := rIxT K) ix_tup (pv 1) (pe_op op_add (pv 3) pe_int) (fun _ _ => rfl)) (fun _ _ => rfl)))
    (pss_cons (ps_set (i := 7) sc_law_place_on.nd rfl (Or.inl rfl) (pe_op op_sub (pe_ix (r := rIxL K) ix_list (pv 2) (pe_op op_add (pv 3) pe_int) (fun _ _ => rfl)) (pe_ix (r := rIxL K) ix_list (pv 2) (pv 3) (fun _ _ => rfl))))
    (pss_cons (ps_set (i := 8) sc_law_place_on.nd rfl (Or.inl rfl) (pe_op op_sub (pv 4) (pe_ix (r := rIxL K) ix_list (pv 2) (pv 3) (fun _ _ => rfl))))
    (pss_one (ps_ret (pe_tup (pa_cons (pe_op op_add (pe_op op_mul (pe_ix (r := rIxT K) ix_tup (pv 5) pe_int (fun _ _ => rfl)) (pv 7)) (pe_op op_mul (pe_op op_sub (pe_ix (r := rIxT K) ix_tup (pv 6) pe_int (fun _ _ => rfl)) (pe_ix (r := rIxT K) ix_tup (pv 5) pe_int (fun _ _ => rfl))) (pv 8))) (pa_cons (pe_op op_add (pe_op op_mul (pe_ix (r := rIxT K) ix_tup (pv 5) pe_int (fun _ _ => rfl)) (pv 7)) (pe_op op_mul (pe_op op_sub (pe_ix (r := rIxT K) ix_tup (pv 6) pe_int (fun _ _ => rfl)) (pe_ix (r := rIxT K) ix_tup (pv 5) pe_int (fun _ _ => rfl))) (pv 8))) (pa_cons (pv 7) pa_nil)))))))))), ?_⟩
    obtain ⟨⟨a1, x1, y1, h1⟩, a2, x2, y2, h2⟩ := R.pt C0 hj
    obtain ⟨p1, p2, p3, p4, p5, p6⟩ := C0.pf _ _ _ _ h1
    obtain ⟨q1, q2, q3, q4, q5, q6⟩ := C0.pf _ _ _ _ h2
    have eu : (j : Int) + 1 = ((j + 1 : Nat) : Int) := by omega
    refine ⟨_, rfl, _, _, rfl, C0.gf, _, rfl, _, rfl, _, _, _, _, rfl, rfl, .inl (.inl hr0), atI_nat (rn_at (by omega)), _, _, rfl, C0.gp h1, ?_⟩
    refine ⟨_, rfl, _, _, rfl, C0.gf, _, rfl, _, rfl, _, _, rfl, rfl, _, _, _, .str (rn ns (j + 1)), rfl, rfl, .inl (.inl hr0), by rw [eu]; exact atI_nat (rn_at hj), _, _, rfl, C0.gp h2, ?_⟩
    refine ⟨_, rfl, _, rfl, _, _, rfl, rfl, _, _, _, .int (bg D ns (j + 1)), rfl, rfl, .inl (.inl hb), by rw [eu]; exact atI_nat (bgs_at hj), _, rfl, _, rfl, _, _, _, .int (bg D ns j), rfl, rfl, .inl (.inl hb), atI_nat (bgs_at (by omega)), _, _, rfl, rfl, ?_⟩
    refine ⟨_, rfl, _, rfl, _, rfl, _, _, _, .int (bg D ns j), rfl, rfl, .inl (.inl hb), atI_nat (bgs_at (by omega)), _, _, rfl, rfl, ?_⟩
    refine nm ?_
    dsimp only
    have el : bg D ns (j + 1) - bg D ns j = D.len (rn ns j) (rn ns (j + 1)) := by
      show bg D ns j + D.len (rn ns j) (rn ns (j + 1)) - bg D ns j = _
      omega
    rw [el]
    refine ⟨_, rfl, _, _, _, _, rfl, rfl, (.inl (.inl p2)), rfl, _, rfl, _, _, rfl, rfl, (by walk_at "ms"), _, rfl, _, _, _, _, rfl, rfl, (.inl (.inl q2)), rfl, _, rfl, _, _, _, _, rfl, rfl, (.inl (.inl p2)), rfl, _, _, rfl, rfl, _, rfl, _, _, rfl, rfl, (by walk_at "ms"), _, _, rfl, rfl, _, rfl, _, _, _, _, rfl, rfl, (.inl (.inl p2)), rfl, _, rfl, _, _, rfl, rfl, (by walk_at "ms"), _, rfl, _, _, _, _, rfl, rfl, (.inl (.inl q2)), rfl, _, rfl, _, _, _, _, rfl, rfl, (.inl (.inl p2)), rfl, _, _, rfl, rfl, _, rfl, _, _, rfl, rfl, (by walk_at "ms"), _, _, rfl, rfl, _, rfl, ?_⟩
    refine ⟨szOk rfl, fun q hq => k q _ hq (same_new hq) ?_⟩
    rw [upd_same]
    unfold plc
    rw [CD.xy_eq h1, CD.xy_eq h2]
    rfl
theorem sc_law_piece : FnScope ["chart", "route", "begins", "low", "high", "total", "first", "last", "place", "line", "k", "start", "end", "a", "b"] ["chart", "route", "begins", "low", "high"] (defScope s_law_piece) := ⟨rfl, rfl, rfl, by decide +kernel, rfl, by decide +kernel, by decide +kernel⟩
theorem ok_law_piece {f : Addr} {fd : FuncData} (F : Fun K "_law_piece" "_law_piece" s_law_piece f fd) (T : TxtA mg)
    (D_law_place_on : Def P w K mg base 1 "_law_place_on" ["chart", "route", "begins", "k", "progress"] (spPlaceOn))
    (D_law_leg_at : Def P w K mg base 1 "_law_leg_at" ["begins", "progress"] (spLawLegAt)) : FnOk P w K mg base CX0 2 f fd ["chart", "route", "begins", "low", "high"] (spLawPiece) := by
  refine F.ok sc_law_piece (fun vs H Q E h => ?_) (fun cdv A outer s H vs Q E hr h => ?_)
  · obtain ⟨_, _, _, _, _, _, _, rfl, _⟩ := h
    rfl
  · obtain ⟨ch, r, b, lo0, hi0, D, ns, rfl, C0, hr0, hb, R, hlh, k⟩ := h
    refine ⟨_, (pss_cons (ps_set (i := 5) sc_law_piece.nd rfl (Or.inl rfl) (pe_ix (r := rIxL K) ix_list (pv 2) (pe_op op_sub (pe_callB (r := rLenK K) call_len_seq (by rfl) T.len boot_len (pa_cons (pv 2) pa_nil)) pe_int) (fun _ _ => rfl)))
    (pss_cons (ps_if (PW.pt (pw_or (pt_cmpR op_lt (pv 4) pe_int (nomark _)) (pw_or1 (pt_cmpR op_ge (pv 3) (pv 5) (nomark _))))) (pss_one (ps_ret (pe_lst pa_nil)))
      pss_nil)
    (pss_cons (ps_set (i := 6) sc_law_piece.nd rfl (Or.inl rfl) (pe_callB (call_max2 rfl) (by rfl) T.max boot_max (pa_cons (pv 3) (pa_cons pe_int pa_nil))))
    (pss_cons (ps_set (i := 7) sc_law_piece.nd rfl (Or.inl rfl) (pe_callB (call_min2 rfl) (by rfl) T.min boot_min (pa_cons (pv 4) (pa_cons (pv 5) pa_nil))))
    (pss_cons (ps_if (pt_cmpR op_eq (pv 6) (pv 7) (nomark _)) (pss_cons (ps_set (i := 8) sc_law_piece.nd rfl (Or.inl rfl) (pe_def D_law_place_on (hr.mono (by decide)) (by rfl) (pa_cons (pv 0) (pa_cons (pv 1) (pa_cons (pv 2) (pa_cons (pe_def D_law_leg_at (hr.mono (by decide)) (by rfl) (pa_cons (pv 2) (pa_cons (pv 6) pa_nil))) (pa_cons (pv 6) pa_nil)))))))
    (pss_one (ps_ret (pe_lst (pa_cons (pe_tup (pa_cons (pe_ix (r := rIxT K) ix_tup (pv 8) pe_int (fun _ _ => rfl)) (pa_cons (pe_ix (r := rIxT K) ix_tup (pv 8) pe_int (fun _ _ => rfl)) (pa_cons (pe_ix (r := rIxT K) ix_tup (pv 8) pe_int (fun _ _ => rfl)) (pa_cons (pe_ix (r := rIxT K) ix_tup (pv 8) pe_int (fun _ _ => rfl)) (pa_cons (pe_ix (r := rIxT K) ix_tup (pv 8) pe_int (fun _ _ => rfl)) pa_nil)))))) pa_nil)))))
      pss_nil)
    (pss_cons (ps_set (i := 9) sc_law_piece.nd rfl (Or.inl rfl) (pe_lst pa_nil))
    (pss_cons (ps_for PassesOwn.never rfl (pi_range1 (by rfl) T.range (pa_cons (pe_op op_sub (pe_callB (r := rLenK K) call_len_seq (by rfl) T.len boot_len (pa_cons (pv 1) pa_nil)) pe_int) pa_nil)) (pg_name (i := 10) sc_law_piece.nd rfl (Or.inl rfl))
      (pss_cons (ps_set (i := 11) sc_law_piece.nd rfl (Or.inl rfl) (pe_callB (call_max2 rfl) (by rfl) T.max boot_max (pa_cons (pv 6) (pa_cons (pe_ix (r := rIxL K) ix_list (pv 2) (pv 10) (fun _ _ => rfl)) pa_nil))))
    (pss_cons (ps_set (i := 12) sc_law_piece.nd rfl (Or.inl rfl) (pe_callB (call_min2 rfl) (by rfl) T.min boot_min (pa_cons (pv 7) (pa_cons (pe_ix (r := rIxL K) ix_list (pv 2) (pe_op op_add (pv 10) pe_int) (fun _ _ => rfl)) pa_nil))))
    (pss_one (ps_if (pt_cmpR op_lt (pv 11) (pv 12) (nomark _)) (pss_cons (ps_set (i := 13) sc_law_piece.nd rfl (Or.inl rfl) (pe_def D_law_place_on (hr.mono (by decide)) (by rfl) (pa_cons (pv 0) (pa_cons (pv 1) (pa_cons (pv 2) (pa_cons (pv 10) (pa_cons (pv 11) pa_nil)))))))
    (pss_cons (ps_set (i := 14) sc_law_piece.nd rfl (Or.inl rfl) (pe_def D_law_place_on (hr.mono (by decide)) (by rfl) (pa_cons (pv 0) (pa_cons (pv 1) (pa_cons (pv 2) (pa_cons (pv 10) (pa_cons (pv 12) pa_nil)))))))
    (pss_one (ps_expr (pe_bm PySem.F.plainAttrs_list PySem.F.slot_list_append PySem.F.type_list_append mt_append (pv 9) (pa_cons (pe_tup (pa_cons (pe_ix (r := rIxT K) ix_tup (pv 13) pe_int (fun _ _ => rfl)) (pa_cons (pe_ix (r := rIxT K) ix_tup (pv 13) pe_int (fun _ _ => rfl)) (pa_cons (pe_ix (r := rIxT K) ix_tup (pv 14) pe_int (fun _ _ => rfl)) (pa_cons (pe_ix (r := rIxT K) ix_tup (pv 14) pe_int (fun _ _ => rfl)) (pa_cons (pe_ix (r := rIxT K) ix_tup (pv 13) pe_int (fun _ _ => rfl)) pa_nil)))))) pa_nil))))))
      pss_nil)))))
    (pss_one (ps_ret (pv 9)))))))))), ?_⟩
    have n2 := R.n2
    have n20 := R.n20
    refine ⟨_, rfl, _, rfl, _, _, rfl, .inl (.inl (.inl hb)), _, _, rfl, rfl, _, _, _, .int (bg D ns (ns.length - 1)), rfl, rfl, .inl (.inl hb), atI_lastn rfl (bgs_last (by omega)), ?_⟩
    have nl0 : ∀ H' : Hp, ∀ q, H q = none → H' = upd H q (.lst []) → (hi0 < 0 ∨ bg D ns (ns.length - 1) ≤ lo0) → Q (.ref q) H' := fun H' q hq e h => by
      subst e
      refine k q _ hq (same_new hq) ?_
      unfold pcs
      dsimp only
      rw [if_pos h]
      exact LoT.nil upd_same
    refine ⟨_, rfl, _, _, rfl, rfl, _, rfl, ite2 (fun e => ?_) (fun e => ?_)⟩
    · have e := of_decide_eq_true e
      exact ⟨szOk rfl, fun q hq => nl0 _ q hq rfl (.inl e)⟩
    have e : ¬ hi0 < 0 := fun z => e (decide_eq_true z)
    refine ⟨_, rfl, _, rfl, _, _, rfl, rfl, _, rfl, ite2 (fun e2 => ?_) (fun e2 => ?_)⟩
    · have e2 := of_decide_eq_true e2
      exact ⟨szOk rfl, fun q hq => nl0 _ q hq rfl (.inr e2)⟩
    have e2 : ¬ bg D ns (ns.length - 1) ≤ lo0 := fun z => e2 (decide_eq_true z)
    have hpc : pcs D ns lo0 hi0 = if (if 0 > lo0 then 0 else lo0) = (if bg D ns (ns.length - 1) < hi0 then bg D ns (ns.length - 1) else hi0) then [seg D ns (lat D ns (ns.length - 1 - 1) (if 0 > lo0 then 0 else lo0)) (if 0 > lo0 then 0 else lo0) (if 0 > lo0 then 0 else lo0)] else segsOf D ns (if 0 > lo0 then 0 else lo0) (if bg D ns (ns.length - 1) < hi0 then bg D ns (ns.length - 1) else hi0) (List.range (ns.length - 1)) := by
      unfold pcs
      dsimp only
      rw [if_neg (by omega)]
    rw [hpc] at k
    refine ⟨_, rfl, _, _, rfl, ?_⟩
    refine ⟨_, rfl, _, rfl, _, _, rfl, ?_⟩
    refine nm ?_
    dsimp only
    generalize (if 0 > lo0 then 0 else lo0) = f1 at *
    generalize (if bg D ns (ns.length - 1) < hi0 then bg D ns (ns.length - 1) else hi0) = l at *
    refine ⟨_, rfl, _, rfl, rfl, _, rfl, ite2 (fun e3 => ?_) (fun e3 => ?_)⟩
    · have e3 := V.int.inj (of_decide_eq_true e3)
      rw [if_pos e3] at k
      obtain ⟨a1, b1, c1⟩ := lat_cases D ns (ns.length - 1 - 1) f1
      refine ⟨_, rfl, _, rfl, _, rfl, _, rfl, _, rfl, b, f1, D, ns, rfl, hb, n2, n20, ?_⟩
      refine ⟨_, rfl, ch, r, b, _, f1, D, ns, lat D ns (ns.length - 1 - 1) f1, rfl, rfl, C0, hr0, hb, R, by omega, fun q1 H1 hq1 sm1 ht1 => ?_⟩
      refine ⟨_, rfl, _, _, _, _, rfl, rfl, .inl (.inl ht1), rfl, _, rfl, _, _, _, _, rfl, rfl, .inl (.inl ht1), rfl, _, rfl, _, _, _, _, rfl, rfl, .inl (.inl ht1), rfl, _, rfl, _, _, _, _, rfl, rfl, .inl (.inl ht1), rfl, _, rfl, _, _, _, _, rfl, rfl, .inl (.inl ht1), rfl, szOk rfl, fun q2 hq2 => ⟨szOk rfl, fun q hq => ?_⟩⟩
      refine k q _ (sm1.free ((same_new hq2).free hq)) (fun b o e => same_new hq _ _ (same_new hq2 _ _ (sm1 _ _ e))) ?_
      exact ⟨[(q2, _)], upd_same, fun z hz => by rw [List.mem_singleton.mp hz]; exact same_new hq _ _ upd_same, rfl⟩
    have e3 : ¬ f1 = l := fun z => e3 (decide_eq_true (congrArg V.int z))
    rw [if_neg e3] at k
    refine ⟨szOk rfl, fun ln hln => ?_⟩
    have sm0 : Same H (upd H ln (.lst [])) := same_new hln
    refine ⟨_, rfl, _, _, rfl, .inr (.inl (.inl (sm0 _ _ hr0))), _, _, rfl, rfl, ?_⟩
    refine ⟨_, rfl, by rw [List.length_map]; omega, by rw [List.length_map]; omega, for_range (n := (((ns.map V.str).length : Int) - 1).toNat) (fun i σ H2 => ∃ v8 v10 v11 v12 v13 v14, σ = [some (.ref ch), some (.ref r), some (.ref b), some (.int lo0), some (.int hi0), some (.int (bg D ns (ns.length - 1))), some (.int f1), some (.int l), v8, some (.ref ln), v10, v11, v12, v13, v14] ∧ Same H H2 ∧ LoT H2 ln (segsOf D ns f1 l (List.range i)))
      ⟨none, none, none, none, none, none, rfl, sm0, LoT.nil upd_same⟩ ?_ ?_⟩
    · rintro i σ H2 hi ⟨v8, v10, v11, v12, v13, v14, rfl, sm, hL⟩
      have hi : i + 1 < ns.length := by rw [List.length_map] at hi; omega
      have eu : 0 + (i : Int) + 1 = ((i + 1 : Nat) : Int) := by omega
      have hb2 := sm _ _ hb
      have hsn : segsOf D ns f1 l (List.range (i + 1)) = segsOf D ns f1 l (List.range i) ++ (match segOf D ns f1 l i with | some x => [x] | none => []) := by
        unfold segsOf
        rw [List.range_succ, List.filterMap_append]
        congr 1
        show List.filterMap (segOf D ns f1 l) [i] = _
        cases e : segOf D ns f1 l i <;> simp [e]
      refine ⟨_, rfl, _, rfl, _, rfl, _, _, _, .int (bg D ns i), rfl, rfl, .inl (.inl hb2), atI0 (bgs_at (by omega)), _, _, rfl, ?_⟩
      refine ⟨_, rfl, _, rfl, _, rfl, _, _, rfl, rfl, _, _, _, .int (bg D ns (i + 1)), rfl, rfl, .inl (.inl hb2), by rw [eu]; exact atI_nat (bgs_at hi), _, _, rfl, ?_⟩
      refine ⟨_, rfl, _, rfl, _, _, rfl, rfl, _, rfl, ite2 (fun e => ?_) (fun e => ?_)⟩
      · have e := of_decide_eq_true e
        have es : segOf D ns f1 l i = some (seg D ns i (if bg D ns i > f1 then bg D ns i else f1) (if bg D ns (i + 1) < l then bg D ns (i + 1) else l)) := by
          unfold segOf
          dsimp only
          rw [if_pos e]
        obtain ⟨ys, hy, hyl⟩ := hL.li
        have hys : ys.length ≤ 100 := by
          rw [hyl]
          have := segsOf_len D ns f1 l (List.range i)
          rw [List.length_range] at this
          omega
        refine ⟨_, rfl, _, rfl, _, rfl, _, rfl, _, rfl, ch, r, b, _, _, D, ns, i, rfl, Int.zero_add _, C0.same sm, sm _ _ hr0, hb2, R, hi, fun q1 H3 hq1 sm1 ht1 => ?_⟩
        have sm3 : Same H H3 := fun b o e => sm1 _ _ (sm _ _ e)
        refine ⟨_, rfl, _, rfl, _, rfl, _, rfl, _, rfl, ch, r, b, _, _, D, ns, i, rfl, Int.zero_add _, C0.same sm3, sm3 _ _ hr0, sm1 _ _ hb2, R, hi, fun q2 H4 hq2 sm2 ht2 => ?_⟩
        have ht1' := sm2 _ _ ht1
        have hy4 := sm2 _ _ (sm1 _ _ hy)
        refine ⟨_, rfl, .inl ⟨rfl, _, .inl (.inl hy4)⟩, _, rfl, _, _, _, _, rfl, rfl, .inl (.inl ht1'), rfl, _, rfl, _, _, _, _, rfl, rfl, .inl (.inl ht1'), rfl, _, rfl, _, _, _, _, rfl, rfl, .inl (.inl ht2), rfl, _, rfl, _, _, _, _, rfl, rfl, .inl (.inl ht2), rfl, _, rfl, _, _, _, _, rfl, rfl, .inl (.inl ht1'), rfl, szOk rfl, fun q3 hq3 => ?_⟩
        refine ⟨_, _, _, rfl, rfl, same_new hq3 _ _ hy4, small1000 (by omega), ?_⟩
        refine ⟨_, _, _, _, _, _, rfl, fun b o e => ?_, ?_⟩
        · rw [upd_ne (ne_of_none e hln)]
          exact same_new hq3 _ _ (sm2 _ _ (sm3 _ _ e))
        · rw [hsn, es]
          exact LoT.snoc (((hL.same sm1).same sm2).same (same_new hq3)) (same_new hq3 _ _ hy4) upd_same
      · have e : ¬ _ := fun z => e (decide_eq_true z)
        have es : segOf D ns f1 l i = none := by
          unfold segOf
          dsimp only
          rw [if_neg e]
        refine ⟨_, _, _, _, _, _, rfl, sm, ?_⟩
        rw [hsn, es, List.append_nil]
        exact hL
    · rintro σ H2 ⟨v8, v10, v11, v12, v13, v14, rfl, sm, hL⟩
      refine ⟨_, rfl, k ln H2 hln sm ?_⟩
      rw [List.length_map, show ((ns.length : Int) - 1).toNat = ns.length - 1 by omega] at hL
      exact hL
end
end Sk

set_option Elab.async false
set_option linter.all false
set_option maxRecDepth 100000
set_option maxHeartbeats 4000000
namespace Sk
open PySem PySem.Spec PyProof.Rows L2
section
variable {P : Program} {w : World} {K : PySem.W.Frag} {mg : Str → Option Value} {base : Heap}
abbrev s_law_small_chart : Stmt := top 51
theorem sc_law_small_chart : FnScope ["state", "chart", "names"] ["state"] (defScope s_law_small_chart) := ⟨rfl, rfl, rfl, by decide +kernel, rfl, by decide +kernel, by decide +kernel⟩
theorem ok_law_small_chart {f : Addr} {fd : FuncData} (F : Fun K "_law_small_chart" "_law_small_chart" s_law_small_chart f fd) (T : TxtA mg)
    (D_law_draw : Def P w K mg base 1 "_law_draw" ["state", "bound"] (spDraw K))
    (D_law_pick : Def P w K mg base 2 "_law_pick" ["state", "things"] (spPick K))
    (D_law_chart : Def P w K mg base 4 "_law_chart" ["state", "many", "size"] (spChartB K)) : FnOk P w K mg base CX0 5 f fd ["state"] (spSmall K) := by
  refine F.ok sc_law_small_chart (fun vs H Q E h => ?_) (fun cdv A outer s H vs Q E hr h => ?_)
  · obtain ⟨_, _, rfl, _⟩ := h
    rfl
  · obtain ⟨d, c, rfl, S, k⟩ := h
    have hu := hu_of hr
    refine ⟨_, (pss_cons (ps_set (i := 1) sc_law_small_chart.nd rfl (Or.inl rfl) (pe_def D_law_chart (hr.mono (by decide)) (by rfl) (pa_cons (pv 0) (pa_cons (pe_op op_add pe_int (pe_def D_law_draw (hr.mono (by decide)) (by rfl) (pa_cons (pv 0) (pa_cons pe_int pa_nil)))) (pa_cons (pe_def D_law_pick (hr.mono (by decide)) (by rfl) (pa_cons (pv 0) (pa_cons (pe_lst (pa_cons pe_int (pa_cons pe_int (pa_cons pe_int (pa_cons pe_int pa_nil))))) pa_nil))) pa_nil)))))
    (pss_cons (ps_if (pt_cmpR op_eq (pe_callB (r := rLenK K) call_len_seq (by rfl) T.len boot_len (pa_cons (pe_dget hu (pv 1) pe_str (fun _ _ => rfl)) pa_nil)) pe_int (nomark _)) (pss_cons (ps_set (i := 2) sc_law_small_chart.nd rfl (Or.inl rfl) (pe_callB (call_sortedD rfl) (by rfl) T.sorted boot_sorted (pa_cons (pe_dget hu (pv 1) pe_str (fun _ _ => rfl)) pa_nil)))
    (pss_one (ps_expr (pe_bm PySem.F.plainAttrs_list PySem.F.slot_list_append PySem.F.type_list_append mt_append (pe_dget hu (pv 1) pe_str (fun _ _ => rfl)) (pa_cons (pe_tup (pa_cons (pe_ix (r := rIxL K) ix_list (pv 2) pe_int (fun _ _ => rfl)) (pa_cons (pe_ix (r := rIxL K) ix_list (pv 2) pe_int (fun _ _ => rfl)) (pa_cons pe_str (pa_cons pe_int (pa_cons pe_int pa_nil)))))) pa_nil)))))
      pss_nil)
    (pss_one (ps_ret (pv 1))))), ?_⟩
    refine ⟨_, rfl, _, rfl, d, c, _, rfl, S, (by decide), (by decide), fun x1 H1 x1a x1b S1 kp1 => ?_⟩
    refine ⟨_, _, rfl, rfl, _, rfl, szOk rfl, fun p2 hp2 => ?_⟩
    refine ⟨d, c, _, _, rfl, (S1.new hp2), .inl (.inl upd_same), (fun z => nomatch z), (by show 4 ≤ 1000; decide), fun v2 H2 hv2 S2 kp2 => ?_⟩
    obtain ⟨x2, rfl, x2a, x2b⟩ : ∃ z : Int, v2 = .int z ∧ 2 ≤ z ∧ z ≤ 40 := by
      simp only [List.mem_cons, List.not_mem_nil, or_false] at hv2
      rcases hv2 with rfl | rfl | rfl | rfl <;> exact ⟨_, rfl, by decide, by decide⟩
    refine ⟨d, c, _, _, rfl, S2, (by omega), (by omega), (by omega), (by omega), fun D ch H4 ce hlg hpos C4 hch hfx S4 kp4 => ?_⟩
    have kA : Keep d H H2 := (kp1.trans (Keep.of (same_new hp2))).trans kp2
    have kB := kA.trans kp4
    have hch0 := kA.none (S2.nd hch) hch
    have hfx0 := kA.none (S2.nd hfx) hfx
    have hlg0 := kA.none (S2.nd hlg) hlg
    refine ⟨_, rfl, _, _, rfl, C4.gl, _, _, rfl, .inl (.inl (.inl C4.lg)), rfl, _, rfl, ite2 (fun e => ?_) (fun e => ?_)⟩
    rotate_left
    · exact ⟨_, rfl, k D ch H4 (fun z => e (decide_eq_true (by rw [z]; rfl))) hpos C4 hch0 hfx0 S4 kB⟩
    obtain ⟨ns, hks, hnd, n2, n7, hpt, hsep⟩ := ce
    refine ⟨_, rfl, _, _, rfl, C4.gf, D.fx, D.fs, ns, rfl, .inl C4.fx, hks, (by omega), fun ys p hpm hso hp => ?_⟩
    have hyl := hpm.length_eq
    have hynd : ys.Nodup := hpm.nodup_iff.mpr hnd
    obtain ⟨n0, n1, rest, rfl⟩ : ∃ n0 n1 rest, ys = n0 :: n1 :: rest := by
      match ys, hyl with
      | [], h => exact absurd h (by show ¬ 0 = ns.length; omega)
      | [a], h => exact absurd h (by show ¬ 1 = ns.length; omega)
      | a :: b :: l, _ => exact ⟨a, b, l, rfl⟩
    have m0 : n0 ∈ ns := hpm.mem_iff.mp List.mem_cons_self
    have m1 : n1 ∈ ns := hpm.mem_iff.mp (List.mem_cons_of_mem _ List.mem_cons_self)
    have n01 : n0 ≠ n1 := fun z => by
      have := (List.nodup_cons.mp hynd).1
      rw [z] at this
      exact this List.mem_cons_self
    have ls0 : D.ls = [] := by
      have := V.int.inj (of_decide_eq_true e)
      rw [List.length_map] at this
      exact List.eq_nil_of_length_eq_zero (by omega)
    have C5 := C4.same (same_new (o := .lst ((n0 :: n1 :: rest).map V.str)) hp)
    have hys : (upd H4 p (.lst ((n0 :: n1 :: rest).map V.str))) p = _ := upd_same
    have S5 := S4.new (o := .lst ((n0 :: n1 :: rest).map V.str)) hp
    have k5 := kB.trans (Keep.of (same_new (o := .lst ((n0 :: n1 :: rest).map V.str)) hp))
    generalize upd H4 p (.lst ((n0 :: n1 :: rest).map V.str)) = H5 at *
    refine nm ?_
    dsimp only
    have e0 : (List.map V.str (n0 :: n1 :: rest))[0]? = some (.str n0) := rfl
    have e1 : (List.map V.str (n0 :: n1 :: rest))[1]? = some (.str n1) := rfl
    have a0 : atI (List.map V.str (n0 :: n1 :: rest)) 0 = some (.str n0) := atI_nat e0
    have a1 : atI (List.map V.str (n0 :: n1 :: rest)) 1 = some (.str n1) := atI_nat e1
    refine ⟨_, rfl, _, _, rfl, C5.gl, .inl ⟨rfl, _, .inl (.inl C5.lg)⟩, _, rfl, _, _, _, _, rfl, rfl, (.inl (.inl hys)), a0, _, rfl, _, _, _, _, rfl, rfl, (.inl (.inl hys)), a1, szOk rfl, fun t ht => ?_⟩
    have C6 := C5.same (same_new (o := .tup [.str n0, .str n1, .str "N", .int 0, .int 600]) ht)
    have htt : (upd H5 t (.tup [.str n0, .str n1, .str "N", .int 0, .int 600])) t = _ := upd_same
    have S6 := S5.new (o := .tup [.str n0, .str n1, .str "N", .int 0, .int 600]) ht
    have k6 := k5.trans (Keep.of (same_new (o := .tup [.str n0, .str n1, .str "N", .int 0, .int 600]) ht))
    generalize upd H5 t (.tup [.str n0, .str n1, .str "N", .int 0, .int 600]) = H6 at *
    refine ⟨_, _, _, rfl, rfl, C6.lg, (by rw [ls0]; exact small1000 (by decide)), ?_⟩
    have el : (D.ls.map fun l => V.ref l.a) ++ [V.ref t] = [V.ref t] := by rw [ls0]; rfl
    have hw := C6.lg
    have ne : ∀ (a : Addr) o, H6 a = some o → (∀ xs, o ≠ .lst xs) → a ≠ D.lg := fun a o e n => ne_of e hw (n _)
    refine ⟨_, rfl, k ⟨D.fx, D.lg, D.fs, D.pt, [⟨t, n0, n1, "N", 0, 600⟩]⟩ ch _ (by intro z; cases z) (fun l hl => ?_) ⟨?_, ?_, ?_, fun l hl => ?_, fun n a x y h => ?_, fun l hl => ?_, fun l hl => ?_, (by show 1 ≤ 100; decide)⟩ hch0 hfx0 (S6.put (S2.nd hlg) (S2.nc hlg)) (fun b o e n => ?_)⟩
    · rw [List.mem_singleton.mp hl]
      exact hsep n0 m0 n1 m1 n01
    · obtain ⟨kvs, h1, h2, h3⟩ := C6.ch
      exact ⟨kvs, by rw [upd_ne (ne _ _ h1 (by intro _ z; cases z))]; exact h1, h2, h3⟩
    · rw [upd_ne (ne _ _ C6.fx (by intro _ z; cases z))]; exact C6.fx
    · rw [upd_same]; exact congrArg (fun z => some (HO.lst z)) el
    · rw [List.mem_singleton.mp hl, upd_ne (ne _ _ htt (by intro _ z; cases z))]; exact htt
    · obtain ⟨q1, q2, q3⟩ := C6.pf n a x y h
      exact ⟨q1, by rw [upd_ne (ne _ _ q2 (by intro _ z; cases z))]; exact q2, q3⟩
    · rw [List.mem_singleton.mp hl]
      exact ⟨(hpt n0 m0).2, (hpt n1 m1).2⟩
    · rw [List.mem_singleton.mp hl]
      exact ⟨(hpt n0 m0).1, (hpt n1 m1).1, (by show sOk "N"; decide +kernel)⟩
    · rw [upd_ne (ne_of_none e hlg0)]
      exact k6 b o e n
end
end Sk

set_option Elab.async false
set_option linter.all false
set_option maxRecDepth 100000
set_option maxHeartbeats 4000000
namespace Sk
open PySem PySem.Spec PyProof.Rows L2
local macro_rules | `(tactic| walk_at "ms") => `(tactic| first | exact .inl ⟨by decide, by decide⟩ | exact .inl ⟨by omega, by omega⟩ | exact .inr ⟨by omega, by omega⟩ | exact wm (by omega) (by omega) | exact log_of (by omega) (by omega) | (show (0:Int) < _; omega) | exact ⟨by decide, by decide, by decide⟩)
def RV (kvs : List (Key × V)) (la ve ra ba : Int) : Prop := valV kvs (.inr "lateral") = some (.int la) ∧ valV kvs (.inr "vertical") = some (.int ve) ∧ valV kvs (.inr "radius") = some (.int ra) ∧ valV kvs (.inr "band") = some (.int ba)
theorem RV.put {kvs : List (Key × V)} {la ve ra ba : Int} {n : Str} {v : V} (h : RV kvs la ve ra ba) (n1 : ¬ ("lateral" : Str) = n) (n2 : ¬ ("vertical" : Str) = n) (n3 : ¬ ("radius" : Str) = n) (n4 : ¬ ("band" : Str) = n) : RV (putK kvs (.inr n) v) la ve ra ba := by
  unfold RV
  rw [valV_put, valV_put, valV_put, valV_put, if_neg (kr n1), if_neg (kr n2), if_neg (kr n3), if_neg (kr n4)]
  exact h
theorem RV.start {la ve ra ba : Int} : RV (mergeK [] [((.inr "lateral" : Key), V.int la), (.inr "vertical", .int ve), (.inr "radius", .int ra), (.inr "band", .int ba)]) la ve ra ba := by
  unfold RV
  simp only [mergeK, List.foldl]
  have n1 : ¬ ("lateral" : Str) = "vertical" := by decide +kernel
  have n2 : ¬ ("lateral" : Str) = "radius" := by decide +kernel
  have n3 : ¬ ("lateral" : Str) = "band" := by decide +kernel
  have n4 : ¬ ("vertical" : Str) = "radius" := by decide +kernel
  have n5 : ¬ ("vertical" : Str) = "band" := by decide +kernel
  have n6 : ¬ ("radius" : Str) = "band" := by decide +kernel
  refine ⟨?_, ?_, ?_, ?_⟩
  · rw [valV_put, if_neg (kr n3), valV_put, if_neg (kr n2), valV_put, if_neg (kr n1), valV_put, if_pos rfl]
  · rw [valV_put, if_neg (kr n5), valV_put, if_neg (kr n4), valV_put, if_pos rfl]
  · rw [valV_put, if_neg (kr n6), valV_put, if_pos rfl]
  · rw [valV_put, if_pos rfl]
abbrev rTupK (K : PySem.W.Frag) (xs : List V) (H : Hp) (Q : VK) : Prop := ∃ a zs, xs = [.ref a] ∧ ((SqL K H a zs ∧ ∀ b, H b = none → Q (.ref b) (upd H b (.tup zs))) ∨ (SqT K H a zs ∧ Q (.ref a) H))
abbrev s_law_rules : Stmt := top 45
section
variable {P : Program} {w : World} {K : PySem.W.Frag} {mg : Str → Option Value} {base : Heap}
theorem sc_law_rules : FnScope ["state", "lateral", "vertical", "rules", "j", "k"] ["state"] (defScope s_law_rules) := ⟨rfl, rfl, rfl, by decide +kernel, rfl, by decide +kernel, by decide +kernel⟩
theorem ok_law_rules {f : Addr} {fd : FuncData} (F : Fun K "_law_rules" "_law_rules" s_law_rules f fd) (T : TxtA mg)
    (D_law_draw : Def P w K mg base 1 "_law_draw" ["state", "bound"] (spDraw K))
    (D_law_pick : Def P w K mg base 2 "_law_pick" ["state", "things"] (spPick K)) : FnOk P w K mg base CX0 3 f fd ["state"] (spRulesF K) := by
  refine F.ok sc_law_rules (fun vs H Q E h => ?_) (fun cdv A outer s H vs Q E hr h => ?_)
  · obtain ⟨_, _, rfl, _⟩ := h
    rfl
  · obtain ⟨d, c, rfl, S, k⟩ := h
    have hu := hu_of hr
    refine ⟨_, (pss_cons (ps_set (i := 1) sc_law_rules.nd rfl (Or.inl rfl) (pe_op op_add pe_int (pe_def D_law_draw (hr.mono (by decide)) (by rfl) (pa_cons (pv 0) (pa_cons (pe_def D_law_pick (hr.mono (by decide)) (by rfl) (pa_cons (pv 0) (pa_cons (pe_lst (pa_cons pe_int (pa_cons pe_int (pa_cons pe_int pa_nil)))) pa_nil))) pa_nil)))))
    (pss_cons (ps_set (i := 2) sc_law_rules.nd rfl (Or.inl rfl) (pe_op op_add pe_int (pe_def D_law_draw (hr.mono (by decide)) (by rfl) (pa_cons (pv 0) (pa_cons (pe_def D_law_pick (hr.mono (by decide)) (by rfl) (pa_cons (pv 0) (pa_cons (pe_lst (pa_cons pe_int (pa_cons pe_int (pa_cons pe_int pa_nil)))) pa_nil))) pa_nil)))))
    (pss_cons (ps_set (i := 3) sc_law_rules.nd rfl (Or.inl rfl) (pe_disp (pps_cons pe_str (pv 1) (pps_cons pe_str (pv 2) (pps_cons pe_str (pe_def D_law_draw (hr.mono (by decide)) (by rfl) (pa_cons (pv 0) (pa_cons pe_int pa_nil))) (pps_cons pe_str (pe_def D_law_draw (hr.mono (by decide)) (by rfl) (pa_cons (pv 0) (pa_cons pe_int pa_nil))) pps_nil)))) (by rfl) (by rfl) (fun z => by cases z) (by decide)))
    (pss_cons (ps_dput hu (pv 3) pe_str (pe_def D_law_draw (hr.mono (by decide)) (by rfl) (pa_cons (pv 0) (pa_cons pe_int pa_nil))) rfl)
    (pss_cons (ps_dput hu (pv 3) pe_str (pe_def D_law_draw (hr.mono (by decide)) (by rfl) (pa_cons (pv 0) (pa_cons (pe_op op_fdivW (pe_op op_add (pv 1) pe_int) pe_int) pa_nil))) rfl)
    (pss_cons (ps_dput hu (pv 3) pe_str (pe_def D_law_draw (hr.mono (by decide)) (by rfl) (pa_cons (pv 0) (pa_cons (pe_op op_fdivW (pe_op op_add (pv 2) pe_int) pe_int) pa_nil))) rfl)
    (pss_cons (ps_dput hu (pv 3) pe_str (pe_def D_law_draw (hr.mono (by decide)) (by rfl) (pa_cons (pv 0) (pa_cons pe_int pa_nil))) rfl)
    (pss_cons (ps_dput hu (pv 3) pe_str (pe_def D_law_draw (hr.mono (by decide)) (by rfl) (pa_cons (pv 0) (pa_cons pe_int pa_nil))) rfl)
    (pss_cons (ps_dput hu (pv 3) pe_str (pe_op op_add pe_int (pe_def D_law_draw (hr.mono (by decide)) (by rfl) (pa_cons (pv 0) (pa_cons pe_int pa_nil)))) rfl)
    (pss_cons (ps_dput hu (pv 3) pe_str (pe_def D_law_draw (hr.mono (by decide)) (by rfl) (pa_cons (pv 0) (pa_cons pe_int pa_nil))) rfl)
    (pss_cons (ps_dput hu (pv 3) pe_str (pe_callTy call_tuple_of (by rfl) T.tuple boot_tuple (pa_cons (pe_lc (own := [("j", 4)]) (g := gName 4) (by rfl) sc_law_rules.nd (pi_range1 (by rfl) T.range (pa_cons pe_int pa_nil)) (blkOk_by (own := [("j", 4)]) (N := ["state", "lateral", "vertical", "rules", "j", "k"]) (sc := defScope s_law_rules) (by decide +kernel)) (fun _ _ _ _ _ => (pg_name (i := 4) sc_law_rules.nd rfl (Or.inl rfl))) (fun _ _ _ _ _ => pts_nil) (fun _ _ _ _ _ => (pe_callTy (r := rTupK K) call_tuple_of (by rfl) T.tuple boot_tuple (pa_cons (pe_lc (own := [("k", 5)]) (g := gName 5) (by rfl) sc_law_rules.nd (pi_range1 (by rfl) T.range (pa_cons pe_int pa_nil)) (by apply blkOk_by; with_unfolding_all rfl) (fun _ _ _ _ _ => (pg_name (i := 5) sc_law_rules.nd rfl (Or.inl rfl))) (fun _ _ _ _ _ => pts_nil) (fun _ _ _ _ _ => (pe_op op_add pe_int (pe_def D_law_draw (hr.mono (by decide)) (by rfl) (pa_cons (pv 0) (pa_cons pe_int pa_nil)))))) pa_nil)))) pa_nil)) rfl)
    (pss_one (ps_ret (pv 3)))))))))))))), ?_⟩
    refine ⟨_, rfl, _, rfl, szOk rfl, fun p1 hp1 => ?_⟩
    refine ⟨d, c, _, _, rfl, (S.new hp1), .inl (.inl upd_same), (fun z => nomatch z), (by show 3 ≤ 1000; decide), fun v2 H2 hv2 S2 kp2 => ?_⟩
    obtain ⟨x2, rfl, x2a, x2b⟩ : ∃ z : Int, v2 = .int z ∧ 3 ≤ z ∧ z ≤ 60 := by
      simp only [List.mem_cons, List.not_mem_nil, or_false] at hv2
      rcases hv2 with rfl | rfl | rfl <;> exact ⟨_, rfl, by decide, by decide⟩
    refine ⟨d, c, _, rfl, S2, (by omega), (by omega), fun x3 H3 x3a x3b S3 kp3 => ?_⟩
    refine ⟨_, _, rfl, rfl, _, rfl, _, rfl, szOk rfl, fun p4 hp4 => ?_⟩
    refine ⟨d, c, _, _, rfl, (S3.new hp4), .inl (.inl upd_same), (fun z => nomatch z), (by show 3 ≤ 1000; decide), fun v5 H5 hv5 S5 kp5 => ?_⟩
    obtain ⟨x5, rfl, x5a, x5b⟩ : ∃ z : Int, v5 = .int z ∧ 3 ≤ z ∧ z ≤ 60 := by
      simp only [List.mem_cons, List.not_mem_nil, or_false] at hv5
      rcases hv5 with rfl | rfl | rfl <;> exact ⟨_, rfl, by decide, by decide⟩
    refine ⟨d, c, _, rfl, S5, (by omega), (by omega), fun x6 H6 x6a x6b S6 kp6 => ?_⟩
    refine ⟨_, _, rfl, rfl, ?_⟩
    have k0 : Keep d H _ := ((((((Keep.of (same_new hp1)).trans kp2).trans kp3).trans (Keep.of (same_new hp4))).trans kp5).trans kp6)
    intro ru hru
    have nrd : ru ≠ d := St1.nd S6 hru
    have nrc : ru ≠ c := St1.nc S6 hru
    have hruH : H ru = none := k0.none nrd hru
    have kU : ∀ (Hx : Hp) (kv : List (Key × V)), Keep d H Hx → Keep d H (upd Hx ru (.dK kv)) := fun Hx kv w b o e nb => by
      rw [upd_ne (ne_of_none e hruH)]
      exact w b o e nb
    have kS : ∀ a x, (Str.ofString a == Str.ofString x) = false → True := fun _ _ _ => trivial
    refine ⟨_, rfl, _, rfl, _, rfl, d, c, _, rfl, St1.new S6 hru, by decide, by decide, fun xr Hr xra xrb Sr kpr => ?_⟩
    refine ⟨_, rfl, d, c, _, rfl, Sr, by decide, by decide, fun xb Hb xba xbb Sb kpb => ?_⟩
    have kb : Keep d H Hb := ((k0.trans (Keep.of (same_new hru))).trans kpr).trans kpb
    refine ⟨kpb _ _ (kpr _ _ upd_same nrd) nrd, [(.inr "lateral", .int (1 + x3)), (.inr "vertical", .int (1 + x6)), (.inr "radius", .int xr), (.inr "band", .int xb)], rfl, (by show 4 ≤ 15; decide), ?_⟩
    have len0 : (mergeK [] [((.inr "lateral" : Key), V.int (1 + x3)), (.inr "vertical", .int (1 + x6)), (.inr "radius", .int xr), (.inr "band", .int xb)]).length ≤ 4 := by
      simp only [mergeK, List.foldl]
      have l1 := putK_len (kvs := ([] : List (Key × V))) (k := (.inr "lateral" : Key)) (v := .int (1 + x3))
      have l2 := putK_len (kvs := putK ([] : List (Key × V)) (.inr "lateral" : Key) (.int (1 + x3))) (k := (.inr "vertical" : Key)) (v := .int (1 + x6))
      have l3 := putK_len (kvs := putK (putK ([] : List (Key × V)) (.inr "lateral" : Key) (.int (1 + x3))) (.inr "vertical" : Key) (.int (1 + x6))) (k := (.inr "radius" : Key)) (v := .int xr)
      have l4 := putK_len (kvs := putK (putK (putK ([] : List (Key × V)) (.inr "lateral" : Key) (.int (1 + x3))) (.inr "vertical" : Key) (.int (1 + x6))) (.inr "radius" : Key) (.int xr)) (k := (.inr "band" : Key)) (v := .int xb)
      simp only [List.length_nil] at l1
      omega
    have S0 := Sb.put (o := .dK (mergeK [] [((.inr "lateral" : Key), V.int (1 + x3)), (.inr "vertical", .int (1 + x6)), (.inr "radius", .int xr), (.inr "band", .int xb)])) nrd nrc
    have h0 : (upd Hb ru (.dK (mergeK [] [((.inr "lateral" : Key), V.int (1 + x3)), (.inr "vertical", .int (1 + x6)), (.inr "radius", .int xr), (.inr "band", .int xb)]))) ru = _ := upd_same
    have w0 := kU Hb (mergeK [] [((.inr "lateral" : Key), V.int (1 + x3)), (.inr "vertical", .int (1 + x6)), (.inr "radius", .int xr), (.inr "band", .int xb)]) kb
    have sl0 : RV (mergeK [] [((.inr "lateral" : Key), V.int (1 + x3)), (.inr "vertical", .int (1 + x6)), (.inr "radius", .int xr), (.inr "band", .int xb)]) (1 + x3) (1 + x6) xr xb := RV.start
    generalize mergeK [] [((.inr "lateral" : Key), V.int (1 + x3)), (.inr "vertical", .int (1 + x6)), (.inr "radius", .int xr), (.inr "band", .int xb)] = kv0 at *
    generalize upd Hb ru (.dK kv0) = G0 at *
    refine ⟨_, rfl, d, c, _, rfl, S0, (by decide), (by decide), fun y0 T0 y0a y0b U0 kq0 => ?_⟩
    refine ⟨_, rfl, _, _, rfl, DPut.k (k := .inr "slip") (kq0 _ _ h0 nrd) (small1000 (by omega)), ?_⟩
    have S1 := U0.put (o := .dK (putK kv0 (.inr "slip") (.int (y0)))) nrd nrc
    have h1 : (upd T0 ru (.dK (putK kv0 (.inr "slip") (.int (y0))))) ru = _ := upd_same
    have w1 := kU T0 (putK kv0 (.inr "slip") (.int (y0))) (w0.trans kq0)
    have len1 : (putK kv0 (.inr "slip") (.int (y0))).length ≤ 5 := Nat.le_trans putK_len (by omega)
    have sl1 : RV (putK kv0 (.inr "slip") (.int (y0))) (1 + x3) (1 + x6) xr xb := sl0.put (by decide +kernel) (by decide +kernel) (by decide +kernel) (by decide +kernel)
    generalize putK kv0 (.inr "slip") (.int (y0)) = kv1 at *
    generalize upd T0 ru (.dK kv1) = G1 at *
    refine ⟨_, rfl, _, rfl, _, _, rfl, rfl, _, _, rfl, rfl, (by walk_at "ms"), d, c, _, rfl, S1, (by omega), (by omega), fun y1 T1 y1a y1b U1 kq1 => ?_⟩
    refine ⟨_, rfl, _, _, rfl, DPut.k (k := .inr "radar") (kq1 _ _ h1 nrd) (small1000 (by omega)), ?_⟩
    have S2 := U1.put (o := .dK (putK kv1 (.inr "radar") (.int (y1)))) nrd nrc
    have h2 : (upd T1 ru (.dK (putK kv1 (.inr "radar") (.int (y1))))) ru = _ := upd_same
    have w2 := kU T1 (putK kv1 (.inr "radar") (.int (y1))) (w1.trans kq1)
    have len2 : (putK kv1 (.inr "radar") (.int (y1))).length ≤ 6 := Nat.le_trans putK_len (by omega)
    have sl2 : RV (putK kv1 (.inr "radar") (.int (y1))) (1 + x3) (1 + x6) xr xb := sl1.put (by decide +kernel) (by decide +kernel) (by decide +kernel) (by decide +kernel)
    have rq2 : valV (putK kv1 (.inr "radar") (.int (y1))) (.inr "radar") = some (.int y1) := by rw [valV_put, if_pos rfl]
    generalize putK kv1 (.inr "radar") (.int (y1)) = kv2 at *
    generalize upd T1 ru (.dK kv2) = G2 at *
    refine ⟨_, rfl, _, rfl, _, _, rfl, rfl, _, _, rfl, rfl, (by walk_at "ms"), d, c, _, rfl, S2, (by omega), (by omega), fun y2 T2 y2a y2b U2 kq2 => ?_⟩
    refine ⟨_, rfl, _, _, rfl, DPut.k (k := .inr "height") (kq2 _ _ h2 nrd) (small1000 (by omega)), ?_⟩
    have S3 := U2.put (o := .dK (putK kv2 (.inr "height") (.int (y2)))) nrd nrc
    have h3 : (upd T2 ru (.dK (putK kv2 (.inr "height") (.int (y2))))) ru = _ := upd_same
    have w3 := kU T2 (putK kv2 (.inr "height") (.int (y2))) (w2.trans kq2)
    have len3 : (putK kv2 (.inr "height") (.int (y2))).length ≤ 7 := Nat.le_trans putK_len (by omega)
    have sl3 : RV (putK kv2 (.inr "height") (.int (y2))) (1 + x3) (1 + x6) xr xb := sl2.put (by decide +kernel) (by decide +kernel) (by decide +kernel) (by decide +kernel)
    have rq3 : valV (putK kv2 (.inr "height") (.int (y2))) (.inr "radar") = some (.int y1) := by rw [valV_put, if_neg (kr (by decide +kernel))]; exact rq2
    have rh3 : valV (putK kv2 (.inr "height") (.int (y2))) (.inr "height") = some (.int y2) := by rw [valV_put, if_pos rfl]
    generalize putK kv2 (.inr "height") (.int (y2)) = kv3 at *
    generalize upd T2 ru (.dK kv3) = G3 at *
    refine ⟨_, rfl, d, c, _, rfl, S3, (by decide), (by decide), fun y3 T3 y3a y3b U3 kq3 => ?_⟩
    refine ⟨_, rfl, _, _, rfl, DPut.k (k := .inr "foreign") (kq3 _ _ h3 nrd) (small1000 (by omega)), ?_⟩
    have S4 := U3.put (o := .dK (putK kv3 (.inr "foreign") (.int (y3)))) nrd nrc
    have h4 : (upd T3 ru (.dK (putK kv3 (.inr "foreign") (.int (y3))))) ru = _ := upd_same
    have w4 := kU T3 (putK kv3 (.inr "foreign") (.int (y3))) (w3.trans kq3)
    have len4 : (putK kv3 (.inr "foreign") (.int (y3))).length ≤ 8 := Nat.le_trans putK_len (by omega)
    have sl4 : RV (putK kv3 (.inr "foreign") (.int (y3))) (1 + x3) (1 + x6) xr xb := sl3.put (by decide +kernel) (by decide +kernel) (by decide +kernel) (by decide +kernel)
    have rf4 : valV (putK kv3 (.inr "foreign") (.int (y3))) (.inr "foreign") = some (.int y3) := by rw [valV_put, if_pos rfl]
    have rq4 : valV (putK kv3 (.inr "foreign") (.int (y3))) (.inr "radar") = some (.int y1) := by rw [valV_put, if_neg (kr (by decide +kernel))]; exact rq3
    have rh4 : valV (putK kv3 (.inr "foreign") (.int (y3))) (.inr "height") = some (.int y2) := by rw [valV_put, if_neg (kr (by decide +kernel))]; exact rh3
    generalize putK kv3 (.inr "foreign") (.int (y3)) = kv4 at *
    generalize upd T3 ru (.dK kv4) = G4 at *
    refine ⟨_, rfl, d, c, _, rfl, S4, (by decide), (by decide), fun y4 T4 y4a y4b U4 kq4 => ?_⟩
    refine ⟨_, rfl, _, _, rfl, DPut.k (k := .inr "climb") (kq4 _ _ h4 nrd) (small1000 (by omega)), ?_⟩
    have S5 := U4.put (o := .dK (putK kv4 (.inr "climb") (.int (y4)))) nrd nrc
    have h5 : (upd T4 ru (.dK (putK kv4 (.inr "climb") (.int (y4))))) ru = _ := upd_same
    have w5 := kU T4 (putK kv4 (.inr "climb") (.int (y4))) (w4.trans kq4)
    have len5 : (putK kv4 (.inr "climb") (.int (y4))).length ≤ 9 := Nat.le_trans putK_len (by omega)
    have sl5 : RV (putK kv4 (.inr "climb") (.int (y4))) (1 + x3) (1 + x6) xr xb := sl4.put (by decide +kernel) (by decide +kernel) (by decide +kernel) (by decide +kernel)
    have rf5 : valV (putK kv4 (.inr "climb") (.int (y4))) (.inr "foreign") = some (.int y3) := by rw [valV_put, if_neg (kr (by decide +kernel))]; exact rf4
    have rc5 : valV (putK kv4 (.inr "climb") (.int (y4))) (.inr "climb") = some (.int y4) := by rw [valV_put, if_pos rfl]
    have rq5 : valV (putK kv4 (.inr "climb") (.int (y4))) (.inr "radar") = some (.int y1) := by rw [valV_put, if_neg (kr (by decide +kernel))]; exact rq4
    have rh5 : valV (putK kv4 (.inr "climb") (.int (y4))) (.inr "height") = some (.int y2) := by rw [valV_put, if_neg (kr (by decide +kernel))]; exact rh4
    generalize putK kv4 (.inr "climb") (.int (y4)) = kv5 at *
    generalize upd T4 ru (.dK kv5) = G5 at *
    refine ⟨_, rfl, d, c, _, rfl, S5, (by decide), (by decide), fun y5 T5 y5a y5b U5 kq5 => ?_⟩
    refine ⟨_, _, rfl, rfl, _, rfl, _, _, rfl, DPut.k (k := .inr "memory") (kq5 _ _ h5 nrd) (small1000 (by omega)), ?_⟩
    have S6 := U5.put (o := .dK (putK kv5 (.inr "memory") (.int (1 + y5)))) nrd nrc
    have h6 : (upd T5 ru (.dK (putK kv5 (.inr "memory") (.int (1 + y5))))) ru = _ := upd_same
    have w6 := kU T5 (putK kv5 (.inr "memory") (.int (1 + y5))) (w5.trans kq5)
    have len6 : (putK kv5 (.inr "memory") (.int (1 + y5))).length ≤ 10 := Nat.le_trans putK_len (by omega)
    have sl6 : RV (putK kv5 (.inr "memory") (.int (1 + y5))) (1 + x3) (1 + x6) xr xb := sl5.put (by decide +kernel) (by decide +kernel) (by decide +kernel) (by decide +kernel)
    have rf6 : valV (putK kv5 (.inr "memory") (.int (1 + y5))) (.inr "foreign") = some (.int y3) := by rw [valV_put, if_neg (kr (by decide +kernel))]; exact rf5
    have rc6 : valV (putK kv5 (.inr "memory") (.int (1 + y5))) (.inr "climb") = some (.int y4) := by rw [valV_put, if_neg (kr (by decide +kernel))]; exact rc5
    have rq6 : valV (putK kv5 (.inr "memory") (.int (1 + y5))) (.inr "radar") = some (.int y1) := by rw [valV_put, if_neg (kr (by decide +kernel))]; exact rq5
    have rh6 : valV (putK kv5 (.inr "memory") (.int (1 + y5))) (.inr "height") = some (.int y2) := by rw [valV_put, if_neg (kr (by decide +kernel))]; exact rh5
    generalize putK kv5 (.inr "memory") (.int (1 + y5)) = kv6 at *
    generalize upd T5 ru (.dK kv6) = G6 at *
    refine ⟨_, rfl, d, c, _, rfl, S6, (by decide), (by decide), fun y6 T6 y6a y6b U6 kq6 => ?_⟩
    refine ⟨_, rfl, _, _, rfl, DPut.k (k := .inr "ahead") (kq6 _ _ h6 nrd) (small1000 (by omega)), ?_⟩
    have S7 := U6.put (o := .dK (putK kv6 (.inr "ahead") (.int (y6)))) nrd nrc
    have h7 : (upd T6 ru (.dK (putK kv6 (.inr "ahead") (.int (y6))))) ru = _ := upd_same
    have w7 := kU T6 (putK kv6 (.inr "ahead") (.int (y6))) (w6.trans kq6)
    have len7 : (putK kv6 (.inr "ahead") (.int (y6))).length ≤ 11 := Nat.le_trans putK_len (by omega)
    have sl7 : RV (putK kv6 (.inr "ahead") (.int (y6))) (1 + x3) (1 + x6) xr xb := sl6.put (by decide +kernel) (by decide +kernel) (by decide +kernel) (by decide +kernel)
    have rf7 : valV (putK kv6 (.inr "ahead") (.int (y6))) (.inr "foreign") = some (.int y3) := by rw [valV_put, if_neg (kr (by decide +kernel))]; exact rf6
    have rc7 : valV (putK kv6 (.inr "ahead") (.int (y6))) (.inr "climb") = some (.int y4) := by rw [valV_put, if_neg (kr (by decide +kernel))]; exact rc6
    have rq7 : valV (putK kv6 (.inr "ahead") (.int (y6))) (.inr "radar") = some (.int y1) := by rw [valV_put, if_neg (kr (by decide +kernel))]; exact rq6
    have rh7 : valV (putK kv6 (.inr "ahead") (.int (y6))) (.inr "height") = some (.int y2) := by rw [valV_put, if_neg (kr (by decide +kernel))]; exact rh6
    generalize putK kv6 (.inr "ahead") (.int (y6)) = kv7 at *
    generalize upd T6 ru (.dK kv7) = G7 at *
    refine ⟨_, rfl, by decide, by decide, fun E1 hE1 => ?_⟩
    have nE1d : E1 ≠ d := S7.nd hE1
    have nE1c : E1 ≠ c := S7.nc hE1
    have nE1r : ru ≠ E1 := ne_of_none h7 hE1
    refine lc_range (lo := 0) (n := (4 : Int).toNat) (fun i H' => St1 K H' d c ∧ Keep2 d E1 G7 H' ∧ ∃ ys : List V, H' E1 = some (.lst ys) ∧ ys.length = i) ⟨S7.new hE1, (Keep2.refl d E1 _).new hE1, [], upd_same, rfl⟩ ?_ ?_
    · rintro i H' hi ⟨Si, ki, ys, hys, hyl⟩
      refine ⟨rfl, ?_⟩
      refine ⟨_, rfl, by decide, by decide, fun E2 hE2 => ?_⟩
      have nE2d : E2 ≠ d := Si.nd hE2
      have nE2c : E2 ≠ c := Si.nc hE2
      have nE12 : E1 ≠ E2 := ne_of_none hys hE2
      refine lc_range (lo := 0) (n := (4 : Int).toNat) (fun j H2 => St1 K H2 d c ∧ Keep2 d E2 H' H2 ∧ ∃ zs : List V, H2 E2 = some (.lst zs) ∧ zs.length = j) ⟨Si.new hE2, (Keep2.refl d E2 _).new hE2, [], upd_same, rfl⟩ ?_ ?_
      · rintro j H2 hj ⟨Sj, kj, zs, hzs, hzl⟩
        refine ⟨rfl, ?_⟩
        refine ⟨_, rfl, d, c, _, rfl, Sj, by decide, by decide, fun x5 H5 x5a x5b S5 kp5 => ?_⟩
        refine ⟨_, _, rfl, rfl, zs, kp5.l Sj hzs, small1000 (by omega), S5.put nE2d nE2c, (kj.k kp5).put, _, upd_same, by rw [List.length_append, hzl]; rfl⟩
      rintro H2 ⟨Sj, kj, zs, hzs, hzl⟩
      refine ⟨E2, zs, rfl, .inl ⟨.inl (.inl hzs), fun l hl => ?_⟩⟩
      have h1 : H2 E1 = some (.lst ys) := kj _ _ hys nE1d nE12
      have kk : Keep2 d E1 G7 (upd H2 l (.tup zs)) := fun b o e nb nb2 => by
        have q1 := ki b o e nb nb2
        exact same_new hl _ _ (kj b o q1 nb (ne_of_none q1 hE2))
      refine ⟨ys, same_new hl _ _ h1, small1000 (by omega), (Sj.new hl).put nE1d nE1c, kk.put, _, upd_same, by rw [List.length_append, hyl]; rfl⟩
    rintro H' ⟨Si, ki, ys, hys, hyl⟩
    refine ⟨E1, ys, rfl, .inl ⟨.inl (.inl hys), fun l hl => ?_⟩⟩
    have hf := ki _ _ h7 nrd nE1r
    refine ⟨_, rfl, _, _, rfl, DPut.k (k := .inr "gaps") (same_new hl _ _ hf) (small1000 (by omega)), ?_⟩
    have nE1H : H E1 = none := w7.none nE1d hE1
    have sl8 : RV (putK kv7 (.inr "gaps") (.ref l)) (1 + x3) (1 + x6) xr xb := sl7.put (by decide +kernel) (by decide +kernel) (by decide +kernel) (by decide +kernel)
    refine ⟨_, rfl, k ru ⟨1 + x3, 1 + x6, xr, xb, y1, y2, y3, y4⟩ _ hruH ⟨⟨_, upd_same, sl8.1, sl8.2.1, sl8.2.2.1, sl8.2.2.2, by rw [valV_put, if_neg (kr (by decide +kernel))]; exact rq7, by rw [valV_put, if_neg (kr (by decide +kernel))]; exact rh7, by rw [valV_put, if_neg (kr (by decide +kernel))]; exact rf7, by rw [valV_put, if_neg (kr (by decide +kernel))]; exact rc7⟩, by dsimp only; omega⟩ nrc ((Si.new hl).put nrd nrc) ?_⟩
    refine kU _ _ fun b o e nb => ?_
    exact same_new hl _ _ (ki _ _ (w7 _ _ e nb) nb (ne_of_none e nE1H))
end
end Sk

set_option Elab.async false
set_option linter.all false
set_option maxRecDepth 100000
set_option maxHeartbeats 4000000
namespace Sk
open PySem PySem.Spec PyProof.Rows L2
section
variable {P : Program} {w : World} {K : PySem.W.Frag} {mg : Str → Option Value} {base : Heap}
abbrev s_reach : Stmt := top 15
theorem sc_reach : FnScope ["rules", "sighting", "tick", "_", "z", "seen", "radius", "high"] ["rules", "sighting", "tick"] (defScope s_reach) := ⟨rfl, rfl, rfl, by decide +kernel, rfl, by decide +kernel, by decide +kernel⟩
theorem ok_reach {f : Addr} {fd : FuncData} (F : Fun K "reach" "reach" s_reach f fd) (T : TxtA mg) : FnOk P w K mg base CX0 1 f fd ["rules", "sighting", "tick"] (spReach) := by
  refine F.ok sc_reach (fun vs H Q E h => ?_) (fun cdv A outer s H vs Q E hr h => ?_)
  · obtain ⟨_, _, _, _, _, _, _, _, rfl, _⟩ := h
    rfl
  · obtain ⟨ru, s_, r, x, y, z, n, t, rfl, R, hs, t0, t1, k⟩ := h
    have hu := hu_of hr
    refine ⟨_, (pss_cons (ps_asg (pv 1) (pg_tup (by rfl) (pgs_cons (pg_name (i := 3) sc_reach.nd rfl (Or.inl rfl)) (pgs_cons (pg_name (i := 3) sc_reach.nd rfl (Or.inl rfl)) (pgs_cons (pg_name (i := 4) sc_reach.nd rfl (Or.inl rfl)) (pgs_cons (pg_name (i := 5) sc_reach.nd rfl (Or.inl rfl)) pgs_nil))))))
    (pss_cons (ps_set (i := 6) sc_reach.nd rfl (Or.inl rfl) (pe_op op_add (pe_dget hu (pv 0) pe_str (fun _ _ => rfl)) (pe_op op_mulW (pe_dget hu (pv 0) pe_str (fun _ _ => rfl)) (pe_op op_sub (pv 2) (pv 5)))))
    (pss_cons (ps_set (i := 7) sc_reach.nd rfl (Or.inl rfl) (pe_op op_add (pe_dget hu (pv 0) pe_str (fun _ _ => rfl)) (pe_op op_mulW (pe_dget hu (pv 0) pe_str (fun _ _ => rfl)) (pe_op op_sub (pv 2) (pv 5)))))
    (pss_one (ps_ret (pe_tup (pa_cons (pv 6) (pa_cons (pe_op op_sub (pv 4) (pv 7)) (pa_cons (pe_op op_add (pv 4) (pv 7)) pa_nil))))))))), ?_⟩
    rw [show L2.start ["rules", "sighting", "tick", "_", "z", "seen", "radius", "high"] [V.ref ru, V.ref s_, V.int t] = [some (V.ref ru), some (V.ref s_), some (V.int t), none, none, none, none, none] from rfl]
    obtain ⟨b1, b2, b3, b4⟩ := R.bd
    refine ⟨_, rfl, _, _, rfl, .inl (.inl hs), rfl, _, _, rfl, _, _, rfl, _, _, rfl, _, _, rfl, rfl, ?_⟩
    dsimp only [List.set]
    refine ⟨_, rfl, _, _, rfl, R.grd, _, rfl, _, _, rfl, R.gfo, _, rfl, _, rfl, _, _, rfl, rfl, _, _, rfl, rfl, (wm (by omega) (by omega)), _, _, rfl, rfl, ?_⟩
    refine nm ?_
    dsimp only [List.set]
    refine ⟨_, rfl, _, _, rfl, R.ght, _, rfl, _, _, rfl, R.gcl, _, rfl, _, rfl, _, _, rfl, rfl, _, _, rfl, rfl, (wm (by omega) (by omega)), _, _, rfl, rfl, ?_⟩
    refine nm ?_
    dsimp only [List.set]
    exact ⟨_, rfl, _, rfl, _, rfl, _, _, rfl, rfl, _, rfl, _, rfl, _, _, rfl, rfl, szOk rfl, fun q hq => k q hq⟩

end
end Sk

set_option Elab.async false
set_option linter.all false
set_option maxRecDepth 100000
set_option maxHeartbeats 4000000
namespace Sk
open PySem PySem.Spec PyProof.Rows L2
section
variable {P : Program} {w : World} {K : PySem.W.Frag} {mg : Str → Option Value} {base : Heap}
abbrev s_law_vector : Stmt := top 52
theorem sc_law_vector : FnScope ["state", "radius", "x", "y", "k"] ["state", "radius"] (defScope s_law_vector) := ⟨rfl, rfl, rfl, by decide +kernel, rfl, by decide +kernel, by decide +kernel⟩
theorem ok_law_vector {f : Addr} {fd : FuncData} (F : Fun K "_law_vector" "_law_vector" s_law_vector f fd) (T : TxtA mg)
    (D_law_draw : Def P w K mg base 1 "_law_draw" ["state", "bound"] (spDraw K)) : FnOk P w K mg base CX0 2 f fd ["state", "radius"] (spVectorR K) := by
  refine F.ok sc_law_vector (fun vs H Q E h => ?_) (fun cdv A outer s H vs Q E hr h => ?_)
  · obtain ⟨_, _, _, rfl, _⟩ := h
    rfl
  · obtain ⟨d, c, r, rfl, S, r0, r1, k⟩ := h
    refine ⟨_, (pss_cons (ps_if (pt_cmpR op_eq (pv 1) pe_int (nomark _)) (pss_one (ps_ret (pe_tup (pa_cons pe_int (pa_cons pe_int pa_nil)))))
      pss_nil)
    (pss_cons (ps_set (i := 2) sc_law_vector.nd rfl (Or.inl rfl) (pe_op op_sub (pe_def D_law_draw (hr.mono (by decide)) (by rfl) (pa_cons (pv 0) (pa_cons (pe_op op_add (pe_op op_mulW pe_int (pv 1)) pe_int) pa_nil))) (pv 1)))
    (pss_cons (ps_set (i := 3) sc_law_vector.nd rfl (Or.inl rfl) pe_int)
    (pss_cons (ps_for PassesOwn.never rfl (pi_range2 (by rfl) T.range (pa_cons pe_int (pa_cons (pe_op op_add (pv 1) pe_int) pa_nil))) (pg_name (i := 4) sc_law_vector.nd rfl (Or.inl rfl))
      (pss_one (ps_if (pt_cmpR op_le (pe_op op_add (pe_op op_mulW (pv 2) (pv 2)) (pe_op op_mulW (pv 4) (pv 4))) (pe_op op_mulW (pv 1) (pv 1)) (nomark _)) (pss_one (ps_set (i := 3) sc_law_vector.nd rfl (Or.inl rfl) (pv 4)))
      pss_nil)))
    (pss_cons (ps_if (pt_cmpR op_eq (pe_def D_law_draw (hr.mono (by decide)) (by rfl) (pa_cons (pv 0) (pa_cons pe_int pa_nil))) pe_int (nomark _)) (pss_one (ps_set (i := 3) sc_law_vector.nd rfl (Or.inl rfl) (pe_def D_law_draw (hr.mono (by decide)) (by rfl) (pa_cons (pv 0) (pa_cons (pe_op op_add (pv 3) pe_int) pa_nil)))))
      pss_nil)
    (pss_cons (ps_if (pt_cmpR op_eq (pe_def D_law_draw (hr.mono (by decide)) (by rfl) (pa_cons (pv 0) (pa_cons pe_int pa_nil))) pe_int (nomark _)) (pss_one (ps_set (i := 3) sc_law_vector.nd rfl (Or.inl rfl) (pe_un un_neg (pv 3))))
      pss_nil)
    (pss_one (ps_ret (pe_tup (pa_cons (pv 2) (pa_cons (pv 3) pa_nil))))))))))), ?_⟩
    rw [show L2.start ["state", "radius", "x", "y", "k"] [V.ref d, V.int r] = [some (V.ref d), some (V.int r), none, none, none] from rfl]
    refine ⟨_, rfl, rfl, _, rfl, ite2 (fun e => ?_) (fun e => ?_)⟩
    · refine ⟨szOk rfl, fun q hq => ?_⟩
      exact k q 0 0 _ hq upd_same (by omega) (by omega) (by omega) (by omega) (by have := sq0 r; omega) (S.new hq) (fun b o e _ => same_new hq _ _ e)
    have rne : r ≠ 0 := fun z => e (decide_eq_true (by rw [z]))
    refine ⟨_, rfl, _, rfl, _, _, rfl, rfl, (wm (by omega) (by omega)), _, _, rfl, rfl, d, c, _, rfl, S, (by omega), (by omega), fun x1 H1 x1a x1b S1 kp1 => ?_⟩
    refine ⟨_, rfl, _, _, rfl, rfl, ?_⟩
    refine nm ?_
    dsimp only [List.set]
    refine nm ?_
    dsimp only [List.set]
    have hx : -1000 ≤ x1 - r ∧ x1 - r ≤ 1000 := by omega
    have hxx : (x1 - r) * (x1 - r) ≤ r * r := sq_le (by omega) (by omega)
    generalize x1 - r = x at hx hxx ⊢
    refine ⟨_, rfl, _, _, rfl, rfl, 1, r + 1, rfl, ⟨by omega, by omega, by omega, by omega⟩, for_range (lo := 1) (n := (r + 1 - 1).toNat) (fun i σ H' => ∃ (y : Int) (v4 : Option V), σ = [some (.ref d), some (.int r), some (.int x), some (.int y), v4] ∧ H' = H1 ∧ 0 ≤ y ∧ y ≤ r ∧ x * x + y * y ≤ r * r) ⟨0, none, rfl, rfl, by omega, by omega, by omega⟩ ?_ ?_⟩
    · rintro i σ H' hi ⟨y, v4, rfl, rfl, y0, y1, yy⟩
      refine nm ?_
      dsimp only [List.set]
      refine ⟨_, rfl, _, rfl, _, _, rfl, rfl, (wm (by omega) (by omega)), _, rfl, _, rfl, _, _, rfl, rfl, (wm (by omega) (by omega)), _, _, rfl, rfl, _, rfl, _, rfl, _, _, rfl, rfl, (wm (by omega) (by omega)), _, _, rfl, rfl, _, rfl, ite2 (fun e => ?_) (fun e => ?_)⟩
      · refine ⟨_, rfl, ?_⟩
        exact ⟨_, _, rfl, rfl, by omega, by omega, of_decide_eq_true e⟩
      · exact ⟨_, _, rfl, rfl, by omega, by omega, yy⟩
    rintro σ H' ⟨y, v4, rfl, rfl, y0, y1, yy⟩
    refine nx_ ?_
    dsimp only
    refine cut (t := tIfS _ _ _) (fun σ' H' => ∃ (y : Int), σ' = [some (.ref d), some (.int r), some (.int x), some (.int y), v4] ∧ 0 ≤ y ∧ y ≤ r ∧ x * x + y * y ≤ r * r ∧ St1 K H' d c ∧ Keep d H H') ?_ (fun rest => ?_)
    rotate_left
    · refine ⟨_, rfl, d, c, 3, rfl, S1, (by omega), (by omega), fun x2 H2 x2a x2b S2 kp2 => ?_⟩
      refine ⟨rfl, _, rfl, ite2 (fun e => ?_) (fun e => ?_)⟩
      rotate_left
      · exact rest _ _ ⟨y, rfl, y0, y1, yy, S2, kp1.trans kp2⟩
      refine ⟨_, rfl, _, rfl, _, _, rfl, rfl, d, c, _, rfl, S2, (by omega), (by omega), fun x3 H3 x3a x3b S3 kp3 => ?_⟩
      exact rest _ _ ⟨x3, rfl, x3a, by omega, (by have := Int.mul_le_mul (show x3 ≤ y by omega) (show x3 ≤ y by omega) x3a y0; omega), S3, (kp1.trans kp2).trans kp3⟩
    rintro σ' H3 ⟨y, rfl, y0, y1, yy, S3, kp3⟩
    refine cut (t := tIfS _ _ _) (fun σ' H' => ∃ (y : Int), σ' = [some (.ref d), some (.int r), some (.int x), some (.int y), v4] ∧ -r ≤ y ∧ y ≤ r ∧ x * x + y * y ≤ r * r ∧ St1 K H' d c ∧ Keep d H H') ?_ (fun rest => ?_)
    rotate_left
    · refine ⟨_, rfl, d, c, 2, rfl, S3, (by omega), (by omega), fun x2 H4 x2a x2b S4 kp4 => ?_⟩
      refine ⟨rfl, _, rfl, ite2 (fun e => ?_) (fun e => ?_)⟩
      rotate_left
      · exact rest _ _ ⟨y, rfl, by omega, y1, yy, S4, kp3.trans kp4⟩
      refine ⟨_, rfl, _, rfl, ?_⟩
      exact rest _ _ ⟨-y, rfl, by omega, by omega, (by rw [Int.neg_mul_neg]; exact yy), S4, kp3.trans kp4⟩
    rintro σ' H4 ⟨y, rfl, y0, y1, yy, S4, kp4⟩
    refine ⟨_, rfl, _, rfl, szOk rfl, fun q hq => ?_⟩
    exact k q x y _ (kp4.none (S4.nd hq) hq) upd_same (by omega) (by omega) (by omega) (by omega) yy (S4.new hq) (fun b o e nb => same_new hq _ _ (kp4 b o e nb))

end
end Sk

set_option Elab.async false
set_option linter.all false
set_option maxRecDepth 100000
set_option maxHeartbeats 4000000
namespace Sk
open PySem PySem.Spec PyProof.Rows L2
section
variable {P : Program} {w : World} {K : PySem.W.Frag} {mg : Str → Option Value} {base : Heap}
abbrev s_near_reach : Stmt := top 16
theorem sc_near_reach : FnScope ["rules", "path", "box", "sighting", "tick", "low", "high", "down", "up", "x", "y", "_", "radius", "lower", "upper", "limit"] ["rules", "path", "box", "sighting", "tick"] (defScope s_near_reach) := ⟨rfl, rfl, rfl, by decide +kernel, rfl, by decide +kernel, by decide +kernel⟩
theorem ok_near_reach {f : Addr} {fd : FuncData} {C : Addr} (F : Fun K "near_reach" "near_reach" s_near_reach f fd) (T : TxtA mg) (Y : PathY K mg C) {TT : List Addr}
    (D_reach : Def P w K mg base 1 "reach" ["rules", "sighting", "tick"] (spReach))
    (D_lines_closer : Def P w K mg base 7 "lines_closer" ["first", "second", "limit"] (spLines K TT))
    (M_piece : MDef P w K mg base 4 C "piece" ["self", "low", "high"] (spPiece C)) : FnOk P w K mg base CX0 8 f fd ["rules", "path", "box", "sighting", "tick"] (spNearReach C TT) := by
  refine F.ok sc_near_reach (fun vs H Q E h => ?_) (fun cdv A outer s H vs Q E hr h => ?_)
  · obtain ⟨_, _, _, _, _, _, _, _, _, _, _, _, _, _, _, rfl, _⟩ := h
    rfl
  · obtain ⟨ru, p, b, s_, pr, r, B, D, ns, ss, x, y, z, n, t, rfl, R, hb, hs, lx, t0, t1, PA, bd, n2, n20, e1, g1, bx, bY, hT, k⟩ := h
    have hu := hu_of hr
    refine ⟨_, (pss_cons (ps_asg (pv 2) (pg_tup (by rfl) (pgs_cons (pg_name (i := 5) sc_near_reach.nd rfl (Or.inl rfl)) (pgs_cons (pg_name (i := 6) sc_near_reach.nd rfl (Or.inl rfl)) (pgs_cons (pg_name (i := 7) sc_near_reach.nd rfl (Or.inl rfl)) (pgs_cons (pg_name (i := 8) sc_near_reach.nd rfl (Or.inl rfl)) pgs_nil))))))
    (pss_cons (ps_asg (pv 3) (pg_tup (by rfl) (pgs_cons (pg_name (i := 9) sc_near_reach.nd rfl (Or.inl rfl)) (pgs_cons (pg_name (i := 10) sc_near_reach.nd rfl (Or.inl rfl)) (pgs_cons (pg_name (i := 11) sc_near_reach.nd rfl (Or.inl rfl)) (pgs_cons (pg_name (i := 11) sc_near_reach.nd rfl (Or.inl rfl)) pgs_nil))))))
    (pss_cons (ps_asg (pe_def D_reach (hr.mono (by decide)) (by rfl) (pa_cons (pv 0) (pa_cons (pv 3) (pa_cons (pv 4) pa_nil)))) (pg_tup (by rfl) (pgs_cons (pg_name (i := 12) sc_near_reach.nd rfl (Or.inl rfl)) (pgs_cons (pg_name (i := 13) sc_near_reach.nd rfl (Or.inl rfl)) (pgs_cons (pg_name (i := 14) sc_near_reach.nd rfl (Or.inl rfl)) pgs_nil)))))
    (pss_cons (ps_if (PW.pt (pw_or (pt_cmpR op_ge (pe_op op_sub (pe_op op_sub (pv 7) (pe_dget hu (pv 0) pe_str (fun _ _ => rfl))) (pv 14)) (pe_dget hu (pv 0) pe_str (fun _ _ => rfl)) (nomark _)) (pw_or1 (pt_cmpR op_ge (pe_op op_sub (pv 13) (pe_op op_add (pv 8) (pe_dget hu (pv 0) pe_str (fun _ _ => rfl)))) (pe_dget hu (pv 0) pe_str (fun _ _ => rfl)) (nomark _))))) (pss_one (ps_ret pe_bl))
      pss_nil)
    (pss_cons (ps_set (i := 15) sc_near_reach.nd rfl (Or.inl rfl) (pe_op op_add (pe_op op_add (pe_dget hu (pv 0) pe_str (fun _ _ => rfl)) (pe_dget hu (pv 0) pe_str (fun _ _ => rfl))) (pv 12)))
    (pss_one (ps_ret (pe_def D_lines_closer (hr.mono (by decide)) (by rfl) (pa_cons (pe_mdef M_piece Y.cl (hr.mono (by decide)) (pv 1) (pa_cons (pv 5) (pa_cons (pv 6) pa_nil))) (pa_cons (pe_lst (pa_cons (pe_tup (pa_cons (pv 9) (pa_cons (pv 10) (pa_cons (pv 9) (pa_cons (pv 10) (pa_cons pe_int pa_nil)))))) pa_nil)) (pa_cons (pv 15) pa_nil))))))))))), ?_⟩
    rw [show L2.start ["rules", "path", "box", "sighting", "tick", "low", "high", "down", "up", "x", "y", "_", "radius", "lower", "upper", "limit"] [V.ref ru, V.ref p, V.ref b, V.ref s_, V.int t] = [some (V.ref ru), some (V.ref p), some (V.ref b), some (V.ref s_), some (V.int t), none, none, none, none, none, none, none, none, none, none, none] from rfl]
    obtain ⟨b1, b2, b3, b4⟩ := R.bd
    have hb : H b = some (.tup [.int B.lo, .int B.hi, .int B.dn, .int B.up]) := hb
    refine ⟨_, rfl, _, _, rfl, .inl (.inl hb), rfl, _, _, rfl, _, _, rfl, _, _, rfl, _, _, rfl, rfl, ?_⟩
    dsimp only [List.set]
    refine ⟨_, rfl, _, _, rfl, .inl (.inl hs), rfl, _, _, rfl, _, _, rfl, _, _, rfl, _, _, rfl, rfl, ?_⟩
    dsimp only [List.set]
    refine ⟨_, rfl, _, rfl, _, rfl, ru, s_, r, x, y, z, n, t, rfl, R, hs, t0, t1, fun q hq => ?_⟩
    have s1 := same_new (o := .tup [.int (r.rd + r.fo * (t - n)), .int (z - (r.ht + r.cl * (t - n))), .int (z + (r.ht + r.cl * (t - n)))]) hq
    refine ⟨_, _, rfl, .inl (.inl upd_same), rfl, _, _, rfl, _, _, rfl, _, _, rfl, rfl, ?_⟩
    dsimp only [List.set]
    have fb : (r.fo * (t - n)).natAbs ≤ 1048576 := (BdN.of (n := 10) (by show -(1024 : Int) ≤ _; omega) (by show _ ≤ (1024 : Int); omega)).mul (BdN.of (n := 10) (by show -(1024 : Int) ≤ _; omega) (by show _ ≤ (1024 : Int); omega))
    unfold nearR at k
    generalize hwr : r.rd + r.fo * (t - n) = wr at k s1 ⊢
    generalize hwh : r.ht + r.cl * (t - n) = wh at k s1 ⊢
    generalize upd H q (.tup [.int wr, .int (z - wh), .int (z + wh)]) = H1 at s1 ⊢
    have R1 := R.same s1
    refine ⟨_, rfl, _, rfl, _, _, rfl, R1.gba, _, _, rfl, rfl, _, rfl, _, _, rfl, rfl, _, rfl, _, _, rfl, R1.gve, _, _, rfl, rfl, _, rfl, ite2 (fun e => ?_) (fun e => ?_)⟩
    · have kk := k H1 (SameT.of s1)
      rw [e, Bool.true_or, Bool.not_true, Bool.false_and] at kk
      exact kk
    rw [Bool.eq_false_iff.mpr e, Bool.false_or] at k
    refine ⟨_, rfl, _, rfl, _, rfl, _, _, rfl, R1.gba, _, _, rfl, rfl, _, _, rfl, rfl, _, rfl, _, _, rfl, R1.gve, _, _, rfl, rfl, _, rfl, ite2 (fun e => ?_) (fun e => ?_)⟩
    · have kk := k H1 (SameT.of s1)
      rw [e, Bool.not_true, Bool.false_and] at kk
      exact kk
    rw [Bool.eq_false_iff.mpr e, Bool.not_false, Bool.true_and] at k
    refine ⟨_, rfl, _, _, rfl, R1.gla, _, rfl, _, _, rfl, R1.gra, _, _, rfl, rfl, _, rfl, _, _, rfl, rfl, ?_⟩
    refine nm ?_
    dsimp only [List.set]
    have PA1 := PA.same s1
    obtain ⟨dx, l1, l2, l3, l4, sa, va, O1⟩ := id PA1
    refine ⟨_, rfl, _, _, _, rfl, O1.ob, rfl, _, rfl, _, rfl, p, pr, D, ns, B.lo, B.hi, rfl, PA1, bd, n2, n20, lx, fun q1 Ha hq1 sa L1 => ?_⟩
    rw [e1] at L1
    obtain ⟨xs, hx, Sx⟩ := L1.segs fun s hs => (g1 s hs).1
    refine ⟨_, rfl, _, rfl, _, rfl, _, rfl, szOk rfl, fun u hu1 => ?_⟩
    have hu2 : (upd Ha u (.tup [.int x, .int y, .int x, .int y, .int 1])) u = _ := upd_same
    have s2 := same_new (o := .tup [.int x, .int y, .int x, .int y, .int 1]) hu1
    generalize upd Ha u (.tup [.int x, .int y, .int x, .int y, .int 1]) = Hb at hu2 s2 ⊢
    refine ⟨szOk rfl, fun v hv => ?_⟩
    have s3 := same_new (o := .lst [.ref u]) hv
    have hlb : BdN 100 (r.la + r.ra + wr) := (BdN.of (n := 30) (by show -(1073741824 : Int) ≤ _; omega) (by show _ ≤ (1073741824 : Int); omega)).mono (by decide)
    have Sx3 : SegsAt (upd Hb v (.lst [.ref u])) xs ss := ⟨Sx.1, fun i s h => let ⟨p, a1, a2, a3⟩ := Sx.2 i s h; ⟨p, a1, s3 _ _ (s2 _ _ a2), a3⟩⟩
    have sall := ((s1.trans sa).trans s2).trans s3
    refine ⟨_, rfl, q1, v, xs, [.ref u], ss, [⟨x, y, x, y, 1⟩], _, rfl, s3 _ _ (s2 _ _ hx), upd_same, Sx3, point_at (s3 _ _ hu2) bx bY, hlb, Same.tabs sall hT, fun Hc sc => ?_⟩
    have kk := k Hc ((SameT.of sall).trans sc)
    have ea : (ss.any fun s => ([⟨x, y, x, y, 1⟩] : List Seg).any fun t => clo s t (r.la + r.ra + wr)) = ss.any fun s => clo s ⟨x, y, x, y, 1⟩ (r.la + r.ra + wr) := by
      congr 1
      funext s
      simp
    rw [ea]
    exact kk

end
end Sk

set_option Elab.async false
set_option linter.all false
set_option maxRecDepth 100000
set_option maxHeartbeats 4000000
namespace Sk
open PySem PySem.Spec PyProof.Rows L2
section
variable {P : Program} {w : World} {K : PySem.W.Frag} {mg : Str → Option Value} {base : Heap}
abbrev s_law_near : Stmt := top 53
theorem sc_law_near : FnScope ["rules", "piece", "box", "sighting", "later", "radius", "margin", "point", "segment"] ["rules", "piece", "box", "sighting", "later"] (defScope s_law_near) := ⟨rfl, rfl, rfl, by decide +kernel, rfl, by decide +kernel, by decide +kernel⟩
theorem ok_law_near {f : Addr} {fd : FuncData} (F : Fun K "_law_near" "_law_near" s_law_near f fd) (T : TxtA mg)
    (D_law_closer : Def P w K mg base 3 "_law_closer" ["first", "second", "limit"] (spLClo)) : FnOk P w K mg base CX0 4 f fd ["rules", "piece", "box", "sighting", "later"] (spNearLaw) := by
  refine F.ok sc_law_near (fun vs H Q E h => ?_) (fun cdv A outer s H vs Q E hr h => ?_)
  · obtain ⟨_, _, _, _, _, _, _, _, _, _, _, _, rfl, _⟩ := h
    rfl
  · obtain ⟨ru, l, b, s_, r, B, ss, x, y, z, n, t, rfl, R, L, hb, hs, t0, t1, g1, n1, bx, bY, k⟩ := h
    have hu := hu_of hr
    refine ⟨_, (pss_cons (ps_set (i := 5) sc_law_near.nd rfl (Or.inr rfl) (pe_op op_add (pe_dget hu (pv 0) pe_str (fun _ _ => rfl)) (pe_op op_mulW (pe_dget hu (pv 0) pe_str (fun _ _ => rfl)) (pv 4))))
    (pss_cons (ps_set (i := 6) sc_law_near.nd rfl (Or.inl rfl) (pe_op op_add (pe_dget hu (pv 0) pe_str (fun _ _ => rfl)) (pe_op op_mulW (pe_dget hu (pv 0) pe_str (fun _ _ => rfl)) (pv 4))))
    (pss_cons (ps_if (pt_cmpR op_ge (pe_op op_sub (pe_op op_sub (pe_ix (r := rIxT K) ix_tup (pv 2) pe_int (fun _ _ => rfl)) (pe_dget hu (pv 0) pe_str (fun _ _ => rfl))) (pe_op op_add (pe_ix (r := rIxT K) ix_tup (pv 3) pe_int (fun _ _ => rfl)) (pv 6))) (pe_dget hu (pv 0) pe_str (fun _ _ => rfl)) (nomark _)) (pss_one (ps_ret pe_bl))
      pss_nil)
    (pss_cons (ps_if (pt_cmpR op_ge (pe_op op_sub (pe_op op_sub (pe_op op_sub (pe_ix (r := rIxT K) ix_tup (pv 3) pe_int (fun _ _ => rfl)) (pv 6)) (pe_ix (r := rIxT K) ix_tup (pv 2) pe_int (fun _ _ => rfl))) (pe_dget hu (pv 0) pe_str (fun _ _ => rfl))) (pe_dget hu (pv 0) pe_str (fun _ _ => rfl)) (nomark _)) (pss_one (ps_ret pe_bl))
      pss_nil)
    (pss_cons (ps_set (i := 7) sc_law_near.nd rfl (Or.inr rfl) (pe_tup (pa_cons (pe_ix (r := rIxT K) ix_tup (pv 3) pe_int (fun _ _ => rfl)) (pa_cons (pe_ix (r := rIxT K) ix_tup (pv 3) pe_int (fun _ _ => rfl)) (pa_cons (pe_ix (r := rIxT K) ix_tup (pv 3) pe_int (fun _ _ => rfl)) (pa_cons (pe_ix (r := rIxT K) ix_tup (pv 3) pe_int (fun _ _ => rfl)) (pa_cons pe_int pa_nil)))))))
    (pss_one (ps_ret (pe_callB (cr_any rfl) (by rfl) T.any boot_any (pa_cons (pe_lc (own := [("segment", 8)]) (g := gName 8) (by rfl) sc_law_near.nd (pi_list (pv 1)) (blkOk_by (own := [("segment", 8)]) (N := ["rules", "piece", "box", "sighting", "later", "radius", "margin", "point", "segment"]) (sc := defScope s_law_near) (by decide +kernel)) (fun _ _ _ _ _ => (pg_name (i := 8) sc_law_near.nd rfl (Or.inl rfl))) (fun _ _ _ _ _ => pts_nil) (fun _ _ _ _ _ => (pe_def D_law_closer (hr.mono (by decide)) (by rfl) (pa_cons (pv 8) (pa_cons (pv 7) (pa_cons (pe_op op_add (pe_op op_add (pe_dget hu (pv 0) pe_str (fun _ _ => rfl)) (pe_dget hu (pv 0) pe_str (fun _ _ => rfl))) (pv 5)) pa_nil)))))) pa_nil))))))))), ?_⟩
    rw [show L2.start ["rules", "piece", "box", "sighting", "later", "radius", "margin", "point", "segment"] [V.ref ru, V.ref l, V.ref b, V.ref s_, V.int t] = [some (V.ref ru), some (V.ref l), some (V.ref b), some (V.ref s_), some (V.int t), none, none, none, none] from rfl]
    obtain ⟨b1, b2, b3, b4⟩ := R.bd
    have hb : H b = some (.tup [.int B.lo, .int B.hi, .int B.dn, .int B.up]) := hb
    refine ⟨_, rfl, _, _, rfl, R.grd, _, rfl, _, _, rfl, R.gfo, _, rfl, _, _, rfl, rfl, (wm (by omega) (by omega)), _, _, rfl, rfl, ?_⟩
    refine nm ?_
    dsimp only [List.set]
    refine ⟨_, rfl, _, _, rfl, R.ght, _, rfl, _, _, rfl, R.gcl, _, rfl, _, _, rfl, rfl, (wm (by omega) (by omega)), _, _, rfl, rfl, ?_⟩
    refine nm ?_
    dsimp only [List.set]
    have fb : (r.fo * t).natAbs ≤ 1048576 := (BdN.of (n := 10) (by show -(1024 : Int) ≤ _; omega) (by show _ ≤ (1024 : Int); omega)).mul (BdN.of (n := 10) (by show -(1024 : Int) ≤ _; omega) (by show _ ≤ (1024 : Int); omega))
    have fp : 0 ≤ r.fo * t := Int.mul_nonneg (by omega) t0
    unfold nearR at k
    generalize hwr : r.rd + r.fo * t = wr at k ⊢
    generalize hwh : r.ht + r.cl * t = wh at k ⊢
    refine ⟨_, rfl, _, _, _, _, rfl, rfl, .inl (.inl hb), rfl, _, rfl, _, _, rfl, R.gba, _, _, rfl, rfl, _, rfl, _, _, _, _, rfl, rfl, .inl (.inl hs), rfl, _, rfl, _, _, rfl, rfl, _, _, rfl, rfl, _, rfl, _, _, rfl, R.gve, _, _, rfl, rfl, _, rfl, ite2 (fun e => ?_) (fun e => ?_)⟩
    · have kk := k H (Same.refl H)
      rw [e, Bool.true_or, Bool.not_true, Bool.false_and] at kk
      exact kk
    rw [Bool.eq_false_iff.mpr e, Bool.false_or] at k
    refine ⟨_, rfl, _, _, _, _, rfl, rfl, .inl (.inl hs), rfl, _, rfl, _, _, rfl, rfl, _, rfl, _, _, _, _, rfl, rfl, .inl (.inl hb), rfl, _, _, rfl, rfl, _, rfl, _, _, rfl, R.gba, _, _, rfl, rfl, _, rfl, _, _, rfl, R.gve, _, _, rfl, rfl, _, rfl, ite2 (fun e => ?_) (fun e => ?_)⟩
    · have e : decide (r.ve ≤ z - wh - (B.up + r.ba)) = true := decide_eq_true (by have := of_decide_eq_true e; omega)
      have kk := k H (Same.refl H)
      rw [e, Bool.not_true, Bool.false_and] at kk
      exact kk
    have e : decide (r.ve ≤ z - wh - (B.up + r.ba)) = false := decide_eq_false (fun h => e (decide_eq_true (by omega)))
    rw [e, Bool.not_false, Bool.true_and] at k
    refine ⟨_, rfl, _, _, _, _, rfl, rfl, .inl (.inl hs), rfl, _, rfl, _, _, _, _, rfl, rfl, .inl (.inl hs), rfl, _, rfl, _, _, _, _, rfl, rfl, .inl (.inl hs), rfl, _, rfl, _, _, _, _, rfl, rfl, .inl (.inl hs), rfl, szOk rfl, fun u hu1 => ?_⟩
    have hu2 : (upd H u (.tup [.int x, .int y, .int x, .int y, .int 1])) u = _ := upd_same
    have s2 := same_new (o := .tup [.int x, .int y, .int x, .int y, .int 1]) hu1
    generalize upd H u (.tup [.int x, .int y, .int x, .int y, .int 1]) = H1 at hu2 s2 ⊢
    refine nm ?_
    dsimp only [List.set]
    have L1 := L.same s2
    have R1 := R.same s2
    obtain ⟨xs, hx, Sx⟩ := L1.segs fun s hs => (g1 s hs).1
    obtain ⟨_, _, Pt⟩ := (point_at hu2 bx bY).2 0 _ rfl
    have hlb : BdN 100 (r.la + r.ra + wr) := (BdN.of (n := 30) (by show -(1073741824 : Int) ≤ _; omega) (by show _ ≤ (1073741824 : Int); omega)).mono (by decide)
    have l0 : 0 ≤ r.la + r.ra + wr := by omega
    refine ⟨_, rfl, l, rfl, ⟨_, .inl (.inl hx)⟩, fun E1 hE1 => ?_⟩
    refine lc_list (K := K) (a := l) (xs := xs) (fun i H' => H' E1 = some (.lst (((ss.take i).map fun s => clo s ⟨x, y, x, y, 1⟩ (r.la + r.ra + wr)).map V.bl)) ∧ Same H1 H') ⟨upd_same, same_new hE1⟩ (fun i H' _ ⟨_, e⟩ => .inl (.inl (e _ _ hx))) ?_ ?_
    · rintro i z' H' hi ⟨hA, sm⟩
      have hil : i < ss.length := by rw [← Sx.1]; exact (List.getElem?_eq_some_iff.mp hi).1
      obtain ⟨p, e1, e2, e3⟩ := Sx.2 i ss[i] (by simp [hil])
      rw [hi] at e1
      cases e1
      have R2 := R1.same sm
      refine ⟨rfl, yes_if ?_⟩
      refine ⟨_, rfl, _, rfl, _, rfl, _, _, rfl, R2.gla, _, rfl, _, _, rfl, R2.gra, _, _, rfl, rfl, _, rfl, _, _, rfl, rfl, p, u, ss[i], ⟨x, y, x, y, 1⟩, _, rfl, sm _ _ e2, sm _ _ hu2, e3, Pt.2, hlb, fun H8 s8 => ?_⟩
      rw [lclo_eq l0 (g1 _ (List.getElem_mem hil)).2 (Int.le_refl 1)]
      refine ⟨_, s8 _ _ hA, (by rw [List.length_map, List.length_map, List.length_take]; exact small1000 (by omega)), ?_, same_app hE1 fun b o e => s8 _ _ (sm _ _ e)⟩
      rw [upd_same, List.take_add_one, List.getElem?_eq_getElem hil, List.map_append, List.map_append]
      rfl
    rintro H' ⟨hA, sm⟩
    rw [Sx.1, List.take_length] at hA
    refine ⟨E1, _, rfl, .inl (.inl hA), ?_⟩
    have ea : ((ss.map fun s => clo s ⟨x, y, x, y, 1⟩ (r.la + r.ra + wr)).any id) = ss.any fun s => clo s ⟨x, y, x, y, 1⟩ (r.la + r.ra + wr) := by rw [List.any_map]; rfl
    rw [ea]
    exact k H' (s2.trans sm)

end
end Sk

set_option Elab.async false
set_option linter.all false
set_option maxRecDepth 100000
set_option maxHeartbeats 4000000
namespace Sk
open PySem PySem.Spec PyProof.Rows L2
local macro_rules | `(tactic| walk_at "ms") => `(tactic| first | exact .inl ⟨by decide, by decide⟩ | exact .inl ⟨by omega, by omega⟩ | exact .inr ⟨by omega, by omega⟩ | exact wm (by omega) (by omega) | exact log_of (by omega) (by omega) | (show (0:Int) < _; omega) | exact ⟨by decide, by decide, by decide⟩)
def spLaw (K : PySem.W.Frag) (TT : List Addr) : Sp := fun vs H Q _ => ∃ (a : Addr) (ns : List Int), vs = [.ref a] ∧ SqL K H a (ns.map V.int) ∧ ns.length ≤ 63 ∧ Tabs TT H ∧ ∀ H', Q (.bl true) H'
theorem Keep.tabsS {K : PySem.W.Frag} {d c : Addr} {TT : List Addr} {H H' : Hp} (k : Keep d H H') (S : St1 K H d c) (t : Tabs TT H) : Tabs TT H' := let ⟨_, e⟩ := S.dk; Keep.tabs k e t
theorem ChartAt.st {T : List Addr} {H H' : Hp} {ch : Addr} {D : CD} (C : ChartAt H ch D) (s : SameT T H H') (t : Tabs T H) : ChartAt H' ch D := by
  obtain ⟨⟨kvs, h1, h2, h3⟩, h4, h5, h6, h7, h8, h8', h9⟩ := C
  exact ⟨⟨kvs, s.d t h1, h2, h3⟩, s.d t h4, s.l t h5, fun l hl => s.t t (h6 l hl), fun n a x y hp => let ⟨p1, p2, p3⟩ := h7 n a x y hp; ⟨p1, s.t t p2, p3⟩, h8, h8', h9⟩
theorem PathAt.st {T : List Addr} {C : Addr} {H H' : Hp} {p r : Addr} {D : CD} {ns : List Str} (P : PathAt C H p D ns r) (s : SameT T H H') (t : Tabs T H) : PathAt C H' p D ns r := by
  obtain ⟨dx, l1, l2, l3, l4, sa, va, P⟩ := P
  exact ⟨dx, l1, l2, l3, l4, sa, va, { P with ob := s.i t P.ob, rt := s.t t P.rt, lg := s.l t P.lg, st := s.l t P.st, ve := s.l t P.ve, bgn := s.l t P.bgn, sx := fun j h => s.t t (P.sx j h), vx := fun j h => s.t t (P.vx j h) }⟩
structure LC (K : PySem.W.Frag) (TT : List Addr) (C : Addr) (H : Hp) (d c ch ru rt b p : Addr) (r : RF) (D : CD) (ns : List Str) : Prop where
  S : St1 K H d c
  C0 : ChartAt H ch D
  R : Route D ns
  hrt : H rt = some (.tup (ns.map V.str))
  hb : H b = some (.lst ((bgs D ns).map V.int))
  P : PathAt C H p D ns rt
  RU : RfAt H ru r
  n1 : ch ≠ d
  n2 : D.fx ≠ d
  n3 : ru ≠ d
  T : Tabs TT H
section
variable {K : PySem.W.Frag} {TT : List Addr} {C : Addr} {H H' : Hp} {d c ch ru rt b p : Addr} {r : RF} {D : CD} {ns : List Str}
theorem LC.same (A : LC K TT C H d c ch ru rt b p r D ns) (e : Same H H') : LC K TT C H' d c ch ru rt b p r D ns :=
  { A with S := A.S.same e, C0 := A.C0.same e, hrt := e _ _ A.hrt, P := A.P.same e, hb := e _ _ A.hb, RU := A.RU.same e, T := Same.tabs e A.T }
theorem LC.keep (A : LC K TT C H d c ch ru rt b p r D ns) (S' : St1 K H' d c) (k : Keep d H H') : LC K TT C H' d c ch ru rt b p r D ns :=
  { A with S := S', C0 := A.C0.keep A.S k A.n1 A.n2, hrt := k.t A.S A.hrt, P := A.P.keep A.S k, hb := k.l A.S A.hb, RU := A.RU.keep k A.n3, T := k.tabsS A.S A.T }
theorem LC.st (A : LC K TT C H d c ch ru rt b p r D ns) (s : SameT TT H H') : LC K TT C H' d c ch ru rt b p r D ns :=
  { A with S := s.st1 A.T A.S, C0 := A.C0.st s A.T, hrt := s.t A.T A.hrt, P := A.P.st s A.T, hb := s.l A.T A.hb, RU := A.RU.st s A.T, T := s.tabs A.T }
end
theorem pcs_le {D : CD} {ns : List Str} {lo hi : Int} {ss : List Seg} (n20 : ns.length ≤ 20) (e : pcs D ns lo hi = ss.map Seg.li) : ss.length ≤ 100 := by
  have h := pcs_len D ns lo hi
  rw [e, List.length_map] at h
  omega
theorem total_pos {D : CD} {ns : List Str} (pos : PosR D ns) (n2 : 2 ≤ ns.length) : 1 ≤ bg D ns (ns.length - 1) := by
  have a := pos.lt (j := 0) (by omega)
  have b := bg_mono D ns (show 0 + 1 ≤ ns.length - 1 by omega)
  have e : bg D ns 0 = 0 := rfl
  omega
theorem dp_tup {K : PySem.W.Frag} {H : Hp} {a : Addr} {xs : List Int} (h : H a = some (.tup (xs.map V.int))) : Dp K H (.ref a) (pdT xs) := .tup (.inl (.inl h)) (dpAll_int xs)
theorem plc_bd70 {D : CD} {ns : List Str} (b : Bd D) {k : Nat} {p : Int} (h0 : -100000000 ≤ p) (h1 : p ≤ 100000000) (hk : k ≤ 20) : ∃ x y, plc D ns k p = [x, y] ∧ BdN 70 x ∧ BdN 70 y := by
  have a1 := b (rn ns k)
  have a2 := b (rn ns (k + 1))
  have l0 := D.len_nn (rn ns k) (rn ns (k + 1))
  have l1 := D.len_le b (rn ns k) (rn ns (k + 1))
  have g0 := bg_nn D ns k
  have g1 := bg_le b ns k
  have e : ((2 ^ 30 : Nat) : Int) = 1073741824 := by decide
  have q : ∀ x : Int, -1000000000 ≤ x → x ≤ 1000000000 → BdN 30 x := fun x u v => BdN.of (by rw [e]; omega) (by rw [e]; omega)
  refine ⟨_, _, rfl, (((q _ (by omega) (by omega)).mul (q _ (by omega) (by omega))).add ((q _ (by omega) (by omega)).mul (q _ (by omega) (by omega)))).mono (by decide), (((q _ (by omega) (by omega)).mul (q _ (by omega) (by omega))).add ((q _ (by omega) (by omega)).mul (q _ (by omega) (by omega)))).mono (by decide)⟩
/-- who is not near in reach, is far or at another height -/
theorem far_of {r : RF} {B : Bx} {sx sy sz lt px py d x y z mx my h : Int} {ss : List Seg} (bd : (1 ≤ r.la ∧ r.la ≤ 1000 ∧ 1 ≤ r.ve ∧ r.ve ≤ 1000) ∧ (0 ≤ r.ra ∧ r.ra ≤ 1000 ∧ 0 ≤ r.ba ∧ r.ba ≤ 1000) ∧ (0 ≤ r.rd ∧ r.rd ≤ 1000 ∧ 0 ≤ r.ht ∧ r.ht ≤ 1000) ∧ (0 ≤ r.fo ∧ r.fo ≤ 1000 ∧ 0 ≤ r.cl ∧ r.cl ≤ 1000)) (l0 : 0 ≤ lt) (d1 : 1 ≤ d) (hss : ∀ s ∈ ss, SegBd 200 100 s ∧ 1 ≤ s.d) (on : ∃ s ∈ ss, OnS px py d s)
    (hm : mx * mx + my * my ≤ r.ra * r.ra) (he : (x - sx) * (x - sx) + (y - sy) * (y - sy) ≤ (r.rd + r.fo * lt) * (r.rd + r.fo * lt)) (z0 : sz - (r.ht + r.cl * lt) ≤ z) (z1 : z ≤ sz + (r.ht + r.cl * lt)) (h0 : B.dn - r.ba ≤ h) (h1 : h ≤ B.up + r.ba)
    (nn : nearR r B sx sy sz lt ss = false) (hc : (px + (mx - x) * d) * (px + (mx - x) * d) + (py + (my - y) * d) * (py + (my - y) * d) < r.la * r.la * d * d) : ¬ (if h - z < 0 then -(h - z) else h - z) < r.ve := by
  obtain ⟨b1, b2, b3, b4⟩ := bd
  have fp : 0 ≤ r.fo * lt := Int.mul_nonneg (by omega) l0
  obtain ⟨s, hs, os⟩ := on
  have cl := reach_near (la := r.la) (ra := r.ra) (R := r.rd + r.fo * lt) (by omega) (by omega) (by omega) (hss s hs).2 d1 os hm he hc
  have an : (ss.any fun s => clo s ⟨sx, sy, sx, sy, 1⟩ (r.la + r.ra + (r.rd + r.fo * lt))) = true := List.any_eq_true.mpr ⟨s, hs, cl⟩
  unfold nearR at nn
  rw [an, Bool.and_true, Bool.not_eq_false', Bool.or_eq_true] at nn
  rcases nn with w | w
  · have w := of_decide_eq_true w
    split <;> omega
  · have w := of_decide_eq_true w
    split <;> omega
section
variable {P : Program} {w : World} {K : PySem.W.Frag} {mg : Str → Option Value} {base : Heap}
abbrev s_law : Stmt := top 54
theorem sc_law : FnScope ["script", "state", "chart", "rules", "route", "begins", "total", "path", "k", "progress", "box", "place", "near", "sighting", "later", "tick", "error", "x", "y", "z", "j", "step", "margin", "due", "found", "move", "height", "across", "up", "square"] ["script"] (defScope s_law) := ⟨rfl, rfl, rfl, by decide +kernel, rfl, by decide +kernel, by decide +kernel⟩
theorem ok_law {f : Addr} {fd : FuncData} {TT : List Addr} {C : Addr} (F : Fun K "law" "law" s_law f fd) (T : TxtA mg) (Y : PathY K mg C)
    (D_law_start : Def P w K mg base 1 "_law_start" ["script"] (spStart K))
    (D_law_draw : Def P w K mg base 1 "_law_draw" ["state", "bound"] (spDraw K))
    (D_law_is : Def P w K mg base 1 "_law_is" ["actual", "due"] (spIs))
    (D_law_small_chart : Def P w K mg base 5 "_law_small_chart" ["state"] (spSmall K))
    (D_law_rules : Def P w K mg base 3 "_law_rules" ["state"] (spRulesF K))
    (D_law_walk : Def P w K mg base 3 "_law_walk" ["state", "chart", "most"] (spWalk K))
    (D_law_lengths : Def P w K mg base 2 "_law_lengths" ["chart"] (spLens))
    (D_law_begins : Def P w K mg base 1 "_law_begins" ["lengths", "route"] (spBegins))
    (D_law_leg_at : Def P w K mg base 1 "_law_leg_at" ["begins", "progress"] (spLawLegAt))
    (D_law_place_on : Def P w K mg base 1 "_law_place_on" ["chart", "route", "begins", "k", "progress"] (spPlaceOn))
    (D_law_piece : Def P w K mg base 2 "_law_piece" ["chart", "route", "begins", "low", "high"] (spLawPiece))
    (D_law_vector : Def P w K mg base 2 "_law_vector" ["state", "radius"] (spVectorR K))
    (D_law_near : Def P w K mg base 4 "_law_near" ["rules", "piece", "box", "sighting", "later"] (spNearLaw))
    (D_Path : CDef P w K mg base 5 C "Path" ["self", "chart", "route"] (spPInit C))
    (D_reach : Def P w K mg base 1 "reach" ["rules", "sighting", "tick"] (spReach))
    (D_near_reach : Def P w K mg base 8 "near_reach" ["rules", "path", "box", "sighting", "tick"] (spNearReach C TT)) : FnOk P w K mg base CX0 10 f fd ["script"] (spLaw K TT) := by
  refine F.ok sc_law (fun vs H Q E h => ?_) (fun cdv A outer s H vs Q E hr h => ?_)
  · obtain ⟨a, ns0, rfl, _⟩ := h
    rfl
  · obtain ⟨a, ns0, rfl, hS, hl0, hT, k⟩ := h
    have hu := hu_of hr
    refine ⟨_, (pss_cons (ps_set (i := 1) sc_law.nd rfl (Or.inl rfl) (pe_def D_law_start (hr.mono (by decide)) (by rfl) (pa_cons (pv 0) pa_nil)))
    (pss_cons (ps_set (i := 2) sc_law.nd rfl (Or.inl rfl) (pe_def D_law_small_chart (hr.mono (by decide)) (by rfl) (pa_cons (pv 1) pa_nil)))
    (pss_cons (ps_set (i := 3) sc_law.nd rfl (Or.inl rfl) (pe_def D_law_rules (hr.mono (by decide)) (by rfl) (pa_cons (pv 1) pa_nil)))
    (pss_cons (ps_set (i := 4) sc_law.nd rfl (Or.inl rfl) (pe_def D_law_walk (hr.mono (by decide)) (by rfl) (pa_cons (pv 1) (pa_cons (pv 2) (pa_cons pe_int pa_nil)))))
    (pss_cons (ps_set (i := 5) sc_law.nd rfl (Or.inl rfl) (pe_def D_law_begins (hr.mono (by decide)) (by rfl) (pa_cons (pe_def D_law_lengths (hr.mono (by decide)) (by rfl) (pa_cons (pv 2) pa_nil)) (pa_cons (pv 4) pa_nil))))
    (pss_cons (ps_set (i := 6) sc_law.nd rfl (Or.inl rfl) (pe_ix (r := rIxL K) ix_list (pv 5) (pe_op op_sub (pe_callB (r := rLenK K) call_len_seq (by rfl) T.len boot_len (pa_cons (pv 5) pa_nil)) pe_int) (fun _ _ => rfl)))
    (pss_cons (ps_set (i := 7) sc_law.nd rfl (Or.inl rfl) (pe_cdef D_Path (hr.mono (by decide)) (by rfl) (pa_cons (pv 2) (pa_cons (pv 4) pa_nil))))
    (pss_cons (ps_for PassesOwn.never rfl (pi_range1 (by rfl) T.range (pa_cons pe_int pa_nil)) (pg_name (i := 8) sc_law.nd rfl (Or.inl rfl))
      (pss_cons (ps_set (i := 9) sc_law.nd rfl (Or.inl rfl) (pe_def D_law_draw (hr.mono (by decide)) (by rfl) (pa_cons (pv 1) (pa_cons (pv 6) pa_nil))))
    (pss_cons (ps_set (i := 10) sc_law.nd rfl (Or.inl rfl) (pe_tup (pa_cons (pe_op op_sub (pv 9) (pe_def D_law_draw (hr.mono (by decide)) (by rfl) (pa_cons (pv 1) (pa_cons pe_int pa_nil)))) (pa_cons (pe_op op_add (pv 9) (pe_def D_law_draw (hr.mono (by decide)) (by rfl) (pa_cons (pv 1) (pa_cons pe_int pa_nil)))) (pa_cons pe_int (pa_cons (pe_op op_add pe_int (pe_def D_law_draw (hr.mono (by decide)) (by rfl) (pa_cons (pv 1) (pa_cons pe_int pa_nil)))) pa_nil))))))
    (pss_cons (ps_set (i := 11) sc_law.nd rfl (Or.inl rfl) (pe_def D_law_place_on (hr.mono (by decide)) (by rfl) (pa_cons (pv 2) (pa_cons (pv 4) (pa_cons (pv 5) (pa_cons (pe_def D_law_leg_at (hr.mono (by decide)) (by rfl) (pa_cons (pv 5) (pa_cons (pv 9) pa_nil))) (pa_cons (pv 9) pa_nil)))))))
    (pss_cons (ps_set (i := 12) sc_law.nd rfl (Or.inl rfl) (pe_op op_add (pe_op op_mulW pe_int (pe_dget hu (pv 3) pe_str (fun _ _ => rfl))) pe_int))
    (pss_cons (ps_set (i := 13) sc_law.nd rfl (Or.inl rfl) (pe_tup (pa_cons (pe_op op_sub (pe_op op_add (pe_op op_fdivW (pe_ix (r := rIxT K) ix_tup (pv 11) pe_int (fun _ _ => rfl)) (pe_ix (r := rIxT K) ix_tup (pv 11) pe_int (fun _ _ => rfl))) (pe_def D_law_draw (hr.mono (by decide)) (by rfl) (pa_cons (pv 1) (pa_cons (pv 12) pa_nil)))) (pe_op op_fdivW (pv 12) pe_int)) (pa_cons (pe_op op_sub (pe_op op_add (pe_op op_fdivW (pe_ix (r := rIxT K) ix_tup (pv 11) pe_int (fun _ _ => rfl)) (pe_ix (r := rIxT K) ix_tup (pv 11) pe_int (fun _ _ => rfl))) (pe_def D_law_draw (hr.mono (by decide)) (by rfl) (pa_cons (pv 1) (pa_cons (pv 12) pa_nil)))) (pe_op op_fdivW (pv 12) pe_int)) (pa_cons (pe_op op_add pe_int (pe_def D_law_draw (hr.mono (by decide)) (by rfl) (pa_cons (pv 1) (pa_cons pe_int pa_nil)))) (pa_cons (pe_def D_law_draw (hr.mono (by decide)) (by rfl) (pa_cons (pv 1) (pa_cons pe_int pa_nil))) pa_nil))))))
    (pss_cons (ps_set (i := 14) sc_law.nd rfl (Or.inl rfl) (pe_def D_law_draw (hr.mono (by decide)) (by rfl) (pa_cons (pv 1) (pa_cons pe_int pa_nil))))
    (pss_cons (ps_set (i := 15) sc_law.nd rfl (Or.inl rfl) (pe_op op_add (pe_ix (r := rIxT K) ix_tup (pv 13) pe_int (fun _ _ => rfl)) (pv 14)))
    (pss_cons (ps_set (i := 16) sc_law.nd rfl (Or.inl rfl) (pe_def D_law_vector (hr.mono (by decide)) (by rfl) (pa_cons (pv 1) (pa_cons (pe_dget hu (pv 3) pe_str (fun _ _ => rfl)) pa_nil))))
    (pss_cons (ps_set (i := 17) sc_law.nd rfl (Or.inl rfl) (pe_op op_add (pe_ix (r := rIxT K) ix_tup (pv 13) pe_int (fun _ _ => rfl)) (pe_ix (r := rIxT K) ix_tup (pv 16) pe_int (fun _ _ => rfl))))
    (pss_cons (ps_set (i := 18) sc_law.nd rfl (Or.inl rfl) (pe_op op_add (pe_ix (r := rIxT K) ix_tup (pv 13) pe_int (fun _ _ => rfl)) (pe_ix (r := rIxT K) ix_tup (pv 16) pe_int (fun _ _ => rfl))))
    (pss_cons (ps_set (i := 19) sc_law.nd rfl (Or.inl rfl) (pe_op op_sub (pe_op op_add (pe_ix (r := rIxT K) ix_tup (pv 13) pe_int (fun _ _ => rfl)) (pe_def D_law_draw (hr.mono (by decide)) (by rfl) (pa_cons (pv 1) (pa_cons (pe_op op_add (pe_op op_mulW pe_int (pe_dget hu (pv 3) pe_str (fun _ _ => rfl))) pe_int) pa_nil)))) (pe_dget hu (pv 3) pe_str (fun _ _ => rfl))))
    (pss_cons (ps_for PassesOwn.never rfl (pi_range1 (by rfl) T.range (pa_cons (pv 14) pa_nil)) (pg_name (i := 20) sc_law.nd rfl (Or.inl rfl))
      (pss_cons (ps_set (i := 21) sc_law.nd rfl (Or.inl rfl) (pe_def D_law_vector (hr.mono (by decide)) (by rfl) (pa_cons (pv 1) (pa_cons (pe_dget hu (pv 3) pe_str (fun _ _ => rfl)) pa_nil))))
    (pss_cons (ps_set (i := 17) sc_law.nd rfl (Or.inl rfl) (pe_op op_add (pv 17) (pe_ix (r := rIxT K) ix_tup (pv 21) pe_int (fun _ _ => rfl))))
    (pss_cons (ps_set (i := 18) sc_law.nd rfl (Or.inl rfl) (pe_op op_add (pv 18) (pe_ix (r := rIxT K) ix_tup (pv 21) pe_int (fun _ _ => rfl))))
    (pss_one (ps_set (i := 19) sc_law.nd rfl (Or.inl rfl) (pe_op op_sub (pe_op op_add (pv 19) (pe_def D_law_draw (hr.mono (by decide)) (by rfl) (pa_cons (pv 1) (pa_cons (pe_op op_add (pe_op op_mulW pe_int (pe_dget hu (pv 3) pe_str (fun _ _ => rfl))) pe_int) pa_nil)))) (pe_dget hu (pv 3) pe_str (fun _ _ => rfl)))))))))
    (pss_cons (ps_set (i := 22) sc_law.nd rfl (Or.inl rfl) (pe_op op_add (pe_dget hu (pv 3) pe_str (fun _ _ => rfl)) (pe_op op_mulW (pe_dget hu (pv 3) pe_str (fun _ _ => rfl)) (pv 14))))
    (pss_cons (ps_set (i := 23) sc_law.nd rfl (Or.inl rfl) (pe_tup (pa_cons (pe_op op_add (pe_dget hu (pv 3) pe_str (fun _ _ => rfl)) (pe_op op_mulW (pe_dget hu (pv 3) pe_str (fun _ _ => rfl)) (pv 14))) (pa_cons (pe_op op_sub (pe_ix (r := rIxT K) ix_tup (pv 13) pe_int (fun _ _ => rfl)) (pv 22)) (pa_cons (pe_op op_add (pe_ix (r := rIxT K) ix_tup (pv 13) pe_int (fun _ _ => rfl)) (pv 22)) pa_nil)))))
    (pss_cons (ps_if (pt_cmpR (op_neD hr.units) (pe_def D_reach (hr.mono (by decide)) (by rfl) (pa_cons (pv 3) (pa_cons (pv 13) (pa_cons (pv 15) pa_nil)))) (pv 23) (nomark _)) (pss_one (ps_ret pe_bl))
      pss_nil)
    (pss_cons (ps_set (i := 24) sc_law.nd rfl (Or.inl rfl) (pe_def D_near_reach (hr.mono (by decide)) (by rfl) (pa_cons (pv 3) (pa_cons (pv 7) (pa_cons (pv 10) (pa_cons (pv 13) (pa_cons (pv 15) pa_nil)))))))
    (pss_cons (ps_if (pt_not (pt_val (pe_def D_law_is (hr.mono (by decide)) (by rfl) (pa_cons (pv 24) (pa_cons (pe_def D_law_near (hr.mono (by decide)) (by rfl) (pa_cons (pv 3) (pa_cons (pe_def D_law_piece (hr.mono (by decide)) (by rfl) (pa_cons (pv 2) (pa_cons (pv 4) (pa_cons (pv 5) (pa_cons (pe_ix (r := rIxT K) ix_tup (pv 10) pe_int (fun _ _ => rfl)) (pa_cons (pe_ix (r := rIxT K) ix_tup (pv 10) pe_int (fun _ _ => rfl)) pa_nil)))))) (pa_cons (pv 10) (pa_cons (pv 13) (pa_cons (pv 14) pa_nil)))))) pa_nil))))) (pss_one (ps_ret pe_bl))
      pss_nil)
    (pss_cons (ps_set (i := 25) sc_law.nd rfl (Or.inl rfl) (pe_def D_law_vector (hr.mono (by decide)) (by rfl) (pa_cons (pv 1) (pa_cons (pe_dget hu (pv 3) pe_str (fun _ _ => rfl)) pa_nil))))
    (pss_cons (ps_set (i := 26) sc_law.nd rfl (Or.inl rfl) (pe_op op_sub (pe_op op_add (pe_op op_add (pe_ix (r := rIxT K) ix_tup (pv 10) pe_int (fun _ _ => rfl)) (pe_def D_law_draw (hr.mono (by decide)) (by rfl) (pa_cons (pv 1) (pa_cons (pe_op op_add (pe_op op_sub (pe_ix (r := rIxT K) ix_tup (pv 10) pe_int (fun _ _ => rfl)) (pe_ix (r := rIxT K) ix_tup (pv 10) pe_int (fun _ _ => rfl))) pe_int) pa_nil)))) (pe_def D_law_draw (hr.mono (by decide)) (by rfl) (pa_cons (pv 1) (pa_cons (pe_op op_add (pe_op op_mulW pe_int (pe_dget hu (pv 3) pe_str (fun _ _ => rfl))) pe_int) pa_nil)))) (pe_dget hu (pv 3) pe_str (fun _ _ => rfl))))
    (pss_cons (ps_set (i := 27) sc_law.nd rfl (Or.inl rfl) (pe_op op_add (pe_ix (r := rIxT K) ix_tup (pv 11) pe_int (fun _ _ => rfl)) (pe_op op_mulW (pe_op op_sub (pe_ix (r := rIxT K) ix_tup (pv 25) pe_int (fun _ _ => rfl)) (pv 17)) (pe_ix (r := rIxT K) ix_tup (pv 11) pe_int (fun _ _ => rfl)))))
    (pss_cons (ps_set (i := 28) sc_law.nd rfl (Or.inl rfl) (pe_op op_add (pe_ix (r := rIxT K) ix_tup (pv 11) pe_int (fun _ _ => rfl)) (pe_op op_mulW (pe_op op_sub (pe_ix (r := rIxT K) ix_tup (pv 25) pe_int (fun _ _ => rfl)) (pv 18)) (pe_ix (r := rIxT K) ix_tup (pv 11) pe_int (fun _ _ => rfl)))))
    (pss_cons (ps_set (i := 29) sc_law.nd rfl (Or.inl rfl) (pe_op op_mulW (pe_op op_mulW (pe_op op_mulW (pe_dget hu (pv 3) pe_str (fun _ _ => rfl)) (pe_dget hu (pv 3) pe_str (fun _ _ => rfl))) (pe_ix (r := rIxT K) ix_tup (pv 11) pe_int (fun _ _ => rfl))) (pe_ix (r := rIxT K) ix_tup (pv 11) pe_int (fun _ _ => rfl))))
    (pss_one (ps_if (PW.pt (pw_and (pt_cmpR op_lt (pe_op op_add (pe_op op_mulW (pv 27) (pv 27)) (pe_op op_mulW (pv 28) (pv 28))) (pv 29) (nomark _)) (pw_and (pt_cmpR op_lt (pe_callB call_abs (by rfl) T.abs boot_abs (pa_cons (pe_op op_sub (pv 26) (pv 19)) pa_nil)) (pe_dget hu (pv 3) pe_str (fun _ _ => rfl)) (nomark _)) (pw_and1 (pt_not (pt_val (pv 24))))))) (pss_one (ps_ret pe_bl))
      pss_nil)))))))))))))))))))))))))
    (pss_one (ps_ret pe_bl)))))))))), ?_⟩
    rw [show L2.start ["script", "state", "chart", "rules", "route", "begins", "total", "path", "k", "progress", "box", "place", "near", "sighting", "later", "tick", "error", "x", "y", "z", "j", "step", "margin", "due", "found", "move", "height", "across", "up", "square"] [V.ref a] = [some (V.ref a), none, none, none, none, none, none, none, none, none, none, none, none, none, none, none, none, none, none, none, none, none, none, none, none, none, none, none, none, none] from rfl]
    refine ⟨_, rfl, a, ns0, rfl, hS, hl0, fun d c H0 hd0 hc0 S0 sm0 => ?_⟩
    have T0 := Same.tabs sm0 hT
    refine nm ?_
    dsimp only [List.set]
    refine ⟨_, rfl, d, c, rfl, S0, fun D ch H1 hne hpos C1 hch hfx S1 kp1 => ?_⟩
    have T1 := kp1.tabsS S0 T0
    have n1 : ch ≠ d := S0.nd hch
    have n2 : D.fx ≠ d := S0.nd hfx
    refine nm ?_
    dsimp only [List.set]
    refine ⟨_, rfl, d, c, rfl, S1, fun ru r H3 hru RU3 nrc S3 kp3 => ?_⟩
    have n3 : ru ≠ d := S1.nd hru
    have C3 := C1.keep S1 kp3 n1 n2
    have T3 := kp3.tabsS S1 T1
    refine nm ?_
    dsimp only [List.set]
    refine ⟨_, rfl, _, rfl, d, c, ch, D, _, rfl, S3, C3, n1, n2, hne, by decide, by decide, fun ns rt H6 R hr6 hr6' S6 kp6 => ?_⟩
    have C6 := C3.keep S3 kp6 n1 n2
    have RU6 := RU3.keep kp6 n3
    have T6 := kp6.tabsS S3 T3
    refine nm ?_
    dsimp only [List.set]
    refine ⟨_, rfl, ch, D, rfl, C6, fun ld H7 hld L7 sm7 => ?_⟩
    refine ⟨_, rfl, ld, rt, D, ns, rfl, L7, sm7 _ _ hr6', R, fun b H8 hb0 sm8 hb8 => ?_⟩
    refine nm ?_
    dsimp only [List.set]
    have rn2 := R.n2
    have rn20 := R.n20
    have sm78 := sm7.trans sm8
    refine ⟨_, rfl, _, rfl, _, _, rfl, (.inl (.inl (.inl hb8))), _, _, rfl, rfl, _, _, _, .int (bg D ns (ns.length - 1)), rfl, rfl, .inl (.inl hb8), atI_lastn rfl (bgs_last (by omega)), ?_⟩
    refine nm ?_
    dsimp only [List.set]
    refine ⟨_, rfl, _, rfl, fun p dx hp hdx hpd => ?_⟩
    have smx : Same H8 (upd (upd H8 dx (.own p)) p (.ins C dx [])) := fun b o e => by
      rw [upd_ne (ne_of_none e hp), upd_ne (ne_of_none e hdx)]
      exact e
    refine ⟨p, ch, rt, dx, D, ns, rfl, upd_same, (C6.same sm78).same smx, smx _ _ (sm78 _ _ hr6'), R, fun H9 PA fr => ⟨rfl, ?_⟩⟩
    have sm9 : Same H6 H9 := fun b o e => fr b o (smx _ _ (sm78 _ _ e)) (ne_of_none (sm78 _ _ e) hp)
    have sm89 : Same H8 H9 := fun b o e => fr b o (smx _ _ e) (ne_of_none e hp)
    have A9 : LC K TT C H9 d c ch ru rt b p r D ns := ⟨S6.same sm9, C6.same sm9, R, sm9 _ _ hr6', sm89 _ _ hb8, PA, RU6.same sm9, n1, n2, n3, Same.tabs sm9 T6⟩
    clear C1 C3 C6 RU3 RU6 T0 T1 T3 T6 S6 S3 S1 S0 PA hb8 L7 hr6'
    have pos : PosR D ns := PosR.of R hpos
    have tpos := total_pos pos rn2
    have tle := bg_le A9.C0.bd ns (ns.length - 1)
    have rbd := A9.RU.bd
    obtain ⟨b1, b2, b3, b4⟩ := A9.RU.bd
    refine nm ?_
    dsimp only [List.set]
    refine ⟨_, rfl, by decide, by decide, for_range (n := (4 : Int).toNat) (fun i σ H => ∃ (v8 v9 v10 v11 v12 v13 v14 v15 v16 v17 v18 v19 v20 v21 v22 v23 v24 v25 v26 v27 v28 v29 : Option V), σ = [some (.ref a), some (.ref d), some (.ref ch), some (.ref ru), some (.ref rt), some (.ref b), some (.int (bg D ns (ns.length - 1))), some (.ref p), v8, v9, v10, v11, v12, v13, v14, v15, v16, v17, v18, v19, v20, v21, v22, v23, v24, v25, v26, v27, v28, v29] ∧ LC K TT C H d c ch ru rt b p r D ns)
      ⟨none, none, none, none, none, none, none, none, none, none, none, none, none, none, none, none, none, none, none, none, none, none, rfl, A9⟩ ?_ ?_⟩
    rotate_left
    · rintro σ H ⟨v8, v9, v10, v11, v12, v13, v14, v15, v16, v17, v18, v19, v20, v21, v22, v23, v24, v25, v26, v27, v28, v29, rfl, A⟩
      exact k H
    clear A9
    rintro i σ Hd hi ⟨v8, v9, v10, v11, v12, v13, v14, v15, v16, v17, v18, v19, v20, v21, v22, v23, v24, v25, v26, v27, v28, v29, rfl, A⟩
    refine nm ?_
    dsimp only [List.set]
    refine ⟨_, rfl, _, rfl, d, c, bg D ns (ns.length - 1), rfl, A.S, (by omega), (by omega), fun x1 G1 x1a x1b S1 kp1 => ?_⟩
    have A1 := A.keep S1 kp1
    refine nm ?_
    dsimp only [List.set]
    refine ⟨_, rfl, _, rfl, d, c, 9, rfl, A1.S, (by omega), (by omega), fun x2 G2 x2a x2b S2 kp2 => ?_⟩
    have A2 := A1.keep S2 kp2
    refine ⟨_, _, rfl, rfl, _, rfl, _, rfl, d, c, 9, rfl, A2.S, (by omega), (by omega), fun x3 G3 x3a x3b S3 kp3 => ?_⟩
    have A3 := A2.keep S3 kp3
    refine ⟨_, _, rfl, rfl, _, rfl, d, c, 20, rfl, A3.S, (by omega), (by omega), fun x4 G4 x4a x4b S4 kp4 => ?_⟩
    have A4 := A3.keep S4 kp4
    refine ⟨_, _, rfl, rfl, szOk rfl, fun bx hbx => ?_⟩
    have A5 := A4.same (same_new (o := .tup [.int (x1 - x2), .int (x1 + x3), .int 50, .int (50 + x4)]) hbx)
    have hb5 : (upd G4 bx (.tup [.int (x1 - x2), .int (x1 + x3), .int 50, .int (50 + x4)])) bx = some (.tup [.int (x1 - x2), .int (x1 + x3), .int 50, .int (50 + x4)]) := upd_same
    generalize upd G4 bx (.tup [.int (x1 - x2), .int (x1 + x3), .int 50, .int (50 + x4)]) = G5 at A5 hb5 ⊢
    clear A A1 A2 A3 A4 S1 S2 S3 S4
    refine nm ?_
    dsimp only [List.set]
    obtain ⟨lc0, lc1, lc2⟩ := lat_cases D ns (ns.length - 1 - 1) x1
    obtain ⟨ppx, ppy, epl, bpx, bpy⟩ := plc_bd70 (D := D) (ns := ns) A5.C0.bd (k := lat D ns (ns.length - 1 - 1) x1) (p := x1) (by omega) (by omega) (by omega)
    have dd1 := pos (lat D ns (ns.length - 1 - 1) x1) (by omega)
    have dd2 := D.len_le A5.C0.bd (rn ns (lat D ns (ns.length - 1 - 1) x1)) (rn ns (lat D ns (ns.length - 1 - 1) x1 + 1))
    obtain ⟨ss, eP, hss⟩ := pcs_segs (lo := x1 - x2) (hi := x1 + x3) A5.C0.bd pos rn2 rn20 (by omega) (by omega) (by omega) (by omega)
    have on := place_on_piece pos rn2 eP x1a x1b (by omega) (by omega) epl
    have hsl := pcs_le rn20 eP
    refine ⟨_, rfl, _, rfl, _, rfl, _, rfl, _, rfl, b, x1, D, ns, rfl, A5.hb, rn2, rn20, ?_⟩
    refine ⟨_, rfl, ch, rt, b, _, x1, D, ns, lat D ns (ns.length - 1 - 1) x1, rfl, rfl, A5.C0, A5.hrt, A5.hb, R, by omega, fun pc G6 hpc sm6 hpt6 => ?_⟩
    rw [epl] at hpt6
    have hpt6 : G6 pc = some (.tup [.int ppx, .int ppy, .int (D.len (rn ns (lat D ns (ns.length - 1 - 1) x1)) (rn ns (lat D ns (ns.length - 1 - 1) x1 + 1)))]) := hpt6
    generalize D.len (rn ns (lat D ns (ns.length - 1 - 1) x1)) (rn ns (lat D ns (ns.length - 1 - 1) x1 + 1)) = dd at on dd1 dd2 hpt6
    have A6 := A5.same sm6
    have hb6 := sm6 _ _ hb5
    clear A5
    refine nm ?_
    dsimp only [List.set]
    refine ⟨_, rfl, _, _, rfl, A6.RU.gla, _, _, rfl, rfl, (wm (by omega) (by omega)), _, _, rfl, rfl, ?_⟩
    refine nm ?_
    dsimp only [List.set]
    refine ⟨_, rfl, _, _, _, _, rfl, rfl, .inl (.inl hpt6), rfl, _, rfl, _, _, _, _, rfl, rfl, .inl (.inl hpt6), rfl, _, _, rfl, rfl, log_of (by omega) (by omega), _, rfl, _, rfl, d, c, 2 * r.la + 30, rfl, A6.S, (by omega), (by omega), fun x5 G7 x5a x5b S5 kp5 => ?_⟩
    have A7 := A6.keep S5 kp5
    have hb7 := kp5.t A6.S hb6
    have hpt7 := kp5.t A6.S hpt6
    refine ⟨_, _, rfl, rfl, _, rfl, _, _, rfl, rfl, log_of (by omega) (by omega), _, _, rfl, rfl, _, rfl, _, _, _, _, rfl, rfl, .inl (.inl hpt7), rfl, _, rfl, _, _, _, _, rfl, rfl, .inl (.inl hpt7), rfl, _, _, rfl, rfl, log_of (by omega) (by omega), _, rfl, _, rfl, d, c, 2 * r.la + 30, rfl, A7.S, (by omega), (by omega), fun x6 G8 x6a x6b S6 kp6 => ?_⟩
    have A8 := A7.keep S6 kp6
    have hb8 := kp6.t A7.S hb7
    have hpt8 := kp6.t A7.S hpt7
    refine ⟨_, _, rfl, rfl, _, rfl, _, _, rfl, rfl, log_of (by omega) (by omega), _, _, rfl, rfl, _, rfl, d, c, 60, rfl, A8.S, (by omega), (by omega), fun x7 G9 x7a x7b S7 kp7 => ?_⟩
    have A9 := A8.keep S7 kp7
    refine ⟨_, _, rfl, rfl, _, rfl, d, c, 20, rfl, A9.S, (by omega), (by omega), fun x8 G10 x8a x8b S8 kp8 => ?_⟩
    have A10 := A9.keep S8 kp8
    have hb10 := kp8.t A9.S (kp7.t A8.S hb8)
    have hpt10 := kp8.t A9.S (kp7.t A8.S hpt8)
    clear A6 A7 A8 A9 S5 S6 S7 S8 hb5 hb6 hb7 hb8 hpt6 hpt7 hpt8
    refine ⟨szOk rfl, fun sg hsg => ?_⟩
    refine nm ?_
    dsimp only [List.set]
    have q4000 : ∀ z : Int, -4000 ≤ z → z ≤ 4000 → BdN 75 z := fun z h0 h1 => (BdN.of (n := 12) (by show -(4096 : Int) ≤ z; omega) (by show z ≤ (4096 : Int); omega)).mono (by decide)
    have bxx : BdN 76 (ppx / dd + x5 - (2 * r.la + 30) / 2) := by
      have := ((bpx.ediv dd1).mono (show 70 ≤ 75 by decide)).add (q4000 (x5 - (2 * r.la + 30) / 2) (by omega) (by omega))
      rw [show ppx / dd + (x5 - (2 * r.la + 30) / 2) = ppx / dd + x5 - (2 * r.la + 30) / 2 by omega] at this
      exact this
    have byy : BdN 76 (ppy / dd + x6 - (2 * r.la + 30) / 2) := by
      have := ((bpy.ediv dd1).mono (show 70 ≤ 75 by decide)).add (q4000 (x6 - (2 * r.la + 30) / 2) (by omega) (by omega))
      rw [show ppy / dd + (x6 - (2 * r.la + 30) / 2) = ppy / dd + x6 - (2 * r.la + 30) / 2 by omega] at this
      exact this
    generalize ppx / dd + x5 - (2 * r.la + 30) / 2 = sx at bxx ⊢
    generalize ppy / dd + x6 - (2 * r.la + 30) / 2 = sy at byy ⊢
    have sm11 := same_new (o := .tup [.int sx, .int sy, .int (30 + x7), .int x8]) hsg
    have A11 := A10.same sm11
    have hb11 := sm11 _ _ hb10
    have hpt11 := sm11 _ _ hpt10
    have hsg11 : (upd G10 sg (.tup [.int sx, .int sy, .int (30 + x7), .int x8])) sg = some (.tup [.int sx, .int sy, .int (30 + x7), .int x8]) := upd_same
    generalize upd G10 sg (.tup [.int sx, .int sy, .int (30 + x7), .int x8]) = G11 at A11 hb11 hpt11 hsg11 ⊢
    clear A10 sm11 hb10 hpt10
    refine ⟨_, rfl, d, c, 9, rfl, A11.S, (by omega), (by omega), fun x9 G12 x9a x9b S9 kp9 => ?_⟩
    have A12 := A11.keep S9 kp9
    have hb12 := kp9.t A11.S hb11
    have hpt12 := kp9.t A11.S hpt11
    have hsg12 := kp9.t A11.S hsg11
    refine nm ?_
    dsimp only [List.set]
    refine ⟨_, rfl, _, _, _, _, rfl, rfl, .inl (.inl hsg12), rfl, _, rfl, _, _, rfl, rfl, ?_⟩
    refine nm ?_
    dsimp only [List.set]
    refine ⟨_, rfl, _, rfl, _, _, rfl, A12.RU.grd, d, c, r.rd, rfl, A12.S, by omega, by omega, fun er ex ey G13 her her13 ex0 ex1 ey0 ey1 e2 S10 kp10 => ?_⟩
    have A13 := A12.keep S10 kp10
    have hb13 := kp10.t A12.S hb12
    have hpt13 := kp10.t A12.S hpt12
    have hsg13 := kp10.t A12.S hsg12
    refine nm ?_
    dsimp only [List.set]
    refine ⟨_, rfl, _, _, _, _, rfl, rfl, .inl (.inl hsg13), rfl, _, rfl, _, _, _, _, rfl, rfl, .inl (.inl her13), rfl, _, _, rfl, rfl, ?_⟩
    refine nm ?_
    dsimp only [List.set]
    refine ⟨_, rfl, _, _, _, _, rfl, rfl, .inl (.inl hsg13), rfl, _, rfl, _, _, _, _, rfl, rfl, .inl (.inl her13), rfl, _, _, rfl, rfl, ?_⟩
    refine nm ?_
    dsimp only [List.set]
    refine ⟨_, rfl, _, _, _, _, rfl, rfl, .inl (.inl hsg13), rfl, _, rfl, _, rfl, _, _, rfl, A13.RU.ght, _, _, rfl, rfl, (wm (by omega) (by omega)), _, _, rfl, rfl, d, c, 2 * r.ht + 1, rfl, A13.S, (by omega), (by omega), fun x11 G14 x11a x11b S11 kp11 => ?_⟩
    have A14 := A13.keep S11 kp11
    have hb14 := kp11.t A13.S hb13
    have hpt14 := kp11.t A13.S hpt13
    have hsg14 := kp11.t A13.S hsg13
    refine ⟨_, _, rfl, rfl, _, rfl, _, _, rfl, A14.RU.ght, _, _, rfl, rfl, ?_⟩
    refine nm ?_
    dsimp only [List.set]
    clear A11 A12 A13 S9 S10 S11 hb11 hb12 hb13 hpt11 hpt12 hpt13 hsg11 hsg12 hsg13
    obtain ⟨lt, rfl⟩ : ∃ lt : Nat, x9 = (lt : Int) := ⟨x9.toNat, by omega⟩
    refine ⟨_, rfl, _, rfl, by omega, by omega, for_range (n := ((lt : Int)).toNat) (fun j σ H => ∃ (x y z : Int) (v20 v21 : Option V), σ = [some (.ref a), some (.ref d), some (.ref ch), some (.ref ru), some (.ref rt), some (.ref b), some (.int (bg D ns (ns.length - 1))), some (.ref p), some (.int (0 + (i : Int))), some (.int x1), some (.ref bx), some (.ref pc), some (.int (2 * r.la + 30)), some (.ref sg), some (.int (lt : Int)), some (.int (x8 + (lt : Int))), some (.ref er), some (.int x), some (.int y), some (.int z), v20, v21, v22, v23, v24, v25, v26, v27, v28, v29] ∧ LC K TT C H d c ch ru rt b p r D ns ∧ Keep d G14 H ∧ (x - sx) * (x - sx) + (y - sy) * (y - sy) ≤ (r.rd + r.fo * (j : Int)) * (r.rd + r.fo * (j : Int)) ∧ 30 + x7 - (r.ht + r.cl * (j : Int)) ≤ z ∧ z ≤ 30 + x7 + (r.ht + r.cl * (j : Int)))
      ⟨sx + ex, sy + ey, 30 + x7 + x11 - r.ht, v20, v21, rfl, A14, Keep.refl d G14, ?_, ?_, ?_⟩ ?_ ?_⟩
    · rw [show sx + ex - sx = ex by omega, show sy + ey - sy = ey by omega, show r.rd + r.fo * ((0 : Nat) : Int) = r.rd by rw [show ((0 : Nat) : Int) = 0 from rfl, Int.mul_zero, Int.add_zero]]
      exact e2
    · rw [show r.cl * ((0 : Nat) : Int) = 0 by rw [show ((0 : Nat) : Int) = 0 from rfl, Int.mul_zero]]; omega
    · rw [show r.cl * ((0 : Nat) : Int) = 0 by rw [show ((0 : Nat) : Int) = 0 from rfl, Int.mul_zero]]; omega
    · rintro j σ H1 hj ⟨x, y, z, v20, v21, rfl, B, kp, hxy, z0, z1⟩
      refine nm ?_
      dsimp only [List.set]
      refine ⟨_, rfl, _, rfl, _, _, rfl, B.RU.gfo, d, c, r.fo, rfl, B.S, by omega, by omega, fun sp px py H2 hsp hsp2 px0 px1 py0 py1 p2 S12 kp12 => ?_⟩
      have B2 := B.keep S12 kp12
      refine nm ?_
      dsimp only [List.set]
      refine ⟨_, rfl, _, rfl, _, _, _, _, rfl, rfl, .inl (.inl hsp2), rfl, _, _, rfl, rfl, ?_⟩
      refine nm ?_
      dsimp only [List.set]
      refine ⟨_, rfl, _, rfl, _, _, _, _, rfl, rfl, .inl (.inl hsp2), rfl, _, _, rfl, rfl, ?_⟩
      refine nm ?_
      dsimp only [List.set]
      refine ⟨_, rfl, _, rfl, _, rfl, _, _, rfl, B2.RU.gcl, _, _, rfl, rfl, (wm (by omega) (by omega)), _, _, rfl, rfl, d, c, 2 * r.cl + 1, rfl, B2.S, (by omega), (by omega), fun x13 H3 x13a x13b S13 kp13 => ?_⟩
      have B3 := B2.keep S13 kp13
      refine ⟨_, _, rfl, rfl, _, rfl, _, _, rfl, B3.RU.gcl, _, _, rfl, rfl, ?_⟩
      have fj : 0 ≤ r.fo * (j : Int) := Int.mul_nonneg (by omega) (by omega)
      have cj : r.cl * ((j + 1 : Nat) : Int) = r.cl * (j : Int) + r.cl := by rw [show ((j + 1 : Nat) : Int) = (j : Int) + 1 by omega, Int.mul_add, Int.mul_one]
      refine ⟨x + px, y + py, z + x13 - r.cl, _, _, rfl, B3, (kp.trans kp12).trans kp13, ?_, by rw [cj]; omega, by rw [cj]; omega⟩
      have w := step_in (R := r.rd + r.fo * (j : Int)) (by omega) (show 0 ≤ r.fo by omega) hxy p2
      rw [show r.rd + r.fo * (j : Int) + r.fo = r.rd + r.fo * ((j + 1 : Nat) : Int) by rw [show ((j + 1 : Nat) : Int) = (j : Int) + 1 by omega, Int.mul_add, Int.mul_one]; omega] at w
      exact w
    rintro σ H1 ⟨x, y, z, v20, v21, rfl, B, kp, hxy, z0, z1⟩
    have hb1 := kp.t A14.S hb14
    have hpt1 := kp.t A14.S hpt14
    have hsg1 := kp.t A14.S hsg14
    rw [Int.toNat_natCast] at hxy z0 z1
    clear A14 hb14 hpt14 hsg14
    have l9 : (0 : Int) ≤ (lt : Int) ∧ (lt : Int) ≤ 8 := by omega
    generalize (lt : Int) = lt at hxy z0 z1 l9 ⊢
    have fb : (r.fo * lt).natAbs ≤ 1048576 := (BdN.of (n := 10) (by show -(1024 : Int) ≤ _; omega) (by show _ ≤ (1024 : Int); omega)).mul (BdN.of (n := 10) (by show -(1024 : Int) ≤ _; omega) (by show _ ≤ (1024 : Int); omega))
    have fp : 0 ≤ r.fo * lt := Int.mul_nonneg (by omega) l9.1
    have sdx := side_of (show 0 ≤ r.rd + r.fo * lt by omega) hxy
    have sdy := side_of (show 0 ≤ r.rd + r.fo * lt by omega) (show (y - sy) * (y - sy) + (x - sx) * (x - sx) ≤ (r.rd + r.fo * lt) * (r.rd + r.fo * lt) by omega)
    refine ⟨_, rfl, _, _, rfl, B.RU.ght, _, rfl, _, _, rfl, B.RU.gcl, _, rfl, _, _, rfl, rfl, (wm (by omega) (by omega)), _, _, rfl, rfl, ?_⟩
    refine nm ?_
    dsimp only [List.set]
    refine ⟨_, rfl, _, _, rfl, B.RU.grd, _, rfl, _, _, rfl, B.RU.gfo, _, rfl, _, _, rfl, rfl, (wm (by omega) (by omega)), _, _, rfl, rfl, _, rfl, _, _, _, _, rfl, rfl, .inl (.inl hsg1), rfl, _, rfl, _, _, rfl, rfl, _, rfl, _, _, _, _, rfl, rfl, .inl (.inl hsg1), rfl, _, rfl, _, _, rfl, rfl, szOk rfl, fun du hdu => ?_⟩
    have sm2 := same_new (o := .tup [.int (r.rd + r.fo * lt), .int (30 + x7 - (r.ht + r.cl * lt)), .int (30 + x7 + (r.ht + r.cl * lt))]) hdu
    have hdu2 : (upd H1 du (.tup [.int (r.rd + r.fo * lt), .int (30 + x7 - (r.ht + r.cl * lt)), .int (30 + x7 + (r.ht + r.cl * lt))])) du = some (.tup [.int (r.rd + r.fo * lt), .int (30 + x7 - (r.ht + r.cl * lt)), .int (30 + x7 + (r.ht + r.cl * lt))]) := upd_same
    generalize upd H1 du (.tup [.int (r.rd + r.fo * lt), .int (30 + x7 - (r.ht + r.cl * lt)), .int (30 + x7 + (r.ht + r.cl * lt))]) = H2 at sm2 hdu2 ⊢
    have B2 := B.same sm2
    have hb2 := sm2 _ _ hb1
    have hpt2 := sm2 _ _ hpt1
    have hsg2 := sm2 _ _ hsg1
    clear B hb1 hpt1 hsg1
    refine nm ?_
    dsimp only [List.set]
    have et : x8 + lt - x8 = lt := by omega
    refine ⟨_, rfl, _, rfl, _, rfl, ru, sg, r, sx, sy, 30 + x7, x8, x8 + lt, rfl, B2.RU, hsg2, by omega, by omega, fun rq hrq => ?_⟩
    rw [et]
    have sm3 := same_new (o := .tup [.int (r.rd + r.fo * lt), .int (30 + x7 - (r.ht + r.cl * lt)), .int (30 + x7 + (r.ht + r.cl * lt))]) hrq
    have hrq3 : (upd H2 rq (.tup [.int (r.rd + r.fo * lt), .int (30 + x7 - (r.ht + r.cl * lt)), .int (30 + x7 + (r.ht + r.cl * lt))])) rq = some (.tup ([r.rd + r.fo * lt, 30 + x7 - (r.ht + r.cl * lt), 30 + x7 + (r.ht + r.cl * lt)].map V.int)) := upd_same
    have hdu3 : (upd H2 rq (.tup [.int (r.rd + r.fo * lt), .int (30 + x7 - (r.ht + r.cl * lt)), .int (30 + x7 + (r.ht + r.cl * lt))])) du = some (.tup ([r.rd + r.fo * lt, 30 + x7 - (r.ht + r.cl * lt), 30 + x7 + (r.ht + r.cl * lt)].map V.int)) := sm3 _ _ hdu2
    generalize upd H2 rq (.tup [.int (r.rd + r.fo * lt), .int (30 + x7 - (r.ht + r.cl * lt)), .int (30 + x7 + (r.ht + r.cl * lt))]) = H3 at sm3 hrq3 hdu3 ⊢
    have B3 := B2.same sm3
    have hb3 := sm3 _ _ hb2
    have hpt3 := sm3 _ _ hpt2
    have hsg3 := sm3 _ _ hsg2
    clear B2 hb2 hpt2 hsg2 hdu2
    refine ⟨_, rfl, _, _, dp_tup hrq3, dp_tup hdu3, sh_pd _, sh_pd _, _, rfl, eqvN (can_pd _) ?_⟩
    refine ⟨_, rfl, _, rfl, _, rfl, _, rfl, _, rfl, ru, p, bx, sg, rt, r, ⟨x1 - x2, x1 + x3, 50, 50 + x4⟩, D, ns, ss, sx, sy, 30 + x7, x8, x8 + lt, rfl, B3.RU, hb3, hsg3, by dsimp only; omega, by omega, by omega, B3.P, B3.C0.bd, rn2, rn20, eP, hss, bxx.mono (by decide), byy.mono (by decide), B3.T, fun H4 st4 => ?_⟩
    rw [et]
    have B4 := B3.st st4
    have hb4 := st4.t B3.T hb3
    have hpt4 := st4.t B3.T hpt3
    have hsg4 := st4.t B3.T hsg3
    clear B3 hb3 hpt3 hsg3
    refine nm ?_
    dsimp only [List.set]
    refine ⟨_, rfl, _, rfl, _, rfl, _, rfl, _, rfl, _, rfl, _, _, _, _, rfl, rfl, .inl (.inl hb4), rfl, _, rfl, _, _, _, _, rfl, rfl, .inl (.inl hb4), rfl, ch, rt, b, x1 - x2, x1 + x3, D, ns, rfl, B4.C0, B4.hrt, B4.hb, R, by omega, fun ln H5 hln sm5 L5 => ?_⟩
    rw [eP] at L5
    have B5 := B4.same sm5
    refine ⟨_, rfl, _, rfl, _, rfl, ru, ln, bx, sg, r, ⟨x1 - x2, x1 + x3, 50, 50 + x4⟩, ss, sx, sy, 30 + x7, x8, lt, rfl, B5.RU, L5, sm5 _ _ hb4, sm5 _ _ hsg4, by omega, by omega, hss, hsl, bxx.mono (by decide), byy.mono (by decide), fun H6 sm6 => ?_⟩
    have B6 := B5.same sm6
    have hb6 := sm6 _ _ (sm5 _ _ hb4)
    have hpt6 := sm6 _ _ (sm5 _ _ hpt4)
    clear B4 B5 hb4 hpt4 hsg4
    have nE : decide (nearR r ⟨x1 - x2, x1 + x3, 50, 50 + x4⟩ sx sy (30 + x7) lt ss = nearR r ⟨x1 - x2, x1 + x3, 50, 50 + x4⟩ sx sy (30 + x7) lt ss) = true := decide_eq_true rfl
    refine ⟨_, _, rfl, _, rfl, ?_⟩
    rw [nE]
    dsimp only [Bool.not_true]
    refine (if_neg Bool.false_ne_true).mpr ?_
    refine ⟨_, rfl, _, rfl, _, _, rfl, B6.RU.gra, d, c, r.ra, rfl, B6.S, by omega, by omega, fun mv mx my H7 hmv hmv7 mx0 mx1 my0 my1 m2 S14 kp14 => ?_⟩
    have B7 := B6.keep S14 kp14
    have hb7 := kp14.t B6.S hb6
    have hpt7 := kp14.t B6.S hpt6
    refine nm ?_
    dsimp only [List.set]
    refine ⟨_, rfl, _, _, _, _, rfl, rfl, .inl (.inl hb7), rfl, _, rfl, _, rfl, _, _, _, _, rfl, rfl, .inl (.inl hb7), rfl, _, rfl, _, _, _, _, rfl, rfl, .inl (.inl hb7), rfl, _, _, rfl, rfl, _, _, rfl, rfl, d, c, 50 + x4 - 50 + 1, rfl, B7.S, (by omega), (by omega), fun x15 H8 x15a x15b S15 kp15 => ?_⟩
    have B8 := B7.keep S15 kp15
    refine ⟨_, _, rfl, rfl, _, rfl, _, rfl, _, _, rfl, B8.RU.gba, _, _, rfl, rfl, (wm (by omega) (by omega)), _, _, rfl, rfl, d, c, 2 * r.ba + 1, rfl, B8.S, (by omega), (by omega), fun x16 H9 x16a x16b S16 kp16 => ?_⟩
    have B9 := B8.keep S16 kp16
    have hpt9 := kp16.t B8.S (kp15.t B7.S hpt7)
    have hmv9 := kp16.t B8.S (kp15.t B7.S hmv7)
    refine ⟨_, _, rfl, rfl, _, rfl, _, _, rfl, B9.RU.gba, _, _, rfl, rfl, ?_⟩
    refine nm ?_
    dsimp only [List.set]
    have bdd : BdN 30 dd := BdN.of (by show -(1073741824 : Int) ≤ dd; omega) (by show dd ≤ (1073741824 : Int); omega)
    have q22 : ∀ z : Int, -4000000 ≤ z → z ≤ 4000000 → BdN 80 z := fun z h0 h1 => (BdN.of (n := 22) (by show -(4194304 : Int) ≤ z; omega) (by show z ≤ (4194304 : Int); omega)).mono (by decide)
    have bmx : BdN 81 (mx - x) := by
      have := (q22 (mx - (x - sx)) (by omega) (by omega)).sub (bxx.mono (show 76 ≤ 80 by decide))
      rw [show mx - (x - sx) - sx = mx - x by omega] at this
      exact this
    have bmy : BdN 81 (my - y) := by
      have := (q22 (my - (y - sy)) (by omega) (by omega)).sub (byy.mono (show 76 ≤ 80 by decide))
      rw [show my - (y - sy) - sy = my - y by omega] at this
      exact this
    have bX : BdN 130 (ppx + (mx - x) * dd) := ((bpx.mono (show 70 ≤ 120 by decide)).add ((bmx.mul bdd).mono (show 111 ≤ 120 by decide))).mono (by decide)
    have bY : BdN 130 (ppy + (my - y) * dd) := ((bpy.mono (show 70 ≤ 120 by decide)).add ((bmy.mul bdd).mono (show 111 ≤ 120 by decide))).mono (by decide)
    have bla : BdN 20 r.la := BdN.of (by show -(1048576 : Int) ≤ r.la; omega) (by show r.la ≤ (1048576 : Int); omega)
    have bl2 := bla.mul bla
    refine ⟨_, rfl, _, _, _, _, rfl, rfl, .inl (.inl hpt9), rfl, _, rfl, _, _, _, _, rfl, rfl, .inl (.inl hmv9), rfl, _, rfl, _, _, rfl, rfl, _, rfl, _, _, _, _, rfl, rfl, .inl (.inl hpt9), rfl, _, _, rfl, rfl, wmB bmx bdd (by decide) (by decide), _, _, rfl, rfl, ?_⟩
    refine nm ?_
    dsimp only [List.set]
    refine ⟨_, rfl, _, _, _, _, rfl, rfl, .inl (.inl hpt9), rfl, _, rfl, _, _, _, _, rfl, rfl, .inl (.inl hmv9), rfl, _, rfl, _, _, rfl, rfl, _, rfl, _, _, _, _, rfl, rfl, .inl (.inl hpt9), rfl, _, _, rfl, rfl, wmB bmy bdd (by decide) (by decide), _, _, rfl, rfl, ?_⟩
    refine nm ?_
    dsimp only [List.set]
    refine ⟨_, rfl, _, _, rfl, B9.RU.gla, _, rfl, _, _, rfl, B9.RU.gla, _, _, rfl, rfl, wmB bla bla (by decide) (by decide), _, rfl, _, _, _, _, rfl, rfl, .inl (.inl hpt9), rfl, _, _, rfl, rfl, wmB bl2 bdd (by decide) (by decide), _, rfl, _, _, _, _, rfl, rfl, .inl (.inl hpt9), rfl, _, _, rfl, rfl, wmB (bl2.mul bdd) bdd (by decide) (by decide), ?_⟩
    refine nm ?_
    dsimp only [List.set]
    refine ⟨_, rfl, _, rfl, _, _, rfl, rfl, wmB bX bX (by decide) (by decide), _, rfl, _, rfl, _, _, rfl, rfl, wmB bY bY (by decide) (by decide), _, _, rfl, rfl, _, rfl, _, _, rfl, rfl, _, rfl, ite2 (fun nr => ?_) (fun nr => ?_)⟩
    rotate_left
    · exact ⟨_, _, _, _, _, _, _, _, _, _, _, _, _, _, _, _, _, _, _, _, _, _, rfl, B9⟩
    have nr := of_decide_eq_true nr
    refine ⟨_, rfl, _, rfl, _, _, rfl, rfl, _, rfl, _, rfl, _, _, rfl, B9.RU.gve, _, _, rfl, rfl, _, rfl, ite2 (fun nh => ?_) (fun nh => ?_)⟩
    rotate_left
    · exact ⟨_, _, _, _, _, _, _, _, _, _, _, _, _, _, _, _, _, _, _, _, _, _, rfl, B9⟩
    have nh := of_decide_eq_true nh
    cases nf : nearR r ⟨x1 - x2, x1 + x3, 50, 50 + x4⟩ sx sy (30 + x7) lt ss with
    | false => exact absurd nh (far_of rbd l9.1 dd1 hss on m2 hxy z0 z1 (by dsimp only; omega) (by dsimp only; omega) nf nr)
    | true =>
    refine ⟨_, rfl, _, rfl, iteF ?_⟩
    exact ⟨_, _, _, _, _, _, _, _, _, _, _, _, _, _, _, _, _, _, _, _, _, _, rfl, B9⟩

end
end Sk

set_option Elab.async false
set_option linter.all false
set_option maxRecDepth 100000
set_option maxHeartbeats 4000000
namespace Sk
open PySem PySem.Spec PyProof.Rows L2
/-! the end -/
theorem all_mk {l : PySem.W.OpenLaw} {w : World} {K : PySem.W.Frag} {h : Heap} {mg : Str → Option Value} {fa C f1 f2 f3 f4 f5 f6 f7 f8 f9 f10 f11 f12 f13 f14 f15 f16 f17 f18 f19 f20 f21 f22 f23 f24 f25 f26 f27 f28 f29 f30 f31 f32 f33 f34 f35 f36 f37 f38 f39 f40 f41 f42 f43 f44 f45 tc29 tp29 tc30 tp30 : Addr} (X : K.In h) (G : h.Ns mainGlobals mg) (hfa : mg "law" = some (.ref fa))
    {od1 an1 od2 an2 od3 an3 od4 an4 od5 an5 od6 an6 od7 an7 od8 an8 od9 an9 od10 an10 od11 an11 od12 an12 od13 an13 od14 an14 od15 an15 od16 an16 od17 an17 od18 an18 od19 an19 od20 an20 od21 an21 od22 an22 od23 an23 od24 an24 od25 an25 od26 an26 od27 an27 od28 an28 od29 an29 od30 an30 od31 an31 od32 an32 od33 an33 od34 an34 od35 an35 od36 an36 od37 an37 od38 an38 od39 an39 od40 an40 od41 an41 od42 an42 od43 an43 od44 an44 od45 an45 : Option Addr} {sl1 sl2 sl3 sl4 sl5 sl6 sl7 sl8 sl9 sl10 sl11 sl12 sl13 sl14 sl15 sl16 sl17 sl18 sl19 sl20 sl21 sl22 sl23 sl24 sl25 sl26 sl27 sl28 sl29 sl30 sl31 sl32 sl33 sl34 sl35 sl36 sl37 sl38 sl39 sl40 sl41 sl42 sl43 sl44 sl45 : Array (Option Value)} {oc1 kV1 dc1 pm1 ct1 cd1 oc2 kV2 dc2 pm2 ct2 cd2 oc3 kV3 dc3 pm3 ct3 cd3 oc4 kV4 dc4 pm4 ct4 cd4 oc5 kV5 dc5 pm5 ct5 cd5 oc6 kV6 dc6 pm6 ct6 cd6 oc7 kV7 dc7 pm7 ct7 cd7 oc8 kV8 dc8 pm8 ct8 cd8 oc9 kV9 dc9 pm9 ct9 cd9 oc10 kV10 dc10 pm10 ct10 cd10 oc11 kV11 dc11 pm11 ct11 cd11 oc12 kV12 dc12 pm12 ct12 cd12 oc13 kV13 dc13 pm13 ct13 cd13 oc14 kV14 dc14 pm14 ct14 cd14 oc15 kV15 dc15 pm15 ct15 cd15 oc16 kV16 dc16 pm16 ct16 cd16 oc17 kV17 dc17 pm17 ct17 cd17 oc18 kV18 dc18 pm18 ct18 cd18 oc19 kV19 dc19 pm19 ct19 cd19 oc20 kV20 dc20 pm20 ct20 cd20 oc21 kV21 dc21 pm21 ct21 cd21 oc22 kV22 dc22 pm22 ct22 cd22 oc23 kV23 dc23 pm23 ct23 cd23 oc24 kV24 dc24 pm24 ct24 cd24 oc25 kV25 dc25 pm25 ct25 cd25 oc26 kV26 dc26 pm26 ct26 cd26 oc27 kV27 dc27 pm27 ct27 cd27 oc28 kV28 dc28 pm28 ct28 cd28 oc29 kV29 dc29 pm29 ct29 oc30 kV30 dc30 pm30 ct30 oc31 kV31 dc31 pm31 ct31 cd31 oc32 kV32 dc32 pm32 ct32 cd32 oc33 kV33 dc33 pm33 ct33 cd33 oc34 kV34 dc34 pm34 ct34 cd34 oc35 kV35 dc35 pm35 ct35 cd35 oc36 kV36 dc36 pm36 ct36 cd36 oc37 kV37 dc37 pm37 ct37 cd37 oc38 kV38 dc38 pm38 ct38 cd38 oc39 kV39 dc39 pm39 ct39 cd39 oc40 kV40 dc40 pm40 ct40 cd40 oc41 kV41 dc41 pm41 ct41 cd41 oc42 kV42 dc42 pm42 ct42 cd42 oc43 kV43 dc43 pm43 ct43 cd43 oc44 kV44 dc44 pm44 ct44 cd44 oc45 kV45 dc45 pm45 ct45 cd45 ov29 ov30 : Value} {oo29 oo30 : Option Addr} {os29 os30 : Array (Option Value)} {fv29 fv30 : Array Value}
    (aC : PySem.W.nsIn K mainGlobals "Path" = some (some (.ref C))) (pg : PySem.W.plainGet K C Str.empty = true) (hd : PySem.W.hasDictIn K C = true) (po : PySem.W.plainOver K C = true) (sa : PySem.W.findIn K (.ref C) "__setattr__" = some (some (.builtin "object.__setattr__"))) (mk : PySem.W.makesIn K C = true) (kc : PySem.W.keepIn K (.ref C) = true)
    (nA1 : PySem.W.findIn K (.ref C) "_route" = some none) (nA2 : PySem.W.findIn K (.ref C) "_legs" = some none) (nA3 : PySem.W.findIn K (.ref C) "_starts" = some none) (nA4 : PySem.W.findIn K (.ref C) "_vectors" = some none) (nA5 : PySem.W.findIn K (.ref C) "_begins" = some none)
    (a1 : PySem.W.nsIn K mainGlobals "_law_start" = some (some (.ref f1))) (l1 : K.lookup f1 = some ⟨oc1, od1, .func (PySem.W.fnOf "_law_start" "_law_start" (defArgs s_law_start) (defBody s_law_start) (defScope s_law_start) .none kV1 dc1 pm1 an1 cd1 ct1), sl1⟩) (c1 : PySem.W.codeIn K cd1 "_law_start" = true) (k1 : PySem.W.keepIn K (.ref f1) = true)
    (a2 : PySem.W.nsIn K mainGlobals "_law_draw" = some (some (.ref f2))) (l2 : K.lookup f2 = some ⟨oc2, od2, .func (PySem.W.fnOf "_law_draw" "_law_draw" (defArgs s_law_draw) (defBody s_law_draw) (defScope s_law_draw) .none kV2 dc2 pm2 an2 cd2 ct2), sl2⟩) (c2 : PySem.W.codeIn K cd2 "_law_draw" = true) (k2 : PySem.W.keepIn K (.ref f2) = true)
    (a3 : PySem.W.nsIn K mainGlobals "_law_pick" = some (some (.ref f3))) (l3 : K.lookup f3 = some ⟨oc3, od3, .func (PySem.W.fnOf "_law_pick" "_law_pick" (defArgs s_law_pick) (defBody s_law_pick) (defScope s_law_pick) .none kV3 dc3 pm3 an3 cd3 ct3), sl3⟩) (c3 : PySem.W.codeIn K cd3 "_law_pick" = true) (k3 : PySem.W.keepIn K (.ref f3) = true)
    (a4 : PySem.W.nsIn K mainGlobals "root_down" = some (some (.ref f4))) (l4 : K.lookup f4 = some ⟨oc4, od4, .func (PySem.W.fnOf "root_down" "root_down" (defArgs s_root_down) (defBody s_root_down) (defScope s_root_down) .none kV4 dc4 pm4 an4 cd4 ct4), sl4⟩) (c4 : PySem.W.codeIn K cd4 "root_down" = true) (k4 : PySem.W.keepIn K (.ref f4) = true)
    (a5 : PySem.W.nsIn K mainGlobals "root_up" = some (some (.ref f5))) (l5 : K.lookup f5 = some ⟨oc5, od5, .func (PySem.W.fnOf "root_up" "root_up" (defArgs s_root_up) (defBody s_root_up) (defScope s_root_up) .none kV5 dc5 pm5 an5 cd5 ct5), sl5⟩) (c5 : PySem.W.codeIn K cd5 "root_up" = true) (k5 : PySem.W.keepIn K (.ref f5) = true)
    (a6 : PySem.W.nsIn K mainGlobals "leg_length" = some (some (.ref f6))) (l6 : K.lookup f6 = some ⟨oc6, od6, .func (PySem.W.fnOf "leg_length" "leg_length" (defArgs s_leg_length) (defBody s_leg_length) (defScope s_leg_length) .none kV6 dc6 pm6 an6 cd6 ct6), sl6⟩) (c6 : PySem.W.codeIn K cd6 "leg_length" = true) (k6 : PySem.W.keepIn K (.ref f6) = true)
    (a7 : PySem.W.nsIn K mainGlobals "leg_between" = some (some (.ref f7))) (l7 : K.lookup f7 = some ⟨oc7, od7, .func (PySem.W.fnOf "leg_between" "leg_between" (defArgs s_leg_between) (defBody s_leg_between) (defScope s_leg_between) .none kV7 dc7 pm7 an7 cd7 ct7), sl7⟩) (c7 : PySem.W.codeIn K cd7 "leg_between" = true) (k7 : PySem.W.keepIn K (.ref f7) = true)
    (a8 : PySem.W.nsIn K mainGlobals "_law_is" = some (some (.ref f8))) (l8 : K.lookup f8 = some ⟨oc8, od8, .func (PySem.W.fnOf "_law_is" "_law_is" (defArgs s_law_is) (defBody s_law_is) (defScope s_law_is) .none kV8 dc8 pm8 an8 cd8 ct8), sl8⟩) (c8 : PySem.W.codeIn K cd8 "_law_is" = true) (k8 : PySem.W.keepIn K (.ref f8) = true)
    (a9 : PySem.W.nsIn K mainGlobals "_law_root_up" = some (some (.ref f9))) (l9 : K.lookup f9 = some ⟨oc9, od9, .func (PySem.W.fnOf "_law_root_up" "_law_root_up" (defArgs s_law_root_up) (defBody s_law_root_up) (defScope s_law_root_up) .none kV9 dc9 pm9 an9 cd9 ct9), sl9⟩) (c9 : PySem.W.codeIn K cd9 "_law_root_up" = true) (k9 : PySem.W.keepIn K (.ref f9) = true)
    (a10 : PySem.W.nsIn K mainGlobals "_law_names" = some (some (.ref f10))) (l10 : K.lookup f10 = some ⟨oc10, od10, .func (PySem.W.fnOf "_law_names" "_law_names" (defArgs s_law_names) (defBody s_law_names) (defScope s_law_names) .none kV10 dc10 pm10 an10 cd10 ct10), sl10⟩) (c10 : PySem.W.codeIn K cd10 "_law_names" = true) (k10 : PySem.W.keepIn K (.ref f10) = true)
    (a11 : PySem.W.nsIn K mainGlobals "_law_legs" = some (some (.ref f11))) (l11 : K.lookup f11 = some ⟨oc11, od11, .func (PySem.W.fnOf "_law_legs" "_law_legs" (defArgs s_law_legs) (defBody s_law_legs) (defScope s_law_legs) .none kV11 dc11 pm11 an11 cd11 ct11), sl11⟩) (c11 : PySem.W.codeIn K cd11 "_law_legs" = true) (k11 : PySem.W.keepIn K (.ref f11) = true)
    (a12 : PySem.W.nsIn K mainGlobals "_law_chart" = some (some (.ref f12))) (l12 : K.lookup f12 = some ⟨oc12, od12, .func (PySem.W.fnOf "_law_chart" "_law_chart" (defArgs s_law_chart) (defBody s_law_chart) (defScope s_law_chart) .none kV12 dc12 pm12 an12 cd12 ct12), sl12⟩) (c12 : PySem.W.codeIn K cd12 "_law_chart" = true) (k12 : PySem.W.keepIn K (.ref f12) = true)
    (a13 : PySem.W.nsIn K mainGlobals "_law_lengths" = some (some (.ref f13))) (l13 : K.lookup f13 = some ⟨oc13, od13, .func (PySem.W.fnOf "_law_lengths" "_law_lengths" (defArgs s_law_lengths) (defBody s_law_lengths) (defScope s_law_lengths) .none kV13 dc13 pm13 an13 cd13 ct13), sl13⟩) (c13 : PySem.W.codeIn K cd13 "_law_lengths" = true) (k13 : PySem.W.keepIn K (.ref f13) = true)
    (a14 : PySem.W.nsIn K mainGlobals "_law_walk" = some (some (.ref f14))) (l14 : K.lookup f14 = some ⟨oc14, od14, .func (PySem.W.fnOf "_law_walk" "_law_walk" (defArgs s_law_walk) (defBody s_law_walk) (defScope s_law_walk) .none kV14 dc14 pm14 an14 cd14 ct14), sl14⟩) (c14 : PySem.W.codeIn K cd14 "_law_walk" = true) (k14 : PySem.W.keepIn K (.ref f14) = true)
    (a15 : PySem.W.findIn K (.ref C) "total" = some (some (.ref f15))) (i15 : PySem.W.isFn K (.ref f15) = true) (l15 : K.lookup f15 = some ⟨oc15, od15, .func (PySem.W.fnOf "total" "Path.total" (defArgs s_Path_total) (defBody s_Path_total) (defScope s_Path_total) .none kV15 dc15 pm15 an15 cd15 ct15), sl15⟩) (c15 : PySem.W.codeIn K cd15 "Path.total" = true) (k15 : PySem.W.keepIn K (.ref f15) = true)
    (a16 : PySem.W.findIn K (.ref C) "leg_at" = some (some (.ref f16))) (i16 : PySem.W.isFn K (.ref f16) = true) (l16 : K.lookup f16 = some ⟨oc16, od16, .func (PySem.W.fnOf "leg_at" "Path.leg_at" (defArgs s_Path_leg_at) (defBody s_Path_leg_at) (defScope s_Path_leg_at) .none kV16 dc16 pm16 an16 cd16 ct16), sl16⟩) (c16 : PySem.W.codeIn K cd16 "Path.leg_at" = true) (k16 : PySem.W.keepIn K (.ref f16) = true)
    (a17 : PySem.W.findIn K (.ref C) "_point" = some (some (.ref f17))) (i17 : PySem.W.isFn K (.ref f17) = true) (l17 : K.lookup f17 = some ⟨oc17, od17, .func (PySem.W.fnOf "_point" "Path._point" (defArgs s_Path__point) (defBody s_Path__point) (defScope s_Path__point) .none kV17 dc17 pm17 an17 cd17 ct17), sl17⟩) (c17 : PySem.W.codeIn K cd17 "Path._point" = true) (k17 : PySem.W.keepIn K (.ref f17) = true)
    (a18 : PySem.W.findIn K (.ref C) "_segment" = some (some (.ref f18))) (i18 : PySem.W.isFn K (.ref f18) = true) (l18 : K.lookup f18 = some ⟨oc18, od18, .func (PySem.W.fnOf "_segment" "Path._segment" (defArgs s_Path__segment) (defBody s_Path__segment) (defScope s_Path__segment) .none kV18 dc18 pm18 an18 cd18 ct18), sl18⟩) (c18 : PySem.W.codeIn K cd18 "Path._segment" = true) (k18 : PySem.W.keepIn K (.ref f18) = true)
    (a19 : PySem.W.findIn K (.ref C) "_segments" = some (some (.ref f19))) (i19 : PySem.W.isFn K (.ref f19) = true) (l19 : K.lookup f19 = some ⟨oc19, od19, .func (PySem.W.fnOf "_segments" "Path._segments" (defArgs s_Path__segments) (defBody s_Path__segments) (defScope s_Path__segments) .none kV19 dc19 pm19 an19 cd19 ct19), sl19⟩) (c19 : PySem.W.codeIn K cd19 "Path._segments" = true) (k19 : PySem.W.keepIn K (.ref f19) = true)
    (a20 : PySem.W.findIn K (.ref C) "piece" = some (some (.ref f20))) (i20 : PySem.W.isFn K (.ref f20) = true) (l20 : K.lookup f20 = some ⟨oc20, od20, .func (PySem.W.fnOf "piece" "Path.piece" (defArgs s_Path_piece) (defBody s_Path_piece) (defScope s_Path_piece) .none kV20 dc20 pm20 an20 cd20 ct20), sl20⟩) (c20 : PySem.W.codeIn K cd20 "Path.piece" = true) (k20 : PySem.W.keepIn K (.ref f20) = true)
    (a21 : PySem.W.findIn K (.ref C) "_join" = some (some (.ref f21))) (i21 : PySem.W.isFn K (.ref f21) = true) (l21 : K.lookup f21 = some ⟨oc21, od21, .func (PySem.W.fnOf "_join" "Path._join" (defArgs s_Path__join) (defBody s_Path__join) (defScope s_Path__join) .none kV21 dc21 pm21 an21 cd21 ct21), sl21⟩) (c21 : PySem.W.codeIn K cd21 "Path._join" = true) (k21 : PySem.W.keepIn K (.ref f21) = true)
    (a22 : PySem.W.findIn K (.ref C) "__init__" = some (some (.ref f22))) (i22 : PySem.W.isFn K (.ref f22) = true) (l22 : K.lookup f22 = some ⟨oc22, od22, .func (PySem.W.fnOf "__init__" "Path.__init__" (defArgs s_Path___init__) (defBody s_Path___init__) (defScope s_Path___init__) .none kV22 dc22 pm22 an22 cd22 ct22), sl22⟩) (c22 : PySem.W.codeIn K cd22 "Path.__init__" = true) (k22 : PySem.W.keepIn K (.ref f22) = true)
    (a23 : PySem.W.nsIn K mainGlobals "_enlarged" = some (some (.ref f23))) (l23 : K.lookup f23 = some ⟨oc23, od23, .func (PySem.W.fnOf "_enlarged" "_enlarged" (defArgs s_enlarged) (defBody s_enlarged) (defScope s_enlarged) .none kV23 dc23 pm23 an23 cd23 ct23), sl23⟩) (c23 : PySem.W.codeIn K cd23 "_enlarged" = true) (k23 : PySem.W.keepIn K (.ref f23) = true)
    (a24 : PySem.W.nsIn K mainGlobals "_turn" = some (some (.ref f24))) (l24 : K.lookup f24 = some ⟨oc24, od24, .func (PySem.W.fnOf "_turn" "_turn" (defArgs s_turn) (defBody s_turn) (defScope s_turn) .none kV24 dc24 pm24 an24 cd24 ct24), sl24⟩) (c24 : PySem.W.codeIn K cd24 "_turn" = true) (k24 : PySem.W.keepIn K (.ref f24) = true)
    (a25 : PySem.W.nsIn K mainGlobals "_parted" = some (some (.ref f25))) (l25 : K.lookup f25 = some ⟨oc25, od25, .func (PySem.W.fnOf "_parted" "_parted" (defArgs s_parted) (defBody s_parted) (defScope s_parted) .none kV25 dc25 pm25 an25 cd25 ct25), sl25⟩) (c25 : PySem.W.codeIn K cd25 "_parted" = true) (k25 : PySem.W.keepIn K (.ref f25) = true)
    (a26 : PySem.W.nsIn K mainGlobals "_cross" = some (some (.ref f26))) (l26 : K.lookup f26 = some ⟨oc26, od26, .func (PySem.W.fnOf "_cross" "_cross" (defArgs s_cross) (defBody s_cross) (defScope s_cross) .none kV26 dc26 pm26 an26 cd26 ct26), sl26⟩) (c26 : PySem.W.codeIn K cd26 "_cross" = true) (k26 : PySem.W.keepIn K (.ref f26) = true)
    (a27 : PySem.W.nsIn K mainGlobals "_square" = some (some (.ref f27))) (l27 : K.lookup f27 = some ⟨oc27, od27, .func (PySem.W.fnOf "_square" "_square" (defArgs s_square) (defBody s_square) (defScope s_square) .none kV27 dc27 pm27 an27 cd27 ct27), sl27⟩) (c27 : PySem.W.codeIn K cd27 "_square" = true) (k27 : PySem.W.keepIn K (.ref f27) = true)
    (a28 : PySem.W.nsIn K mainGlobals "_squares" = some (some (.ref f28))) (l28 : K.lookup f28 = some ⟨oc28, od28, .func (PySem.W.fnOf "_squares" "_squares" (defArgs s_squares) (defBody s_squares) (defScope s_squares) .none kV28 dc28 pm28 an28 cd28 ct28), sl28⟩) (c28 : PySem.W.codeIn K cd28 "_squares" = true) (k28 : PySem.W.keepIn K (.ref f28) = true)
    (a29 : PySem.W.nsIn K mainGlobals "closer" = some (some (.ref f29))) (l29 : K.lookup f29 = some ⟨oc29, od29, .func (PySem.W.fnOf "closer" "closer" (defArgs s_closer) (defBody s_closer) (defScope s_closer) .none kV29 dc29 pm29 an29 (.ref tc29) ct29), sl29⟩) (c29 : PySem.W.codeIn K (.ref tc29) "closer" = true) (k29 : PySem.W.keepIn K (.ref f29) = true)
    (lc29 : K.lookup tc29 = some ⟨ov29, oo29, .fields fv29, os29⟩) (hv29 : fv29[11]? = some (.ref tp29)) (np29 : K.lookup tp29 = none) (w29 : PySem.W.CodeHd h tc29 tp29 ∧ h.get? tp29 = some { cls := .none, data := .fields #[] })
    (a30 : PySem.W.nsIn K mainGlobals "lines_closer" = some (some (.ref f30))) (l30 : K.lookup f30 = some ⟨oc30, od30, .func (PySem.W.fnOf "lines_closer" "lines_closer" (defArgs s_lines_closer) (defBody s_lines_closer) (defScope s_lines_closer) .none kV30 dc30 pm30 an30 (.ref tc30) ct30), sl30⟩) (c30 : PySem.W.codeIn K (.ref tc30) "lines_closer" = true) (k30 : PySem.W.keepIn K (.ref f30) = true)
    (lc30 : K.lookup tc30 = some ⟨ov30, oo30, .fields fv30, os30⟩) (hv30 : fv30[11]? = some (.ref tp30)) (np30 : K.lookup tp30 = none) (w30 : PySem.W.CodeHd h tc30 tp30 ∧ h.get? tp30 = some { cls := .none, data := .fields #[] })
    (a31 : PySem.W.nsIn K mainGlobals "_law_cross" = some (some (.ref f31))) (l31 : K.lookup f31 = some ⟨oc31, od31, .func (PySem.W.fnOf "_law_cross" "_law_cross" (defArgs s_law_cross) (defBody s_law_cross) (defScope s_law_cross) .none kV31 dc31 pm31 an31 cd31 ct31), sl31⟩) (c31 : PySem.W.codeIn K cd31 "_law_cross" = true) (k31 : PySem.W.keepIn K (.ref f31) = true)
    (a32 : PySem.W.nsIn K mainGlobals "_law_dot" = some (some (.ref f32))) (l32 : K.lookup f32 = some ⟨oc32, od32, .func (PySem.W.fnOf "_law_dot" "_law_dot" (defArgs s_law_dot) (defBody s_law_dot) (defScope s_law_dot) .none kV32 dc32 pm32 an32 cd32 ct32), sl32⟩) (c32 : PySem.W.codeIn K cd32 "_law_dot" = true) (k32 : PySem.W.keepIn K (.ref f32) = true)
    (a33 : PySem.W.nsIn K mainGlobals "_law_point_closer" = some (some (.ref f33))) (l33 : K.lookup f33 = some ⟨oc33, od33, .func (PySem.W.fnOf "_law_point_closer" "_law_point_closer" (defArgs s_law_point_closer) (defBody s_law_point_closer) (defScope s_law_point_closer) .none kV33 dc33 pm33 an33 cd33 ct33), sl33⟩) (c33 : PySem.W.codeIn K cd33 "_law_point_closer" = true) (k33 : PySem.W.keepIn K (.ref f33) = true)
    (a34 : PySem.W.nsIn K mainGlobals "_law_closer" = some (some (.ref f34))) (l34 : K.lookup f34 = some ⟨oc34, od34, .func (PySem.W.fnOf "_law_closer" "_law_closer" (defArgs s_law_closer) (defBody s_law_closer) (defScope s_law_closer) .none kV34 dc34 pm34 an34 cd34 ct34), sl34⟩) (c34 : PySem.W.codeIn K cd34 "_law_closer" = true) (k34 : PySem.W.keepIn K (.ref f34) = true)
    (a35 : PySem.W.nsIn K mainGlobals "_law_begins" = some (some (.ref f35))) (l35 : K.lookup f35 = some ⟨oc35, od35, .func (PySem.W.fnOf "_law_begins" "_law_begins" (defArgs s_law_begins) (defBody s_law_begins) (defScope s_law_begins) .none kV35 dc35 pm35 an35 cd35 ct35), sl35⟩) (c35 : PySem.W.codeIn K cd35 "_law_begins" = true) (k35 : PySem.W.keepIn K (.ref f35) = true)
    (a36 : PySem.W.nsIn K mainGlobals "_law_leg_at" = some (some (.ref f36))) (l36 : K.lookup f36 = some ⟨oc36, od36, .func (PySem.W.fnOf "_law_leg_at" "_law_leg_at" (defArgs s_law_leg_at) (defBody s_law_leg_at) (defScope s_law_leg_at) .none kV36 dc36 pm36 an36 cd36 ct36), sl36⟩) (c36 : PySem.W.codeIn K cd36 "_law_leg_at" = true) (k36 : PySem.W.keepIn K (.ref f36) = true)
    (a37 : PySem.W.nsIn K mainGlobals "_law_place_on" = some (some (.ref f37))) (l37 : K.lookup f37 = some ⟨oc37, od37, .func (PySem.W.fnOf "_law_place_on" "_law_place_on" (defArgs s_law_place_on) (defBody s_law_place_on) (defScope s_law_place_on) .none kV37 dc37 pm37 an37 cd37 ct37), sl37⟩) (c37 : PySem.W.codeIn K cd37 "_law_place_on" = true) (k37 : PySem.W.keepIn K (.ref f37) = true)
    (a38 : PySem.W.nsIn K mainGlobals "_law_piece" = some (some (.ref f38))) (l38 : K.lookup f38 = some ⟨oc38, od38, .func (PySem.W.fnOf "_law_piece" "_law_piece" (defArgs s_law_piece) (defBody s_law_piece) (defScope s_law_piece) .none kV38 dc38 pm38 an38 cd38 ct38), sl38⟩) (c38 : PySem.W.codeIn K cd38 "_law_piece" = true) (k38 : PySem.W.keepIn K (.ref f38) = true)
    (a39 : PySem.W.nsIn K mainGlobals "_law_small_chart" = some (some (.ref f39))) (l39 : K.lookup f39 = some ⟨oc39, od39, .func (PySem.W.fnOf "_law_small_chart" "_law_small_chart" (defArgs s_law_small_chart) (defBody s_law_small_chart) (defScope s_law_small_chart) .none kV39 dc39 pm39 an39 cd39 ct39), sl39⟩) (c39 : PySem.W.codeIn K cd39 "_law_small_chart" = true) (k39 : PySem.W.keepIn K (.ref f39) = true)
    (a40 : PySem.W.nsIn K mainGlobals "_law_rules" = some (some (.ref f40))) (l40 : K.lookup f40 = some ⟨oc40, od40, .func (PySem.W.fnOf "_law_rules" "_law_rules" (defArgs s_law_rules) (defBody s_law_rules) (defScope s_law_rules) .none kV40 dc40 pm40 an40 cd40 ct40), sl40⟩) (c40 : PySem.W.codeIn K cd40 "_law_rules" = true) (k40 : PySem.W.keepIn K (.ref f40) = true)
    (a41 : PySem.W.nsIn K mainGlobals "reach" = some (some (.ref f41))) (l41 : K.lookup f41 = some ⟨oc41, od41, .func (PySem.W.fnOf "reach" "reach" (defArgs s_reach) (defBody s_reach) (defScope s_reach) .none kV41 dc41 pm41 an41 cd41 ct41), sl41⟩) (c41 : PySem.W.codeIn K cd41 "reach" = true) (k41 : PySem.W.keepIn K (.ref f41) = true)
    (a42 : PySem.W.nsIn K mainGlobals "_law_vector" = some (some (.ref f42))) (l42 : K.lookup f42 = some ⟨oc42, od42, .func (PySem.W.fnOf "_law_vector" "_law_vector" (defArgs s_law_vector) (defBody s_law_vector) (defScope s_law_vector) .none kV42 dc42 pm42 an42 cd42 ct42), sl42⟩) (c42 : PySem.W.codeIn K cd42 "_law_vector" = true) (k42 : PySem.W.keepIn K (.ref f42) = true)
    (a43 : PySem.W.nsIn K mainGlobals "near_reach" = some (some (.ref f43))) (l43 : K.lookup f43 = some ⟨oc43, od43, .func (PySem.W.fnOf "near_reach" "near_reach" (defArgs s_near_reach) (defBody s_near_reach) (defScope s_near_reach) .none kV43 dc43 pm43 an43 cd43 ct43), sl43⟩) (c43 : PySem.W.codeIn K cd43 "near_reach" = true) (k43 : PySem.W.keepIn K (.ref f43) = true)
    (a44 : PySem.W.nsIn K mainGlobals "_law_near" = some (some (.ref f44))) (l44 : K.lookup f44 = some ⟨oc44, od44, .func (PySem.W.fnOf "_law_near" "_law_near" (defArgs s_law_near) (defBody s_law_near) (defScope s_law_near) .none kV44 dc44 pm44 an44 cd44 ct44), sl44⟩) (c44 : PySem.W.codeIn K cd44 "_law_near" = true) (k44 : PySem.W.keepIn K (.ref f44) = true)
    (a45 : PySem.W.nsIn K mainGlobals "law" = some (some (.ref f45))) (l45 : K.lookup f45 = some ⟨oc45, od45, .func (PySem.W.fnOf "law" "law" (defArgs s_law) (defBody s_law) (defScope s_law) .none kV45 dc45 pm45 an45 cd45 ct45), sl45⟩) (c45 : PySem.W.codeIn K cd45 "law" = true) (k45 : PySem.W.keepIn K (.ref f45) = true)
    (z1 : PySem.W.nsIn K mainGlobals "abs" = some none) (z2 : PySem.W.nsIn K mainGlobals "int" = some none) (z3 : PySem.W.nsIn K mainGlobals "len" = some none) (z4 : PySem.W.nsIn K mainGlobals "bool" = some none) (z5 : PySem.W.nsIn K mainGlobals "isinstance" = some none) (z6 : PySem.W.nsIn K mainGlobals "max" = some none) (z7 : PySem.W.nsIn K mainGlobals "min" = some none) (z8 : PySem.W.nsIn K mainGlobals "range" = some none) (z9 : PySem.W.nsIn K mainGlobals "tuple" = some none) (z10 : PySem.W.nsIn K mainGlobals "list" = some none) (z11 : PySem.W.nsIn K mainGlobals "sum" = some none) (z12 : PySem.W.nsIn K mainGlobals "any" = some none) (z13 : PySem.W.nsIn K mainGlobals "all" = some none) (z14 : PySem.W.nsIn K mainGlobals "sorted" = some none) (z15 : PySem.W.nsIn K mainGlobals "dict" = some none) (z16 : PySem.W.nsIn K mainGlobals "enumerate" = some none) (yq : PySem.W.nsIn K mainGlobals "isqrt" = some (some (.builtin "math.isqrt"))) :
    LamX.LawAtS l w K CX0 10 63 "script" mg fa h := by
  have e := hfa.symm.trans (PySem.W.mg_of X G a45)
  cases e
  have F1 := fun_mk (st := s_law_start) l1 c1 k1
  have F2 := fun_mk (st := s_law_draw) l2 c2 k2
  have F3 := fun_mk (st := s_law_pick) l3 c3 k3
  have F4 := fun_mk (st := s_root_down) l4 c4 k4
  have F5 := fun_mk (st := s_root_up) l5 c5 k5
  have F6 := fun_mk (st := s_leg_length) l6 c6 k6
  have F7 := fun_mk (st := s_leg_between) l7 c7 k7
  have F8 := fun_mk (st := s_law_is) l8 c8 k8
  have F9 := fun_mk (st := s_law_root_up) l9 c9 k9
  have F10 := fun_mk (st := s_law_names) l10 c10 k10
  have F11 := fun_mk (st := s_law_legs) l11 c11 k11
  have F12 := fun_mk (st := s_law_chart) l12 c12 k12
  have F13 := fun_mk (st := s_law_lengths) l13 c13 k13
  have F14 := fun_mk (st := s_law_walk) l14 c14 k14
  have F15 := fun_mk (st := s_Path_total) l15 c15 k15
  have F16 := fun_mk (st := s_Path_leg_at) l16 c16 k16
  have F17 := fun_mk (st := s_Path__point) l17 c17 k17
  have F18 := fun_mk (st := s_Path__segment) l18 c18 k18
  have F19 := fun_mk (st := s_Path__segments) l19 c19 k19
  have F20 := fun_mk (st := s_Path_piece) l20 c20 k20
  have F21 := fun_mk (st := s_Path__join) l21 c21 k21
  have F22 := fun_mk (st := s_Path___init__) l22 c22 k22
  have F23 := fun_mk (st := s_enlarged) l23 c23 k23
  have F24 := fun_mk (st := s_turn) l24 c24 k24
  have F25 := fun_mk (st := s_parted) l25 c25 k25
  have F26 := fun_mk (st := s_cross) l26 c26 k26
  have F27 := fun_mk (st := s_square) l27 c27 k27
  have F28 := fun_mk (st := s_squares) l28 c28 k28
  have F29 := fun_mk (st := s_closer) l29 c29 k29
  have F30 := fun_mk (st := s_lines_closer) l30 c30 k30
  have F31 := fun_mk (st := s_law_cross) l31 c31 k31
  have F32 := fun_mk (st := s_law_dot) l32 c32 k32
  have F33 := fun_mk (st := s_law_point_closer) l33 c33 k33
  have F34 := fun_mk (st := s_law_closer) l34 c34 k34
  have F35 := fun_mk (st := s_law_begins) l35 c35 k35
  have F36 := fun_mk (st := s_law_leg_at) l36 c36 k36
  have F37 := fun_mk (st := s_law_place_on) l37 c37 k37
  have F38 := fun_mk (st := s_law_piece) l38 c38 k38
  have F39 := fun_mk (st := s_law_small_chart) l39 c39 k39
  have F40 := fun_mk (st := s_law_rules) l40 c40 k40
  have F41 := fun_mk (st := s_reach) l41 c41 k41
  have F42 := fun_mk (st := s_law_vector) l42 c42 k42
  have F43 := fun_mk (st := s_near_reach) l43 c43 k43
  have F44 := fun_mk (st := s_law_near) l44 c44 k44
  have F45 := fun_mk (st := s_law) l45 c45 k45
  have b1 := F1.binds (ps := ["script"]) fun _ _ _ _ _ _ us hl => match us, hl with | [_], _ => rfl
  have b2 := F2.binds (ps := ["state", "bound"]) fun _ _ _ _ _ _ us hl => match us, hl with | [_, _], _ => rfl
  have b3 := F3.binds (ps := ["state", "things"]) fun _ _ _ _ _ _ us hl => match us, hl with | [_, _], _ => rfl
  have b4 := F4.binds (ps := ["n"]) fun _ _ _ _ _ _ us hl => match us, hl with | [_], _ => rfl
  have b5 := F5.binds (ps := ["n"]) fun _ _ _ _ _ _ us hl => match us, hl with | [_], _ => rfl
  have b6 := F6.binds (ps := ["chart", "start", "end"]) fun _ _ _ _ _ _ us hl => match us, hl with | [_, _, _], _ => rfl
  have b7 := F7.binds (ps := ["chart", "start", "end"]) fun _ _ _ _ _ _ us hl => match us, hl with | [_, _, _], _ => rfl
  have b8 := F8.binds (ps := ["actual", "due"]) fun _ _ _ _ _ _ us hl => match us, hl with | [_, _], _ => rfl
  have b9 := F9.binds (ps := ["n"]) fun _ _ _ _ _ _ us hl => match us, hl with | [_], _ => rfl
  have b10 := F10.binds (ps := ["state", "many"]) fun _ _ _ _ _ _ us hl => match us, hl with | [_, _], _ => rfl
  have b11 := F11.binds (ps := ["state", "names"]) fun _ _ _ _ _ _ us hl => match us, hl with | [_, _], _ => rfl
  have b12 := F12.binds (ps := ["state", "many", "size"]) fun _ _ _ _ _ _ us hl => match us, hl with | [_, _, _], _ => rfl
  have b13 := F13.binds (ps := ["chart"]) fun _ _ _ _ _ _ us hl => match us, hl with | [_], _ => rfl
  have b14 := F14.binds (ps := ["state", "chart", "most"]) fun _ _ _ _ _ _ us hl => match us, hl with | [_, _, _], _ => rfl
  have b15 := F15.binds (ps := ["self"]) fun _ _ _ _ _ _ us hl => match us, hl with | [_], _ => rfl
  have b16 := F16.binds (ps := ["self", "progress"]) fun _ _ _ _ _ _ us hl => match us, hl with | [_, _], _ => rfl
  have b17 := F17.binds (ps := ["self", "index", "progress"]) fun _ _ _ _ _ _ us hl => match us, hl with | [_, _, _], _ => rfl
  have b18 := F18.binds (ps := ["self", "index", "start", "end"]) fun _ _ _ _ _ _ us hl => match us, hl with | [_, _, _, _], _ => rfl
  have b19 := F19.binds (ps := ["self", "first", "last"]) fun _ _ _ _ _ _ us hl => match us, hl with | [_, _, _], _ => rfl
  have b20 := F20.binds (ps := ["self", "low", "high"]) fun _ _ _ _ _ _ us hl => match us, hl with | [_, _, _], _ => rfl
  have b21 := F21.binds (ps := ["self", "chart", "start", "end"]) fun _ _ _ _ _ _ us hl => match us, hl with | [_, _, _, _], _ => rfl
  have b22 := F22.binds (ps := ["self", "chart", "route"]) fun _ _ _ _ _ _ us hl => match us, hl with | [_, _, _], _ => rfl
  have b23 := F23.binds (ps := ["segment", "factor"]) fun _ _ _ _ _ _ us hl => match us, hl with | [_, _], _ => rfl
  have b24 := F24.binds (ps := ["segment", "x", "y"]) fun _ _ _ _ _ _ us hl => match us, hl with | [_, _, _], _ => rfl
  have b25 := F25.binds (ps := ["segment", "ends"]) fun _ _ _ _ _ _ us hl => match us, hl with | [_, _], _ => rfl
  have b26 := F26.binds (ps := ["first", "second"]) fun _ _ _ _ _ _ us hl => match us, hl with | [_, _], _ => rfl
  have b27 := F27.binds (ps := ["x", "y", "segment"]) fun _ _ _ _ _ _ us hl => match us, hl with | [_, _, _], _ => rfl
  have b28 := F28.binds (ps := ["first", "second"]) fun _ _ _ _ _ _ us hl => match us, hl with | [_, _], _ => rfl
  have b29 := F29.binds (ps := ["first", "second", "limit"]) fun _ _ _ _ _ _ us hl => match us, hl with | [_, _, _], _ => rfl
  have b30 := F30.binds (ps := ["first", "second", "limit"]) fun _ _ _ _ _ _ us hl => match us, hl with | [_, _, _], _ => rfl
  have b31 := F31.binds (ps := ["o", "a", "b"]) fun _ _ _ _ _ _ us hl => match us, hl with | [_, _, _], _ => rfl
  have b32 := F32.binds (ps := ["o", "a", "b"]) fun _ _ _ _ _ _ us hl => match us, hl with | [_, _, _], _ => rfl
  have b33 := F33.binds (ps := ["p", "a", "b", "square"]) fun _ _ _ _ _ _ us hl => match us, hl with | [_, _, _, _], _ => rfl
  have b34 := F34.binds (ps := ["first", "second", "limit"]) fun _ _ _ _ _ _ us hl => match us, hl with | [_, _, _], _ => rfl
  have b35 := F35.binds (ps := ["lengths", "route"]) fun _ _ _ _ _ _ us hl => match us, hl with | [_, _], _ => rfl
  have b36 := F36.binds (ps := ["begins", "progress"]) fun _ _ _ _ _ _ us hl => match us, hl with | [_, _], _ => rfl
  have b37 := F37.binds (ps := ["chart", "route", "begins", "k", "progress"]) fun _ _ _ _ _ _ us hl => match us, hl with | [_, _, _, _, _], _ => rfl
  have b38 := F38.binds (ps := ["chart", "route", "begins", "low", "high"]) fun _ _ _ _ _ _ us hl => match us, hl with | [_, _, _, _, _], _ => rfl
  have b39 := F39.binds (ps := ["state"]) fun _ _ _ _ _ _ us hl => match us, hl with | [_], _ => rfl
  have b40 := F40.binds (ps := ["state"]) fun _ _ _ _ _ _ us hl => match us, hl with | [_], _ => rfl
  have b41 := F41.binds (ps := ["rules", "sighting", "tick"]) fun _ _ _ _ _ _ us hl => match us, hl with | [_, _, _], _ => rfl
  have b42 := F42.binds (ps := ["state", "radius"]) fun _ _ _ _ _ _ us hl => match us, hl with | [_, _], _ => rfl
  have b43 := F43.binds (ps := ["rules", "path", "box", "sighting", "tick"]) fun _ _ _ _ _ _ us hl => match us, hl with | [_, _, _, _, _], _ => rfl
  have b44 := F44.binds (ps := ["rules", "piece", "box", "sighting", "later"]) fun _ _ _ _ _ _ us hl => match us, hl with | [_, _, _, _, _], _ => rfl
  have T : TxtA mg := { abs := PySem.W.mg_none_of X G z1, int := PySem.W.mg_none_of X G z2, len := PySem.W.mg_none_of X G z3, bool := PySem.W.mg_none_of X G z4, isinstance := PySem.W.mg_none_of X G z5, max := PySem.W.mg_none_of X G z6, min := PySem.W.mg_none_of X G z7, range := PySem.W.mg_none_of X G z8, tuple := PySem.W.mg_none_of X G z9, list := PySem.W.mg_none_of X G z10, sum := PySem.W.mg_none_of X G z11, any := PySem.W.mg_none_of X G z12, all := PySem.W.mg_none_of X G z13, sorted := PySem.W.mg_none_of X G z14, dict := PySem.W.mg_none_of X G z15, enumerate := PySem.W.mg_none_of X G z16 }
  have Tq : mg "isqrt" = some (.builtin "math.isqrt") := PySem.W.mg_of X G yq
  have Y : PathY K mg C := ⟨⟨pg, hd, po, sa⟩, nA1, nA2, nA3, nA4, nA5⟩
  refine ⟨PySem.W.fnOf "law" "law" (defArgs s_law) (defBody s_law) (defScope s_law) .none kV45 dc45 pm45 an45 cd45 ct45, [(tc29, tp29), (tc30, tp30)], spLaw K [tp29, tp30], fun p hp => ?_, fun p hp => ?_, fun p hp => ?_, fun s v => .of_eq rfl, fun H a ns hl hb hH hS => ⟨a, ns, rfl, hS, hl, fun P hP => ?_, fun _ => rfl⟩, fun base _ _ hTB => ?_⟩
  · simp only [List.mem_cons, List.not_mem_nil, or_false] at hp
    rcases hp with rfl | rfl
    · exact w29.2
    · exact w30.2
  · simp only [List.mem_cons, List.not_mem_nil, or_false] at hp
    rcases hp with rfl | rfl
    · exact np29
    · exact np30
  · simp only [List.mem_cons, List.not_mem_nil, or_false] at hp
    rcases hp with rfl | rfl
    · exact w29.1
    · exact w30.1
  · simp only [List.mem_cons, List.not_mem_nil, or_false] at hP
    rcases hP with hP | hP
    · rw [hP]; exact ⟨#[], hH (tc29, tp29) (by simp), True.intro⟩
    · rw [hP]; exact ⟨#[], hH (tc30, tp30) (by simp), True.intro⟩
  have D1 : Def l.prog w K mg base 1 "_law_start" ["script"] (spStart K) := .mk' F1 b1 (PySem.W.mg_of X G a1) (ok_law_start F1 T.toTxt0)
  have D2 : Def l.prog w K mg base 1 "_law_draw" ["state", "bound"] (spDraw K) := .mk' F2 b2 (PySem.W.mg_of X G a2) (ok_law_draw F2 T.toTxt0)
  have D3 : Def l.prog w K mg base 2 "_law_pick" ["state", "things"] (spPick K) := .mk' F3 b3 (PySem.W.mg_of X G a3) (ok_law_pick F3 T.toTxt0 D2)
  have D4 : Def l.prog w K mg base 1 "root_down" ["n"] (spDownR) := .mk' F4 b4 (PySem.W.mg_of X G a4) (ok_root_down F4 T Tq)
  have D5 : Def l.prog w K mg base 2 "root_up" ["n"] (spUpR) := .mk' F5 b5 (PySem.W.mg_of X G a5) (ok_root_up F5 T D4)
  have D6 : Def l.prog w K mg base 3 "leg_length" ["chart", "start", "end"] (spLegLen) := .mk' F6 b6 (PySem.W.mg_of X G a6) (ok_leg_length F6 T D5)
  have D7 : Def l.prog w K mg base 1 "leg_between" ["chart", "start", "end"] (spLegBt) := .mk' F7 b7 (PySem.W.mg_of X G a7) (ok_leg_between F7 T)
  have D8 : Def l.prog w K mg base 1 "_law_is" ["actual", "due"] (spIs) := .mk' F8 b8 (PySem.W.mg_of X G a8) (ok_law_is F8 T)
  have D9 : Def l.prog w K mg base 1 "_law_root_up" ["n"] (spRootR) := .mk' F9 b9 (PySem.W.mg_of X G a9) (ok_law_root_up F9 T)
  have D10 : Def l.prog w K mg base 3 "_law_names" ["state", "many"] (spNames K) := .mk' F10 b10 (PySem.W.mg_of X G a10) (ok_law_names F10 T D2 D3)
  have D11 : Def l.prog w K mg base 3 "_law_legs" ["state", "names"] (spLegs K) := .mk' F11 b11 (PySem.W.mg_of X G a11) (ok_law_legs F11 T D2 D3)
  have D12 : Def l.prog w K mg base 4 "_law_chart" ["state", "many", "size"] (spChartB K) := .mk' F12 b12 (PySem.W.mg_of X G a12) (ok_law_chart F12 T D2 D10 D11)
  have D13 : Def l.prog w K mg base 2 "_law_lengths" ["chart"] (spLens) := .mk' F13 b13 (PySem.W.mg_of X G a13) (ok_law_lengths F13 T D9)
  have D14 : Def l.prog w K mg base 3 "_law_walk" ["state", "chart", "most"] (spWalk K) := .mk' F14 b14 (PySem.W.mg_of X G a14) (ok_law_walk F14 T D2 D3)
  have D15 : MDef l.prog w K mg base 1 C "total" ["self"] (spTotal C) := ⟨_, _, ok_Path_total F15 T Y, ⟨a15, i15, k15⟩, b15⟩
  have D16 : MDef l.prog w K mg base 1 C "leg_at" ["self", "progress"] (spLegAt C) := ⟨_, _, ok_Path_leg_at F16 T Y, ⟨a16, i16, k16⟩, b16⟩
  have D17 : MDef l.prog w K mg base 1 C "_point" ["self", "index", "progress"] (spPoint C) := ⟨_, _, ok_Path__point F17 T Y, ⟨a17, i17, k17⟩, b17⟩
  have D18 : MDef l.prog w K mg base 2 C "_segment" ["self", "index", "start", "end"] (spSeg C) := ⟨_, _, ok_Path__segment F18 T Y D17, ⟨a18, i18, k18⟩, b18⟩
  have D19 : MDef l.prog w K mg base 3 C "_segments" ["self", "first", "last"] (spSegs C) := ⟨_, _, ok_Path__segments F19 T Y D16 D18, ⟨a19, i19, k19⟩, b19⟩
  have D20 : MDef l.prog w K mg base 4 C "piece" ["self", "low", "high"] (spPiece C) := ⟨_, _, ok_Path_piece F20 T Y D15 D16 D19 D18, ⟨a20, i20, k20⟩, b20⟩
  have D21 : MDef l.prog w K mg base 4 C "_join" ["self", "chart", "start", "end"] (spJoin C) := ⟨_, _, ok_Path__join F21 T Y D6 D7 D15, ⟨a21, i21, k21⟩, b21⟩
  have DC : CDef l.prog w K mg base 5 C "Path" ["self", "chart", "route"] (spPInit C) := ⟨_, _, ok_Path___init__ F22 T Y D21, ⟨mk, a22, i22, kc⟩, PySem.W.mg_of X G aC, b22⟩
  have D23 : Def l.prog w K mg base 1 "_enlarged" ["segment", "factor"] (spEnl) := .mk' F23 b23 (PySem.W.mg_of X G a23) (ok_enlarged F23 T)
  have D24 : Def l.prog w K mg base 1 "_turn" ["segment", "x", "y"] (spTurn) := .mk' F24 b24 (PySem.W.mg_of X G a24) (ok_turn F24 T)
  have D25 : Def l.prog w K mg base 2 "_parted" ["segment", "ends"] (spParted) := .mk' F25 b25 (PySem.W.mg_of X G a25) (ok_parted F25 T D24)
  have D26 : Def l.prog w K mg base 3 "_cross" ["first", "second"] (spCross) := .mk' F26 b26 (PySem.W.mg_of X G a26) (ok_cross F26 T D25)
  have D27 : Def l.prog w K mg base 2 "_square" ["x", "y", "segment"] (spSquare) := .mk' F27 b27 (PySem.W.mg_of X G a27) (ok_square F27 T D24)
  have D28 : Def l.prog w K mg base 4 "_squares" ["first", "second"] (spSquares) := .mk' F28 b28 (PySem.W.mg_of X G a28) (ok_squares F28 T D23 D26 D27)
  have D29 : Def l.prog w K mg base 5 "closer" ["first", "second", "limit"] (spCloser [tp29, tp30]) := .mk' F29 b29 (PySem.W.mg_of X G a29) (ok_closer F29 T rfl (hTB (tc29, tp29) (by simp)) (by simp) D28)
  have D30 : Def l.prog w K mg base 7 "lines_closer" ["first", "second", "limit"] (spLines K [tp29, tp30]) := .mk' F30 b30 (PySem.W.mg_of X G a30) (ok_lines_closer F30 T rfl (hTB (tc30, tp30) (by simp)) (by simp) D29)
  have D31 : Def l.prog w K mg base 1 "_law_cross" ["o", "a", "b"] (spLCross) := .mk' F31 b31 (PySem.W.mg_of X G a31) (ok_law_cross F31 T)
  have D32 : Def l.prog w K mg base 1 "_law_dot" ["o", "a", "b"] (spLDot) := .mk' F32 b32 (PySem.W.mg_of X G a32) (ok_law_dot F32 T)
  have D33 : Def l.prog w K mg base 2 "_law_point_closer" ["p", "a", "b", "square"] (spPtc) := .mk' F33 b33 (PySem.W.mg_of X G a33) (ok_law_point_closer F33 T D32 D31)
  have D34 : Def l.prog w K mg base 3 "_law_closer" ["first", "second", "limit"] (spLClo) := .mk' F34 b34 (PySem.W.mg_of X G a34) (ok_law_closer F34 T D31 D33)
  have D35 : Def l.prog w K mg base 1 "_law_begins" ["lengths", "route"] (spBegins) := .mk' F35 b35 (PySem.W.mg_of X G a35) (ok_law_begins F35 T)
  have D36 : Def l.prog w K mg base 1 "_law_leg_at" ["begins", "progress"] (spLawLegAt) := .mk' F36 b36 (PySem.W.mg_of X G a36) (ok_law_leg_at F36 T)
  have D37 : Def l.prog w K mg base 1 "_law_place_on" ["chart", "route", "begins", "k", "progress"] (spPlaceOn) := .mk' F37 b37 (PySem.W.mg_of X G a37) (ok_law_place_on F37 T)
  have D38 : Def l.prog w K mg base 2 "_law_piece" ["chart", "route", "begins", "low", "high"] (spLawPiece) := .mk' F38 b38 (PySem.W.mg_of X G a38) (ok_law_piece F38 T D37 D36)
  have D39 : Def l.prog w K mg base 5 "_law_small_chart" ["state"] (spSmall K) := .mk' F39 b39 (PySem.W.mg_of X G a39) (ok_law_small_chart F39 T D2 D3 D12)
  have D40 : Def l.prog w K mg base 3 "_law_rules" ["state"] (spRulesF K) := .mk' F40 b40 (PySem.W.mg_of X G a40) (ok_law_rules F40 T D2 D3)
  have D41 : Def l.prog w K mg base 1 "reach" ["rules", "sighting", "tick"] (spReach) := .mk' F41 b41 (PySem.W.mg_of X G a41) (ok_reach F41 T)
  have D42 : Def l.prog w K mg base 2 "_law_vector" ["state", "radius"] (spVectorR K) := .mk' F42 b42 (PySem.W.mg_of X G a42) (ok_law_vector F42 T D2)
  have D43 : Def l.prog w K mg base 8 "near_reach" ["rules", "path", "box", "sighting", "tick"] (spNearReach C [tp29, tp30]) := .mk' F43 b43 (PySem.W.mg_of X G a43) (ok_near_reach F43 T Y D41 D30 D20)
  have D44 : Def l.prog w K mg base 4 "_law_near" ["rules", "piece", "box", "sighting", "later"] (spNearLaw) := .mk' F44 b44 (PySem.W.mg_of X G a44) (ok_law_near F44 T D34)
  exact ok_law F45 T Y D1 D2 D8 D39 D40 D14 D13 D35 D36 D37 D38 D42 D44 DC D41 D43
end Sk
open PySem PySem.W PyProof.Rows
set_option maxRecDepth 100000 in
set_option maxHeartbeats 0 in
theorem PySem.Challenge.cw_skyapart_k38_reach_of_foreign_aircraft_holds : PySem.Challenge.rw_skyapart_k38_reach_of_foreign_aircraft.Holds := by
  w_on; o_law; k_head; (case hw => w_witness2)
  k_fill
  refine Sk.walk_tabs (l := PySem.Challenge.rw_skyapart_k38_reach_of_foreign_aircraft) (n := 63) (k := 10) (x := "script") (CX := fun _ => L2.CX0) rfl (by decide) rfl ⟨rfl, by decide, by decide⟩ (fun w h Y => PySem.W.kIn_of Y) ?F (fun _ _ _ _ _ z => z)
  case F =>
    intro w mg fa h KX G hmg hT
    refine' Sk.all_mk KX G hmg ?aC ?pg ?hd ?po ?sa ?mk ?kc ?nA1 ?nA2 ?nA3 ?nA4 ?nA5 ?a1 ?l1 ?c1 ?k1 ?a2 ?l2 ?c2 ?k2 ?a3 ?l3 ?c3 ?k3 ?a4 ?l4 ?c4 ?k4 ?a5 ?l5 ?c5 ?k5 ?a6 ?l6 ?c6 ?k6 ?a7 ?l7 ?c7 ?k7 ?a8 ?l8 ?c8 ?k8 ?a9 ?l9 ?c9 ?k9 ?a10 ?l10 ?c10 ?k10 ?a11 ?l11 ?c11 ?k11 ?a12 ?l12 ?c12 ?k12 ?a13 ?l13 ?c13 ?k13 ?a14 ?l14 ?c14 ?k14 ?a15 ?i15 ?l15 ?c15 ?k15 ?a16 ?i16 ?l16 ?c16 ?k16 ?a17 ?i17 ?l17 ?c17 ?k17 ?a18 ?i18 ?l18 ?c18 ?k18 ?a19 ?i19 ?l19 ?c19 ?k19 ?a20 ?i20 ?l20 ?c20 ?k20 ?a21 ?i21 ?l21 ?c21 ?k21 ?a22 ?i22 ?l22 ?c22 ?k22 ?a23 ?l23 ?c23 ?k23 ?a24 ?l24 ?c24 ?k24 ?a25 ?l25 ?c25 ?k25 ?a26 ?l26 ?c26 ?k26 ?a27 ?l27 ?c27 ?k27 ?a28 ?l28 ?c28 ?k28 ?a29 ?l29 ?c29 ?k29 ?lc29 ?hv29 ?np29 ?w29 ?a30 ?l30 ?c30 ?k30 ?lc30 ?hv30 ?np30 ?w30 ?a31 ?l31 ?c31 ?k31 ?a32 ?l32 ?c32 ?k32 ?a33 ?l33 ?c33 ?k33 ?a34 ?l34 ?c34 ?k34 ?a35 ?l35 ?c35 ?k35 ?a36 ?l36 ?c36 ?k36 ?a37 ?l37 ?c37 ?k37 ?a38 ?l38 ?c38 ?k38 ?a39 ?l39 ?c39 ?k39 ?a40 ?l40 ?c40 ?k40 ?a41 ?l41 ?c41 ?k41 ?a42 ?l42 ?c42 ?k42 ?a43 ?l43 ?c43 ?k43 ?a44 ?l44 ?c44 ?k44 ?a45 ?l45 ?c45 ?k45 ?z1 ?z2 ?z3 ?z4 ?z5 ?z6 ?z7 ?z8 ?z9 ?z10 ?z11 ?z12 ?z13 ?z14 ?z15 ?z16 ?yq
    (case aC => k_is); (case pg => k_is); (case hd => k_is); (case po => k_is)
    (case sa => k_is); (case mk => k_is); (case kc => k_is); (case nA1 => k_is)
    (case nA2 => k_is); (case nA3 => k_is); (case nA4 => k_is); (case nA5 => k_is)
    (case a1 => k_is); (case l1 => k_is); (case c1 => k_is); (case k1 => k_is)
    (case a2 => k_is); (case l2 => k_is); (case c2 => k_is); (case k2 => k_is)
    (case a3 => k_is); (case l3 => k_is); (case c3 => k_is); (case k3 => k_is)
    (case a4 => k_is); (case l4 => k_is); (case c4 => k_is); (case k4 => k_is)
    (case a5 => k_is); (case l5 => k_is); (case c5 => k_is); (case k5 => k_is)
    (case a6 => k_is); (case l6 => k_is); (case c6 => k_is); (case k6 => k_is)
    (case a7 => k_is); (case l7 => k_is); (case c7 => k_is); (case k7 => k_is)
    (case a8 => k_is); (case l8 => k_is); (case c8 => k_is); (case k8 => k_is)
    (case a9 => k_is); (case l9 => k_is); (case c9 => k_is); (case k9 => k_is)
    (case a10 => k_is); (case l10 => k_is); (case c10 => k_is); (case k10 => k_is)
    (case a11 => k_is); (case l11 => k_is); (case c11 => k_is); (case k11 => k_is)
    (case a12 => k_is); (case l12 => k_is); (case c12 => k_is); (case k12 => k_is)
    (case a13 => k_is); (case l13 => k_is); (case c13 => k_is); (case k13 => k_is)
    (case a14 => k_is); (case l14 => k_is); (case c14 => k_is); (case k14 => k_is)
    (case a15 => k_is); (case i15 => k_is); (case l15 => k_is); (case c15 => k_is)
    (case k15 => k_is); (case a16 => k_is); (case i16 => k_is); (case l16 => k_is)
    (case c16 => k_is); (case k16 => k_is); (case a17 => k_is); (case i17 => k_is)
    (case l17 => k_is); (case c17 => k_is); (case k17 => k_is); (case a18 => k_is)
    (case i18 => k_is); (case l18 => k_is); (case c18 => k_is); (case k18 => k_is)
    (case a19 => k_is); (case i19 => k_is); (case l19 => k_is); (case c19 => k_is)
    (case k19 => k_is); (case a20 => k_is); (case i20 => k_is); (case l20 => k_is)
    (case c20 => k_is); (case k20 => k_is); (case a21 => k_is); (case i21 => k_is)
    (case l21 => k_is); (case c21 => k_is); (case k21 => k_is); (case a22 => k_is)
    (case i22 => k_is); (case l22 => k_is); (case c22 => k_is); (case k22 => k_is)
    (case a23 => k_is); (case l23 => k_is); (case c23 => k_is); (case k23 => k_is)
    (case a24 => k_is); (case l24 => k_is); (case c24 => k_is); (case k24 => k_is)
    (case a25 => k_is); (case l25 => k_is); (case c25 => k_is); (case k25 => k_is)
    (case a26 => k_is); (case l26 => k_is); (case c26 => k_is); (case k26 => k_is)
    (case a27 => k_is); (case l27 => k_is); (case c27 => k_is); (case k27 => k_is)
    (case a28 => k_is); (case l28 => k_is); (case c28 => k_is); (case k28 => k_is)
    (case a29 => k_is); (case l29 => k_is); (case c29 => k_is); (case k29 => k_is)
    (case lc29 => k_is); (case hv29 => exact rfl); (case np29 => kernel_rfl); (case w29 => exact hT "closer" _ _ _ rfl (by kernel_rfl))
    (case a30 => k_is); (case l30 => k_is); (case c30 => k_is); (case k30 => k_is)
    (case lc30 => k_is); (case hv30 => exact rfl); (case np30 => kernel_rfl); (case w30 => exact hT "lines_closer" _ _ _ rfl (by kernel_rfl))
    (case a31 => k_is); (case l31 => k_is); (case c31 => k_is); (case k31 => k_is)
    (case a32 => k_is); (case l32 => k_is); (case c32 => k_is); (case k32 => k_is)
    (case a33 => k_is); (case l33 => k_is); (case c33 => k_is); (case k33 => k_is)
    (case a34 => k_is); (case l34 => k_is); (case c34 => k_is); (case k34 => k_is)
    (case a35 => k_is); (case l35 => k_is); (case c35 => k_is); (case k35 => k_is)
    (case a36 => k_is); (case l36 => k_is); (case c36 => k_is); (case k36 => k_is)
    (case a37 => k_is); (case l37 => k_is); (case c37 => k_is); (case k37 => k_is)
    (case a38 => k_is); (case l38 => k_is); (case c38 => k_is); (case k38 => k_is)
    (case a39 => k_is); (case l39 => k_is); (case c39 => k_is); (case k39 => k_is)
    (case a40 => k_is); (case l40 => k_is); (case c40 => k_is); (case k40 => k_is)
    (case a41 => k_is); (case l41 => k_is); (case c41 => k_is); (case k41 => k_is)
    (case a42 => k_is); (case l42 => k_is); (case c42 => k_is); (case k42 => k_is)
    (case a43 => k_is); (case l43 => k_is); (case c43 => k_is); (case k43 => k_is)
    (case a44 => k_is); (case l44 => k_is); (case c44 => k_is); (case k44 => k_is)
    (case a45 => k_is); (case l45 => k_is); (case c45 => k_is); (case k45 => k_is)
    (case z1 => k_is); (case z2 => k_is); (case z3 => k_is); (case z4 => k_is)
    (case z5 => k_is); (case z6 => k_is); (case z7 => k_is); (case z8 => k_is)
    (case z9 => k_is); (case z10 => k_is); (case z11 => k_is); (case z12 => k_is)
    (case z13 => k_is); (case z14 => k_is); (case z15 => k_is); (case z16 => k_is)
    (case yq => k_is)
