import PyProof.Rows.All
import Wide.All
import OpenK.AllK
import Wide.FinOn
import HandS.Base
import HandS.Call
import HandS.List
import HandS.Comp
import HandS.Ends
import HandS.Dict
import HandS.Iter
import HandS.Words
import HandS.WordsList
import HandS.Wide
import HandS.Gcd
import HandS.IsInst
import Flt.RightSqrt
import HandS.GenList
import HandS.AnyAll
import HandS.EndTab
import HandS.Zip
import HandS.Nested
import HandS.Flow
import HandS.EndOwn
import KE.KNest
import HandS.Star
import PyProof.ConsumeS
import HandS.More
import HandS.WideMore
import HandS.Text
import PySem.Challenge.RW_skyapart_k48_whole_radar_desk
set_option Elab.async false
set_option linter.all false
set_option maxRecDepth 100000
set_option maxHeartbeats 4000000
namespace Sk
open PySem PySem.Spec PyProof.Rows L2

/-! a def of the text, ready to be called by its name -/
structure Def (P : Program) (w : World) (K : PySem.W.Frag) (mg : Str → Option Value) (base : Heap) (k : Nat) (x : Str) (ps : List Str) (sp : Sp) : Prop where
  ex : ∃ (f : Addr) (fd : FuncData), FnOk P w K mg base CX0 k f fd ps sp ∧ mg x = some (.ref f) ∧ PySem.W.keepIn K (.ref f) = true ∧ Binds K fd ps []
theorem Def.mk' {P : Program} {w : World} {K : PySem.W.Frag} {mg : Str → Option Value} {base : Heap} {k : Nat} {x qual : Str} {st : Stmt} {f : Addr} {fd : FuncData} {ps : List Str} {sp : Sp}
    (F : Fun K x qual st f fd) (b : Binds K fd ps []) (m : mg x = some (.ref f)) (G : FnOk P w K mg base CX0 k f fd ps sp) : Def P w K mg base k x ps sp := ⟨f, fd, G, m, F.kp, b⟩
theorem pe_def {X : Cx} {k : Nat} {x : Str} {ps : List Str} {sp : Sp} {p pos : Pos} {e : Expr} {es : List Expr} {t : TA} (D : Def X.prog X.w X.K X.mg X.base k x ps sp) (hr : Room k X.A) (hg : Gl X x)
    (ha : PA X (e :: es) t) (hdb : (x == ("__debug__" : Str)) = false := by decide) (he : starEach (e :: es) X.env = (false, eval e X.env) :: starEach es X.env := by rfl) (hpl : (backTo pos (starEach es X.env)).any (·.1) = false := by rfl) :
    PE X (.Call (.Name x p) (e :: es) [] pos) (tCall sp [] E0 t) := by
  obtain ⟨f, fd, F, m, kp, b⟩ := D.ex
  exact pe_call F hr hg m kp b .nil pass0 ha hdb he hpl
/-- a call's reading: the values of the arguments as they are -/
theorem sp_nil {sp : Sp} {vs : List V} {H : Hp} {Q : VK} {E : XK} (h : sp vs H Q E) : sp (vs ++ []) H Q E := by
  rw [List.append_nil]
  exact h

/-! heaps -/
/-- all but what stands at d is as it was -/
def Keep (d : Addr) (H H' : Hp) : Prop := ∀ c o, H c = some o → c ≠ d → H' c = some o
theorem Keep.refl (d : Addr) (H : Hp) : Keep d H H := fun _ _ h _ => h
theorem Keep.trans {d : Addr} {H H1 H2 : Hp} (a : Keep d H H1) (b : Keep d H1 H2) : Keep d H H2 := fun c o h n => b c o (a c o h n) n
theorem Keep.of {d : Addr} {H H1 : Hp} (a : Same H H1) : Keep d H H1 := fun c o h _ => a c o h
theorem Keep.upd (d : Addr) (H : Hp) (o : HO) : Keep d H (upd H d o) := fun c u h n => by
  rw [upd_ne n]
  exact h
theorem same_new {H : Hp} {p : Addr} {o : HO} (h : H p = none) : Same H (upd H p o) := fun b x e => by
  rw [upd_ne (ne_of_none e h)]
  exact e
theorem lst_ne {H : Hp} {a d : Addr} {xs : List V} {o : HO} (h : H d = some (.dK o')) (ha : H a = some (.lst xs)) : a ≠ d := ne_of ha h (by intro z; cases z)
/-- a list to be read stays, if it isn't the dict at d -/
theorem Keep.seq {K : PySem.W.Frag} {d : Addr} {kvs : List (Key × V)} {H H' : Hp} {a : Addr} {xs : List V} (k : Keep d H H') (hd : H d = some (.dK kvs)) (h : SqL K H a xs) : SqL K H' a xs := by
  rcases h with (h | ⟨o, h⟩) | h
  · exact .inl (.inl (k _ _ h (ne_of h hd (by intro z; cases z))))
  · exact .inl (.inr ⟨o, k _ _ h (ne_of h hd (by intro z; cases z))⟩)
  · exact .inr h
theorem Keep.tup {K : PySem.W.Frag} {d : Addr} {kvs : List (Key × V)} {H H' : Hp} {a : Addr} {xs : List V} (k : Keep d H H') (hd : H d = some (.dK kvs)) (h : SqT K H a xs) : SqT K H' a xs := by
  rcases h with (h | ⟨o, h⟩) | h
  · exact .inl (.inl (k _ _ h (ne_of h hd (by intro z; cases z))))
  · exact .inl (.inr ⟨o, k _ _ h (ne_of h hd (by intro z; cases z))⟩)
  · exact .inr h
theorem Keep.lst {d : Addr} {kvs : List (Key × V)} {H H' : Hp} {a : Addr} {xs : List V} (k : Keep d H H') (hd : H d = some (.dK kvs)) (h : H a = some (.lst xs)) : H' a = some (.lst xs) := k _ _ h (ne_of h hd (by intro z; cases z))
theorem Keep.tp {d : Addr} {kvs : List (Key × V)} {H H' : Hp} {a : Addr} {xs : List V} (k : Keep d H H') (hd : H d = some (.dK kvs)) (h : H a = some (.tup xs)) : H' a = some (.tup xs) := k _ _ h (ne_of h hd (by intro z; cases z))
theorem same_tup {K : PySem.W.Frag} {H H' : Hp} {a : Addr} {xs : List V} (e : Same H H') (h : SqT K H a xs) : SqT K H' a xs := by
  rcases h with (h | ⟨o, h⟩) | h
  · exact .inl (.inl (e _ _ h))
  · exact .inl (.inr ⟨o, e _ _ h⟩)
  · exact .inr h

/-! the state of the draws -/
theorem k01 : ¬ ("cells" : Str) = "at" := by decide +kernel
theorem k02 : ¬ ("cells" : Str) = "left" := by decide +kernel
theorem k03 : ¬ ("cells" : Str) = "mix" := by decide +kernel
theorem k10 : ¬ ("at" : Str) = "cells" := by decide +kernel
theorem k12 : ¬ ("at" : Str) = "left" := by decide +kernel
theorem k13 : ¬ ("at" : Str) = "mix" := by decide +kernel
theorem k20 : ¬ ("left" : Str) = "cells" := by decide +kernel
theorem k21 : ¬ ("left" : Str) = "at" := by decide +kernel
theorem k23 : ¬ ("left" : Str) = "mix" := by decide +kernel
theorem k30 : ¬ ("mix" : Str) = "cells" := by decide +kernel
theorem k31 : ¬ ("mix" : Str) = "at" := by decide +kernel
theorem k32 : ¬ ("mix" : Str) = "left" := by decide +kernel
theorem kr {a b : Str} (h : ¬ a = b) : ¬ (Sum.inr a : Key) = Sum.inr b := fun z => h (Sum.inr.inj z)
def stK (c : Addr) (i l m : Int) : List (Key × V) := [(.inr "cells", .ref c), (.inr "at", .int i), (.inr "left", .int l), (.inr "mix", .int m)]
theorem g_cells (c : Addr) (i l m : Int) : valV (stK c i l m) (.inr "cells") = some (.ref c) := valV_pos rfl
theorem g_at (c : Addr) (i l m : Int) : valV (stK c i l m) (.inr "at") = some (.int i) := by
  unfold stK
  rw [valV_neg (kr k01), valV_pos rfl]
theorem g_left (c : Addr) (i l m : Int) : valV (stK c i l m) (.inr "left") = some (.int l) := by
  unfold stK
  rw [valV_neg (kr k02), valV_neg (kr k12), valV_pos rfl]
theorem g_mix (c : Addr) (i l m : Int) : valV (stK c i l m) (.inr "mix") = some (.int m) := by
  unfold stK
  rw [valV_neg (kr k03), valV_neg (kr k13), valV_neg (kr k23), valV_pos rfl]
theorem put_any {kvs : List (Key × V)} {k : Key} {v y : V} (h : valV kvs k = some v) : putK kvs k y = kvs.map (fun kv => if kv.1 = k then (kv.1, y) else kv) := by
  unfold putK
  rw [valV_any, h]
  exact if_pos rfl
theorem p_at (c : Addr) (i l m j : Int) : putK (stK c i l m) (.inr "at") (.int j) = stK c j l m := by
  rw [put_any (g_at c i l m)]
  unfold stK
  simp only [List.map_cons, List.map_nil, if_neg (kr k01), if_neg (kr k21), if_neg (kr k31), if_true]
theorem p_left (c : Addr) (i l m j : Int) : putK (stK c i l m) (.inr "left") (.int j) = stK c i j m := by
  rw [put_any (g_left c i l m)]
  unfold stK
  simp only [List.map_cons, List.map_nil, if_neg (kr k02), if_neg (kr k12), if_neg (kr k32), if_true]
theorem p_mix (c : Addr) (i l m j : Int) : putK (stK c i l m) (.inr "mix") (.int j) = stK c i l j := by
  rw [put_any (g_mix c i l m)]
  unfold stK
  simp only [List.map_cons, List.map_nil, if_neg (kr k03), if_neg (kr k13), if_neg (kr k23), if_true]
theorem merge_st (c : Addr) (i l m : Int) : mergeK [] (stK c i l m) = stK c i l m := by
  have e0 : putK ([] : List (Key × V)) (.inr "cells" : Key) (.ref c) = [((.inr "cells" : Key), V.ref c)] := rfl
  have e1 : putK [((.inr "cells" : Key), V.ref c)] (.inr "at" : Key) (.int i) = [((.inr "cells" : Key), V.ref c), (.inr "at", .int i)] := by
    rw [putK_new _ (by rw [valV_neg (kr k01)]; rfl)]
    all_goals rfl
  have e2 : putK [((.inr "cells" : Key), V.ref c), (.inr "at", .int i)] (.inr "left") (.int l) = [((.inr "cells" : Key), V.ref c), (.inr "at", .int i), (.inr "left", .int l)] := by
    rw [putK_new _ (by rw [valV_neg (kr k02), valV_neg (kr k12)]; rfl)]
    all_goals rfl
  have e3 : putK [((.inr "cells" : Key), V.ref c), (.inr "at", .int i), (.inr "left", .int l)] (.inr "mix") (.int m) = stK c i l m := by
    rw [putK_new _ (by rw [valV_neg (kr k03), valV_neg (kr k13), valV_neg (kr k23)]; rfl)]
    all_goals rfl
  show putK (putK (putK (putK ([] : List (Key × V)) (.inr "cells" : Key) (.ref c)) (.inr "at" : Key) (.int i)) (.inr "left" : Key) (.int l)) (.inr "mix" : Key) (.int m) = stK c i l m
  rw [e0, e1, e2, e3]
/-- the dict of the draws stands at d -/
structure StAt (K : PySem.W.Frag) (H : Hp) (d : Addr) (c : Addr) (ns : List Int) (i l m : Int) : Prop where
  dc : H d = some (.dK (stK c i l m))
  cs : H c = some (.lst (ns.map V.int))
  nn : ∀ x ∈ ns, 0 ≤ x
  i0 : 0 ≤ i
  l0 : 0 ≤ l
  m0 : 0 ≤ m
  m1 : m < 2147483648
def St1 (K : PySem.W.Frag) (H : Hp) (d c : Addr) : Prop := ∃ ns i l m, StAt K H d c ns i l m
theorem St1.dk {K : PySem.W.Frag} {H : Hp} {d c : Addr} (S : St1 K H d c) : ∃ kvs, H d = some (.dK kvs) := let ⟨_, _, _, _, S⟩ := S; ⟨_, S.dc⟩
theorem St1.cl {K : PySem.W.Frag} {H : Hp} {d c : Addr} (S : St1 K H d c) : ∃ xs, H c = some (.lst xs) := let ⟨_, _, _, _, S⟩ := S; ⟨_, S.cs⟩
/-- the state stands on where both its objects stand -/
theorem St1.of {K : PySem.W.Frag} {H H' : Hp} {d c : Addr} (S : St1 K H d c) (e1 : H' d = H d) (e2 : H' c = H c) : St1 K H' d c := by
  obtain ⟨ns, i, l, m, S⟩ := S
  exact ⟨ns, i, l, m, e1.trans S.dc, e2.trans S.cs, S.nn, S.i0, S.l0, S.m0, S.m1⟩
theorem St1.same {K : PySem.W.Frag} {H H' : Hp} {d c : Addr} (S : St1 K H d c) (e : Same H H') : St1 K H' d c := by
  obtain ⟨ns, i, l, m, S⟩ := S
  exact ⟨ns, i, l, m, e _ _ S.dc, e _ _ S.cs, S.nn, S.i0, S.l0, S.m0, S.m1⟩
theorem St1.new {K : PySem.W.Frag} {H : Hp} {d c a : Addr} {o : HO} (S : St1 K H d c) (h : H a = none) : St1 K (upd H a o) d c := S.same (same_new h)
theorem St1.nd {K : PySem.W.Frag} {H : Hp} {d c a : Addr} (S : St1 K H d c) (h : H a = none) : a ≠ d := let ⟨_, e⟩ := S.dk; (ne_of_none e h).symm
theorem St1.nc {K : PySem.W.Frag} {H : Hp} {d c a : Addr} (S : St1 K H d c) (h : H a = none) : a ≠ c := let ⟨_, e⟩ := S.cl; (ne_of_none e h).symm
theorem St1.put {K : PySem.W.Frag} {H : Hp} {d c a : Addr} {o : HO} (S : St1 K H d c) (h1 : a ≠ d) (h2 : a ≠ c) : St1 K (upd H a o) d c := S.of (upd_ne h1.symm) (upd_ne h2.symm)
theorem StAt.put {K : PySem.W.Frag} {H : Hp} {d c : Addr} {ns : List Int} {i l m i' l' m' : Int} (S : StAt K H d c ns i l m) (h0 : 0 ≤ i') (h1 : 0 ≤ l') (h2 : 0 ≤ m') (h3 : m' < 2147483648) :
    StAt K (upd H d (.dK (stK c i' l' m'))) d c ns i' l' m' := ⟨upd_same, (Keep.upd d H _).lst S.dc S.cs, S.nn, h0, h1, h2, h3⟩
section
variable {H : Hp} {d c : Addr} {i l m j : Int}
theorem dg_cells (h : H d = some (.dK (stK c i l m))) : DGet H d (.str "cells") (some (.ref c)) := g_cells c i l m ▸ DGet.k (k := .inr "cells") h
theorem dg_at (h : H d = some (.dK (stK c i l m))) : DGet H d (.str "at") (some (.int i)) := g_at c i l m ▸ DGet.k (k := .inr "at") h
theorem dg_left (h : H d = some (.dK (stK c i l m))) : DGet H d (.str "left") (some (.int l)) := g_left c i l m ▸ DGet.k (k := .inr "left") h
theorem dg_mix (h : H d = some (.dK (stK c i l m))) : DGet H d (.str "mix") (some (.int m)) := g_mix c i l m ▸ DGet.k (k := .inr "mix") h
theorem st_few : (stK c i l m).length < sizeLine := Nat.lt_of_le_of_lt (show 4 ≤ 1000 by decide) (by decide)
theorem dp_at (h : H d = some (.dK (stK c i l m))) : DPut H d (.str "at") (.int j) (upd H d (.dK (stK c j l m))) := p_at c i l m j ▸ DPut.k (k := .inr "at") h st_few
theorem dp_left (h : H d = some (.dK (stK c i l m))) : DPut H d (.str "left") (.int j) (upd H d (.dK (stK c i j m))) := p_left c i l m j ▸ DPut.k (k := .inr "left") h st_few
theorem dp_mix (h : H d = some (.dK (stK c i l m))) : DPut H d (.str "mix") (.int j) (upd H d (.dK (stK c i l j))) := p_mix c i l m j ▸ DPut.k (k := .inr "mix") h st_few
end
/-! what follows is shown once, for both ways of an if ahead of it -/
theorem cut {t u : TS} {D : Ends} {σ : L2.St} {H : Hp} (I : L2.St → Hp → Prop) (h2 : ∀ σ' H', I σ' H' → u D σ' H') (h1 : (∀ σ' H', I σ' H' → u D σ' H') → t { D with nx := u D } σ H) : tSeq t u D σ H := h1 h2

/-! the promises of the draws -/
/-- the bound's bound -/
def big : Int := 10000000000000000000000000000000000000000000000000000000000000000000000
def spStart (K : PySem.W.Frag) : Sp := fun vs H Q _ => ∃ (a : Addr) (ns : List Int), vs = [.ref a] ∧ SqL K H a (ns.map V.int) ∧ ns.length ≤ 63 ∧ ∀ d c H', H d = none → H c = none → St1 K H' d c → Same H H' → Q (.ref d) H'
def spDraw (K : PySem.W.Frag) : Sp := fun vs H Q _ => ∃ (d c : Addr) (b : Int), vs = [.ref d, .int b] ∧ St1 K H d c ∧ 0 < b ∧ b ≤ 10000000000000000000000000000000000000000000000000000000000000000000000 ∧
  ∀ n H', 0 ≤ n → n < b → St1 K H' d c → Keep d H H' → Q (.int n) H'
def spPick (K : PySem.W.Frag) : Sp := fun vs H Q _ => ∃ (d c l : Addr) (xs : List V), vs = [.ref d, .ref l] ∧ St1 K H d c ∧ SqL K H l xs ∧ xs ≠ [] ∧ xs.length ≤ 1000 ∧
  ∀ v H', v ∈ xs → St1 K H' d c → Keep d H H' → Q v H'
/-- a value's kind -/
def isInt : V → Bool | .int _ => true | _ => false
def isBl : V → Bool | .bl _ => true | _ => false
def spIsNum : Sp := fun vs H Q _ => ∃ n : Int, vs = [.int n] ∧ Q (.bl true) H
theorem log_of {b : Int} (h0 : 0 < b) (h1 : b ≤ 10000000000000000000000000000000000000000000000000000000000000000000000) : CDivW l b := wide_div (b := 300) h0 (by
  have : (b.natAbs : Int) = b := by omega
  have e : (2 : Nat) ^ 300 = 2037035976334486086268445688409378161051468393665936250636140449354381299763336706183397376 := by decide +kernel
  rw [e]
  omega) (by decide) (by decide)
/-! tests whose answer is known -/
theorem ifN {c A B : Prop} [Decidable c] (h : ¬ c) (q : B) : if decide c = true then A else B := by
  rw [decide_eq_false h]
  exact iteF q
theorem ifY {c A B : Prop} [Decidable c] (h : c) (q : A) : if decide c = true then A else B := by
  rw [decide_eq_true h]
  exact iteT q
theorem wm {i j : Int} (hi : i.natAbs < 2 ^ 250) (hj : j.natAbs < 2 ^ 250) : CMulW i j := wide_mul hi hj (by decide) (by decide) (by decide)
theorem ltge (a b : Int) : a < b ∨ b ≤ a := by omega
theorem nm {i : Nat} {x : V} {σ : L2.St} {H : Hp} {k : L2.St → Hp → Prop} (h : k (σ.set i (some x)) H) : gName i x σ H k := h
/-! math.isqrt -/
def rIsqrt : List V → Hp → VK → Prop := fun vs H Q => ∃ n : Int, vs = [.int n] ∧ 0 ≤ n ∧ n.natAbs < 2 ^ 250 ∧ ∀ r : Int, 0 ≤ r → r * r ≤ n → n < (r + 1) * (r + 1) → Q (.int r) H
theorem cr_isqrt {X : Cx} : CallR X (.builtin "math.isqrt") rIsqrt := by
  intro pins s σ H vs us Q I r h
  obtain ⟨a, rfl, h0, h1, q⟩ := h
  obtain ⟨u, rfl, t, rfl⟩ := vals1 r
  have hl : a.toNat.log2 < 250 := by
    have e : a.toNat = a.natAbs := by omega
    rw [e]
    exact PySem.Flt.log2_lt_of (by decide) h1
  obtain ⟨z1, z2⟩ := PySem.Float64.isqrt_spec a.toNat
  refine call_function_meets PySem.W.MGF.kind_isqrt PySem.W.MGF.plain_isqrt PySem.W.MGF.entry_isqrt (PySem.W.MGF.args_isqrt _) (PySem.W.mg_run_isqrt a t (by omega) (by omega) (by omega)).meets ?_
  refine ⟨.int ((Float64.isqrt a.toNat : Nat) : Int), H, I.tok _, ⟨_, rfl⟩, q _ (Int.natCast_nonneg _) ?_ ?_⟩
  · have := Int.ofNat_le.mpr z1
    rw [Int.natCast_mul] at this
    omega
  · have := Int.ofNat_lt.mpr z2
    rw [Int.natCast_mul, Int.natCast_add] at this
    have e : ((a.toNat : Nat) : Int) = a := by omega
    rw [e] at this
    exact this
theorem szOk {xs : List V} (h : Nat.ble xs.length 1000 = true) : xs.length ≤ sizeLine := Nat.le_trans (Nat.le_of_ble_eq_true h) (by decide)
theorem eqN {a b : Int} {A B : Prop} (h : a ≠ b) (q : B) : if decide (V.int a = V.int b) = true then A else B := ifN (fun z => h (V.int.inj z)) q
theorem eqY {a b : Int} {A B : Prop} (h : a = b) (q : A) : if decide (V.int a = V.int b) = true then A else B := ifY (congrArg V.int h) q
theorem neN {a b : Int} {A B : Prop} (h : a = b) (q : B) : if (!decide (V.int a = V.int b)) = true then A else B := iteNS (congrArg V.int h) q
/-! tracked things behind a call that changes the state alone -/
section
variable {K : PySem.W.Frag} {d c : Addr} {H H' : Hp}
theorem Keep.l (k : Keep d H H') (S : St1 K H d c) {a : Addr} {xs : List V} (h : H a = some (.lst xs)) : H' a = some (.lst xs) := let ⟨_, e⟩ := S.dk; k.lst e h
theorem Keep.t (k : Keep d H H') (S : St1 K H d c) {a : Addr} {xs : List V} (h : H a = some (.tup xs)) : H' a = some (.tup xs) := let ⟨_, e⟩ := S.dk; k.tp e h
theorem Keep.sl (k : Keep d H H') (S : St1 K H d c) {a : Addr} {xs : List V} (h : SqL K H a xs) : SqL K H' a xs := let ⟨_, e⟩ := S.dk; k.seq e h
theorem Keep.st (k : Keep d H H') (S : St1 K H d c) {a : Addr} {xs : List V} (h : SqT K H a xs) : SqT K H' a xs := let ⟨_, e⟩ := S.dk; k.tup e h
end
theorem sq0 (x : Int) : 0 ≤ x * x := by
  rcases ltge x 0 with z | z
  · have := Int.mul_nonneg (show 0 ≤ -x by omega) (show 0 ≤ -x by omega)
    rw [Int.neg_mul_neg] at this
    exact this
  · exact Int.mul_nonneg z z
theorem atI0 {α : Type} {xs : List α} {j : Nat} {v : α} (h : xs[j]? = some v) : atI xs (0 + (j : Int)) = some v := by
  rw [Int.zero_add]
  exact atI_nat h
theorem atI_back {α : Type} {xs : List α} {v : α} (h : xs.getLast? = some v) : atI xs (-1) = some v := by
  obtain ⟨ys, rfl⟩ := List.getLast?_eq_some_iff.mp h
  exact atI_last ys v
theorem eqvN {d : PyData} {A B : Prop} (h : d.canLay0 = true) (q : B) : if (!PyData.eqv d d) = true then A else B := by
  rw [SeqAt.eqv_refl d h]
  exact q
theorem getInt {ns : List Int} {i : Nat} {y : V} (h : (ns.map V.int)[i]? = some y) : ∃ x, y = .int x ∧ x ∈ ns ∧ i < ns.length ∧ ns.take (i + 1) = ns.take i ++ [x] := by
  rw [List.getElem?_map] at h
  cases e : ns[i]? with
  | none => rw [e] at h; cases h
  | some x =>
    rw [e] at h
    exact ⟨x, (Option.some.inj h).symm, List.mem_of_getElem? e, (List.getElem?_eq_some_iff.mp e).1, by rw [List.take_add_one, e]; rfl⟩
/-- the built-in names that the text has not bound -/
structure Txt0 (mg : Str → Option Value) : Prop where
  abs : mg "abs" = none
  int : mg "int" = none
  len : mg "len" = none
  bool : mg "bool" = none
  isinstance : mg "isinstance" = none
structure TxtA (mg : Str → Option Value) : Prop extends Txt0 mg where
  max : mg "max" = none
  min : mg "min" = none
  range : mg "range" = none
  tuple : mg "tuple" = none
  list : mg "list" = none
  sum : mg "sum" = none
  any : mg "any" = none
  all : mg "all" = none
  sorted : mg "sorted" = none
  dict : mg "dict" = none
  enumerate : mg "enumerate" = none
theorem getMap {α : Type} {f : α → V} {ns : List α} {i : Nat} {y : V} (h : (ns.map f)[i]? = some y) : ∃ x, y = f x ∧ x ∈ ns ∧ i < ns.length ∧ ns.take (i + 1) = ns.take i ++ [x] := by
  rw [List.getElem?_map] at h
  cases e : ns[i]? with
  | none => rw [e] at h; cases h
  | some x =>
    rw [e] at h
    exact ⟨x, (Option.some.inj h).symm, List.mem_of_getElem? e, (List.getElem?_eq_some_iff.mp e).1, by rw [List.take_add_one, e]; rfl⟩
theorem sq_le {x b : Int} (h0 : -b ≤ x) (h1 : x ≤ b) : x * x ≤ b * b := by
  rcases ltge x 0 with z | z
  · have := Int.mul_le_mul (show -x ≤ b by omega) (show -x ≤ b by omega) (show 0 ≤ -x by omega) (show 0 ≤ b by omega)
    rw [Int.neg_mul_neg] at this
    exact this
  · exact Int.mul_le_mul h1 h1 z (by omega)
/-- 2 ^ (24 - i) -/
def pw (i : Nat) : Int := (2 ^ (24 - i) : Nat)
theorem pw_step {i : Nat} (h : i < 24) : pw i = 2 * pw (i + 1) := by
  unfold pw
  rw [show 24 - i = (24 - (i + 1)) + 1 by omega, Nat.pow_succ]
  omega
theorem mapAt {α : Type} {f : α → V} {ns : List α} {i : Nat} (h : i < ns.length) : (ns.map f)[i]? = some (f ns[i]) := by simp [h]
theorem at_mod {α : Type} {f : α → V} {ns : List α} {z m : Int} (hm : m = (ns.length : Int)) (h : 0 < ns.length) : ∃ x, x ∈ ns ∧ atI (ns.map f) (z % m) = some (f x) := by
  obtain ⟨j, hj⟩ : ∃ j : Nat, z % m = (j : Int) := ⟨(z % m).toNat, by have := Int.emod_nonneg z (show m ≠ 0 by omega); omega⟩
  have hj2 : j < ns.length := by have := Int.emod_lt_of_pos z (show 0 < m by omega); omega
  exact ⟨ns[j], List.getElem_mem hj2, by rw [hj]; exact atI_nat (mapAt hj2)⟩
/-- all that stood, but at d -/
theorem Keep.none {d a : Addr} {H H' : Hp} (k : Keep d H H') (n : a ≠ d) (h : H' a = none) : H a = none := by
  cases e : H a with
  | none => rfl
  | some o => rw [k _ _ e n] at h; cases h
theorem atI_lastn {α : Type} {xs : List α} {v : α} {m : Int} (hm : m = (xs.length : Int) - 1) (h : xs.getLast? = some v) : atI xs m = some v := by
  obtain ⟨ys, rfl⟩ := List.getLast?_eq_some_iff.mp h
  rw [hm, List.length_append, List.length_singleton]
  have e : ((ys.length + 1 : Nat) : Int) - 1 = ((ys.length : Nat) : Int) := by omega
  rw [e]
  exact atI_nat (by simp)
theorem sq_swap (a b : Int) : (a - b) * (a - b) = (b - a) * (b - a) := by
  have e : a - b = -(b - a) := by omega
  rw [e, Int.neg_mul_neg]
def rLenK (K : PySem.W.Frag) : List V → Hp → VK → Prop := fun xs H Q => ∃ p ys, xs = [V.ref p] ∧ (SqL K H p ys ∨ SqT K H p ys) ∧ Q (.int ys.length) H
end Sk

set_option Elab.async false
set_option linter.all false
set_option maxRecDepth 100000
set_option maxHeartbeats 4000000
namespace Sk
open PySem PySem.Spec PyProof.Rows L2 GenW GxR
/-! generator expressions whose elements may call own defs -/
/-! ### one run of a generator's code -/
def Run1 (M : Model) (A : Around) (Z : End → Shared → Prop) (c : Code) (t : Sem PySem.Fin) (fs : List Frame) (s : Shared) : Prop :=
  ∀ (Γ : PySem.Ctx) (p : Pos), Γ.code = c → Γ.Woken A → ∃ e s', Runs M Γ p t fs s e s' ∧ Z e s'
section
variable {M : Model} {A : Around} {Z : End → Shared → Prop} {c : Code} {fs : List Frame} {s : Shared}
theorem run1_wrap {α : Type} {m : Sem α} {K : α → Sem PySem.Fin} {J : Value → Sem PySem.Fin} {gd lv}
    (h : wpAny M (A.over c fs) m (fun a s' => Run1 M A Z c (K a) fs s') (fun x s' => Run1 M A Z c (J x) fs s') s) : Run1 M A Z c (m.wrap K J gd lv) fs s := by
  intro Γ p e w
  subst e
  exact runs_wrap_of_wp K J gd lv m (h (Γ.over fs) p (w.over fs)) (fun a p' s' q => q Γ p' rfl w) fun x p' s' q => q Γ p' rfl w
theorem run1_bind {α β : Type} {m : Sem α} {K : α → Sem β} {K' : β → Sem PySem.Fin} {J' : Value → Sem PySem.Fin} {gd lv}
    (h : wpAny M (A.over c fs) m (fun a s' => Run1 M A Z c ((K a).wrap K' J' gd lv) fs s') (fun x s' => Run1 M A Z c (J' x) fs s') s) : Run1 M A Z c ((m >>= K).wrap K' J' gd lv) fs s := by
  rw [Sem.bind_eq_wrap', Sem.wrap_wrap]
  exact run1_wrap h
theorem run1_at {p' : Pos} {k : Unit → Sem PySem.Fin} (h : Run1 M A Z c (k ()) fs s) : Run1 M A Z c (.at p' k) fs s :=
  run1_wrap (m := standAt p') (K := k) (J := .raise) (gd := id) (lv := id) (wpAny_standAt h)
theorem run1_again {c' : Code} (q : c'.quiet = true) (h : Run1 M A Z c' (M.den c') fs s) : Run1 M A Z c (.pure (.again c')) fs s := by
  intro Γ p e w
  subst e
  obtain ⟨e, s', r, z⟩ := h (Γ.goto c') p rfl (w.goto c')
  exact ⟨e, s', Runs.head (c₁ := c') (fun _ _ x => .again q x) r, z⟩
theorem run1_end (r : Result) (h : Z (.ret r) s) : Run1 M A Z c (leafOf r) [] s := by
  intro Γ p e w
  exact ⟨.ret r, s, Runs.leaf r, h⟩
theorem run1_yield {v g l} {k : Resume → Sem PySem.Fin} (hfs : splitAtGen fs = none) (h : ∀ p, Z (.susp v g l k c p fs) s) : Run1 M A Z c (.yield v g l k) fs s := by
  intro Γ p e w
  subst e
  exact ⟨_, s, Runs.yield' fs hfs, h p⟩
end
/-- a generator's state, woken by None -/
def Goes1 (M : Model) (A : Around) (Z : End → Shared → Prop) (gs : GenState) (s : Shared) : Prop :=
  match gs with
  | .fresh c => Run1 M A Z c (M.den c) [] s
  | .suspended k _ c _ fs _ => Run1 M A Z c (k (.send .none)) fs s
  | _ => False
theorem bare_of {e : End} (h : e.quiet = true) : e.genState.bare = true := End.bare_of_quiet h
theorem wp_resume1 {M : Model} {A : Around} {Z : End → Shared → Prop} {E : Value → Shared → Prop} {s : Shared} {g : Nat} {gs : GenState} {l : List Value} {α : Type} {k : GenResult → Sem α} {Q : α → Shared → Prop} (hg : s.gens[g]? = some gs)
    (go : Goes1 M A Z gs (s.setGen g .running)) (hZ : ∀ e s1, Z e s1 → s.gens.size ≤ s1.gens.size → e.quiet = true ∧ wpAny M A (k e.result) Q E (s1.setGen g e.genState)) : wpAny M A (.resume g (.send .none) l k) Q E s := by
  intro Γ p hΓ
  rw [Sem.wp_resume]
  have wk : ∀ c, (Γ.wake c p).Woken A := fun c => hΓ.wake c p
  have sz : (s.setGen g .running).gens.size = s.gens.size := setGen_size s g .running
  cases gs with
  | fresh c =>
    obtain ⟨e, s1, r, z⟩ := go (Γ.wake c p) p rfl (wk c)
    obtain ⟨q1, q2⟩ := hZ e s1 z (by have := runs_gsz r; rw [sz] at this; exact this)
    exact ⟨_, _, by unfold Wakes; rw [hg]; exact ⟨e, s1, r, q1, rfl, rfl⟩, q2 Γ p hΓ⟩
  | suspended k0 l0 c p0 fs cl =>
    obtain ⟨e, s1, r, z⟩ := go (Γ.wake c p) p0 rfl (wk c)
    obtain ⟨q1, q2⟩ := hZ e s1 z (by have := runs_gsz r; rw [sz] at this; exact this)
    exact ⟨_, _, by unfold Wakes; rw [hg]; exact ⟨e, s1, r, q1, rfl, rfl⟩, q2 Γ p hΓ⟩
  | running => exact go.elim
  | finished => exact go.elim
/-- next(g): what the code's run comes to -/
theorem next1 {P : Program} {w : World} {A : Around} {E : Value → Shared → Prop} {s : Shared} {a : Addr} {g : Nat} {gs : GenState} {Z : End → Shared → Prop} {Q : Option Value → Shared → Prop} (hh : A.handled = none) (hl : s.heap.NoLimit) (hroom : A.depth < recursionLimit)
    (hg : s.heap.IsGen a g) (hgs : s.gens[g]? = some gs) (go : Goes1 (model P w) A.in1 Z gs (s.setGen g .running))
    (hY : ∀ e s1, Z e s1 → s.gens.size ≤ s1.gens.size → (e = .ret (.ok .next) ∧ ∀ h', (∀ b o, s1.heap.get? b = some o → h'.get? b = some o) → Q none { s1.setGen g .finished with heap := h' }) ∨
      (∃ v l k c p fs, e = .susp v false l k c p fs ∧ e.quiet = true ∧ Q (some v) (s1.setGen g e.genState))) : wpAny (model P w) A (pyNext (.ref a)) Q E s := by
  unfold pyNext
  refine wpAny_bind (wpAny_attempt (wpAny_callSpecial?_slot (name := Str.ofString "__next__") hg.typeIs slot_gen_next (wpAny_call_entry slot_gen_next hg.typeIs entry_gen_next ?_ (args_gen_next _))))
  show wpAny _ A.in1 (Builtin.Generator.genWake (.ref a) (.send .none)) _ _ s
  unfold Builtin.Generator.genWake
  refine wpAny_bind (wpAny_holding (wpAny_genNumber hg (wpAny_bind (wpAny_genState hgs ?_))))
  cases gs with
  | running => exact go.elim
  | finished => exact go.elim
  | _ =>
    refine wpAny_bind (wpAny_roomToWake hl hroom ?_)
    show wpAny _ A.in1 (.resume g (.send .none) [] _) _ _ s
    refine wp_resume1 hgs go fun e s1 z hsz => ?_
    rcases hY e s1 z hsz with ⟨rfl, q⟩ | ⟨v, l, k, c, p, fs, rfl, q1, q⟩
    · refine ⟨rfl, ?_⟩
      show wpAny _ A.in1 (newExc (.type "StopIteration") [] >>= _) _ _ _
      refine wpAny_bind ?_
      simp only [newExc, newTuple]
      refine wpAny_bind (wpAny_newObj_type ?_ (by size_fits))
      refine wpAny_bind (m := firstArgMember _ _) (wpAny_of_eq (a := Value.none) (by first | rfl | (simp only [firstArgMember]; rfl)) ?_)
      refine wpAny_newObj_type ?_ (by size_fits)
      simp only [raiseNew]
      refine wpAny_bind (wpAny_bind (wpAny_handled ?_))
      first | rw [show A.in1.handled = none from hh] | rw [hh]
      refine wpAny_throw ?_
      refine wpAny_bind (wpAny_isInstance (T := "StopIteration") (b := true) ⟨_, Heap.get?_push_size _ rfl, rfl⟩ isSubtype_stop ?_)
      exact wpAny_pure (q _ fun b o hb => Heap.get?_push_of_some _ (Heap.get?_push_of_some _ hb))
    · exact ⟨q1, wpAny_pure ⟨v, rfl, wpAny_pure q⟩⟩

/-! ### the generator's frame -/
abbrev gcx (X : Cx) (s : Shared) (H : Hp) (cenv : Env) (fp : List Addr) (A : Around) : Cx :=
  { X with A := A, s_0 := s, H_0 := H, env := cenv, outer := X.stack, stack := cenv :: X.stack, ex := fp, fn := fun _ => false, calm := true, pn := [], xe := fun _ _ => False }
/-- its scope: no cells of its own -/
structure GScp (scope : Scope) : Prop where
  co : scope.isCoroutine = false
  kind : scope.kind = .function
  nocell : ∀ y ∈ scope.names, y.2 ≠ .cell
  dot : scope.names.lookup (".0" : Str) = some NameKind.local
section
variable {X : Cx} {pins : List (Addr × Obj)} {σ : L2.St} {H : Hp} {s : Shared}
theorem blk_free {N : List Str} {scope : Scope} {own : List (Str × Nat)} (ok : BlkOk N X.env.scope scope own) (o : X.Ok) : ∀ y ∈ scope.names, y.2 = .free → ∃ c, X.env.cells.lookup y.1 = some c := fun y hy e =>
  (ok.free y hy e).elim (fun z => o.has _ (.inl z)) fun z => o.has _ (.inr z)
theorem gen_start {scope : Scope} {own : List (Str × Nat)} {fp : List Addr} {code : Value} {A : Around} {h' : Heap} {g' : Array GenState} {d' : Drawn} {t' : Nat} {m : Str → Option Value} (I : Inv X pins σ H s) (ok : BlkOk X.N X.env.scope scope own) (G : GScp scope) (hN : X.N.Nodup)
    (hfp : ∀ b ∈ fp, FpOk X pins H b ∧ b < s.heap.objs.size) (hd : A.handled = none) (hfr : A.frames = some (genEnv scope (cloFrom X.env.cells scope.names []) s.heap.objs.size code builtinsNs X.env :: X.stack))
    (hns : h'.Ns s.heap.objs.size m) (kp : ∀ b o, s.heap.get? b = some o → h'.get? b = some o) (hg : AllBare g') :
    Inv (gcx X s H (genEnv scope (cloFrom X.env.cells scope.names []) s.heap.objs.size code builtinsNs X.env) fp A) [] (wipe σ (own.map (·.2))) H { s with heap := h', gens := g', drawn := d', toks := t' } := by
  have hfree := blk_free ok I.ok
  have cm : ∀ {y c}, (cloFrom X.env.cells scope.names []).lookup y = some c → X.env.cells.lookup y = some c := fun e => NdefX.clo_cm hfree e
  have frk : ∀ y, scope.names.lookup y = some .free → ∃ c, (cloFrom X.env.cells scope.names []).lookup y = some c ∧ X.env.cells.lookup y = some c := fun y e => by
    have hy : (y, NameKind.free) ∈ scope.names := PySem.mem_of_lookup e
    obtain ⟨c, hc⟩ := hfree _ hy rfl
    exact ⟨c, NdefX.clo_has hfree hy hc, hc⟩
  have okG : (gcx X s H (genEnv scope (cloFrom X.env.cells scope.names []) s.heap.objs.size code builtinsNs X.env) fp A).Ok :=
    { mod := I.ok.mod, kind := G.kind, glob := I.ok.glob, blt := rfl, above := Nat.le_refl _
      inj := fun y z c e1 e2 => I.ok.inj y z c (cm e1) (cm e2)
      has := fun y hy => by
        have hy : scope.names.lookup y = some .cell ∨ scope.names.lookup y = some .free := hy
        rcases hy with hy | hy
        · exact absurd rfl (G.nocell _ (PySem.mem_of_lookup hy))
        · obtain ⟨c, e, _⟩ := frk y hy
          exact ⟨c, e⟩
      cab := fun y c z _ => by cases z
      hd := fun _ => hd
      frames := hfr
      stk := .inr ⟨rfl, rfl⟩
      exf := fun b hb => ⟨Nat.ne_of_lt (hfp b hb).2, fun y c e => (hfp b hb).1.2.2.2.2.1 y c (cm e)⟩
      bs := I.bs
      bsz := Nat.le_trans I.ok.bsz I.sz
      noex := fun b o e hb => by
        rcases (hfp b hb).1.2.2.2.1 with z | z
        · exact I.ok.noex b o e z
        · exact Nat.lt_irrefl _ (Nat.lt_of_lt_of_le (Heap.lt_size e) (Nat.le_trans I.ok.bsz z))
      exfs := fun b hb z => by
        rcases List.mem_cons.mp (I.stkSub b z) with z | z
        · exact (hfp b hb).1.2.1 z
        · exact (hfp b hb).1.2.2.1 z
      funs := I.stack
      frf := I.stkFree }
  refine ⟨okG, rfl, hg, Un.kept kp, ⟨m, hns, fun i y v e1 e2 e3 => ?_⟩, fun y c e => ?_, I.hok.fresh (Nat.le_refl _), fun y c e => I.freeC y c (cm e), fun p hp => absurd (show p ∈ ([] : List (Addr × Obj)) ++ [] from hp) (by simp), I.hok.kept kp, by rw [wipe_length]; exact I.len⟩
  · obtain ⟨e2, hne⟩ := wipe_some e2
    have no : ∀ k, scope.names.lookup y = some k → k = .local ∨ k = .cell → False := fun k hk hh => by
      rcases ok.own _ (PySem.mem_of_lookup hk) hh with z | z
      · obtain ⟨p, hp, hpy⟩ := List.mem_map.mp z
        have q := ok.ix p hp
        have hpy : p.1 = y := hpy
        rw [hpy] at q
        exact hne (List.mem_map.mpr ⟨p, hp, nodup_ix hN q e1⟩)
      · exact z (List.mem_of_getElem? e1)
    have e3 : scope.names.lookup y = some .local ∨ scope.names.lookup y = some .cell ∨ scope.names.lookup y = some .free := e3
    have hfr2 : scope.names.lookup y = some .free := by
      rcases e3 with z | z | z
      · exact (no _ z (.inl rfl)).elim
      · exact (no _ z (.inr rfl)).elim
      · exact z
    obtain ⟨c, c1, c2⟩ := frk y hfr2
    obtain ⟨m0, hn0, hl⟩ := I.loc
    have k := ok.free _ (PySem.mem_of_lookup hfr2) rfl
    obtain ⟨u, r, q⟩ := hl i y v e1 e2 (k.elim (fun z => .inr (.inl z)) fun z => .inr (.inr z))
    refine ⟨u, r, .inr ⟨.inr hfr2, c, c1, ?_⟩⟩
    rcases q with ⟨z, _⟩ | ⟨_, c', e', z⟩
    · have z : X.env.scope.names.lookup y = some .local := z
      rcases k with k | k <;> rw [show X.env.scope.names.lookup y = _ from k] at z <;> cases z
    · rw [c2] at e'
      cases e'
      exact z.keeps kp
  · obtain ⟨v, z⟩ := I.cell y c (cm e)
    exact ⟨v, z.keeps kp⟩
end

/-! ### asleep and awake -/
/-- what the consumer may do while the generator sleeps: its own objects at Sx, new objects -/
structure Aft (Sx : List Addr) (s s' : Shared) : Prop where
  os : s'.os = s.os
  bare : AllBare s'.gens
  keep : ∀ b o, b ∉ Sx → s.heap.get? b = some o → s'.heap.get? b = some o
  own : ∀ b ∈ Sx, ∃ o, s'.heap.get? b = some o ∧ ∀ v, o.data ≠ .cell v
/-- the consumer's word: what is out so far, the next value, the heap, going on -/
abbrev Eats := List V → V → Hp → Prop → Prop
structure GEx where
  X : Cx
  s4 : Shared
  H1 : Hp
  cenv : Env
  fp : List Addr
  B : Around
  σ0 : L2.St
  ge : Expr
  it : Addr
  a : Addr
  g : Nat
  Sx : List Addr
  C : Eats
  F : List V → Hp → Prop
abbrev GEx.loop (Y : GEx) : Code := .compLoop Y.ge 0 (.ref Y.it) .none Y.cenv
abbrev GEx.Xg (Y : GEx) : Cx := gcx Y.X Y.s4 Y.H1 Y.cenv Y.fp (Y.B.over Y.loop [])
abbrev GEx.pn (Y : GEx) (s : Shared) : List (Addr × Obj) := pinsAt (Y.a :: Y.Sx) s.heap
abbrev GEx.M (Y : GEx) : Model := model Y.X.prog Y.X.w
/-- a run's end: over, or a value is handed out and R holds of what sleeps -/
def GEx.Z (Y : GEx) (R : List V → Hp → GenState → Shared → Prop) (ys : List V) (s0 : Shared) (e : End) (s1 : Shared) : Prop :=
  (e = .ret (.ok .next) ∧ ∃ σ' H', Inv Y.Xg (Y.pn s0) σ' H' s1 ∧ Y.F ys H') ∨
  ∃ v l k c p fs y σ' H', e = .susp v false l k c p fs ∧ e.quiet = true ∧ Inv Y.Xg (Y.pn s0) σ' H' s1 ∧ RelV y v ∧ Y.C ys y H' (R (ys ++ [y]) H' e.genState s1)
/-- asleep: at most n more values -/
def GEx.Rdy (Y : GEx) : Nat → List V → Hp → GenState → Shared → Prop
  | 0 => fun ys H gs s => ∀ s', Aft Y.Sx s s' → Goes1 Y.M Y.B (Y.Z (fun _ _ _ _ => False) ys s') gs (s'.setGen Y.g .running)
  | n + 1 => fun ys H gs s => ∀ s', Aft Y.Sx s s' → Goes1 Y.M Y.B (Y.Z (Y.Rdy n) ys s') gs (s'.setGen Y.g .running)
def GEx.Rp (Y : GEx) : Nat → List V → Hp → GenState → Shared → Prop
  | 0 => fun _ _ _ _ => False
  | n + 1 => Y.Rdy n
theorem GEx.rdy_iff (Y : GEx) (n : Nat) (ys : List V) (H : Hp) (gs : GenState) (s : Shared) : Y.Rdy n ys H gs s ↔ ∀ s', Aft Y.Sx s s' → Goes1 Y.M Y.B (Y.Z (Y.Rp n) ys s') gs (s'.setGen Y.g .running) := by
  cases n <;> rfl
/-- the addresses are new -/
structure GEx.Ok (Y : GEx) : Prop where
  new : ∀ b ∈ Y.a :: Y.Sx, Y.s4.heap.objs.size < b
  loc : Y.cenv.locals = Y.s4.heap.objs.size
  cel : ∀ y c, Y.cenv.cells.lookup y = some c → c < Y.s4.heap.objs.size
  fps : ∀ b ∈ Y.fp, b < Y.s4.heap.objs.size
  aS : Y.a ∉ Y.Sx
  co : Y.cenv.scope.isCoroutine = false
theorem setGen_os (s : Shared) (g : Nat) (x : GenState) : (s.setGen g x).os = s.os := rfl
theorem setGen_heap (s : Shared) (g : Nat) (x : GenState) : (s.setGen g x).heap = s.heap := rfl
section
variable {Y : GEx} {σ σ' : L2.St} {H : Hp} {s s0 s1 : Shared} {pins : List (Addr × Obj)}
theorem GEx.Ok.fpOk (O : Y.Ok) (I : Inv Y.Xg (Y.pn s0) σ H s) (hn : ∀ b ∈ Y.fp, H b = none) : ∀ b ∈ Y.fp, FpOk Y.Xg (Y.pn s0) H b := fun b hb =>
  ⟨hn b hb, (I.ok.exf b hb).1, I.ok.exfs b hb, .inl hb, fun x c e => (I.ok.exf b hb).2 x c e, fun p hp => by
    have hp : p ∈ Y.pn s0 := by
      rcases List.mem_append.mp hp with z | z
      · cases z
      · exact z
    have h1 := O.new p.1 (of_pinsAt hp).1
    have h2 := O.fps b hb
    exact fun z => Nat.lt_irrefl _ (Nat.lt_trans h2 (z ▸ h1))⟩
/-- what is pinned while it runs -/
theorem GEx.Ok.pinned (O : Y.Ok) (I : Inv Y.Xg (Y.pn s0) σ H s) {b : Addr} {o : Obj} (hb : b ∈ Y.a :: Y.Sx) (e : s0.heap.get? b = some o) : s.heap.get? b = some o ∧ H b = none :=
  let z := I.pin (b, o) (List.mem_append_right _ (mem_pinsAt hb e))
  ⟨z.1, z.2.1⟩
/-- woken again -/
theorem GEx.Ok.woken (O : Y.Ok) (I : Inv Y.Xg (Y.pn s0) σ H s) (there : ∀ b ∈ Y.a :: Y.Sx, ∃ o, s0.heap.get? b = some o) (ag : ∃ o, s0.heap.get? Y.a = some o ∧ ∀ v, o.data ≠ .cell v) (A : Aft Y.Sx s s1) (x : GenState) (hx : x.bare = true) :
    Inv Y.Xg (Y.pn s1) σ H (s1.setGen Y.g x) := by
  have hT : ∀ b ∈ Y.a :: Y.Sx, H b = none := fun b hb => by
    obtain ⟨o, e⟩ := there b hb
    exact (O.pinned I hb e).2
  have I0 : Inv Y.Xg [] σ H s := I.pins_of fun p hp => absurd (show p ∈ ([] : List (Addr × Obj)) ++ [] from hp) (by simp)
  have nt : ∀ b u, H b = some u → b ∉ Y.Sx := fun b u q hb => by rw [hT b (List.mem_cons_of_mem _ hb)] at q; cases q
  obtain ⟨z1, z2, z3, z4⟩ := A
  obtain ⟨hh, g', d, t, o⟩ := s1
  have ho : o = s.os := z1
  subst ho
  have J : Inv Y.Xg [] σ H { s with heap := hh, gens := (({ heap := hh, gens := g', drawn := d, toks := t, os := s.os } : Shared).setGen Y.g x).gens, drawn := d, toks := t } := by
    refine I0.step (h' := hh) (g' := (({ heap := hh, gens := g', drawn := d, toks := t, os := s.os } : Shared).setGen Y.g x).gens) (t' := t) (d' := d) (ch := Y.Sx) (fun b hb => ?_) (fun b ob _ _ hc q _ => z3 b ob hc q) (fun b ob _ _ hc q _ => ⟨ob.slots, z3 b ob hc q⟩)
      (fun _ _ _ _ n => n) (fun b ob hc q => ⟨ob, z3 b ob hc q⟩) (fun _ _ q => q) (fun _ _ _ q => q) (fun b ps q => ⟨#[], by rw [q]; simp⟩) (fun m hm => ?_) (fun b u q => ?_) (allBare_setGen z2 hx)
    · have h1 := O.new b (List.mem_cons_of_mem _ hb)
      refine ⟨.inr (Nat.le_of_lt h1), fun z => ?_, fun y c e z => ?_, fun p hp => absurd (show p ∈ ([] : List (Addr × Obj)) ++ [] from hp) (by simp)⟩
      · have z : b = Y.cenv.locals := z
        rw [z, O.loc] at h1
        exact Nat.lt_irrefl _ h1
      · have h2 := O.cel y c e
        rw [z] at h2
        exact Nat.lt_irrefl _ (Nat.lt_trans h1 h2)
    · obtain ⟨ob, es, ep, ho, r⟩ := hm
      refine ⟨ob, es, ep, z3 _ ob (fun hb => ?_) ho, r⟩
      have h1 := O.new _ (List.mem_cons_of_mem _ hb)
      have h1 : Y.s4.heap.objs.size < Y.cenv.locals := h1
      rw [O.loc] at h1
      exact Nat.lt_irrefl _ h1
    · refine (I0.hok b u q).stay (fun c v hc y => z3 c v ?_ y) (fun _ y => y) fun _ _ y => y
      rcases hc with y | y
      · rw [y]; exact nt b u q
      · exact nt c _ y
  refine J.pins_of fun p hp => ?_
  have hp : p ∈ pinsAt (Y.a :: Y.Sx) hh := hp
  obtain ⟨hb, e⟩ := of_pinsAt hp
  have h1 := O.new _ hb
  refine ⟨e, hT _ hb, fun z => ?_, fun z => ?_, ?_⟩
  · have z : p.1 = Y.cenv.locals := z
    rw [z, O.loc] at h1
    exact Nat.lt_irrefl _ h1
  · obtain ⟨_, ob, hob, _⟩ := J.ok.funs.mem z
    exact absurd (Nat.lt_trans h1 (Heap.lt_size hob)) (Nat.lt_irrefl _)
  · rcases List.mem_cons.mp hb with z | z
    · obtain ⟨oa, ea, da⟩ := ag
      have q := (O.pinned I List.mem_cons_self ea).1
      have q2 := z3 _ oa O.aS q
      rw [z] at e
      rw [e] at q2
      cases q2
      exact da
    · obtain ⟨ob, eb, db⟩ := z4 _ z
      have eb : hh.get? p.1 = some ob := eb
      rw [e] at eb
      cases eb
      exact db
end

/-! ### the turns -/
def GStep (W : Nat → Nat → List V → Hp → Prop) (J : It) (g : TG) (tt : TT) (te : TE) (vs : List Nat) (σ0 : L2.St) (C : Eats) (F : List V → Hp → Prop) : Prop :=
  ∀ i m ys H, W i m ys H → (J.stop i H ∧ F ys H) ∨ (J.go i H ∧ ∃ Nx : List V → Hp → Prop, (∀ ys' H', Nx ys' H' → ∃ m', m' < m ∧ W (i + 1) m' ys' H') ∧
    ∀ x H', J.yld i H x H' → g x σ0 H' fun σ2 H2 => wipe σ2 vs = σ0 ∧ tt σ2 H2 fun b H3 => if b = true then te σ2 H3 fun y H4 => C ys y H4 (Nx (ys ++ [y]) H4) else Nx ys H3)
def EatsMono (C : Eats) : Prop := ∀ ys y H (p q : Prop), (p → q) → C ys y H p → C ys y H q
section
variable {ge elt iter tg : Expr} {cs : List Comprehension} {ifs : List Expr} {scope : Scope} {gpos : Pos}
theorem turn_one {it acc : Value} {env : Env} (h : ge = .GeneratorExp elt cs scope gpos) : compTurn ge 0 it acc env = compTurn (.GeneratorExp elt cs scope gpos) 0 it acc env := by rw [h]
theorem den_one {P : Program} {w : World} {it acc : Value} {env : Env} (h : ge = .GeneratorExp elt cs scope gpos) : (model P w).den (.compLoop ge 0 it acc env) = (compTurn ge 0 it acc env).onRaise (leaving env) := by subst h; rfl
theorem den_start {P : Program} {w : World} {it acc : Value} {env : Env} (h : ge = .GeneratorExp elt cs scope gpos) : (model P w).den (.compStart ge 0 it acc env) = (compStart ge 0 it acc env).onRaise (leaving env) := by subst h; rfl
theorem quiet_loop {d : Nat} {it acc : Value} {env : Env} : (Code.compLoop ge d it acc env).quiet = true := by rfl
end
theorem gen_turns {Y : GEx} {elt tg iter : Expr} {ifs : List Expr} {scope : Scope} {gpos : Pos} (hge : Y.ge = .GeneratorExp elt [⟨tg, iter, ifs, 0⟩] scope gpos) {J : It} {tn : Nat → Heap → Prop} {g : TG} {tt : TT} {te : TE} {vs : List Nat} {W : Nat → Nat → List V → Hp → Prop} (O : Y.Ok) (T : Turn Y.X.prog Y.X.w Y.X.K tg J Y.fp Y.it tn) (hg : PG Y.Xg tg g) (ht : PTs Y.Xg ifs tt) (he : PE Y.Xg elt te)
    (hC : EatsMono Y.C) (st : GStep W J g tt te vs Y.σ0 Y.C Y.F) : ∀ (m n : Nat) (i : Nat) (ys : List V) (H : Hp) (s0 s : Shared), m ≤ n → (∀ b ∈ Y.a :: Y.Sx, ∃ o, s0.heap.get? b = some o) → (∃ o, s0.heap.get? Y.a = some o ∧ ∀ v, o.data ≠ .cell v) → Inv Y.Xg (Y.pn s0) Y.σ0 H s → tn i s.heap → (∀ b ∈ Y.fp, H b = none) → W i m ys H →
      Run1 Y.M Y.B (Y.Z (Y.Rp n) ys s0) Y.loop (Y.M.den Y.loop) [] s := by
  intro m
  induction m using Nat.strongRecOn with
  | ind m ih =>
    intro n i ys H s0 s hmn there ag I stt fr w
    have hco := O.co
    rw [den_one hge, turn_one hge, compTurn_gen, ← hge, Sem.onRaise_eq_wrap]
    refine run1_bind (wpAny_standAt ?_)
    rcases st i m ys H w with ⟨stop, fin⟩ | ⟨go, Nx, hN, step⟩
    · refine run1_bind (wpAny_mono (T.done Y.Xg rfl rfl rfl rfl i (Y.pn s0) s Y.σ0 H (fun _ _ => False) I (O.fpOk I fr) stt stop) (fun r s1 ⟨hr, I1⟩ => ?_) fun _ _ z => z.elim)
      subst hr
      exact run1_end (.ok .next) (.inl ⟨rfl, Y.σ0, H, I1, fin⟩)
    · refine run1_bind (wpAny_mono (T.item Y.Xg rfl rfl rfl rfl i (Y.pn s0) s Y.σ0 H (fun _ _ => False) I (O.fpOk I fr) stt go) (fun r s1 ⟨u, hr, h1⟩ => ?_) fun _ _ z => z.elim)
      subst hr
      refine run1_bind (wpAny_mono h1 (fun _ s2 ⟨x, H2, I2, r2, y2, st2, fr2⟩ => ?_) fun _ _ z => z.elim)
      have I2' := I2.pinned (O.fpOk I2 fr2) (T.obj _ _ st2)
      refine run1_bind (wpAny_mono (hg.run _ s2 Y.σ0 H2 x u _ I2' r2 (step x H2 y2)) (fun _ s3 ⟨σ3, H3, I3, hw3, q3⟩ => ?_) fun _ _ z => z.elim)
      refine run1_bind (wpAny_mono (ht.run _ s3 σ3 H3 _ I3 q3) (fun b s4 ⟨H4, I4, q4⟩ => ?_) fun _ _ z => z.elim)
      have fpin : ∀ {s' : Shared} {H' : Hp}, Inv Y.Xg (Y.pn s0 ++ pinsAt Y.fp s2.heap) σ3 H' s' → tn (i + 1) s'.heap ∧ ∀ b ∈ Y.fp, H' b = none := fun {s' H'} I' => by
        have pin' : ∀ b ∈ Y.fp, ∀ o, s2.heap.get? b = some o → s'.heap.get? b = some o ∧ H' b = none := fun b hb o e =>
          let z := I'.pin (b, o) (List.mem_append_right _ (List.mem_append_right _ (mem_pinsAt hb e)))
          ⟨z.1, z.2.1⟩
        refine ⟨T.keep _ _ _ st2 fun b hb o e => (pin' b hb o e).1, fun b hb => ?_⟩
        obtain ⟨o, e, _⟩ := T.obj _ _ st2 b hb
        exact (pin' b hb o e).2
      have wk : ∀ {s' : Shared} {H' : Hp} {pins : List (Addr × Obj)}, Inv Y.Xg pins σ3 H' s' → Inv Y.Xg pins Y.σ0 H' s' := fun {s' H' pins} I' => by
        have hl : Y.σ0.length = σ3.length := by rw [← hw3, wipe_length]
        refine I'.weak hl fun j v e => ?_
        rw [← hw3] at e
        exact (wipe_some e).1
      cases b with
      | false =>
        simp only [Bool.false_eq_true, if_false] at q4 ⊢
        obtain ⟨m', hm, w'⟩ := hN ys H4 q4
        exact run1_again rfl (ih m' hm n (i + 1) ys H4 s0 s4 (by omega) there ag (wk I4.unpinned) (fpin I4).1 (fpin I4).2 w')
      | true =>
        simp only [if_true] at q4 ⊢
        have hy : ∀ v, yieldOut Y.cenv v = yieldValue v := fun v => by simp only [yieldOut, hco, Bool.false_eq_true, if_false]
        simp only [hy]
        rw [Sem.bind_eq_wrap', Sem.bind_eq_wrap', Sem.wrap_wrap, Sem.wrap_wrap]
        refine run1_wrap (wpAny_mono (he.run _ s4 σ3 H4 _ I4 q4) (fun v s5 ⟨y, H5, I5, r5, c5⟩ => ?_) fun _ _ z => z.elim)
        refine run1_at (run1_yield rfl fun p => .inr ⟨v, _, _, _, p, _, y, σ3, H5, rfl, rfl, I5.unpinned, r5, hC _ _ _ _ _ (fun nx => ?_) c5⟩)
        obtain ⟨m', hm, w'⟩ := hN _ H5 nx
        obtain ⟨n', rfl⟩ : ∃ k, n = k + 1 := ⟨n - 1, by omega⟩
        refine (Y.rdy_iff n' _ _ _ _).mpr fun s6 A6 => ?_
        have there6 : ∀ b ∈ Y.a :: Y.Sx, ∃ o, s6.heap.get? b = some o := fun b hb => by
          rcases List.mem_cons.mp hb with z | z
          · obtain ⟨o, e⟩ := there b hb
            exact ⟨o, A6.keep b o (by rw [z]; exact O.aS) (O.pinned I5.unpinned hb e).1⟩
          · obtain ⟨o, e, _⟩ := A6.own b z
            exact ⟨o, e⟩
        have ag6 : ∃ o, s6.heap.get? Y.a = some o ∧ ∀ v, o.data ≠ .cell v := by
          obtain ⟨o, e, d⟩ := ag
          exact ⟨o, A6.keep _ o O.aS (O.pinned I5.unpinned List.mem_cons_self e).1, d⟩
        have I6 := O.woken (wk I5.unpinned) there ag A6 .running rfl
        show Run1 _ _ _ _ _ [] _
        have st6 : tn (i + 1) s6.heap := T.keep _ _ _ (fpin I5).1 fun b hb o e => A6.keep b o (fun z => Nat.lt_irrefl _ (Nat.lt_trans (O.fps b hb) (O.new b (List.mem_cons_of_mem _ z)))) e
        exact run1_again rfl (ih m' hm n' (i + 1) _ H5 s6 (s6.setGen Y.g .running) (by omega) there6 ag6 I6 st6 (fpin I5).2 w')
/-! ### two clauses -/
theorem run1_call {M : Model} {A : Around} {Z : End → Shared → Prop} {c c' : Code} {fs : List Frame} {s : Shared} {h g l} {k : Result → Sem PySem.Fin} (hc : ∀ p, Run1 M A Z c' (M.den c') (.ret k h g l c p [] :: fs) s) : Run1 M A Z c (.call c' h g l k) fs s := by
  intro Γ p e w
  subst e
  obtain ⟨e, s', r, z⟩ := hc p (Γ.goto c') p rfl (w.goto c')
  exact ⟨e, s', runs_call_seg r, z⟩
theorem run1_leaf {M : Model} {A : Around} {Z : End → Shared → Prop} {c c1 : Code} {fs : List Frame} {s : Shared} {k h g l p1 kp} (r : Result) (hk : Run1 M A Z c1 (k r) fs s) : Run1 M A Z c (leafOf r) (.ret k h g l c1 p1 kp :: fs) s := by
  intro Γ p e w
  subst e
  obtain ⟨e, s', hr, z⟩ := hk (Γ.goto c1) p1 rfl (w.goto c1)
  exact ⟨e, s', Runs.pop r hr, z⟩
section
variable {ge elt : Expr} {cs : List Comprehension} {scope : Scope} {gpos : Pos}
theorem den_in {P : Program} {w : World} {it acc : Value} {env : Env} (h : ge = .GeneratorExp elt cs scope gpos) : (model P w).den (.compLoop ge 1 it acc env) = (compTurn ge 1 it acc env).onRaise (fun x => do noteFrame x env; theTreesLotGoes x) := by subst h; rfl
theorem den_in0 {P : Program} {w : World} {it acc : Value} {env : Env} (h : ge = .GeneratorExp elt cs scope gpos) : (model P w).den (.compStart ge 1 it acc env) = (compStart ge 1 it acc env).onRaise (fun x => do noteFrame x env; standAt theWindowsPlace) := by subst h; rfl
theorem over_in {B : Around} {it it1 acc acc1 : Value} {env : Env} {fs : List Frame} {k : Result → Sem PySem.Fin} {g : Bool} {l kp : List Value} {p : Pos} (h : ge = .GeneratorExp elt cs scope gpos) :
    B.over (.compLoop ge 1 it1 acc1 env) (.ret k none g l (.compLoop ge 0 it acc env) p kp :: fs) = B.over (.compLoop ge 0 it acc env) fs ∧ B.over (.compStart ge 1 it1 acc1 env) (.ret k none g l (.compLoop ge 0 it acc env) p kp :: fs) = B.over (.compLoop ge 0 it acc env) fs := by
  subst h
  exact ⟨over_loop rfl rfl, over_loop rfl rfl⟩
end
def GStep2 (W : Nat → Nat → List V → Hp → Prop) (J : It) (g : TG) (tt : TT) (wi1 : TI) (g1 : TG) (tt1 : TT) (te : TE) (vs vs1 : List Nat) (σ0 : L2.St) (C : Eats) (F : List V → Hp → Prop) : Prop :=
  ∀ i m ys H, W i m ys H → (J.stop i H ∧ F ys H) ∨ (J.go i H ∧ ∀ x H', J.yld i H x H' → g x σ0 H' fun σ2 H2 => wipe σ2 vs = σ0 ∧ tt σ2 H2 fun b H3 => if b = true then wi1 σ2 H3 fun J1 H4 =>
      ∃ W1 : Nat → Nat → List V → Hp → Prop, (∃ m1, m1 < m ∧ W1 0 m1 ys H4) ∧ ∀ i1 m1 ys H, W1 i1 m1 ys H → (J1.stop i1 H ∧ ∃ m', m' ≤ m1 ∧ m' < m ∧ W (i + 1) m' ys H) ∨ (J1.go i1 H ∧ ∃ N1 : List V → Hp → Prop, (∀ ys' H', N1 ys' H' → ∃ m', m' < m1 ∧ W1 (i1 + 1) m' ys' H') ∧
        ∀ x1 H', J1.yld i1 H x1 H' → g1 x1 (wipe σ2 vs1) H' fun σ3 H5 => wipe σ3 vs1 = wipe σ2 vs1 ∧ tt1 σ3 H5 fun b1 H6 => if b1 = true then te σ3 H6 fun y H7 => C ys y H7 (N1 (ys ++ [y]) H7) else N1 ys H6)
    else ∃ m', m' < m ∧ W (i + 1) m' ys H3)
/-- what stays true of the inner iterator -/
structure InIt (Y : GEx) (fp1 : List Addr) : Prop where
  loc : ∀ b ∈ fp1, b ≠ Y.cenv.locals
  fs : ∀ b ∈ fp1, b ∉ frs Y.X.stack
  sz : ∀ b ∈ fp1, b ∈ Y.fp ∨ Y.s4.heap.objs.size ≤ b
  cel : ∀ b ∈ fp1, ∀ x c, Y.cenv.cells.lookup x = some c → c ≠ b
  own : ∀ b ∈ fp1, b ∉ Y.a :: Y.Sx
  out : ∀ b ∈ fp1, b ∉ Y.fp
section
variable {Y : GEx} {σ : L2.St} {H : Hp} {s s0 : Shared} {fp1 : List Addr}
theorem InIt.fpOk (N : InIt Y fp1) {h : Heap} (hn : ∀ b ∈ fp1, H b = none) : ∀ b ∈ fp1, FpOk Y.Xg (Y.pn s0 ++ pinsAt Y.fp h) H b := fun b hb =>
  ⟨hn b hb, N.loc b hb, N.fs b hb, N.sz b hb, N.cel b hb, fun p hp z => by
    have hp : p ∈ Y.pn s0 ++ pinsAt Y.fp h := by
      rcases List.mem_append.mp hp with y | y
      · cases y
      · exact y
    rcases List.mem_append.mp hp with y | y
    · exact N.own b hb (z ▸ (of_pinsAt y).1)
    · exact N.out b hb (z ▸ (of_pinsAt y).1)⟩
end
theorem gen_inner {Y : GEx} {elt tg iter tg1 iter1 : Expr} {ifs ifs1 : List Expr} {scope : Scope} {gpos : Pos} (hge : Y.ge = .GeneratorExp elt [⟨tg, iter, ifs, 0⟩, ⟨tg1, iter1, ifs1, 0⟩] scope gpos) {J J1 : It} {tn tn1 : Nat → Heap → Prop} {g1 : TG} {tt1 : TT} {te : TE} {vs vs1 : List Nat} {fp1 : List Addr} {it1 : Addr} {i : Nat} {σ2 : L2.St}
    {W1 : Nat → Nat → List V → Hp → Prop} {Wo : Nat → List V → Hp → Prop} {k : Result → Sem PySem.Fin} {l kp : List Value} {p : Pos} (O : Y.Ok) (T : Turn Y.X.prog Y.X.w Y.X.K tg J Y.fp Y.it tn) (T1 : Turn Y.X.prog Y.X.w Y.X.K tg1 J1 fp1 it1 tn1) (N : InIt Y fp1) (hσ : wipe σ2 vs = Y.σ0) (hvs : ∀ v ∈ vs1, v ∈ vs) (hg : PG Y.Xg tg1 g1) (ht : PTs Y.Xg ifs1 tt1) (he : PE Y.Xg elt te) (hC : EatsMono Y.C)
    (st : ∀ i1 m1 ys H, W1 i1 m1 ys H → (J1.stop i1 H ∧ ∃ m', m' ≤ m1 ∧ Wo m' ys H) ∨ (J1.go i1 H ∧ ∃ N1 : List V → Hp → Prop, (∀ ys' H', N1 ys' H' → ∃ m', m' < m1 ∧ W1 (i1 + 1) m' ys' H') ∧
        ∀ x1 H', J1.yld i1 H x1 H' → g1 x1 (wipe σ2 vs1) H' fun σ3 H5 => wipe σ3 vs1 = wipe σ2 vs1 ∧ tt1 σ3 H5 fun b1 H6 => if b1 = true then te σ3 H6 fun y H7 => Y.C ys y H7 (N1 (ys ++ [y]) H7) else N1 ys H6))
    (cont : ∀ (m' n : Nat) (ys : List V) (H : Hp) (s0 s : Shared), m' ≤ n → (∀ b ∈ Y.a :: Y.Sx, ∃ o, s0.heap.get? b = some o) → (∃ o, s0.heap.get? Y.a = some o ∧ ∀ v, o.data ≠ .cell v) → Inv Y.Xg (Y.pn s0) Y.σ0 H s → tn i s.heap → (∀ b ∈ Y.fp, H b = none) → Wo m' ys H → Run1 Y.M Y.B (Y.Z (Y.Rp n) ys s0) Y.loop (k (.ok .next)) [] s) :
    ∀ (m1 n i1 : Nat) (ys : List V) (H : Hp) (s0 s : Shared), m1 ≤ n → (∀ b ∈ Y.a :: Y.Sx, ∃ o, s0.heap.get? b = some o) → (∃ o, s0.heap.get? Y.a = some o ∧ ∀ v, o.data ≠ .cell v) → Inv Y.Xg (Y.pn s0) (wipe σ2 vs1) H s → tn i s.heap → (∀ b ∈ Y.fp, H b = none) → tn1 i1 s.heap → (∀ b ∈ fp1, H b = none) → W1 i1 m1 ys H →
      Run1 Y.M Y.B (Y.Z (Y.Rp n) ys s0) (.compLoop Y.ge 1 (.ref it1) .none Y.cenv) (Y.M.den (.compLoop Y.ge 1 (.ref it1) .none Y.cenv)) [.ret k none false l Y.loop p kp] s := by
  intro m1
  induction m1 using Nat.strongRecOn with
  | ind m1 ih =>
    intro n i1 ys H s0 s hmn there ag I stt fr st1 fr1 w
    have hco := O.co
    have ov := over_in (B := Y.B) (it := .ref Y.it) (it1 := .ref it1) (acc := .none) (acc1 := .none) (env := Y.cenv) (fs := []) (k := k) (g := false) (l := l) (kp := kp) (p := p) hge
    rw [den_in hge, Sem.onRaise_eq_wrap]
    have ct : compTurn Y.ge 1 (.ref it1) .none Y.cenv = compTurn (.GeneratorExp elt [⟨tg, iter, ifs, 0⟩, ⟨tg1, iter1, ifs1, 0⟩] scope gpos) 1 (.ref it1) .none Y.cenv := by rw [← hge]
    rw [ct]
    unfold compTurn
    simp only [List.getElem?_cons_succ, List.getElem?_cons_zero, List.getElem?_nil, bne_self_eq_false, Bool.false_eq_true, if_false]
    rw [← hge]
    have II := I.pinned (O.fpOk I fr) (T.obj _ _ stt)
    refine run1_bind (wpAny_standAt ?_)
    rcases st i1 m1 ys H w with ⟨stop, m', hm', wo⟩ | ⟨go, N1, hN, step⟩
    · refine run1_bind ?_
      rw [ov.1]
      refine wpAny_mono (T1.done Y.Xg rfl rfl rfl rfl i1 _ s _ H (fun _ _ => False) II (N.fpOk fr1) st1 stop) (fun r s1 ⟨hr, I1⟩ => ?_) fun _ _ z => z.elim
      subst hr
      have J1 : Inv Y.Xg (Y.pn s0) Y.σ0 H s1 := by
        refine (I1.unpinned).weak (by rw [← hσ, wipe_length, wipe_length]) fun j v e => ?_
        rw [← hσ] at e
        obtain ⟨e, hv⟩ := wipe_some e
        rw [wipe_out fun z => hv (hvs j z)]
        exact e
      have pin' : ∀ b ∈ Y.fp, ∀ o, s.heap.get? b = some o → s1.heap.get? b = some o := fun b hb o e => (I1.pin (b, o) (List.mem_append_right _ (List.mem_append_right _ (mem_pinsAt hb e)))).1
      exact run1_leaf (.ok .next) (cont m' n ys H s0 s1 (by omega) there ag J1 (T.keep _ _ _ stt pin') fr wo)
    · refine run1_bind ?_
      rw [ov.1]
      refine wpAny_mono (T1.item Y.Xg rfl rfl rfl rfl i1 _ s _ H (fun _ _ => False) II (N.fpOk fr1) st1 go) (fun r s1 ⟨u, hr, h1⟩ => ?_) fun _ _ z => z.elim
      subst hr
      refine run1_bind ?_
      rw [ov.1]
      refine wpAny_mono h1 (fun _ s2 ⟨x, H2, I2, r2, y2, st2, fr2⟩ => ?_) fun _ _ z => z.elim
      have I2' := I2.pinned (N.fpOk fr2) (T1.obj _ _ st2)
      refine run1_bind ?_
      rw [ov.1]
      refine wpAny_mono (hg.run _ s2 _ H2 x u _ I2' r2 (step x H2 y2)) (fun _ s3 ⟨σ3, H3, I3, hw3, q3⟩ => ?_) fun _ _ z => z.elim
      refine run1_bind ?_
      rw [ov.1]
      refine wpAny_mono (ht.run _ s3 σ3 H3 _ I3 q3) (fun b s4 ⟨H4, I4, q4⟩ => ?_) fun _ _ z => z.elim
      -- behind the turn
      have back : ∀ {s' : Shared} {H' : Hp}, Inv Y.Xg ((Y.pn s0 ++ pinsAt Y.fp s.heap) ++ pinsAt fp1 s2.heap) σ3 H' s' → Inv Y.Xg (Y.pn s0) (wipe σ2 vs1) H' s' ∧ tn i s'.heap ∧ (∀ b ∈ Y.fp, H' b = none) ∧ tn1 (i1 + 1) s'.heap ∧ ∀ b ∈ fp1, H' b = none := fun {s' H'} I' => by
        have p0 : ∀ b ∈ Y.fp, ∀ o, s.heap.get? b = some o → s'.heap.get? b = some o ∧ H' b = none := fun b hb o e => by
          have z := I'.pin (b, o) (List.mem_append_right _ (List.mem_append_left _ (List.mem_append_right _ (mem_pinsAt hb e))))
          exact ⟨z.1, z.2.1⟩
        have p1 : ∀ b ∈ fp1, ∀ o, s2.heap.get? b = some o → s'.heap.get? b = some o ∧ H' b = none := fun b hb o e => by
          have z := I'.pin (b, o) (List.mem_append_right _ (List.mem_append_right _ (mem_pinsAt hb e)))
          exact ⟨z.1, z.2.1⟩
        refine ⟨(I'.unpinned.unpinned).weak (by rw [← hw3, wipe_length]) fun j v e => ?_, T.keep _ _ _ stt fun b hb o e => (p0 b hb o e).1, fun b hb => ?_, T1.keep _ _ _ st2 fun b hb o e => (p1 b hb o e).1, fun b hb => ?_⟩
        · rw [← hw3] at e
          exact (wipe_some e).1
        · obtain ⟨o, e, _⟩ := T.obj _ _ stt b hb
          exact (p0 b hb o e).2
        · obtain ⟨o, e, _⟩ := T1.obj _ _ st2 b hb
          exact (p1 b hb o e).2
      cases b with
      | false =>
        simp only [Bool.false_eq_true, if_false] at q4 ⊢
        obtain ⟨m', hm, w'⟩ := hN ys H4 q4
        obtain ⟨b1, b2, b3, b4, b5⟩ := back I4
        exact run1_again rfl (ih m' hm n (i1 + 1) ys H4 s0 s4 (by omega) there ag b1 b2 b3 b4 b5 w')
      | true =>
        simp only [if_true] at q4 ⊢
        have hy : ∀ v, yieldOut Y.cenv v = yieldValue v := fun v => by simp only [yieldOut, hco, Bool.false_eq_true, if_false]
        simp only [hy]
        rw [Sem.bind_eq_wrap', Sem.bind_eq_wrap', Sem.wrap_wrap, Sem.wrap_wrap]
        refine run1_wrap ?_
        rw [ov.1]
        refine wpAny_mono (he.run _ s4 σ3 H4 _ I4 q4) (fun v s5 ⟨y, H5, I5, r5, c5⟩ => ?_) fun _ _ z => z.elim
        refine run1_at (run1_yield rfl fun p => .inr ⟨v, _, _, _, p, _, y, σ3, H5, rfl, rfl, I5.unpinned.unpinned, r5, hC _ _ _ _ _ (fun nx => ?_) c5⟩)
        obtain ⟨m', hm, w'⟩ := hN _ H5 nx
        obtain ⟨n', rfl⟩ : ∃ k, n = k + 1 := ⟨n - 1, by omega⟩
        obtain ⟨b1, b2, b3, b4, b5⟩ := back I5
        refine (Y.rdy_iff n' _ _ _ _).mpr fun s6 A6 => ?_
        have there6 : ∀ b ∈ Y.a :: Y.Sx, ∃ o, s6.heap.get? b = some o := fun b hb => by
          rcases List.mem_cons.mp hb with z | z
          · obtain ⟨o, e⟩ := there b hb
            exact ⟨o, A6.keep b o (by rw [z]; exact O.aS) (O.pinned b1 hb e).1⟩
          · obtain ⟨o, e, _⟩ := A6.own b z
            exact ⟨o, e⟩
        have ag6 : ∃ o, s6.heap.get? Y.a = some o ∧ ∀ v, o.data ≠ .cell v := by
          obtain ⟨o, e, d⟩ := ag
          exact ⟨o, A6.keep _ o O.aS (O.pinned b1 List.mem_cons_self e).1, d⟩
        have I6 := O.woken b1 there ag A6 .running rfl
        have st6 : tn i s6.heap := T.keep _ _ _ b2 fun b hb o e => A6.keep b o (fun z => Nat.lt_irrefl _ (Nat.lt_trans (O.fps b hb) (O.new b (List.mem_cons_of_mem _ z)))) e
        have st7 : tn1 (i1 + 1) s6.heap := T1.keep _ _ _ b4 fun b hb o e => A6.keep b o (fun z => N.own b hb (List.mem_cons_of_mem _ z)) e
        exact run1_again rfl (ih m' hm n' (i1 + 1) _ H5 s6 (s6.setGen Y.g .running) (by omega) there6 ag6 I6 st6 b3 st7 b5 w')
theorem gen_turns2 {Y : GEx} {elt tg iter tg1 iter1 : Expr} {ifs ifs1 : List Expr} {scope : Scope} {gpos : Pos} (hge : Y.ge = .GeneratorExp elt [⟨tg, iter, ifs, 0⟩, ⟨tg1, iter1, ifs1, 0⟩] scope gpos) {J : It} {tn : Nat → Heap → Prop} {g g1 : TG} {tt tt1 : TT} {te : TE} {wi1 : TI} {vs vs1 : List Nat} {W : Nat → Nat → List V → Hp → Prop}
    (O : Y.Ok) (T : Turn Y.X.prog Y.X.w Y.X.K tg J Y.fp Y.it tn) (hvs : ∀ v ∈ vs1, v ∈ vs) (hg : PG Y.Xg tg g) (ht : PTs Y.Xg ifs tt) (hi1 : PI Y.Xg tg1 iter1 wi1) (hs1 : ∀ x, foldedSetIterable iter1 Y.cenv x = pure x) (hg1 : PG Y.Xg tg1 g1) (ht1 : PTs Y.Xg ifs1 tt1) (he : PE Y.Xg elt te) (hC : EatsMono Y.C)
    (st : GStep2 W J g tt wi1 g1 tt1 te vs vs1 Y.σ0 Y.C Y.F) : ∀ (m n : Nat) (i : Nat) (ys : List V) (H : Hp) (s0 s : Shared), m ≤ n → (∀ b ∈ Y.a :: Y.Sx, ∃ o, s0.heap.get? b = some o) → (∃ o, s0.heap.get? Y.a = some o ∧ ∀ v, o.data ≠ .cell v) → Inv Y.Xg (Y.pn s0) Y.σ0 H s → tn i s.heap → (∀ b ∈ Y.fp, H b = none) → W i m ys H →
      Run1 Y.M Y.B (Y.Z (Y.Rp n) ys s0) Y.loop (Y.M.den Y.loop) [] s := by
  intro m
  induction m using Nat.strongRecOn with
  | ind m ih =>
    intro n i ys H s0 s hmn there ag I stt fr w
    rw [den_one hge, Sem.onRaise_eq_wrap]
    have ct : compTurn Y.ge 0 (.ref Y.it) .none Y.cenv = compTurn (.GeneratorExp elt [⟨tg, iter, ifs, 0⟩, ⟨tg1, iter1, ifs1, 0⟩] scope gpos) 0 (.ref Y.it) .none Y.cenv := by rw [← hge]
    rw [ct]
    unfold compTurn
    simp only [List.getElem?_cons_succ, List.getElem?_cons_zero, List.getElem?_nil, bne_self_eq_false, Bool.false_eq_true, if_false]
    rw [← hge]
    refine run1_bind (wpAny_standAt ?_)
    rcases st i m ys H w with ⟨stop, fin⟩ | ⟨go, step⟩
    · refine run1_bind (wpAny_mono (T.done Y.Xg rfl rfl rfl rfl i (Y.pn s0) s Y.σ0 H (fun _ _ => False) I (O.fpOk I fr) stt stop) (fun r s1 ⟨hr, I1⟩ => ?_) fun _ _ z => z.elim)
      subst hr
      exact run1_end (.ok .next) (.inl ⟨rfl, Y.σ0, H, I1, fin⟩)
    · refine run1_bind (wpAny_mono (T.item Y.Xg rfl rfl rfl rfl i (Y.pn s0) s Y.σ0 H (fun _ _ => False) I (O.fpOk I fr) stt go) (fun r s1 ⟨u, hr, h1⟩ => ?_) fun _ _ z => z.elim)
      subst hr
      refine run1_bind (wpAny_mono h1 (fun _ s2 ⟨x, H2, I2, r2, y2, st2, fr2⟩ => ?_) fun _ _ z => z.elim)
      have I2' := I2.pinned (O.fpOk I2 fr2) (T.obj _ _ st2)
      refine run1_bind (wpAny_mono (hg.run _ s2 Y.σ0 H2 x u _ I2' r2 (step x H2 y2)) (fun _ s3 ⟨σ3, H3, I3, hw3, q3⟩ => ?_) fun _ _ z => z.elim)
      refine run1_bind (wpAny_mono (ht.run _ s3 σ3 H3 _ I3 q3) (fun b s4 ⟨H4, I4, q4⟩ => ?_) fun _ _ z => z.elim)
      have fpin : ∀ {s' : Shared} {H' : Hp}, Inv Y.Xg (Y.pn s0 ++ pinsAt Y.fp s2.heap) σ3 H' s' → tn (i + 1) s'.heap ∧ ∀ b ∈ Y.fp, H' b = none := fun {s' H'} I' => by
        have pin' : ∀ b ∈ Y.fp, ∀ o, s2.heap.get? b = some o → s'.heap.get? b = some o ∧ H' b = none := fun b hb o e => by
          have z := I'.pin (b, o) (List.mem_append_right _ (List.mem_append_right _ (mem_pinsAt hb e)))
          exact ⟨z.1, z.2.1⟩
        refine ⟨T.keep _ _ _ st2 fun b hb o e => (pin' b hb o e).1, fun b hb => ?_⟩
        obtain ⟨o, e, _⟩ := T.obj _ _ st2 b hb
        exact (pin' b hb o e).2
      have wk : ∀ {s' : Shared} {H' : Hp} {pins : List (Addr × Obj)}, Inv Y.Xg pins σ3 H' s' → Inv Y.Xg pins Y.σ0 H' s' := fun {s' H' pins} I' => by
        have hl : Y.σ0.length = σ3.length := by rw [← hw3, wipe_length]
        refine I'.weak hl fun j v e => ?_
        rw [← hw3] at e
        exact (wipe_some e).1
      cases b with
      | false =>
        simp only [Bool.false_eq_true, if_false] at q4 ⊢
        obtain ⟨m', hm, w'⟩ := q4
        exact run1_again rfl (ih m' hm n (i + 1) ys H4 s0 s4 (by omega) there ag (wk I4.unpinned) (fpin I4).1 (fpin I4).2 w')
      | true =>
        simp only [if_true] at q4 ⊢
        refine run1_bind (wpAny_mono (hi1.run _ s4 σ3 H4 _ I4 q4) (fun xv s5 h5 => ?_) fun _ _ z => z.elim)
        refine run1_bind (wpAny_standAt (run1_bind (wpAny_of_eq (hs1 xv) (run1_bind (wpAny_holding (wpAny_mono h5 (fun itv s6 h6 => ?_) fun _ _ z => z.elim))))))
        obtain ⟨it1, fp1, tn1, J1, H6, rfl, I6, T1, st1, f1, W1, ⟨m1, hm1, w1⟩, st'⟩ := h6
        have N : InIt Y fp1 :=
          { loc := fun b hb => (f1 b hb).2.1
            fs := fun b hb => (f1 b hb).2.2.1
            sz := fun b hb => (f1 b hb).2.2.2.1
            cel := fun b hb => (f1 b hb).2.2.2.2.1
            own := fun b hb z => by
              obtain ⟨o, e⟩ := there b z
              exact (f1 b hb).2.2.2.2.2 (b, o) (List.mem_append_right _ (List.mem_append_left _ (mem_pinsAt z e))) rfl
            out := fun b hb z => by
              obtain ⟨o, e, _⟩ := T.obj _ _ st2 b z
              exact (f1 b hb).2.2.2.2.2 (b, o) (List.mem_append_right _ (List.mem_append_right _ (mem_pinsAt z e))) rfl }
        have I7 : Inv Y.Xg (Y.pn s0) (wipe σ3 vs1) H6 s6 := (I6.unpinned).weak (wipe_length _ _) fun j v e => (wipe_some e).1
        rw [Sem.bind_eq_wrap', Sem.wrap_wrap]
        unfold runOwn run
        rw [Sem.onRaise_eq_wrap, Sem.wrap_wrap]
        show Run1 _ _ _ _ (.call (.compStart Y.ge 1 (.ref it1) .none Y.cenv) none false [] _) [] s6
        refine run1_call fun p => ?_
        have inner := fun (k : Result → Sem PySem.Fin) hk => gen_inner (Wo := fun m' ys H => m' < m ∧ W (i + 1) m' ys H) (k := k) (l := []) (kp := []) (p := p) hge O T T1 N hw3 hvs hg1 ht1 he hC (fun i1 m1 ys H w1 => by
          rcases st' i1 m1 ys H w1 with ⟨z1, m', z2, z3, z4⟩ | z
          · exact .inl ⟨z1, m', z2, z3, z4⟩
          · exact .inr z) hk m1 n 0 ys H6 s0 s6 (by omega) there ag I7 (fpin I6).1 (fpin I6).2 st1 (fun b hb => (f1 b hb).1) w1
        rw [den_in0 hge]
        have e : (clausesOf Y.ge)[1]? = some ⟨tg1, iter1, ifs1, 0⟩ := by rw [hge]; rfl
        unfold compStart
        rw [Sem.onRaise_eq_wrap, e]
        refine run1_bind (wpAny_askSetting ?_)
        split
        · exact run1_again rfl (inner _ fun m' n' ys' H' s0' s' h1 h2 h3 h4 h5 h6 h7 => run1_again rfl (ih m' h7.1 n' (i + 1) ys' H' s0' s' h1 h2 h3 h4 h5 h6 h7.2))
        · refine run1_bind (wpAny_rule (run1_bind (wpAny_standAt (run1_bind (T1.self _ 0 s6 _ _ st1 (run1_again rfl (inner _ fun m' n' ys' H' s0' s' h1 h2 h3 h4 h5 h6 h7 => ?_)))))))
          exact run1_again rfl (ih m' h7.1 n' (i + 1) ys' H' s0' s' h1 h2 h3 h4 h5 h6 h7.2)
/-- from the start -/
theorem gen_first {Y : GEx} {elt tg iter : Expr} {ifs : List Expr} {scope : Scope} {gpos : Pos} {cs : List Comprehension} (hge : Y.ge = .GeneratorExp elt (⟨tg, iter, ifs, 0⟩ :: cs) scope gpos) {J : It} {tn : Nat → Heap → Prop} {Z : End → Shared → Prop} (T : Turn Y.X.prog Y.X.w Y.X.K tg J Y.fp Y.it tn) (s : Shared) (stt : tn 0 s.heap)
    (loop : Run1 Y.M Y.B Z Y.loop (Y.M.den Y.loop) [] s) : Run1 Y.M Y.B Z (.compStart Y.ge 0 (.ref Y.it) .none Y.cenv) (Y.M.den (.compStart Y.ge 0 (.ref Y.it) .none Y.cenv)) [] s := by
  rw [den_start hge]
  have e : (clausesOf Y.ge)[0]? = some ⟨tg, iter, ifs, 0⟩ := by rw [hge]; rfl
  unfold compStart
  rw [Sem.onRaise_eq_wrap, e]
  show Run1 _ _ _ _ ((ask >>= _).wrap _ _ _ _) [] s
  refine run1_bind (wpAny_askSetting ?_)
  split
  · exact run1_again rfl loop
  · first
      | exact run1_bind (wpAny_rule (run1_bind (wpAny_standAt (run1_bind (T.self _ 0 s _ _ stt (run1_again rfl loop))))))
      | (refine run1_bind (wpAny_rule ?_); show Run1 _ _ _ _ ((standAt iter.pos >>= _).wrap _ _ _ _) [] s; exact run1_bind (wpAny_standAt (run1_bind (T.self _ 0 s _ _ stt (run1_again rfl loop)))))

/-! ### making it -/
/-- the generator a (number g) in s5, made at s4 over the iterator it -/
structure Made (X : Cx) (pins : List (Addr × Obj)) (σ : L2.St) (ge tg : Expr) (scope : Scope) (J : It) (H2 : Hp) (s4 : Shared) (cenv : Env) (fp : List Addr) (it : Addr) (tn : Nat → Heap → Prop) (a g : Addr) (s5 : Shared) : Prop where
  inv : Inv X pins σ H2 s4
  fps : ∀ b ∈ fp, FpOk X pins H2 b ∧ b < s4.heap.objs.size
  turn : Turn X.prog X.w X.K tg J fp it tn
  at0 : tn 0 s4.heap
  env : ∃ code, cenv = genEnv scope (cloFrom X.env.cells scope.names []) s4.heap.objs.size code builtinsNs X.env
  os : s5.os = s4.os
  gens : s5.gens = s4.gens.push (.fresh (.compStart ge 0 (.ref it) .none cenv))
  num : g = s4.gens.size
  drawn : s5.drawn = s4.drawn
  isg : s5.heap.IsGen a g
  new : s4.heap.objs.size < a
  lt : s5.heap.objs.size = a + 1
  keep : ∀ b o, s4.heap.get? b = some o → s5.heap.get? b = some o
  ns : ∃ m, s5.heap.Ns s4.heap.objs.size m
section
variable {X : Cx} {pins : List (Addr × Obj)} {σ : L2.St} {H : Hp} {s : Shared}
theorem make_any {M : Model} {A : Around} {E : Value → Shared → Prop} {s : Shared} {env : Env} {elt tg iter : Expr} {ifs : List Expr} {cs : List Comprehension} {scope : Scope} {cl : List (Str × Addr)} {pos : Pos} {Q : Value → Shared → Prop} (G : GScp scope) (hcl : closureFor scope env = pure cl) (hroom : A.depth < recursionLimit)
    (h : wpAny M A (eval iter env) (fun xv s1 => wpAny M A (pyIter xv) (fun it s2 => s2.heap.NoLimit ∧ wpAny M A (genexprCode env pos (env.qual ++ "<genexpr>") scope) (fun code s3 => wpAny M A (builtinsFor env.globals env.builtins) (fun bi s4 =>
      ∀ h', h'.Ns s4.heap.objs.size (fun y => if y = ".0" then some it else none) → Heap.SameBut s4.heap.objs.size (s4.heap.push { cls := .type "frame", data := .dict #[] }) h' →
        Q (.ref h'.objs.size) { s4 with gens := s4.gens.push (.fresh (.compStart (.GeneratorExp elt (⟨tg, iter, ifs, 0⟩ :: cs) scope pos) 0 it .none (genEnv scope cl s4.heap.objs.size code bi env))), toks := s4.toks + 1 + 1 + 1, heap := h'.push { cls := .type "generator", data := .fields #[.int s4.gens.size 0, .str "<genexpr>" (s4.toks + 1), .str (env.qual ++ "<genexpr>") (s4.toks + 1 + 1)] } }) E s3) E s2) E s1) E s)
    (hs : ∀ x, genFold iter env x = pure x) : wpAny M A (eval (.GeneratorExp elt (⟨tg, iter, ifs, 0⟩ :: cs) scope pos) env) Q E s := by
  rw [arm_eval_GeneratorExp]
  simp only [G.co, Bool.false_eq_true, if_false]
  refine wpAny_bind (thn h fun xv s1 h1 => wpAny_bind (wpAny_standAt (wpAny_bind (wpAny_of_eq (a := xv) ?_ ?_))))
  · have := hs xv
    unfold genFold at this
    cases iter <;> exact this
  refine wpAny_bind (wpAny_holding (thn h1 fun it s2 h2 => wpAny_bind (wpAny_enterFrame h2.1 hroom ?_)))
  rw [hcl]
  refine wpAny_bind (wpAny_pure (wpAny_bind (thn h2.2 fun code s3 h3 => wpAny_bind (thn h3 fun bi s4 h4 => ?_))))
  have hb : ∀ y ∈ ([((".0" : Str), it)] : List (Str × Value)), scope.names.lookup y.1 = some NameKind.local := fun y hy => by
    rw [List.mem_singleton.mp hy]
    exact G.dot
  refine wpAny_bind (wpAny_newFunctionEnv G.nocell hb (fun h' hn' hs' => ?_) G.kind)
  have e : (fun y : Str => ([((".0" : Str), it)] : List (Str × Value)).reverse.lookup y) = fun y : Str => if y = (".0" : Str) then some it else none := by
    funext y
    by_cases hy : y = ".0"
    · subst hy
      simp
    · have : (y == (".0" : Str)) = false := by simpa using hy
      simp [List.lookup, this, hy]
  rw [e] at hn'
  simp only [newGenerator, newFields]
  exact wpAny_bind (wpAny_newGen (wpAny_bind (wpAny_mkText (wpAny_bind (wpAny_mkText (wpAny_newObj_type (h4 h' hn' hs') (by size_fits)))))))
theorem gen_made {c P : Addr} {elt tg iter : Expr} {ifs : List Expr} {cs : List Comprehension} {scope : Scope} {own : List (Str × Nat)} {gpos : Pos} {wi : TI} {k : Nat} {R : It → Hp → Prop} {Q' : Value → Shared → Prop} (hr : Room k X.A) (TB : LamX.TabB X.base X.mg c P) (hcode : X.env.code = .ref c)
    (G : GScp scope) (ok : BlkOk X.N X.env.scope scope own) (hi : PI X tg iter wi) (hs : ∀ v, genFold iter X.env v = pure v) (I : Inv X pins σ H s) (h : wi σ H fun J H1 => TabG H1 P ∧ R J H1)
    (hQ : ∀ J H1 H2 s4 cenv fp it tn a g s5, R J H1 → Tabbed P H1 H2 → Made X pins σ (.GeneratorExp elt (⟨tg, iter, ifs, 0⟩ :: cs) scope gpos) tg scope J H2 s4 cenv fp it tn a g s5 → Q' (.ref a) s5) :
    wpAny (model X.prog X.w) X.A (eval (.GeneratorExp elt (⟨tg, iter, ifs, 0⟩ :: cs) scope gpos) X.env) Q' X.xe s := by
  refine make_any G (closure_ok (blk_free ok I.ok)) hr.depth ?_ hs
  refine thn (hi.run pins s σ H _ I h) fun xv s1 h1 => thn h1 fun itv s2 h2 => ?_
  obtain ⟨it, fp, tn, J, H1, rfl, I2, T, st2, f2, ⟨ps, hP, htr⟩, q⟩ := h2
  refine ⟨I2.nolimit, ?_⟩
  have hPs : s2.heap.get? P = some { cls := .none, data := .fields ps } := I2.hok P _ hP
  have cd : PySem.W.CodeHd s2.heap c P := TB.code.keeps fun b u e => I2.bk b u e
  have nfP : ∀ b ∈ fp, b ≠ P := fun b hb z => by
    have e := (f2 b hb).1
    rw [z, hP] at e
    cases e
  have cont : ∀ (code : Value) (h3 : Heap) (tk : Nat) (ps' : Array Value), Heap.ExtBut P s2.heap h3 → h3.get? P = some { cls := .none, data := .fields ps' } → (∃ more, ps' = ps ++ more) → TriplesOk ps'.toList →
      wpAny (model X.prog X.w) X.A (builtinsFor X.env.globals X.env.builtins) (fun bi s₄ => ∀ h', h'.Ns s₄.heap.objs.size (fun y => if y = ".0" then some (.ref it) else none) → Heap.SameBut s₄.heap.objs.size (s₄.heap.push { cls := .type "frame", data := .dict #[] }) h' →
          Q' (.ref h'.objs.size) { s₄ with
            gens := s₄.gens.push (.fresh (.compStart (.GeneratorExp elt (⟨tg, iter, ifs, 0⟩ :: cs) scope gpos) 0 (.ref it) .none (genEnv scope (cloFrom X.env.cells scope.names []) s₄.heap.objs.size code bi X.env))),
            toks := s₄.toks + 1 + 1 + 1,
            heap := h'.push { cls := .type "generator", data := .fields #[.int s₄.gens.size 0, .str "<genexpr>" (s₄.toks + 1), .str (X.env.qual ++ "<genexpr>") (s₄.toks + 1 + 1)] } }) X.xe { s2 with heap := h3, toks := tk } := by
    intro code h3 tk ps' hx hP3 hmore ht3
    obtain ⟨bm, ob, e1, e2, e3, e4, e5, e6, e7, e8⟩ := TB.bm
    have keep3 : ∀ b u, b ≠ P → s2.heap.get? b = some u → h3.get? b = some u := fun b u hb e => hx b u hb e
    refine wpAny_builtinsFor (m := X.mg) (by rw [I2.ok.glob]; exact (I2.mod.glob.keeps I2.bk).extBut hx TB.gP) e1 e2 (keep3 _ _ e4 (I2.bk _ _ e5)) e6 e7 e8 ?_
    intro h' hn' hs'
    obtain ⟨more, em⟩ := hmore
    have J4 := inv_tab (more := more) (h' := h3) (g' := s2.gens) (d' := s2.drawn) (t' := tk) I2 hP (fun b u hb e => keep3 b u hb e) (by rw [← em]; exact hP3) I2.bare
    have J4 : Inv X pins σ (upd H1 P (.tbl (ps ++ more))) { s2 with heap := h3, toks := tk } := J4
    have keep' : ∀ b o, h3.get? b = some o → h'.get? b = some o := fun b o e => hs'.extBut b o (Nat.ne_of_lt (Heap.lt_size e)) (Heap.get?_push_of_some _ e)
    have hsz : h'.objs.size = h3.objs.size + 1 := by rw [hs'.1, Heap.size_push]
    have nfpH : ∀ b ∈ fp, upd H1 P (.tbl (ps ++ more)) b = none := fun b hb => by rw [upd_ne (nfP b hb)]; exact (f2 b hb).1
    refine hQ J H1 (upd H1 P (.tbl (ps ++ more))) { s2 with heap := h3, toks := tk } (genEnv scope (cloFrom X.env.cells scope.names []) h3.objs.size code builtinsNs X.env) fp it tn _ s2.gens.size _ q ⟨⟨ps ++ more, upd_same, by rw [← em]; exact ht3⟩, fun b hb => upd_ne hb⟩
      { inv := J4, fps := fun b hb => ?_, turn := T, at0 := ?_, env := ⟨code, rfl⟩, os := rfl, gens := rfl, num := rfl, drawn := rfl, isg := ⟨_, _, _, Heap.get?_push_size _ rfl, rfl, rfl, rfl⟩, new := ?_, lt := ?_, keep := fun b o e => Heap.get?_push_of_some _ (keep' b o e), ns := ⟨_, hn'.push _⟩ }
    · obtain ⟨o, e, _⟩ := T.obj _ _ st2 b hb
      exact ⟨⟨nfpH b hb, (f2 b hb).2⟩, Heap.lt_size (keep3 b o (nfP b hb) e)⟩
    · exact T.keep _ _ _ st2 fun b hb o e => keep3 b o (nfP b hb) e
    · show h3.objs.size < h'.objs.size
      rw [hsz]; exact Nat.lt_succ_self _
    · exact Heap.size_push ..
  cases hf : codeAmong gpos ps.toList with
  | none =>
    refine wpAny_genexprCodeX hcode (cd.code hPs htr) (cd.tab hPs) hf fun c' h' tk hx hge hlt hco' _ htab' _ => ?_
    obtain ⟨o1, vs, f1, tf, fl, tg, inF, tx, tt, op, _, _, _, _, _, _, _, _, _, htr', _⟩ := hco'
    exact cont _ h' tk _ hx htab'.2 ⟨_, rfl⟩ htr'
  | some cv =>
    refine wpAny_genexprCode_hit hcode (cd.code hPs htr) hf ?_
    exact cont cv s2.heap s2.toks ps (Heap.ExtBut.refl _ _) hPs ⟨#[], by simp⟩ htr
end

/-! ### ready -/
theorem Aft.refl {s : Shared} (hb : AllBare s.gens) : Aft [] s s := ⟨rfl, hb, fun _ _ _ e => e, fun b z => by cases z⟩
theorem over_fr {B : Around} {ge elt : Expr} {cs : List Comprehension} {scope : Scope} {gpos : Pos} {it : Value} {cenv : Env} {l : List Env} (hge : ge = .GeneratorExp elt cs scope gpos) (h : B.frames = some l) :
    (B.over (.compLoop ge 0 it .none cenv) []).frames = some (cenv :: l) := by
  subst hge
  obtain ⟨b1, b2, b3, b4, b5⟩ := B
  cases h
  rfl
/-- room in the generator's frame -/
structure NearA (B A : Around) : Prop where
  hd : B.handled = A.handled
  fr : B.frames = A.frames
  dp : B.depth ≤ A.depth + 2
  un : B.units ≤ A.units + 12
theorem NearA.room {B A : Around} {k : Nat} {ge elt : Expr} {cs : List Comprehension} {scope : Scope} {gpos : Pos} {it : Value} {cenv : Env} (hge : ge = .GeneratorExp elt cs scope gpos) (n : NearA B A) (r : Room (k + 1) A) : Room k (B.over (.compLoop ge 0 it .none cenv) []) := by
  subst hge
  obtain ⟨n1, n2, n3, n4⟩ := n
  obtain ⟨r1, r2, r3⟩ := r
  refine ⟨?_, ?_, ?_⟩
  · show B.handled = none
    rw [n1]; exact r1
  · show B.depth + 0 + 1 + 3 * k + 5 < _
    omega
  · show B.units + 0 + 3 + 16 * k + 200 < _
    omega
theorem nearA2 (A : Around) : NearA A.in1.in1 A := ⟨rfl, rfl, Nat.le_add_right _ _, by show A.units + 1 + 1 ≤ _; omega⟩
section
variable {X : Cx} {pins : List (Addr × Obj)} {σ : L2.St} {H2 : Hp} {s4 s5 : Shared}
abbrev mkY (X : Cx) (s4 : Shared) (H2 : Hp) (cenv : Env) (fp : List Addr) (B : Around) (σ0 : L2.St) (ge : Expr) (it a : Addr) (g : Nat) (Sx : List Addr) (C : Eats) (F : List V → Hp → Prop) : GEx :=
  ⟨X, s4, H2, cenv, fp, B, σ0, ge, it, a, g, Sx, C, F⟩
theorem gen_rdy0 {ge elt tg iter : Expr} {ifs : List Expr} {cs : List Comprehension} {scope : Scope} {own : List (Str × Nat)} {gpos : Pos} {J : It} {cenv : Env} {fp : List Addr} {it a g : Addr} {tn : Nat → Heap → Prop} {B : Around} {k : Nat} {C : Eats} {F : List V → Hp → Prop} {Sx : List Addr} (hge : ge = .GeneratorExp elt (⟨tg, iter, ifs, 0⟩ :: cs) scope gpos)
    (hr : Room (k + 1) X.A) (hB : NearA B X.A) (G : GScp scope) (ok : BlkOk X.N X.env.scope scope own) (hN : X.N.Nodup) (M : Made X pins σ ge tg scope J H2 s4 cenv fp it tn a g s5)
    (hS : ∀ b ∈ Sx, a < b) (m : Nat) (turns : (mkY X s4 H2 cenv fp B (wipe σ (own.map (·.2))) ge it a g Sx C F).Ok → Room k (B.over (.compLoop ge 0 (.ref it) .none cenv) []) → ∀ s0 s, (∀ b ∈ a :: Sx, ∃ o, s0.heap.get? b = some o) → (∃ o, s0.heap.get? a = some o ∧ ∀ v, o.data ≠ .cell v) →
      Inv (mkY X s4 H2 cenv fp B (wipe σ (own.map (·.2))) ge it a g Sx C F).Xg ((mkY X s4 H2 cenv fp B (wipe σ (own.map (·.2))) ge it a g Sx C F).pn s0) (wipe σ (own.map (·.2))) H2 s → tn 0 s.heap → (∀ b ∈ fp, H2 b = none) →
      Run1 (model X.prog X.w) B ((mkY X s4 H2 cenv fp B (wipe σ (own.map (·.2))) ge it a g Sx C F).Z ((mkY X s4 H2 cenv fp B (wipe σ (own.map (·.2))) ge it a g Sx C F).Rp m) [] s0) (.compLoop ge 0 (.ref it) .none cenv) ((model X.prog X.w).den (.compLoop ge 0 (.ref it) .none cenv)) [] s) :
    (mkY X s4 H2 cenv fp B (wipe σ (own.map (·.2))) ge it a g Sx C F).Ok ∧
    (mkY X s4 H2 cenv fp B (wipe σ (own.map (·.2))) ge it a g Sx C F).Rdy m [] H2 (.fresh (.compStart ge 0 (.ref it) .none cenv)) s5 := by
  obtain ⟨code, hce⟩ := M.env
  have hfree := blk_free ok M.inv.ok
  have O : (mkY X s4 H2 cenv fp B (wipe σ (own.map (·.2))) ge it a g Sx C F).Ok :=
    { new := fun b hb => by
        rcases List.mem_cons.mp hb with z | z
        · rw [z]; exact M.new
        · exact Nat.lt_trans M.new (hS b z)
      loc := by
        show cenv.locals = _
        rw [hce]; rfl
      cel := fun y c e => by
        have e : cenv.cells.lookup y = some c := e
        rw [hce] at e
        obtain ⟨v, z⟩ := M.inv.cell y c (NdefX.clo_cm hfree e)
        exact z.lt
      fps := fun b hb => (M.fps b hb).2
      aS := fun z => Nat.lt_irrefl _ (hS _ z)
      co := by
        show cenv.scope.isCoroutine = false
        rw [hce]; exact G.co }
  refine ⟨O, (GEx.rdy_iff _ m _ _ _ _).mpr fun s6 A6 => ?_⟩
  have R := hB.room (k := k) (it := Value.ref it) (cenv := cenv) hge hr
  have hfrm : (B.over (.compLoop ge 0 (.ref it) .none cenv) []).frames = some (cenv :: X.stack) := over_fr hge (by rw [hB.fr]; exact M.inv.ok.frames)
  have hS2 : ∀ b o, s5.heap.get? b = some o → b < a + 1 := fun b o e => by
    have := Heap.lt_size e
    rw [M.lt] at this
    exact this
  have kp5 : ∀ b o, s5.heap.get? b = some o → s6.heap.get? b = some o := fun b o e => A6.keep b o (fun z => by
    have h1 := hS b z
    have h2 := hS2 b o e
    exact Nat.lt_irrefl _ (Nat.lt_of_lt_of_le h1 (Nat.le_of_lt_succ h2))) e
  have kp : ∀ b o, s4.heap.get? b = some o → s6.heap.get? b = some o := fun b o e => kp5 b o (M.keep b o e)
  have agn : ∃ o, s6.heap.get? a = some o ∧ ∀ v, o.data ≠ .cell v := by
    obtain ⟨o, n1, n2, e, c, d, _⟩ := M.isg
    exact ⟨o, kp5 _ _ e, fun v z => by rw [d] at z; cases z⟩
  have there : ∀ b ∈ a :: Sx, ∃ o, s6.heap.get? b = some o := fun b hb => by
    rcases List.mem_cons.mp hb with z | z
    · obtain ⟨o, e, _⟩ := agn
      exact ⟨o, by rw [z]; exact e⟩
    · obtain ⟨o, e, _⟩ := A6.own b z
      exact ⟨o, e⟩
  obtain ⟨mm, hns⟩ := M.ns
  have hns6 : s6.heap.Ns s4.heap.objs.size mm := by
    obtain ⟨ob, es, ep, ho, r⟩ := hns
    exact ⟨ob, es, ep, kp5 _ ob ho, r⟩
  have ho6 : s6.os = s4.os := A6.os.trans M.os
  have I0 := gen_start (code := code) (A := B.over (.compLoop ge 0 (.ref it) .none cenv) []) (g' := (s6.setGen g .running).gens) (d' := s6.drawn) (t' := s6.toks) M.inv ok G hN M.fps R.hd (by rw [← hce]; exact hfrm) hns6 kp (allBare_setGen A6.bare rfl)
  rw [← hce] at I0
  have I1 : Inv (mkY X s4 H2 cenv fp B (wipe σ (own.map (·.2))) ge it a g Sx C F).Xg [] (wipe σ (own.map (·.2))) H2 (s6.setGen g .running) := by
    obtain ⟨h6, g6, d6, t6, o6⟩ := s6
    have ho6 : o6 = s4.os := ho6
    subst ho6
    exact I0
  have I2 : Inv (mkY X s4 H2 cenv fp B (wipe σ (own.map (·.2))) ge it a g Sx C F).Xg ((mkY X s4 H2 cenv fp B (wipe σ (own.map (·.2))) ge it a g Sx C F).pn s6) (wipe σ (own.map (·.2))) H2 (s6.setGen g .running) := by
    refine I1.pins_of fun p hp => ?_
    have hp : p ∈ pinsAt (a :: Sx) s6.heap := hp
    obtain ⟨hb, e⟩ := of_pinsAt hp
    have h1 := O.new _ hb
    refine ⟨e, M.inv.hok.fresh (Nat.le_of_lt h1), fun z => ?_, fun z => ?_, ?_⟩
    · have z : p.1 = cenv.locals := z
      rw [z, show cenv.locals = _ from O.loc] at h1
      exact Nat.lt_irrefl _ h1
    · obtain ⟨_, ob, hob, _⟩ := I1.ok.funs.mem z
      exact absurd (Nat.lt_trans h1 (Heap.lt_size hob)) (Nat.lt_irrefl _)
    · rcases List.mem_cons.mp hb with z | z
      · obtain ⟨oa, ea, da⟩ := agn
        rw [z, ea] at e
        cases e
        exact da
      · obtain ⟨ob, eb, db⟩ := A6.own _ z
        rw [e] at eb
        cases eb
        exact db
  have st6 := M.turn.keep _ _ _ M.at0 fun b hb o e => kp b o e
  have stY : tn 0 (s6.setGen g .running).heap := st6
  exact gen_first (Y := mkY X s4 H2 cenv fp B (wipe σ (own.map (·.2))) ge it a g Sx C F) hge M.turn (s6.setGen g .running) stY (turns O R s6 (s6.setGen g .running) there agn I2 stY fun b hb => (M.fps b hb).1.1)
theorem gen_rdy {elt tg iter : Expr} {ifs : List Expr} {scope : Scope} {own : List (Str × Nat)} {gpos : Pos} {J : It} {cenv : Env} {fp : List Addr} {it a g : Addr} {tn : Nat → Heap → Prop} {B : Around} {k : Nat} {gt : TG} {tt : TT} {te : TE} {W : Nat → Nat → List V → Hp → Prop} {C : Eats} {F : List V → Hp → Prop} {Sx : List Addr}
    (hr : Room (k + 1) X.A) (hB : NearA B X.A) (G : GScp scope) (ok : BlkOk X.N X.env.scope scope own) (hN : X.N.Nodup) (M : Made X pins σ (.GeneratorExp elt [⟨tg, iter, ifs, 0⟩] scope gpos) tg scope J H2 s4 cenv fp it tn a g s5)
    (hg : ∀ A, Room k A → PG (gcx X s4 H2 cenv fp A) tg gt) (ht : ∀ A, Room k A → PTs (gcx X s4 H2 cenv fp A) ifs tt) (he : ∀ A, Room k A → PE (gcx X s4 H2 cenv fp A) elt te)
    (hS : ∀ b ∈ Sx, a < b) (hC : EatsMono C) (st : GStep W J gt tt te (own.map (·.2)) (wipe σ (own.map (·.2))) C F) (m : Nat) (w0 : W 0 m [] H2) :
    (mkY X s4 H2 cenv fp B (wipe σ (own.map (·.2))) (.GeneratorExp elt [⟨tg, iter, ifs, 0⟩] scope gpos) it a g Sx C F).Ok ∧
    (mkY X s4 H2 cenv fp B (wipe σ (own.map (·.2))) (.GeneratorExp elt [⟨tg, iter, ifs, 0⟩] scope gpos) it a g Sx C F).Rdy m [] H2 (.fresh (.compStart (.GeneratorExp elt [⟨tg, iter, ifs, 0⟩] scope gpos) 0 (.ref it) .none cenv)) s5 :=
  gen_rdy0 rfl hr hB G ok hN M hS m fun O R s0 s th ag I stt fr =>
    gen_turns (Y := mkY X s4 H2 cenv fp B (wipe σ (own.map (·.2))) (.GeneratorExp elt [⟨tg, iter, ifs, 0⟩] scope gpos) it a g Sx C F) rfl O M.turn (hg _ R) (ht _ R) (he _ R) hC st m m 0 [] H2 s0 s (Nat.le_refl _) th ag I stt fr w0
theorem gen_rdy2 {elt tg iter tg1 iter1 : Expr} {ifs ifs1 : List Expr} {scope : Scope} {own : List (Str × Nat)} {vs1 : List Nat} {gpos : Pos} {J : It} {cenv : Env} {fp : List Addr} {it a g : Addr} {tn : Nat → Heap → Prop} {B : Around} {k : Nat} {gt g1 : TG} {tt tt1 : TT} {te : TE} {wi1 : TI} {W : Nat → Nat → List V → Hp → Prop} {C : Eats} {F : List V → Hp → Prop} {Sx : List Addr}
    (hr : Room (k + 1) X.A) (hB : NearA B X.A) (G : GScp scope) (ok : BlkOk X.N X.env.scope scope own) (hN : X.N.Nodup) (hvs : ∀ v ∈ vs1, v ∈ own.map (·.2)) (M : Made X pins σ (.GeneratorExp elt [⟨tg, iter, ifs, 0⟩, ⟨tg1, iter1, ifs1, 0⟩] scope gpos) tg scope J H2 s4 cenv fp it tn a g s5)
    (hg : ∀ A, Room k A → PG (gcx X s4 H2 cenv fp A) tg gt) (ht : ∀ A, Room k A → PTs (gcx X s4 H2 cenv fp A) ifs tt) (hi1 : ∀ A, Room k A → PI (gcx X s4 H2 cenv fp A) tg1 iter1 wi1) (hs1 : ∀ x, foldedSetIterable iter1 cenv x = pure x) (hg1 : ∀ A, Room k A → PG (gcx X s4 H2 cenv fp A) tg1 g1) (ht1 : ∀ A, Room k A → PTs (gcx X s4 H2 cenv fp A) ifs1 tt1) (he : ∀ A, Room k A → PE (gcx X s4 H2 cenv fp A) elt te)
    (hS : ∀ b ∈ Sx, a < b) (hC : EatsMono C) (st : GStep2 W J gt tt wi1 g1 tt1 te (own.map (·.2)) vs1 (wipe σ (own.map (·.2))) C F) (m : Nat) (w0 : W 0 m [] H2) :
    (mkY X s4 H2 cenv fp B (wipe σ (own.map (·.2))) (.GeneratorExp elt [⟨tg, iter, ifs, 0⟩, ⟨tg1, iter1, ifs1, 0⟩] scope gpos) it a g Sx C F).Ok ∧
    (mkY X s4 H2 cenv fp B (wipe σ (own.map (·.2))) (.GeneratorExp elt [⟨tg, iter, ifs, 0⟩, ⟨tg1, iter1, ifs1, 0⟩] scope gpos) it a g Sx C F).Rdy m [] H2 (.fresh (.compStart (.GeneratorExp elt [⟨tg, iter, ifs, 0⟩, ⟨tg1, iter1, ifs1, 0⟩] scope gpos) 0 (.ref it) .none cenv)) s5 :=
  gen_rdy0 rfl hr hB G ok hN M hS m fun O R s0 s th ag I stt fr =>
    gen_turns2 (Y := mkY X s4 H2 cenv fp B (wipe σ (own.map (·.2))) (.GeneratorExp elt [⟨tg, iter, ifs, 0⟩, ⟨tg1, iter1, ifs1, 0⟩] scope gpos) it a g Sx C F) rfl O M.turn hvs (hg _ R) (ht _ R) (hi1 _ R) hs1 (hg1 _ R) (ht1 _ R) (he _ R) hC st m m 0 [] H2 s0 s (Nat.le_refl _) th ag I stt fr w0
end
/-- out of the generator's frame -/
theorem GEx.out {Y : GEx} {pins ps : List (Addr × Obj)} {σ σ' : L2.St} {H' : Hp} {s1 s2 : Shared} (I4 : Inv Y.X pins σ Y.H1 Y.s4) (hf : ∀ b ∈ Y.fp, FpOk Y.X pins Y.H1 b) (I : Inv Y.Xg ps σ' H' s1) (A : Aft [] s1 s2) : Inv Y.X pins σ H' s2 := by
  have k : ∀ b o, s1.heap.get? b = some o → s2.heap.get? b = some o := fun b o e => A.keep b o (by simp) e
  exact I4.call' (ch := Y.fp) (A.os.trans I.os) (I.base.trans (Un.kept k)) (I.hok.kept k) A.bare fun b hb => ⟨(hf b hb).2.2.2.1, (hf b hb).2.1, (hf b hb).2.2.2.2.1, (hf b hb).2.2.2.2.2⟩
/-- next(g) -/
theorem GEx.next {Y : GEx} {A : Around} {Q : Option Value → Shared → Prop} {E : Value → Shared → Prop} {n : Nat} {ys : List V} {H : Hp} {gs : GenState} {sp s : Shared} (O : Y.Ok) (hB : Y.B = A.in1) (hh : A.handled = none) (hroom : A.depth < recursionLimit) (nl : s.heap.NoLimit)
    (rd : Y.Rdy n ys H gs sp) (af : Aft Y.Sx sp s) (hg : s.heap.IsGen Y.a Y.g) (hgs : s.gens[Y.g]? = some gs) (hlt : Y.g < s.gens.size)
    (qN : ∀ σ' H' s1 s2, Inv Y.Xg (Y.pn s) σ' H' s1 → Y.F ys H' → Aft [] s1 s2 → Q none s2)
    (qS : ∀ v y σ' H' s1 gs', Inv Y.Xg (Y.pn s) σ' H' s1 → RelV y v → Y.C ys y H' (Y.Rp n (ys ++ [y]) H' gs' s1) → gs'.bare = true → s.gens.size ≤ s1.gens.size → Q (some v) (s1.setGen Y.g gs')) : wpAny Y.M A (pyNext (.ref Y.a)) Q E s := by
  have go := (GEx.rdy_iff Y n ys H gs sp).mp rd s af
  rw [hB] at go
  refine next1 hh nl hroom hg hgs go fun e s1 z hsz => ?_
  rcases z with ⟨rfl, σ', H', I, f⟩ | ⟨v, l, k, c, p, fs, y, σ', H', rfl, q, I, r, cc⟩
  · exact .inl ⟨rfl, fun h' kk => qN σ' H' s1 _ I f ⟨rfl, allBare_setGen I.bare rfl, fun b o _ e => kk b o e, fun b z => by cases z⟩⟩
  · exact .inr ⟨v, l, k, c, p, fs, rfl, q, qS v y σ' H' s1 _ I r cc (bare_of q) hsz⟩

/-! ### all, any -/
/-- stop at the first value that is e -/
def eTill (e : Bool) (Qd : Bool → Hp → Prop) : Eats := fun _ y H go => ∃ b, y = .bl b ∧ if b = e then Qd e H else go
theorem eTill_mono {e : Bool} {Qd : Bool → Hp → Prop} : EatsMono (eTill e Qd) := fun ys y H p q h ⟨b, hb, z⟩ => ⟨b, hb, by
  by_cases hbe : b = e
  · rw [if_pos hbe] at z ⊢; exact z
  · rw [if_neg hbe] at z ⊢; exact h z⟩
section
variable {Y : GEx} {Qd : Bool → Hp → Prop} {R : Result → Shared → Prop} {A : Around}
theorem all_loop1 (O : Y.Ok) (hB : Y.B = A.in1.in1) (hS : Y.Sx = []) (hC : Y.C = eTill false Qd) (hF : Y.F = fun _ H => Qd true H) (hh : A.handled = none) (hroom : A.depth < recursionLimit)
    (hR : ∀ k ps σ' H' s1 s2, Inv Y.Xg ps σ' H' s1 → Aft [] s1 s2 → Qd k H' → R (.ok (.ret (.bool k))) s2) : ∀ (n : Nat) (ys : List V) (H : Hp) (gs : GenState) (sp s : Shared), Y.Rdy n ys H gs sp → Aft Y.Sx sp s → s.heap.IsGen Y.a Y.g → s.gens[Y.g]? = some gs → s.heap.NoLimit →
      codeAny Y.M A (.builtin "all.loop" ⟨[.ref Y.a], []⟩) R s := by
  intro n
  induction n with
  | zero =>
    intro ys H gs sp s rd af hg hgs nl
    refine codeAny_builtin PySem.F.entry_all_loop ?_
    rw [Around.under_plainId PySem.F.plain_all_loop _]
    show wpAny _ A.in1 (pyNext (.ref Y.a) >>= _) _ _ s
    refine wpAny_bind (GEx.next O hB hh hroom nl rd af hg hgs (Array.getElem?_eq_some_iff.mp hgs).1 (fun σ' H' s1 s2 I f a => ?_) fun v y σ' H' s1 gs' I r c hb hsz => ?_)
    · rw [hF] at f
      exact wpAny_bind (wpAny_rule (wpAny_pure (hR true _ σ' H' s1 s2 I a f)))
    · rw [hC] at c
      obtain ⟨b, rfl, c⟩ := c
      obtain rfl : v = .bool b := r
      refine wpAny_bind (wpAny_holding (wpAny_truthy_bool ?_))
      refine wpAny_bind (wpAny_letGo ?_)
      cases b with
      | true => exact (show False from c).elim
      | false =>
        simp only [Bool.false_eq_true, if_false]
        exact wpAny_bind (wpAny_rule (wpAny_pure (hR false _ σ' H' s1 _ I ⟨rfl, allBare_setGen I.bare hb, fun _ _ _ e => e, fun b z => by cases z⟩ c)))
  | succ n ih =>
    intro ys H gs sp s rd af hg hgs nl
    refine codeAny_builtin PySem.F.entry_all_loop ?_
    rw [Around.under_plainId PySem.F.plain_all_loop _]
    show wpAny _ A.in1 (pyNext (.ref Y.a) >>= _) _ _ s
    refine wpAny_bind (GEx.next O hB hh hroom nl rd af hg hgs (Array.getElem?_eq_some_iff.mp hgs).1 (fun σ' H' s1 s2 I f a => ?_) fun v y σ' H' s1 gs' I r c hb hsz => ?_)
    · rw [hF] at f
      exact wpAny_bind (wpAny_rule (wpAny_pure (hR true _ σ' H' s1 s2 I a f)))
    · rw [hC] at c
      obtain ⟨b, rfl, c⟩ := c
      obtain rfl : v = .bool b := r
      refine wpAny_bind (wpAny_holding (wpAny_truthy_bool ?_))
      refine wpAny_bind (wpAny_letGo ?_)
      cases b with
      | true =>
        simp only [if_true]
        obtain ⟨o, n1, n2, e, r⟩ := hg
        refine wpAny_pure ⟨plainId_quiet PySem.F.plain_all_loop _, ih _ H' gs' s1 (s1.setGen Y.g gs') c (by rw [hS]; exact ⟨rfl, allBare_setGen I.bare hb, fun _ _ _ e => e, fun b z => by cases z⟩) ⟨o, n1, n2, (O.pinned I List.mem_cons_self e).1, r⟩ (setGen_at (Nat.lt_of_lt_of_le (Array.getElem?_eq_some_iff.mp hgs).1 hsz)) I.nolimit⟩
      | false =>
        simp only [Bool.false_eq_true, if_false]
        exact wpAny_bind (wpAny_rule (wpAny_pure (hR false _ σ' H' s1 _ I ⟨rfl, allBare_setGen I.bare hb, fun _ _ _ e => e, fun b z => by cases z⟩ c)))
theorem any_loop1 (O : Y.Ok) (hB : Y.B = A.in1.in1) (hS : Y.Sx = []) (hC : Y.C = eTill true Qd) (hF : Y.F = fun _ H => Qd false H) (hh : A.handled = none) (hroom : A.depth < recursionLimit)
    (hR : ∀ k ps σ' H' s1 s2, Inv Y.Xg ps σ' H' s1 → Aft [] s1 s2 → Qd k H' → R (.ok (.ret (.bool k))) s2) : ∀ (n : Nat) (ys : List V) (H : Hp) (gs : GenState) (sp s : Shared), Y.Rdy n ys H gs sp → Aft Y.Sx sp s → s.heap.IsGen Y.a Y.g → s.gens[Y.g]? = some gs → s.heap.NoLimit →
      codeAny Y.M A (.builtin "any.loop" ⟨[.ref Y.a], []⟩) R s := by
  intro n
  induction n with
  | zero =>
    intro ys H gs sp s rd af hg hgs nl
    refine codeAny_builtin PySem.F.entry_any_loop ?_
    rw [Around.under_plainId PySem.F.plain_any_loop _]
    show wpAny _ A.in1 (pyNext (.ref Y.a) >>= _) _ _ s
    refine wpAny_bind (GEx.next O hB hh hroom nl rd af hg hgs (Array.getElem?_eq_some_iff.mp hgs).1 (fun σ' H' s1 s2 I f a => ?_) fun v y σ' H' s1 gs' I r c hb hsz => ?_)
    · rw [hF] at f
      exact wpAny_bind (wpAny_rule (wpAny_pure (hR false _ σ' H' s1 s2 I a f)))
    · rw [hC] at c
      obtain ⟨b, rfl, c⟩ := c
      obtain rfl : v = .bool b := r
      refine wpAny_bind (wpAny_holding (wpAny_truthy_bool ?_))
      refine wpAny_bind (wpAny_letGo ?_)
      cases b with
      | false => exact (show False from c).elim
      | true =>
        simp only [if_true]
        exact wpAny_bind (wpAny_rule (wpAny_pure (hR true _ σ' H' s1 _ I ⟨rfl, allBare_setGen I.bare hb, fun _ _ _ e => e, fun b z => by cases z⟩ c)))
  | succ n ih =>
    intro ys H gs sp s rd af hg hgs nl
    refine codeAny_builtin PySem.F.entry_any_loop ?_
    rw [Around.under_plainId PySem.F.plain_any_loop _]
    show wpAny _ A.in1 (pyNext (.ref Y.a) >>= _) _ _ s
    refine wpAny_bind (GEx.next O hB hh hroom nl rd af hg hgs (Array.getElem?_eq_some_iff.mp hgs).1 (fun σ' H' s1 s2 I f a => ?_) fun v y σ' H' s1 gs' I r c hb hsz => ?_)
    · rw [hF] at f
      exact wpAny_bind (wpAny_rule (wpAny_pure (hR false _ σ' H' s1 s2 I a f)))
    · rw [hC] at c
      obtain ⟨b, rfl, c⟩ := c
      obtain rfl : v = .bool b := r
      refine wpAny_bind (wpAny_holding (wpAny_truthy_bool ?_))
      refine wpAny_bind (wpAny_letGo ?_)
      cases b with
      | false =>
        simp only [Bool.false_eq_true, if_false]
        obtain ⟨o, n1, n2, e, r⟩ := hg
        refine wpAny_pure ⟨plainId_quiet PySem.F.plain_any_loop _, ih _ H' gs' s1 (s1.setGen Y.g gs') c (by rw [hS]; exact ⟨rfl, allBare_setGen I.bare hb, fun _ _ _ e => e, fun b z => by cases z⟩) ⟨o, n1, n2, (O.pinned I List.mem_cons_self e).1, r⟩ (setGen_at (Nat.lt_of_lt_of_le (Array.getElem?_eq_some_iff.mp hgs).1 hsz)) I.nolimit⟩
      | true =>
        simp only [if_true]
        exact wpAny_bind (wpAny_rule (wpAny_pure (hR true _ σ' H' s1 _ I ⟨rfl, allBare_setGen I.bare hb, fun _ _ _ e => e, fun b z => by cases z⟩ c)))
end
section
variable {X : Cx}
/-- all (e = false), any (e = true) of elt for target in iter if ..; the running def's table at P may have grown -/
def tTill (e : Bool) (P : Addr) (wi : TI) (g : TG) (tt : TT) (te : TE) (vs : List Nat) : TE := fun σ H Q => wi σ H fun J H1 => TabG H1 P ∧ ∀ H2, Tabbed P H1 H2 →
  ∃ W : Nat → Nat → Hp → Prop, (∃ m, W 0 m H2) ∧ ∀ i m H, W i m H → (J.stop i H ∧ Q (.bl (!e)) H) ∨ (J.go i H ∧ ∃ Nx : Hp → Prop, (∀ H', Nx H' → ∃ m', m' < m ∧ W (i + 1) m' H') ∧
    ∀ x H', J.yld i H x H' → g x (wipe σ vs) H' fun σ2 H2 => wipe σ2 vs = wipe σ vs ∧ tt σ2 H2 fun b H3 => if b = true then te σ2 H3 fun y H4 => ∃ b, y = .bl b ∧ if b = e then Q (.bl e) H4 else Nx H4 else Nx H3)
abbrev RetQ (Q : Value → Shared → Prop) (E : Value → Shared → Prop) : Result → Shared → Prop := fun r s' => match r with | .ok (.ret v) => Q v s' | .ok _ => False | .error e => E e s'
theorem call_allP {P : Program} {w : World} {A : Around} {Q : Value → Shared → Prop} {E : Value → Shared → Prop} {s : Shared} {a g : Addr} (hg : s.heap.IsGen a g)
    (h : codeAny (model P w) A (.builtin "all.loop" ⟨[.ref a], []⟩) (RetQ Q E) s) : wpAny (model P w) A (call (.builtin "all") [.ref a]) Q E s := by
  refine call_function_tree PySem.F.kind_all PySem.F.plain_all PySem.F.entry_all (PySem.F.args_all1 _) ?_
  unfold Builtin.«all»
  refine wpAny_bind (wpAny_pure ?_)
  exact wpAny_bind (wpAny_pyIter_gen hg (wpAny_pure ⟨plainId_quiet PySem.F.plain_all_loop _, h⟩))
theorem call_anyP {P : Program} {w : World} {A : Around} {Q : Value → Shared → Prop} {E : Value → Shared → Prop} {s : Shared} {a g : Addr} (hg : s.heap.IsGen a g)
    (h : codeAny (model P w) A (.builtin "any.loop" ⟨[.ref a], []⟩) (RetQ Q E) s) : wpAny (model P w) A (call (.builtin "any") [.ref a]) Q E s := by
  refine call_function_tree PySem.F.kind_any PySem.F.plain_any PySem.F.entry_any (PySem.F.args_any1 _) ?_
  unfold Builtin.«any»
  refine wpAny_bind (wpAny_pure ?_)
  exact wpAny_bind (wpAny_pyIter_gen hg (wpAny_pure ⟨plainId_quiet PySem.F.plain_any_loop _, h⟩))
/-- the places where the generator's frame may stand -/
abbrev GPG (X : Cx) (k : Nat) (scope : Scope) (tg : Expr) (g : TG) : Prop := ∀ (s : Shared) (H : Hp) (C : Addr) (cl : List (Str × Addr)) (code : Value) (fp : List Addr) (A : Around), Room k A → PG (gcx X s H (genEnv scope cl C code builtinsNs X.env) fp A) tg g
abbrev GPT (X : Cx) (k : Nat) (scope : Scope) (ifs : List Expr) (t : TT) : Prop := ∀ (s : Shared) (H : Hp) (C : Addr) (cl : List (Str × Addr)) (code : Value) (fp : List Addr) (A : Around), Room k A → PTs (gcx X s H (genEnv scope cl C code builtinsNs X.env) fp A) ifs t
abbrev GPE (X : Cx) (k : Nat) (scope : Scope) (e : Expr) (t : TE) : Prop := ∀ (s : Shared) (H : Hp) (C : Addr) (cl : List (Str × Addr)) (code : Value) (fp : List Addr) (A : Around), Room k A → PE (gcx X s H (genEnv scope cl C code builtinsNs X.env) fp A) e t
theorem tTill_step {e : Bool} {J : It} {g : TG} {tt : TT} {te : TE} {vs : List Nat} {σ : L2.St} {Q : VK} {W : Nat → Nat → Hp → Prop}
    (h : ∀ i m H, W i m H → (J.stop i H ∧ Q (.bl (!e)) H) ∨ (J.go i H ∧ ∃ Nx : Hp → Prop, (∀ H', Nx H' → ∃ m', m' < m ∧ W (i + 1) m' H') ∧
      ∀ x H', J.yld i H x H' → g x (wipe σ vs) H' fun σ2 H2 => wipe σ2 vs = wipe σ vs ∧ tt σ2 H2 fun b H3 => if b = true then te σ2 H3 fun y H4 => ∃ b, y = .bl b ∧ if b = e then Q (.bl e) H4 else Nx H4 else Nx H3)) :
    GStep (fun i m _ H => W i m H) J g tt te vs (wipe σ vs) (eTill e fun b H => Q (.bl b) H) (fun _ H => Q (.bl (!e)) H) := fun i m ys H w => by
  rcases h i m H w with z | ⟨go, Nx, hN, st⟩
  · exact .inl z
  · exact .inr ⟨go, fun _ H => Nx H, fun _ H' nx => hN H' nx, st⟩
section
variable {c P : Addr} {elt tg iter : Expr} {ifs : List Expr} {scope : Scope} {own : List (Str × Nat)} {p pos gpos : Pos} {wi : TI} {g : TG} {tt : TT} {te : TE} {k : Nat}
theorem pe_allG (hr : Room (k + 1) X.A) (hn : X.N.Nodup) (hgl : Gl X "all") (hm : X.mg "all" = none) (TB : LamX.TabB X.base X.mg c P) (hcode : X.env.code = .ref c) (G : GScp scope) (ok : BlkOk X.N X.env.scope scope own) (hi : PI X tg iter wi)
    (hg : GPG X k scope tg g) (ht : GPT X k scope ifs tt) (he : GPE X k scope elt te) (hb : bootBuiltins "all" = some (.builtin "all") := by first | rfl | decide +kernel) (hs : ∀ v, genFold iter X.env v = pure v := by intro _; rfl)
    (hst : starEach [.GeneratorExp elt [⟨tg, iter, ifs, 0⟩] scope gpos] X.env = (false, eval (.GeneratorExp elt [⟨tg, iter, ifs, 0⟩] scope gpos) X.env) :: starEach [] X.env := by rfl) :
    PE X (.Call (.Name "all" p) [.GeneratorExp elt [⟨tg, iter, ifs, 0⟩] scope gpos] [] pos) (tTill false P wi g tt te (own.map (·.2))) := by
  refine ⟨fun pins s σ H Q I h => ?_⟩
  refine wpAny_Call_Name_kw (ld_blt I hgl hm hb ?_)
  refine PyProof.Rows.callWith_builtin1 ?_ hst (by rfl)
  rw [hst]
  show wpAny _ _ (spliced ((false, eval (.GeneratorExp elt [⟨tg, iter, ifs, 0⟩] scope gpos) X.env) :: backTo pos (starEach [] X.env))) _ _ s
  refine Calls.spliced_cons (gen_made (R := fun J H1 => _) hr TB hcode G ok hi hs I h fun J H1 H2 s4 cenv fp it tn a gn s5 q tb M => ?_)
  refine Calls.spliced_nil (call_allP M.isg ?_)
  obtain ⟨W, ⟨m, w0⟩, st⟩ := q H2 tb
  obtain ⟨code, hce⟩ := M.env
  subst hce
  obtain ⟨O, rd⟩ := gen_rdy (B := X.A.in1.in1) (Sx := []) hr (nearA2 _) G ok hn M (fun A r => hg _ _ _ _ _ _ A r) (fun A r => ht _ _ _ _ _ _ A r) (fun A r => he _ _ _ _ _ _ A r) (fun b z => by cases z) eTill_mono (tTill_step st) m w0
  refine all_loop1 (Qd := fun b H => Q (.bl b) H) (Y := mkY X s4 H2 _ fp X.A.in1.in1 (wipe σ (own.map (·.2))) (.GeneratorExp elt [⟨tg, iter, ifs, 0⟩] scope gpos) it a gn [] (eTill false fun b H => Q (.bl b) H) (fun _ H => Q (.bl (!false)) H)) O rfl rfl rfl rfl hr.hd hr.depth (fun k ps σ' H' s1 s2 I' af q => ?_) m [] H2 _ s5 s5 rd (Aft.refl ?_) M.isg ?_ ?_
  · exact ⟨.bl k, H', GEx.out (Y := mkY X s4 H2 _ fp X.A.in1.in1 (wipe σ (own.map (·.2))) (.GeneratorExp elt [⟨tg, iter, ifs, 0⟩] scope gpos) it a gn [] (eTill false fun b H => Q (.bl b) H) (fun _ H => Q (.bl (!false)) H)) M.inv (fun b hb => (M.fps b hb).1) I' af, rfl, q⟩
  · rw [M.gens]
    exact M.inv.bare.push rfl
  · show s5.gens[gn]? = _
    rw [M.gens, M.num]
    simp
  · exact M.inv.nolimit.keeps M.keep
theorem pe_anyG (hr : Room (k + 1) X.A) (hn : X.N.Nodup) (hgl : Gl X "any") (hm : X.mg "any" = none) (TB : LamX.TabB X.base X.mg c P) (hcode : X.env.code = .ref c) (G : GScp scope) (ok : BlkOk X.N X.env.scope scope own) (hi : PI X tg iter wi)
    (hg : GPG X k scope tg g) (ht : GPT X k scope ifs tt) (he : GPE X k scope elt te) (hb : bootBuiltins "any" = some (.builtin "any") := by first | rfl | decide +kernel) (hs : ∀ v, genFold iter X.env v = pure v := by intro _; rfl)
    (hst : starEach [.GeneratorExp elt [⟨tg, iter, ifs, 0⟩] scope gpos] X.env = (false, eval (.GeneratorExp elt [⟨tg, iter, ifs, 0⟩] scope gpos) X.env) :: starEach [] X.env := by rfl) :
    PE X (.Call (.Name "any" p) [.GeneratorExp elt [⟨tg, iter, ifs, 0⟩] scope gpos] [] pos) (tTill true P wi g tt te (own.map (·.2))) := by
  refine ⟨fun pins s σ H Q I h => ?_⟩
  refine wpAny_Call_Name_kw (ld_blt I hgl hm hb ?_)
  refine PyProof.Rows.callWith_builtin1 ?_ hst (by rfl)
  rw [hst]
  show wpAny _ _ (spliced ((false, eval (.GeneratorExp elt [⟨tg, iter, ifs, 0⟩] scope gpos) X.env) :: backTo pos (starEach [] X.env))) _ _ s
  refine Calls.spliced_cons (gen_made (R := fun J H1 => _) hr TB hcode G ok hi hs I h fun J H1 H2 s4 cenv fp it tn a gn s5 q tb M => ?_)
  refine Calls.spliced_nil (call_anyP M.isg ?_)
  obtain ⟨W, ⟨m, w0⟩, st⟩ := q H2 tb
  obtain ⟨code, hce⟩ := M.env
  subst hce
  obtain ⟨O, rd⟩ := gen_rdy (B := X.A.in1.in1) (Sx := []) hr (nearA2 _) G ok hn M (fun A r => hg _ _ _ _ _ _ A r) (fun A r => ht _ _ _ _ _ _ A r) (fun A r => he _ _ _ _ _ _ A r) (fun b z => by cases z) eTill_mono (tTill_step st) m w0
  refine any_loop1 (Qd := fun b H => Q (.bl b) H) (Y := mkY X s4 H2 _ fp X.A.in1.in1 (wipe σ (own.map (·.2))) (.GeneratorExp elt [⟨tg, iter, ifs, 0⟩] scope gpos) it a gn [] (eTill true fun b H => Q (.bl b) H) (fun _ H => Q (.bl (!true)) H)) O rfl rfl rfl rfl hr.hd hr.depth (fun k ps σ' H' s1 s2 I' af q => ?_) m [] H2 _ s5 s5 rd (Aft.refl ?_) M.isg ?_ ?_
  · exact ⟨.bl k, H', GEx.out (Y := mkY X s4 H2 _ fp X.A.in1.in1 (wipe σ (own.map (·.2))) (.GeneratorExp elt [⟨tg, iter, ifs, 0⟩] scope gpos) it a gn [] (eTill true fun b H => Q (.bl b) H) (fun _ H => Q (.bl (!true)) H)) M.inv (fun b hb => (M.fps b hb).1) I' af, rfl, q⟩
  · rw [M.gens]
    exact M.inv.bare.push rfl
  · show s5.gens[gn]? = _
    rw [M.gens, M.num]
    simp
  · exact M.inv.nolimit.keeps M.keep
end
/-- .. of two clauses -/
def tTill2 (e : Bool) (P : Addr) (wi : TI) (g : TG) (tt : TT) (wi1 : TI) (g1 : TG) (tt1 : TT) (te : TE) (vs vs1 : List Nat) : TE := fun σ H Q => wi σ H fun J H1 => TabG H1 P ∧ ∀ H2, Tabbed P H1 H2 →
  ∃ W : Nat → Nat → Hp → Prop, (∃ m, W 0 m H2) ∧ ∀ i m H, W i m H → (J.stop i H ∧ Q (.bl (!e)) H) ∨ (J.go i H ∧ ∀ x H', J.yld i H x H' → g x (wipe σ vs) H' fun σ2 H2 => wipe σ2 vs = wipe σ vs ∧ tt σ2 H2 fun b H3 => if b = true then wi1 σ2 H3 fun J1 H4 =>
      ∃ W1 : Nat → Nat → Hp → Prop, (∃ m1, m1 < m ∧ W1 0 m1 H4) ∧ ∀ i1 m1 H, W1 i1 m1 H → (J1.stop i1 H ∧ ∃ m', m' ≤ m1 ∧ m' < m ∧ W (i + 1) m' H) ∨ (J1.go i1 H ∧ ∃ N1 : Hp → Prop, (∀ H', N1 H' → ∃ m', m' < m1 ∧ W1 (i1 + 1) m' H') ∧
        ∀ x1 H', J1.yld i1 H x1 H' → g1 x1 (wipe σ2 vs1) H' fun σ3 H5 => wipe σ3 vs1 = wipe σ2 vs1 ∧ tt1 σ3 H5 fun b1 H6 => if b1 = true then te σ3 H6 fun y H7 => ∃ b, y = .bl b ∧ if b = e then Q (.bl e) H7 else N1 H7 else N1 H6)
    else ∃ m', m' < m ∧ W (i + 1) m' H3)
theorem tTill2_step {e : Bool} {J : It} {wi1 : TI} {g g1 : TG} {tt tt1 : TT} {te : TE} {vs vs1 : List Nat} {σ : L2.St} {Q : VK} {W : Nat → Nat → Hp → Prop}
    (h : ∀ i m H, W i m H → (J.stop i H ∧ Q (.bl (!e)) H) ∨ (J.go i H ∧ ∀ x H', J.yld i H x H' → g x (wipe σ vs) H' fun σ2 H2 => wipe σ2 vs = wipe σ vs ∧ tt σ2 H2 fun b H3 => if b = true then wi1 σ2 H3 fun J1 H4 =>
      ∃ W1 : Nat → Nat → Hp → Prop, (∃ m1, m1 < m ∧ W1 0 m1 H4) ∧ ∀ i1 m1 H, W1 i1 m1 H → (J1.stop i1 H ∧ ∃ m', m' ≤ m1 ∧ m' < m ∧ W (i + 1) m' H) ∨ (J1.go i1 H ∧ ∃ N1 : Hp → Prop, (∀ H', N1 H' → ∃ m', m' < m1 ∧ W1 (i1 + 1) m' H') ∧
        ∀ x1 H', J1.yld i1 H x1 H' → g1 x1 (wipe σ2 vs1) H' fun σ3 H5 => wipe σ3 vs1 = wipe σ2 vs1 ∧ tt1 σ3 H5 fun b1 H6 => if b1 = true then te σ3 H6 fun y H7 => ∃ b, y = .bl b ∧ if b = e then Q (.bl e) H7 else N1 H7 else N1 H6)
    else ∃ m', m' < m ∧ W (i + 1) m' H3)) (hmono : ∀ σ2 H3 (R R' : It → Hp → Prop), (∀ J H, R J H → R' J H) → wi1 σ2 H3 R → wi1 σ2 H3 R')
    (gm : ∀ v σ H (R R' : L2.St → Hp → Prop), (∀ σ H, R σ H → R' σ H) → g v σ H R → g v σ H R') (tm : ∀ σ H (R R' : Bool → Hp → Prop), (∀ b H, R b H → R' b H) → tt σ H R → tt σ H R') :
    GStep2 (fun i m _ H => W i m H) J g tt wi1 g1 tt1 te vs vs1 (wipe σ vs) (eTill e fun b H => Q (.bl b) H) (fun _ H => Q (.bl (!e)) H) := fun i m ys H w => by
  rcases h i m H w with z | ⟨go, st⟩
  · exact .inl z
  · refine .inr ⟨go, fun x H' y => gm _ _ _ _ _ (fun σ2 H2 q => ⟨q.1, tm _ _ _ _ (fun b H3 q2 => ?_) q.2⟩) (st x H' y)⟩
    cases b with
    | false => exact q2
    | true =>
      refine hmono _ _ _ _ (fun J1 H4 q3 => ?_) q2
      obtain ⟨W1, ⟨m1, h1, w1⟩, st1⟩ := q3
      refine ⟨fun i m _ H => W1 i m H, ⟨m1, h1, w1⟩, fun i1 m2 ys2 H5 w2 => ?_⟩
      rcases st1 i1 m2 H5 w2 with z | ⟨go1, N1, hN, s1⟩
      · exact .inl z
      · exact .inr ⟨go1, fun _ H => N1 H, fun _ H' n => hN H' n, s1⟩
section
variable {c P : Addr} {elt tg iter tg1 iter1 : Expr} {ifs ifs1 : List Expr} {scope : Scope} {own : List (Str × Nat)} {vs1 : List Nat} {p pos gpos : Pos} {wi wi1 : TI} {g g1 : TG} {tt tt1 : TT} {te : TE} {k : Nat}
/-- the places where the second clause's iterator is made -/
abbrev GPI (X : Cx) (k : Nat) (scope : Scope) (tg e : Expr) (t : TI) : Prop := ∀ (s : Shared) (H : Hp) (C : Addr) (cl : List (Str × Addr)) (code : Value) (fp : List Addr) (A : Around), Room k A → PI (gcx X s H (genEnv scope cl C code builtinsNs X.env) fp A) tg e t
theorem pe_anyG2 (hr : Room (k + 1) X.A) (hn : X.N.Nodup) (hgl : Gl X "any") (hm : X.mg "any" = none) (TB : LamX.TabB X.base X.mg c P) (hcode : X.env.code = .ref c) (G : GScp scope) (ok : BlkOk X.N X.env.scope scope own) (hvs : ∀ v ∈ vs1, v ∈ own.map (·.2)) (hi : PI X tg iter wi)
    (hg : GPG X k scope tg g) (ht : GPT X k scope ifs tt) (hi1 : GPI X k scope tg1 iter1 wi1) (hg1 : GPG X k scope tg1 g1) (ht1 : GPT X k scope ifs1 tt1) (he : GPE X k scope elt te)
    (hmono : ∀ σ2 H3 (R R' : It → Hp → Prop), (∀ J H, R J H → R' J H) → wi1 σ2 H3 R → wi1 σ2 H3 R') (gm : ∀ v σ H (R R' : L2.St → Hp → Prop), (∀ σ H, R σ H → R' σ H) → g v σ H R → g v σ H R') (tm : ∀ σ H (R R' : Bool → Hp → Prop), (∀ b H, R b H → R' b H) → tt σ H R → tt σ H R')
    (hb : bootBuiltins "any" = some (.builtin "any") := by first | rfl | decide +kernel) (hs : ∀ v, genFold iter X.env v = pure v := by intro _; rfl) (hs1 : ∀ (C : Addr) (cl : List (Str × Addr)) (code : Value) x, foldedSetIterable iter1 (genEnv scope cl C code builtinsNs X.env) x = pure x := by intro _ _ _ _; rfl)
    (hst : starEach [.GeneratorExp elt [⟨tg, iter, ifs, 0⟩, ⟨tg1, iter1, ifs1, 0⟩] scope gpos] X.env = (false, eval (.GeneratorExp elt [⟨tg, iter, ifs, 0⟩, ⟨tg1, iter1, ifs1, 0⟩] scope gpos) X.env) :: starEach [] X.env := by rfl) :
    PE X (.Call (.Name "any" p) [.GeneratorExp elt [⟨tg, iter, ifs, 0⟩, ⟨tg1, iter1, ifs1, 0⟩] scope gpos] [] pos) (tTill2 true P wi g tt wi1 g1 tt1 te (own.map (·.2)) vs1) := by
  refine ⟨fun pins s σ H Q I h => ?_⟩
  refine wpAny_Call_Name_kw (ld_blt I hgl hm hb ?_)
  refine PyProof.Rows.callWith_builtin1 ?_ hst (by rfl)
  rw [hst]
  show wpAny _ _ (spliced ((false, eval (.GeneratorExp elt [⟨tg, iter, ifs, 0⟩, ⟨tg1, iter1, ifs1, 0⟩] scope gpos) X.env) :: backTo pos (starEach [] X.env))) _ _ s
  refine Calls.spliced_cons (gen_made (R := fun J H1 => _) hr TB hcode G ok hi hs I h fun J H1 H2 s4 cenv fp it tn a gn s5 q tb M => ?_)
  refine Calls.spliced_nil (call_anyP M.isg ?_)
  obtain ⟨W, ⟨m, w0⟩, st⟩ := q H2 tb
  obtain ⟨code, hce⟩ := M.env
  subst hce
  obtain ⟨O, rd⟩ := gen_rdy2 (B := X.A.in1.in1) (Sx := []) hr (nearA2 _) G ok hn hvs M (fun A r => hg _ _ _ _ _ _ A r) (fun A r => ht _ _ _ _ _ _ A r) (fun A r => hi1 _ _ _ _ _ _ A r) (hs1 _ _ _) (fun A r => hg1 _ _ _ _ _ _ A r) (fun A r => ht1 _ _ _ _ _ _ A r) (fun A r => he _ _ _ _ _ _ A r) (fun b z => by cases z) eTill_mono (tTill2_step st hmono gm tm) m w0
  refine any_loop1 (Qd := fun b H => Q (.bl b) H) (Y := mkY X s4 H2 _ fp X.A.in1.in1 (wipe σ (own.map (·.2))) (.GeneratorExp elt [⟨tg, iter, ifs, 0⟩, ⟨tg1, iter1, ifs1, 0⟩] scope gpos) it a gn [] (eTill true fun b H => Q (.bl b) H) (fun _ H => Q (.bl (!true)) H)) O rfl rfl rfl rfl hr.hd hr.depth (fun k ps σ' H' s1 s2 I' af q => ?_) m [] H2 _ s5 s5 rd (Aft.refl ?_) M.isg ?_ ?_
  · exact ⟨.bl k, H', GEx.out (Y := mkY X s4 H2 _ fp X.A.in1.in1 (wipe σ (own.map (·.2))) (.GeneratorExp elt [⟨tg, iter, ifs, 0⟩, ⟨tg1, iter1, ifs1, 0⟩] scope gpos) it a gn [] (eTill true fun b H => Q (.bl b) H) (fun _ H => Q (.bl (!true)) H)) M.inv (fun b hb => (M.fps b hb).1) I' af, rfl, q⟩
  · rw [M.gens]
    exact M.inv.bare.push rfl
  · show s5.gens[gn]? = _
    rw [M.gens, M.num]
    simp
  · exact M.inv.nolimit.keeps M.keep
end
end

/-! ### the forms one uses -/
def gscpB (sc : Scope) : Bool := !sc.isCoroutine && decide (sc.kind = .function) && (sc.names.all fun y => !decide (y.2 = .cell)) && decide (sc.names.lookup (".0" : Str) = some NameKind.local)
theorem gscp_by {sc : Scope} (h : gscpB sc = true) : GScp sc := by
  unfold gscpB at h
  simp only [Bool.and_eq_true, Bool.not_eq_true', decide_eq_true_eq, List.all_eq_true, decide_eq_false_iff_not] at h
  obtain ⟨⟨⟨h1, h2⟩, h3⟩, h4⟩ := h
  exact ⟨h1, h2, h3, h4⟩
section
variable {e : Bool} {K : PySem.W.Frag} {a : Addr} {xs : List V} {g : TG} {tt : TT} {te : TE} {vs : List Nat} {σ : L2.St} {H2 : Hp} {Q : VK}
/-- over a list that the element leaves as it is -/
theorem till_list (Pv : Nat → Hp → Prop) (h0 : Pv 0 H2) (hl : ∀ i H, i ≤ xs.length → Pv i H → SqL K H a xs)
    (hs : ∀ i x H, xs[i]? = some x → Pv i H → g x (wipe σ vs) H fun σ2 H2 => wipe σ2 vs = wipe σ vs ∧ tt σ2 H2 fun b H3 => if b = true then te σ2 H3 fun y H4 => ∃ b, y = .bl b ∧ if b = e then Q (.bl e) H4 else Pv (i + 1) H4 else Pv (i + 1) H3) (hd : ∀ H, Pv xs.length H → Q (.bl (!e)) H) :
    ∃ W : Nat → Nat → Hp → Prop, (∃ m, W 0 m H2) ∧ ∀ i m H, W i m H → ((Itl K a).stop i H ∧ Q (.bl (!e)) H) ∨ ((Itl K a).go i H ∧ ∃ Nx : Hp → Prop, (∀ H', Nx H' → ∃ m', m' < m ∧ W (i + 1) m' H') ∧
      ∀ x H', (Itl K a).yld i H x H' → g x (wipe σ vs) H' fun σ2 H2 => wipe σ2 vs = wipe σ vs ∧ tt σ2 H2 fun b H3 => if b = true then te σ2 H3 fun y H4 => ∃ b, y = .bl b ∧ if b = e then Q (.bl e) H4 else Nx H4 else Nx H3) := by
  refine ⟨fun i m H => m = xs.length - i ∧ i ≤ xs.length ∧ Pv i H, ⟨xs.length, by simp, Nat.zero_le _, h0⟩, fun i m H w => ?_⟩
  obtain ⟨hm, hi, p⟩ := w
  have q := hl i H hi p
  rcases Nat.lt_or_ge i xs.length with z | z
  · refine .inr ⟨⟨xs, xs[i], q, by simp [z]⟩, Pv (i + 1), fun H' p' => ⟨xs.length - (i + 1), by omega, rfl, z, p'⟩, fun x H' y => ?_⟩
    obtain ⟨rfl, y⟩ := y
    exact hs i x _ (y xs q) p
  · obtain rfl : i = xs.length := by omega
    exact .inl ⟨⟨xs, q, Nat.le_refl _⟩, hd H p⟩
/-- over a tuple -/
theorem till_tup (Pv : Nat → Hp → Prop) (h0 : Pv 0 H2) (hl : ∀ i H, i ≤ xs.length → Pv i H → SqT K H a xs)
    (hs : ∀ i x H, xs[i]? = some x → Pv i H → g x (wipe σ vs) H fun σ2 H2 => wipe σ2 vs = wipe σ vs ∧ tt σ2 H2 fun b H3 => if b = true then te σ2 H3 fun y H4 => ∃ b, y = .bl b ∧ if b = e then Q (.bl e) H4 else Pv (i + 1) H4 else Pv (i + 1) H3) (hd : ∀ H, Pv xs.length H → Q (.bl (!e)) H) :
    ∃ W : Nat → Nat → Hp → Prop, (∃ m, W 0 m H2) ∧ ∀ i m H, W i m H → ((Itt K a).stop i H ∧ Q (.bl (!e)) H) ∨ ((Itt K a).go i H ∧ ∃ Nx : Hp → Prop, (∀ H', Nx H' → ∃ m', m' < m ∧ W (i + 1) m' H') ∧
      ∀ x H', (Itt K a).yld i H x H' → g x (wipe σ vs) H' fun σ2 H2 => wipe σ2 vs = wipe σ vs ∧ tt σ2 H2 fun b H3 => if b = true then te σ2 H3 fun y H4 => ∃ b, y = .bl b ∧ if b = e then Q (.bl e) H4 else Nx H4 else Nx H3) := by
  refine ⟨fun i m H => m = xs.length - i ∧ i ≤ xs.length ∧ Pv i H, ⟨xs.length, by simp, Nat.zero_le _, h0⟩, fun i m H w => ?_⟩
  obtain ⟨hm, hi, p⟩ := w
  have q := hl i H hi p
  rcases Nat.lt_or_ge i xs.length with z | z
  · refine .inr ⟨⟨xs, xs[i], q, by simp [z]⟩, Pv (i + 1), fun H' p' => ⟨xs.length - (i + 1), by omega, rfl, z, p'⟩, fun x H' y => ?_⟩
    obtain ⟨rfl, y⟩ := y
    exact hs i x _ (y xs q) p
  · obtain rfl : i = xs.length := by omega
    exact .inl ⟨⟨xs, q, Nat.le_refl _⟩, hd H p⟩
/-- two clauses, both over lists: the outer one -/
def W2 (n ny : Nat) (Pv : Nat → Hp → Prop) (i m : Nat) (H : Hp) : Prop := i ≤ n ∧ m = (n - i) * (ny + 2) ∧ Pv i H
variable {wi1 : TI} {g1 : TG} {tt1 : TT} {vs1 : List Nat} {ny : Nat}
theorem till2_list (ny : Nat) (Pv : Nat → Hp → Prop) (h0 : Pv 0 H2) (hl : ∀ i H, i ≤ xs.length → Pv i H → SqL K H a xs)
    (hs : ∀ i x H, i < xs.length → xs[i]? = some x → Pv i H → g x (wipe σ vs) H fun σ2 H2 => wipe σ2 vs = wipe σ vs ∧ tt σ2 H2 fun b H3 => if b = true then wi1 σ2 H3 fun J1 H4 =>
      ∃ W1 : Nat → Nat → Hp → Prop, (∃ m1, m1 < (xs.length - i) * (ny + 2) ∧ W1 0 m1 H4) ∧ ∀ i1 m1 H, W1 i1 m1 H → (J1.stop i1 H ∧ ∃ m', m' ≤ m1 ∧ m' < (xs.length - i) * (ny + 2) ∧ W2 xs.length ny Pv (i + 1) m' H) ∨ (J1.go i1 H ∧ ∃ N1 : Hp → Prop, (∀ H', N1 H' → ∃ m', m' < m1 ∧ W1 (i1 + 1) m' H') ∧
        ∀ x1 H', J1.yld i1 H x1 H' → g1 x1 (wipe σ2 vs1) H' fun σ3 H5 => wipe σ3 vs1 = wipe σ2 vs1 ∧ tt1 σ3 H5 fun b1 H6 => if b1 = true then te σ3 H6 fun y H7 => ∃ b, y = .bl b ∧ if b = e then Q (.bl e) H7 else N1 H7 else N1 H6)
      else ∃ m', m' < (xs.length - i) * (ny + 2) ∧ W2 xs.length ny Pv (i + 1) m' H3) (hd : ∀ H, Pv xs.length H → Q (.bl (!e)) H) :
    ∃ W : Nat → Nat → Hp → Prop, (∃ m, W 0 m H2) ∧ ∀ i m H, W i m H → ((Itl K a).stop i H ∧ Q (.bl (!e)) H) ∨ ((Itl K a).go i H ∧ ∀ x H', (Itl K a).yld i H x H' → g x (wipe σ vs) H' fun σ2 H2 => wipe σ2 vs = wipe σ vs ∧ tt σ2 H2 fun b H3 => if b = true then wi1 σ2 H3 fun J1 H4 =>
      ∃ W1 : Nat → Nat → Hp → Prop, (∃ m1, m1 < m ∧ W1 0 m1 H4) ∧ ∀ i1 m1 H, W1 i1 m1 H → (J1.stop i1 H ∧ ∃ m', m' ≤ m1 ∧ m' < m ∧ W (i + 1) m' H) ∨ (J1.go i1 H ∧ ∃ N1 : Hp → Prop, (∀ H', N1 H' → ∃ m', m' < m1 ∧ W1 (i1 + 1) m' H') ∧
        ∀ x1 H', J1.yld i1 H x1 H' → g1 x1 (wipe σ2 vs1) H' fun σ3 H5 => wipe σ3 vs1 = wipe σ2 vs1 ∧ tt1 σ3 H5 fun b1 H6 => if b1 = true then te σ3 H6 fun y H7 => ∃ b, y = .bl b ∧ if b = e then Q (.bl e) H7 else N1 H7 else N1 H6)
    else ∃ m', m' < m ∧ W (i + 1) m' H3) := by
  refine ⟨W2 xs.length ny Pv, ⟨_, Nat.zero_le _, rfl, h0⟩, fun i m H w => ?_⟩
  obtain ⟨hi, hm, p⟩ := w
  subst hm
  have q := hl i H hi p
  rcases Nat.lt_or_ge i xs.length with z | z
  · refine .inr ⟨⟨xs, xs[i], q, by simp [z]⟩, fun x H' y => ?_⟩
    obtain ⟨rfl, y⟩ := y
    exact hs i x _ z (y xs q) p
  · obtain rfl : i = xs.length := by omega
    exact .inl ⟨⟨xs, q, Nat.le_refl _⟩, hd H p⟩
/-- .. the inner one -/
theorem till2_in {n i : Nat} {b : Addr} {ys : List V} {σ2 : L2.St} {H4 : Hp} {Pv : Nat → Hp → Prop} (hi : i < n) (Pw : Nat → Hp → Prop) (h0 : Pw 0 H4) (hl : ∀ j H, j ≤ ys.length → Pw j H → SqL K H b ys)
    (hs : ∀ j x H, ys[j]? = some x → Pw j H → g1 x (wipe σ2 vs1) H fun σ3 H5 => wipe σ3 vs1 = wipe σ2 vs1 ∧ tt1 σ3 H5 fun b1 H6 => if b1 = true then te σ3 H6 fun y H7 => ∃ b, y = .bl b ∧ if b = e then Q (.bl e) H7 else Pw (j + 1) H7 else Pw (j + 1) H6) (hd : ∀ H, Pw ys.length H → Pv (i + 1) H) :
    ∃ W1 : Nat → Nat → Hp → Prop, (∃ m1, m1 < (n - i) * (ys.length + 2) ∧ W1 0 m1 H4) ∧ ∀ i1 m1 H, W1 i1 m1 H → ((Itl K b).stop i1 H ∧ ∃ m', m' ≤ m1 ∧ m' < (n - i) * (ys.length + 2) ∧ W2 n ys.length Pv (i + 1) m' H) ∨ ((Itl K b).go i1 H ∧ ∃ N1 : Hp → Prop, (∀ H', N1 H' → ∃ m', m' < m1 ∧ W1 (i1 + 1) m' H') ∧
        ∀ x1 H', (Itl K b).yld i1 H x1 H' → g1 x1 (wipe σ2 vs1) H' fun σ3 H5 => wipe σ3 vs1 = wipe σ2 vs1 ∧ tt1 σ3 H5 fun b1 H6 => if b1 = true then te σ3 H6 fun y H7 => ∃ b, y = .bl b ∧ if b = e then Q (.bl e) H7 else N1 H7 else N1 H6) := by
  have e1 : (n - i) * (ys.length + 2) = (n - (i + 1)) * (ys.length + 2) + (ys.length + 2) := by
    rw [show n - i = (n - (i + 1)) + 1 by omega, Nat.add_mul, Nat.one_mul]
  refine ⟨fun j m1 H => j ≤ ys.length ∧ m1 = (n - (i + 1)) * (ys.length + 2) + (ys.length - j) + 1 ∧ Pw j H, ⟨_, ?_, Nat.zero_le _, rfl, h0⟩, fun j m1 H w => ?_⟩
  · rw [e1]; omega
  · obtain ⟨hj, hm, p⟩ := w
    have q := hl j H hj p
    rcases Nat.lt_or_ge j ys.length with z | z
    · refine .inr ⟨⟨ys, ys[j], q, by simp [z]⟩, Pw (j + 1), fun H' p' => ⟨_, ?_, z, rfl, p'⟩, fun x H' y => ?_⟩
      · rw [hm]; omega
      · obtain ⟨rfl, y⟩ := y
        exact hs j x _ (y ys q) p
    · obtain rfl : j = ys.length := by omega
      exact .inl ⟨⟨ys, q, Nat.le_refl _⟩, (n - (i + 1)) * (ys.length + 2), by omega, by rw [e1]; omega, hi, rfl, hd H p⟩
end
theorem tYes_mono : ∀ (σ : L2.St) (H : Hp) (R R' : Bool → Hp → Prop), (∀ b H, R b H → R' b H) → tYes σ H R → tYes σ H R' := fun _ _ _ _ h q => h _ _ q
theorem gName_mono {i : Nat} : ∀ (v : V) (σ : L2.St) (H : Hp) (R R' : L2.St → Hp → Prop), (∀ σ H, R σ H → R' σ H) → gName i v σ H R → gName i v σ H R' := fun _ _ _ _ _ h q => h _ _ q
theorem iListV_mono {K : PySem.W.Frag} {i : Nat} : ∀ (σ : L2.St) (H : Hp) (R R' : It → Hp → Prop), (∀ J H, R J H → R' J H) → iList K (tVar i) σ H R → iList K (tVar i) σ H R' := fun _ _ _ _ h ⟨v, e, a, ea, s, q⟩ => ⟨v, e, a, ea, s, h _ _ q⟩
theorem yes_if {σ : L2.St} {H : Hp} {A B : Hp → Prop} (h : A H) : tYes σ H (fun b H3 => if b = true then A H3 else B H3) := by
  show (if true = true then A H else B H)
  exact (if_pos rfl).mpr h
end Sk

set_option Elab.async false
set_option linter.all false
set_option maxRecDepth 100000
set_option maxHeartbeats 4000000
namespace Sk
open PySem PySem.Spec PyProof.Rows L2 GenW GxR
/-! tables of code objects, and the end of a law with several of them -/
def Tabs (T : List Addr) (H : Hp) : Prop := ∀ P ∈ T, TabG H P
/-- all that stood stands, but the tables may have grown -/
structure SameT (T : List Addr) (H H' : Hp) : Prop where
  keep : ∀ b o, H b = some o → b ∉ T → H' b = some o
  tabs : Tabs T H → Tabs T H'
theorem SameT.refl (T : List Addr) (H : Hp) : SameT T H H := ⟨fun _ _ e _ => e, id⟩
theorem SameT.trans {T : List Addr} {H H1 H2 : Hp} (a : SameT T H H1) (b : SameT T H1 H2) : SameT T H H2 := ⟨fun c o e n => b.keep c o (a.keep c o e n) n, fun t => b.tabs (a.tabs t)⟩
theorem SameT.of {T : List Addr} {H H' : Hp} (s : Same H H') : SameT T H H' := ⟨fun c o e _ => s c o e, fun t P hP => by
  obtain ⟨ps, e, r⟩ := t P hP
  exact ⟨ps, s _ _ e, r⟩⟩
theorem SameT.tabbed {T : List Addr} {P : Addr} {H H' : Hp} (hP : P ∈ T) (t : Tabbed P H H') : SameT T H H' := ⟨fun c o e n => by
    rw [t.2 c fun z => n (by rw [z]; exact hP)]
    exact e, fun s Q hQ => by
    by_cases z : Q = P
    · rw [z]; exact t.1
    · obtain ⟨ps, e, r⟩ := s Q hQ
      exact ⟨ps, by rw [t.2 Q z]; exact e, r⟩⟩
theorem tabs_out {T : List Addr} {H : Hp} {a : Addr} {o : HO} (t : Tabs T H) (e : H a = some o) (n : ∀ ps, o ≠ .tbl ps) : a ∉ T := fun h => by
  obtain ⟨ps, e', _⟩ := t a h
  rw [e] at e'
  exact n ps (Option.some.inj e')
section
variable {T : List Addr} {H H' : Hp} {a : Addr}
theorem SameT.t {xs : List V} (s : SameT T H H') (t : Tabs T H) (e : H a = some (.tup xs)) : H' a = some (.tup xs) := s.keep a _ e (tabs_out t e fun ps z => by cases z)
theorem SameT.l {xs : List V} (s : SameT T H H') (t : Tabs T H) (e : H a = some (.lst xs)) : H' a = some (.lst xs) := s.keep a _ e (tabs_out t e fun ps z => by cases z)
theorem SameT.d {kvs : List (Key × V)} (s : SameT T H H') (t : Tabs T H) (e : H a = some (.dK kvs)) : H' a = some (.dK kvs) := s.keep a _ e (tabs_out t e fun ps z => by cases z)
theorem SameT.i {C d : Addr} {fs : List (Str × V)} (s : SameT T H H') (t : Tabs T H) (e : H a = some (.ins C d fs)) : H' a = some (.ins C d fs) := s.keep a _ e (tabs_out t e fun ps z => by cases z)
theorem Same.tabs (s : Same H H') (t : Tabs T H) : Tabs T H' := (SameT.of s).tabs t
theorem Keep.tabs {d : Addr} {kvs : List (Key × V)} (k : Keep d H H') (hd : H d = some (.dK kvs)) (t : Tabs T H) : Tabs T H' := fun P hP => by
  obtain ⟨ps, e, r⟩ := t P hP
  exact ⟨ps, k _ _ e (ne_of e hd (by intro z; cases z)), r⟩
theorem Tabs.new {p : Addr} {o : HO} (t : Tabs T H) (h : H p = none) : Tabs T (upd H p o) := Same.tabs (same_new h) t
theorem SameT.st1 {K : PySem.W.Frag} {d c : Addr} (s : SameT T H H') (t : Tabs T H) (S : St1 K H d c) : St1 K H' d c := by
  obtain ⟨ns, i, l, m, S⟩ := S
  exact ⟨ns, i, l, m, s.d t S.dc, s.l t S.cs, S.nn, S.i0, S.l0, S.m0, S.m1⟩
end
/-- a def whose code object is known -/
theorem okT {P : Program} {w : World} {K : PySem.W.Frag} {mg : Str → Option Value} {base : Heap} {x qual : Str} {st : Stmt} {f c : Addr} {fd : FuncData} {N ps : List Str} {k : Nat} {sp : Sp} (F : Fun K x qual st f fd) (hc : fd.code = .ref c) (S : FnScope N ps (defScope st)) (len : ∀ vs H Q E, sp vs H Q E → vs.length = ps.length)
    (hbody : ∀ (A : Around) (outer : List Env) (s : Shared) (H : Hp) (vs : List V) (Q : VK) (E : XK), Room k (A.deeper (envOfC qual (defScope st) s.heap.objs.size f (.ref c))) → sp vs H Q E →
      ∃ t, PSs (cxOf CX0 P w K mg base N qual (defScope st) f (.ref c) A outer s H E).nox (defBody st) t ∧ t { nx := fun _ H' => Q .non H', rt := Q } (start N vs) H) : FnOk P w K mg base CX0 (k + 1) f fd ps sp := by
  obtain ⟨oc, od, kV, doc, pm, an, cdv, ct, osl, rfl, lk, hcd⟩ := F.ex
  have e : cdv = .ref c := hc
  subst e
  refine fn_of lk hcd S len fun A outer s H vs Q E hr hsp => ?_
  obtain ⟨t, h, q⟩ := hbody A outer s H vs Q E hr hsp
  exact ⟨t, h.nox, q⟩
theorem walk_tabs {l : PySem.W.OpenLaw} {n k : Nat} {q : Program} {loose : List Str} {XP : (Str → Option Value) → Heap → Prop} {YP : World → Heap → Prop} {d : DefRec} {K : Params → PySem.W.Frag} {CX : World → CXT} {x : Str}
    (hn : l.most = some n) (hn2 : n ≤ sizeLine) (hdf : d.params.defaults = []) (hr : Room k callerA) (hY : ∀ (w : World) (h : Heap), YP w h → (K w.params).In h)
    (F : ∀ (w : World) (mg : Str → Option Value) (fa : Addr) (h : Heap), (K w.params).In h → h.Ns mainGlobals mg → mg d.name = some (.ref fa) →
      (∀ (y : Str) (e : DefRec) (c P : Addr), (recsOf q).find? (fun e => e.name == y) = some e → PySem.W.tabIn (K w.params) y = some (c, P) → PySem.W.CodeHd h c P ∧ h.get? P = some { cls := .none, data := .fields #[] }) → LamX.LawAtS l w (K w.params) (CX w) k n x mg fa h)
    (hCX : ∀ (w : World) (H : Hp) (s : Shared) (e : Value) (s' : Shared), CX w [] H s (fun _ _ _ => False) e s' → False) :
    PySem.W.WalkO q loose XP YP l.row.toRowW d [] (fun f vs => PySem.call f vs) := by
  refine Att.attach_callB hn hdf fun w s₀ s₁ mg mb fa o pm cd doc a vs ns G Y ho hd hcd hmg hobj hints hlen hbits hg => ?_
  have KX := hY w _ Y
  obtain ⟨fd, cs, sp, hT, nT, C, hb, hsp, hF⟩ := F w mg fa _ KX G.T.g hmg fun y e c P hf ht => PySem.W.tab_of G.T KX hf ht
  exact LamX.law_callTs KX G.T.g G.T.b G.T.builtins G.T.nolimit hg hT nT C G.T.bmain hobj hints (Nat.le_trans hlen hn2) hr hF hb (fun H hH hS => hsp H a ns hlen hbits hH hS) fun H e s' => hCX w H s₁ e s'
end Sk

set_option Elab.async false
set_option linter.all false
set_option maxRecDepth 100000
set_option maxHeartbeats 4000000
namespace Sk
open PySem PySem.Spec PyProof.Rows L2
/-! ### bounds -/
def BdN (n : Nat) (x : Int) : Prop := x.natAbs ≤ 2 ^ n
theorem BdN.mono {m n : Nat} {x : Int} (h : BdN m x) (hmn : m ≤ n) : BdN n x := Nat.le_trans h (Nat.pow_le_pow_right (by decide) hmn)
theorem BdN.mul {m n : Nat} {x y : Int} (h : BdN m x) (h' : BdN n y) : BdN (m + n) (x * y) := by
  unfold BdN at *
  rw [Int.natAbs_mul, Nat.pow_add]
  exact Nat.mul_le_mul h h'
theorem BdN.add {n : Nat} {x y : Int} (h : BdN n x) (h' : BdN n y) : BdN (n + 1) (x + y) := by
  unfold BdN at *
  rw [Nat.pow_succ]
  have := Int.natAbs_add_le x y
  omega
theorem BdN.sub {n : Nat} {x y : Int} (h : BdN n x) (h' : BdN n y) : BdN (n + 1) (x - y) := by
  unfold BdN at *
  rw [Nat.pow_succ]
  omega
theorem BdN.of {n : Nat} {x : Int} (h0 : -(2 ^ n : Nat) ≤ x) (h1 : x ≤ (2 ^ n : Nat)) : BdN n x := by
  unfold BdN
  omega
theorem wmB {m n : Nat} {x y : Int} (h : BdN m x) (h' : BdN n y) (hm : m < 2000) (hn : n < 2000) : CMulW x y :=
  wide_mul (a := 2000) (b := 2000) (Nat.lt_of_le_of_lt h (Nat.pow_lt_pow_right (by decide) hm)) (Nat.lt_of_le_of_lt h' (Nat.pow_lt_pow_right (by decide) hn)) (by decide) (by decide) (by decide)
/-! ### the plane -/
def trn (ax ay bx bw x y : Int) : Int := (bx - ax) * (y - ay) - (bw - ay) * (x - ax)
def dtp (ox oy ax ay bx bw : Int) : Int := (ax - ox) * (bx - ox) + (ay - oy) * (bw - oy)
/-- the square of the distance of a point from a segment, a fraction -/
def sqr (x y ax ay bx bw : Int) : Int × Int :=
  if (x - ax) * (bx - ax) + (y - ay) * (bw - ay) ≤ 0 then ((x - ax) * (x - ax) + (y - ay) * (y - ay), 1)
  else if (bx - ax) * (bx - ax) + (bw - ay) * (bw - ay) ≤ (x - ax) * (bx - ax) + (y - ay) * (bw - ay) then ((x - bx) * (x - bx) + (y - bw) * (y - bw), 1)
  else (trn ax ay bx bw x y * trn ax ay bx bw x y, (bx - ax) * (bx - ax) + (bw - ay) * (bw - ay))
def crs (ax ay bx bw cx cy dx dy : Int) : Bool := decide (trn ax ay bx bw cx cy * trn ax ay bx bw dx dy < 0) && decide (trn cx cy dx dy ax ay * trn cx cy dx dy bx bw < 0)
def sqs (ax ay bx bw cx cy dx dy : Int) : List (Int × Int) :=
  if crs ax ay bx bw cx cy dx dy = true then [(0, 1)] else [sqr ax ay cx cy dx dy, sqr bx bw cx cy dx dy, sqr cx cy ax ay bx bw, sqr dx dy ax ay bx bw]
/-- closer, from the enlarged ends -/
def cls (ax ay bx bw cx cy dx dy r : Int) : Bool := (sqs ax ay bx bw cx cy dx dy).any fun t => decide (t.1 < r * r * t.2)
structure Seg where
  ax : Int
  ay : Int
  bx : Int
  bw : Int
  d : Int
def clo (s t : Seg) (l : Int) : Bool := if l ≤ 0 then false else cls (s.ax * t.d) (s.ay * t.d) (s.bx * t.d) (s.bw * t.d) (t.ax * s.d) (t.ay * s.d) (t.bx * s.d) (t.bw * s.d) (l * s.d * t.d)
def Seg.tup (s : Seg) : HO := .tup [.int s.ax, .int s.ay, .int s.bx, .int s.bw, .int s.d]
structure SegBd (n m : Nat) (s : Seg) : Prop where
  ax : BdN n s.ax
  ay : BdN n s.ay
  bx : BdN n s.bx
  bw : BdN n s.bw
  d : BdN m s.d
/-! ### promises of the program's plane -/
/-- a segment's tuple * a factor -/
def spEnl : Sp := fun vs H Q _ => ∃ (a : Addr) (s : Seg) (f : Int), vs = [.ref a, .int f] ∧ H a = some s.tup ∧ SegBd 200 100 s ∧ BdN 100 f ∧ ∀ p, H p = none → Q (.ref p) (upd H p (.tup [.int (s.ax * f), .int (s.ay * f), .int (s.bx * f), .int (s.bw * f)]))
def spTurn : Sp := fun vs H Q _ => ∃ (a : Addr) (ax ay bx bw x y : Int), vs = [.ref a, .int x, .int y] ∧ H a = some (.tup [.int ax, .int ay, .int bx, .int bw]) ∧ BdN 300 ax ∧ BdN 300 ay ∧ BdN 300 bx ∧ BdN 300 bw ∧ BdN 300 x ∧ BdN 300 y ∧ Q (.int (trn ax ay bx bw x y)) H
def spParted : Sp := fun vs H Q _ => ∃ (a b : Addr) (ax ay bx bw cx cy dx dy : Int), vs = [.ref a, .ref b] ∧ H a = some (.tup [.int ax, .int ay, .int bx, .int bw]) ∧ H b = some (.tup [.int cx, .int cy, .int dx, .int dy]) ∧ (∀ z ∈ [ax, ay, bx, bw, cx, cy, dx, dy], BdN 300 z) ∧ Q (.bl (decide (trn ax ay bx bw cx cy * trn ax ay bx bw dx dy < 0))) H
def spCross : Sp := fun vs H Q _ => ∃ (a b : Addr) (ax ay bx bw cx cy dx dy : Int), vs = [.ref a, .ref b] ∧ H a = some (.tup [.int ax, .int ay, .int bx, .int bw]) ∧ H b = some (.tup [.int cx, .int cy, .int dx, .int dy]) ∧ (∀ z ∈ [ax, ay, bx, bw, cx, cy, dx, dy], BdN 300 z) ∧ Q (.bl (crs ax ay bx bw cx cy dx dy)) H
def spSquare : Sp := fun vs H Q _ => ∃ (a : Addr) (ax ay bx bw x y : Int), vs = [.int x, .int y, .ref a] ∧ H a = some (.tup [.int ax, .int ay, .int bx, .int bw]) ∧ BdN 300 ax ∧ BdN 300 ay ∧ BdN 300 bx ∧ BdN 300 bw ∧ BdN 300 x ∧ BdN 300 y ∧ ∀ p, H p = none → Q (.ref p) (upd H p (.tup [.int (sqr x y ax ay bx bw).1, .int (sqr x y ax ay bx bw).2]))
/-- the pairs stand at the addresses -/
def PairsAt (H : Hp) : List V → List (Int × Int) → Prop := fun vs ps => vs.length = ps.length ∧ ∀ (i : Nat) (t : Int × Int), ps[i]? = some t → ∃ p : Addr, vs[i]? = some (V.ref p) ∧ H p = some (.tup [.int t.1, .int t.2])
def segSqs (s t : Seg) : List (Int × Int) := sqs (s.ax * t.d) (s.ay * t.d) (s.bx * t.d) (s.bw * t.d) (t.ax * s.d) (t.ay * s.d) (t.bx * s.d) (t.bw * s.d)
def spSquares : Sp := fun vs H Q _ => ∃ (a b : Addr) (s t : Seg), vs = [.ref a, .ref b] ∧ H a = some s.tup ∧ H b = some t.tup ∧ SegBd 200 100 s ∧ SegBd 200 100 t ∧
  ∀ p H' xs, Same H H' → H' p = some (.lst xs) → PairsAt H' xs (segSqs s t) → Q (.ref p) H'
/-- closer; behind it the tables may have grown -/
def spCloser (TT : List Addr) : Sp := fun vs H Q _ => ∃ (a b : Addr) (s t : Seg) (l : Int), vs = [.ref a, .ref b, .int l] ∧ H a = some s.tup ∧ H b = some t.tup ∧ SegBd 200 100 s ∧ SegBd 200 100 t ∧ BdN 100 l ∧ Tabs TT H ∧
  ∀ H', SameT TT H H' → Q (.bl (clo s t l)) H'
def SegsAt (H : Hp) (vs : List V) (ss : List Seg) : Prop := vs.length = ss.length ∧ ∀ (i : Nat) (s : Seg), ss[i]? = some s → ∃ p : Addr, vs[i]? = some (V.ref p) ∧ H p = some s.tup ∧ SegBd 200 100 s
def spLines (K : PySem.W.Frag) (TT : List Addr) : Sp := fun vs H Q _ => ∃ (a b : Addr) (xs ys : List V) (ss ts : List Seg) (l : Int), vs = [.ref a, .ref b, .int l] ∧ H a = some (.lst xs) ∧ H b = some (.lst ys) ∧ SegsAt H xs ss ∧ SegsAt H ys ts ∧ BdN 100 l ∧ Tabs TT H ∧
  ∀ H', SameT TT H H' → Q (.bl (ss.any fun s => ts.any fun t => clo s t l)) H'
theorem sqr_bd {x y ax ay bx bw : Int} (h1 : BdN 300 ax) (h2 : BdN 300 ay) (h3 : BdN 300 bx) (h4 : BdN 300 bw) : BdN 1300 (sqr x y ax ay bx bw).2 := by
  unfold sqr
  split
  · exact BdN.of (by have : (0:Nat) < 2 ^ 1300 := Nat.pow_pos (by decide); omega) (by have : (1:Nat) ≤ 2 ^ 1300 := Nat.one_le_two_pow; show (1 : Int) ≤ _; omega)
  · split
    · exact BdN.of (by have : (0:Nat) < 2 ^ 1300 := Nat.pow_pos (by decide); omega) (by have : (1:Nat) ≤ 2 ^ 1300 := Nat.one_le_two_pow; show (1 : Int) ≤ _; omega)
    · exact (((h3.sub h1).mul (h3.sub h1)).add ((h4.sub h2).mul (h4.sub h2))).mono (by decide)
theorem segSqs_bd {s t : Seg} (hs : SegBd 200 100 s) (ht : SegBd 200 100 t) : ∀ u ∈ segSqs s t, BdN 1300 u.2 := by
  have e1 : ∀ {x y : Int}, BdN 200 x → BdN 100 y → BdN 300 (x * y) := fun h h' => h.mul h'
  intro u hu
  unfold segSqs sqs at hu
  split at hu
  · rw [List.mem_singleton.mp hu]
    exact BdN.of (by have : (0:Nat) < 2 ^ 1300 := Nat.pow_pos (by decide); omega) (by have : (1:Nat) ≤ 2 ^ 1300 := Nat.one_le_two_pow; show (1 : Int) ≤ _; omega)
  · simp only [List.mem_cons, List.not_mem_nil, or_false] at hu
    rcases hu with rfl | rfl | rfl | rfl
    · exact sqr_bd (e1 ht.ax hs.d) (e1 ht.ay hs.d) (e1 ht.bx hs.d) (e1 ht.bw hs.d)
    · exact sqr_bd (e1 ht.ax hs.d) (e1 ht.ay hs.d) (e1 ht.bx hs.d) (e1 ht.bw hs.d)
    · exact sqr_bd (e1 hs.ax ht.d) (e1 hs.ay ht.d) (e1 hs.bx ht.d) (e1 hs.bw ht.d)
    · exact sqr_bd (e1 hs.ax ht.d) (e1 hs.ay ht.d) (e1 hs.bx ht.d) (e1 hs.bw ht.d)
end Sk

set_option Elab.async false
set_option linter.all false
set_option maxRecDepth 100000
set_option maxHeartbeats 4000000
namespace Sk
open PySem PySem.Spec PyProof.Rows L2
/-! ### the law's own comparison is the program's -/
def ptc (px py ax ay bx bw r2 : Int) : Bool :=
  if dtp ax ay bx bw px py ≤ 0 then decide (dtp ax ay px py px py < r2)
  else if dtp ax ay bx bw bx bw ≤ dtp ax ay bx bw px py then decide (dtp bx bw px py px py < r2)
  else decide (trn ax ay bx bw px py * trn ax ay bx bw px py < r2 * dtp ax ay bx bw bx bw)
theorem ptc_eq (px py ax ay bx bw r2 : Int) : ptc px py ax ay bx bw r2 = decide ((sqr px py ax ay bx bw).1 < r2 * (sqr px py ax ay bx bw).2) := by
  unfold ptc sqr dtp
  have e1 : (bx - ax) * (px - ax) + (bw - ay) * (py - ay) = (px - ax) * (bx - ax) + (py - ay) * (bw - ay) := by grind
  rw [e1]
  by_cases c1 : (px - ax) * (bx - ax) + (py - ay) * (bw - ay) ≤ 0
  · rw [if_pos c1, if_pos c1, Int.mul_one]
  · rw [if_neg c1, if_neg c1]
    by_cases c2 : (bx - ax) * (bx - ax) + (bw - ay) * (bw - ay) ≤ (px - ax) * (bx - ax) + (py - ay) * (bw - ay)
    · rw [if_pos c2, if_pos c2, Int.mul_one]
    · rw [if_neg c2, if_neg c2]
theorem sqself {x : Int} (h : x * x = 0) : x = 0 := by
  rcases Int.mul_eq_zero.mp h with z | z <;> exact z
theorem sqr_turn (x y ax ay bx bw : Int) : sqr x y bx bw ax ay = sqr x y ax ay bx bw := by
  unfold sqr
  have e1 : (x - bx) * (ax - bx) + (y - bw) * (ay - bw) = ((bx - ax) * (bx - ax) + (bw - ay) * (bw - ay)) - ((x - ax) * (bx - ax) + (y - ay) * (bw - ay)) := by grind
  have e2 : (ax - bx) * (ax - bx) + (ay - bw) * (ay - bw) = (bx - ax) * (bx - ax) + (bw - ay) * (bw - ay) := by grind
  have e3 : trn bx bw ax ay x y * trn bx bw ax ay x y = trn ax ay bx bw x y * trn ax ay bx bw x y := by unfold trn; grind
  have n1 := sq0 (bx - ax)
  have n2 := sq0 (bw - ay)
  rw [e1, e2, e3]
  have h0 : (bx - ax) * (bx - ax) + (bw - ay) * (bw - ay) = 0 → bx = ax ∧ bw = ay := fun z => by
    have a := sqself (show (bx - ax) * (bx - ax) = 0 by omega)
    have b := sqself (show (bw - ay) * (bw - ay) = 0 by omega)
    omega
  generalize hA : (x - ax) * (bx - ax) + (y - ay) * (bw - ay) = A
  generalize hL : (bx - ax) * (bx - ax) + (bw - ay) * (bw - ay) = L at *
  by_cases c1 : A ≤ 0
  · by_cases c2 : L ≤ A
    · obtain ⟨rfl, rfl⟩ := h0 (by omega)
      rw [if_pos (by omega), if_pos c1]
    · rw [if_neg (by omega), if_pos (by omega), if_pos c1]
  · by_cases c2 : L ≤ A
    · rw [if_pos (by omega), if_neg c1, if_pos c2]
    · rw [if_neg (by omega), if_neg (by omega), if_neg c1, if_neg c2]
theorem cls_swap (ax ay bx bw cx cy dx dy r : Int) : cls cx cy dx dy ax ay bx bw r = cls ax ay bx bw cx cy dx dy r := by
  unfold cls sqs
  have e : crs cx cy dx dy ax ay bx bw = crs ax ay bx bw cx cy dx dy := by unfold crs; exact Bool.and_comm _ _
  rw [e]
  by_cases c : crs ax ay bx bw cx cy dx dy = true
  · rw [if_pos c, if_pos c]
  · rw [if_neg c, if_neg c]
    simp only [List.any_cons, List.any_nil, Bool.or_false]
    cases decide ((sqr ax ay cx cy dx dy).1 < r * r * (sqr ax ay cx cy dx dy).2) <;> cases decide ((sqr bx bw cx cy dx dy).1 < r * r * (sqr bx bw cx cy dx dy).2) <;> cases decide ((sqr cx cy ax ay bx bw).1 < r * r * (sqr cx cy ax ay bx bw).2) <;> cases decide ((sqr dx dy ax ay bx bw).1 < r * r * (sqr dx dy ax ay bx bw).2) <;> rfl
theorem cls_turn (ax ay bx bw cx cy dx dy r : Int) : cls bx bw ax ay cx cy dx dy r = cls ax ay bx bw cx cy dx dy r := by
  unfold cls sqs
  have t1 : ∀ x y, trn bx bw ax ay x y = - trn ax ay bx bw x y := fun x y => by unfold trn; grind
  have e : crs bx bw ax ay cx cy dx dy = crs ax ay bx bw cx cy dx dy := by
    unfold crs
    rw [t1, t1, Int.neg_mul_neg, Int.mul_comm (trn cx cy dx dy bx bw)]
  rw [e, sqr_turn cx cy, sqr_turn dx dy]
  by_cases c : crs ax ay bx bw cx cy dx dy = true
  · rw [if_pos c, if_pos c]
  · rw [if_neg c, if_neg c]
    simp only [List.any_cons, List.any_nil, Bool.or_false]
    cases decide ((sqr ax ay cx cy dx dy).1 < r * r * (sqr ax ay cx cy dx dy).2) <;> cases decide ((sqr bx bw cx cy dx dy).1 < r * r * (sqr bx bw cx cy dx dy).2) <;> rfl
theorem clo_swap (s t : Seg) (l : Int) : clo t s l = clo s t l := by
  unfold clo
  rw [cls_swap, show l * t.d * s.d = l * s.d * t.d by ac_rfl]
def Seg.turn (s : Seg) : Seg := ⟨s.bx, s.bw, s.ax, s.ay, s.d⟩
theorem clo_turn (s t : Seg) (l : Int) : clo s.turn t l = clo s t l := by
  unfold clo Seg.turn
  dsimp only
  rw [cls_turn]
/-- as the law has it -/
def lclo (s t : Seg) (l : Int) : Bool :=
  (decide (0 < l * l * s.d * s.d * t.d * t.d) && crs (s.ax * t.d) (s.ay * t.d) (s.bx * t.d) (s.bw * t.d) (t.ax * s.d) (t.ay * s.d) (t.bx * s.d) (t.bw * s.d)) ||
  (ptc (s.ax * t.d) (s.ay * t.d) (t.ax * s.d) (t.ay * s.d) (t.bx * s.d) (t.bw * s.d) (l * l * s.d * s.d * t.d * t.d) || ptc (s.bx * t.d) (s.bw * t.d) (t.ax * s.d) (t.ay * s.d) (t.bx * s.d) (t.bw * s.d) (l * l * s.d * s.d * t.d * t.d) ||
   (ptc (t.ax * s.d) (t.ay * s.d) (s.ax * t.d) (s.ay * t.d) (s.bx * t.d) (s.bw * t.d) (l * l * s.d * s.d * t.d * t.d) || ptc (t.bx * s.d) (t.bw * s.d) (s.ax * t.d) (s.ay * t.d) (s.bx * t.d) (s.bw * t.d) (l * l * s.d * s.d * t.d * t.d)))
theorem sqr_nn (x y ax ay bx bw : Int) : 0 ≤ (sqr x y ax ay bx bw).1 ∧ 0 ≤ (sqr x y ax ay bx bw).2 := by
  unfold sqr
  have a1 := sq0 (x - ax); have a2 := sq0 (y - ay); have a3 := sq0 (x - bx); have a4 := sq0 (y - bw); have a5 := sq0 (bx - ax); have a6 := sq0 (bw - ay); have a7 := sq0 (trn ax ay bx bw x y)
  split
  · exact ⟨by dsimp only; omega, by dsimp only; omega⟩
  · split
    · exact ⟨by dsimp only; omega, by dsimp only; omega⟩
    · exact ⟨by dsimp only; omega, by dsimp only; omega⟩
theorem lclo_eq {s t : Seg} {l : Int} (hl : 0 ≤ l) (hs : 1 ≤ s.d) (ht : 1 ≤ t.d) : lclo s t l = clo s t l := by
  unfold lclo clo
  simp only [ptc_eq]
  have er : l * s.d * t.d * (l * s.d * t.d) = l * l * s.d * s.d * t.d * t.d := by ac_rfl
  by_cases c : l ≤ 0
  · rw [if_pos c]
    obtain rfl : l = 0 := by omega
    simp only [Int.zero_mul]
    have z : ∀ x y ax ay bx bw, decide ((sqr x y ax ay bx bw).1 < 0) = false := fun x y ax ay bx bw => decide_eq_false (by have := (sqr_nn x y ax ay bx bw).1; omega)
    simp only [z]
    rfl
  · rw [if_neg c]
    have hp : 0 < l * l * s.d * s.d * t.d * t.d := by
      rw [← er]
      have h1 : 0 < l * s.d * t.d := Int.mul_pos (Int.mul_pos (by omega) (by omega)) (by omega)
      exact Int.mul_pos h1 h1
    unfold cls sqs
    rw [er, decide_eq_true hp, Bool.true_and]
    by_cases cc : crs (s.ax * t.d) (s.ay * t.d) (s.bx * t.d) (s.bw * t.d) (t.ax * s.d) (t.ay * s.d) (t.bx * s.d) (t.bw * s.d) = true
    · rw [if_pos cc, cc, Bool.true_or]
      simp only [List.any_cons, List.any_nil, Bool.or_false]
      symm
      exact decide_eq_true (by omega)
    · rw [if_neg cc]
      have cf : crs (s.ax * t.d) (s.ay * t.d) (s.bx * t.d) (s.bw * t.d) (t.ax * s.d) (t.ay * s.d) (t.bx * s.d) (t.bw * s.d) = false := by simpa using cc
      rw [cf, Bool.false_or]
      simp only [List.any_cons, List.any_nil, Bool.or_false, Bool.or_assoc]
end Sk

set_option Elab.async false
set_option linter.all false
set_option maxRecDepth 100000
set_option maxHeartbeats 4000000
namespace Sk
open PySem PySem.Spec PyProof.Rows L2
/-! a method of the text, ready to be called -/
structure MDef (P : Program) (w : World) (K : PySem.W.Frag) (mg : Str → Option Value) (base : Heap) (k : Nat) (C : Addr) (m : Str) (ps : List Str) (sp : Sp) : Prop where
  ex : ∃ (f : Addr) (fd : FuncData), FnOk P w K mg base CX0 k f fd ps sp ∧ Meth K C m f ∧ Binds K fd ps []
theorem pe_mdef {X : Cx} {k : Nat} {C : Addr} {m : Str} {ps : List Str} {sp : Sp} {pos apos : Pos} {o e : Expr} {es : List Expr} {ta : TE} {t : TA} {pl : Sem Bool} (D : MDef X.prog X.w X.K X.mg X.base k C m ps sp) (cl : Cls X.K C) (hr : Room k X.A) (ho : PE X o ta)
    (ha : PA X (e :: es) t) (he : starEach (e :: es) X.env = (false, eval e X.env) :: starEach es X.env := by rfl) (hpl : (backTo pos (starEach es X.env)).any (·.1) = false := by rfl)
    (ht : eval (.Call (.Attribute o m apos) (e :: es) [] pos) X.env = (do
      let ov ← eval o X.env
      standAt apos.atName
      let (f, first) ← holding [ov] (getMethod ov m pl)
      callWith pos f first (backTo pos (starEach (e :: es) X.env)) (backToKw pos (keywordEach [] X.env))) := by rfl) :
    PE X (.Call (.Attribute o m apos) (e :: es) [] pos) (tMeth C m sp [] E0 ta t) := by
  obtain ⟨f, fd, F, M, b⟩ := D.ex
  exact pe_meth ho cl M F hr b .nil pass0 ha he hpl ht
theorem pe_mdef0 {X : Cx} {k : Nat} {C : Addr} {m : Str} {ps : List Str} {sp : Sp} {pos apos : Pos} {o : Expr} {ta : TE} {pl : Sem Bool} (D : MDef X.prog X.w X.K X.mg X.base k C m ps sp) (cl : Cls X.K C) (hr : Room k X.A) (ho : PE X o ta)
    (ht : eval (.Call (.Attribute o m apos) [] [] pos) X.env = (do
      let ov ← eval o X.env
      standAt apos.atName
      let (f, first) ← holding [ov] (getMethod ov m pl)
      callWith pos f first (backTo pos (starEach [] X.env)) (backToKw pos (keywordEach [] X.env))) := by rfl) :
    PE X (.Call (.Attribute o m apos) [] [] pos) (tMeth C m sp [] E0 ta tNil) := by
  obtain ⟨f, fd, F, M, b⟩ := D.ex
  exact pe_meth0 ho cl M F hr b .nil pass0 ht
/-! roots -/
def rt (n : Int) : Int :=
  let q : Int := (Float64.isqrt n.toNat : Nat)
  if q * q < n then q + 1 else q
structure IsRt (n r : Int) : Prop where
  nn : 0 ≤ r
  up : n ≤ r * r
  lo : r = 0 ∨ (r - 1) * (r - 1) < n
theorem mono_sq {a b : Int} (h0 : 0 ≤ a) (h : a ≤ b) : a * a ≤ b * b := Int.mul_le_mul h h h0 (by omega)
theorem IsRt.le {n r r' : Int} (h : IsRt n r) (h' : IsRt n r') : r ≤ r' := by
  rcases h.lo with z | z
  · have := h'.nn; omega
  · rcases ltge r' r with w | w
    · have a := mono_sq h'.nn (show r' ≤ r - 1 by omega)
      have b := h'.up
      omega
    · exact w
theorem IsRt.eq {n r r' : Int} (h : IsRt n r) (h' : IsRt n r') : r = r' := by
  have a := h.le h'
  have b := h'.le h
  omega
theorem rt_is {n : Int} (hn : 0 ≤ n) : IsRt n (rt n) := by
  obtain ⟨z1, z2⟩ := PySem.Float64.isqrt_spec n.toNat
  have e : ((n.toNat : Nat) : Int) = n := by omega
  have a := Int.ofNat_le.mpr z1
  have b := Int.ofNat_lt.mpr z2
  rw [Int.natCast_mul, e] at a
  rw [Int.natCast_mul, Int.natCast_add, e] at b
  have q0 : (0 : Int) ≤ (Float64.isqrt n.toNat : Nat) := Int.natCast_nonneg _
  unfold rt
  dsimp only
  generalize ((Float64.isqrt n.toNat : Nat) : Int) = q at a b q0 ⊢
  have b' : n < (q + 1) * (q + 1) := b
  by_cases h : q * q < n
  · rw [if_pos h]
    exact ⟨by omega, by omega, .inr (by rw [show q + 1 - 1 = q by omega]; exact h)⟩
  · rw [if_neg h]
    refine ⟨q0, by omega, ?_⟩
    rcases ltge 0 q with w | w
    · right
      have : (q - 1) * (q - 1) = q * q - 2 * q + 1 := by
        rw [Int.sub_mul, Int.mul_sub, Int.mul_sub]; omega
      omega
    · left; omega
theorem rt_nn {n : Int} (hn : 0 ≤ n) : 0 ≤ rt n := (rt_is hn).nn
theorem rt_small {n b : Int} (hn : 0 ≤ n) (hb : 0 ≤ b) (h : n ≤ b * b) : rt n ≤ b := by
  rcases (rt_is hn).lo with z | z
  · omega
  · rcases ltge b (rt n) with w | w
    · have := mono_sq hb (show b ≤ rt n - 1 by omega)
      omega
    · exact w
/-! texts whose signs are signs -/
abbrev sOk (x : Str) : Prop := PySem.PyData.strOk x = true
theorem sOk_app {x y : Str} (h1 : sOk x) (h2 : sOk y) : sOk (x ++ y) := by
  unfold sOk PySem.PyData.strOk at *
  show (x.cps ++ y.cps).all (· < 0x110000) = true
  rw [Array.all_append, h1, h2]
  rfl
/-! the chart -/
structure Lg where
  a : Addr
  s : Str
  e : Str
  c : Str
  lo : Int
  hi : Int
def Lg.v (l : Lg) : List V := [.str l.s, .str l.e, .str l.c, .int l.lo, .int l.hi]
structure CD where
  fx : Addr
  lg : Addr
  fs : List (Key × V)
  pt : Str → Option (Addr × Int × Int)
  ls : List Lg
structure ChartAt (H : Hp) (ch : Addr) (D : CD) : Prop where
  ch : ∃ kvs, H ch = some (.dK kvs) ∧ valV kvs (.inr "fixes") = some (.ref D.fx) ∧ valV kvs (.inr "legs") = some (.ref D.lg)
  fx : H D.fx = some (.dK D.fs)
  lg : H D.lg = some (.lst (D.ls.map fun l => V.ref l.a))
  lt : ∀ l ∈ D.ls, H l.a = some (.tup l.v)
  pf : ∀ n a x y, D.pt n = some (a, x, y) → valV D.fs (.inr n) = some (.ref a) ∧ H a = some (.tup [.int x, .int y]) ∧ -100000 ≤ x ∧ x ≤ 100000 ∧ -100000 ≤ y ∧ y ≤ 100000
  wf : ∀ l ∈ D.ls, (∃ a x y, D.pt l.s = some (a, x, y)) ∧ ∃ a x y, D.pt l.e = some (a, x, y)
  sk : ∀ l ∈ D.ls, sOk l.s ∧ sOk l.e ∧ sOk l.c
  n : D.ls.length ≤ 100
theorem ChartAt.same {H H' : Hp} {ch : Addr} {D : CD} (C : ChartAt H ch D) (e : Same H H') : ChartAt H' ch D := by
  obtain ⟨⟨kvs, h1, h2, h3⟩, h4, h5, h6, h7, h8, h8', h9⟩ := C
  exact ⟨⟨kvs, e _ _ h1, h2, h3⟩, e _ _ h4, e _ _ h5, fun l hl => e _ _ (h6 l hl), fun n a x y hp => let ⟨p1, p2, p3⟩ := h7 n a x y hp; ⟨p1, e _ _ p2, p3⟩, h8, h8', h9⟩
theorem ChartAt.keep {K : PySem.W.Frag} {H H' : Hp} {d c ch : Addr} {D : CD} (C : ChartAt H ch D) (S : St1 K H d c) (k : Keep d H H') (n1 : ch ≠ d) (n2 : D.fx ≠ d) : ChartAt H' ch D := by
  obtain ⟨⟨kvs, h1, h2, h3⟩, h4, h5, h6, h7, h8, h8', h9⟩ := C
  exact ⟨⟨kvs, k _ _ h1 n1, h2, h3⟩, k _ _ h4 n2, k.l S h5, fun l hl => k.t S (h6 l hl), fun n a x y hp => let ⟨p1, p2, p3⟩ := h7 n a x y hp; ⟨p1, k.t S p2, p3⟩, h8, h8', h9⟩
theorem ChartAt.gf {H : Hp} {ch : Addr} {D : CD} (C : ChartAt H ch D) : DGet H ch (.str "fixes") (some (.ref D.fx)) := let ⟨_, h1, h2, _⟩ := C.ch; h2 ▸ DGet.k (k := .inr "fixes") h1
theorem ChartAt.gl {H : Hp} {ch : Addr} {D : CD} (C : ChartAt H ch D) : DGet H ch (.str "legs") (some (.ref D.lg)) := let ⟨_, h1, _, h3⟩ := C.ch; h3 ▸ DGet.k (k := .inr "legs") h1
theorem ChartAt.gp {H : Hp} {ch : Addr} {D : CD} (C : ChartAt H ch D) {n : Str} {a : Addr} {x y : Int} (h : D.pt n = some (a, x, y)) : DGet H D.fx (.str n) (some (.ref a)) := (C.pf n a x y h).1 ▸ DGet.k (k := .inr n) C.fx
/-- the length of the leg between two names -/
def CD.len (D : CD) (s e : Str) : Int := match D.pt s, D.pt e with
  | some (_, ax, ay), some (_, bx, by') => rt ((bx - ax) * (bx - ax) + (by' - ay) * (by' - ay))
  | _, _ => 0
theorem CD.len_eq {D : CD} {s e : Str} {a b : Addr} {ax ay bx by' : Int} (h1 : D.pt s = some (a, ax, ay)) (h2 : D.pt e = some (b, bx, by')) : D.len s e = rt ((bx - ax) * (bx - ax) + (by' - ay) * (by' - ay)) := by
  unfold CD.len
  rw [h1, h2]
def CD.leg (D : CD) (s e : Str) : Option Lg := D.ls.find? fun l => decide (l.s = s) && decide (l.e = e)
def optL : Option Lg → V
  | some l => .ref l.a
  | none => .non
theorem CD.leg_mem {D : CD} {s e : Str} {l : Lg} (h : D.leg s e = some l) : l ∈ D.ls ∧ l.s = s ∧ l.e = e := by
  have h1 := List.find?_some h
  simp only [Bool.and_eq_true, decide_eq_true_eq] at h1
  exact ⟨List.mem_of_find?_eq_some h, h1.1, h1.2⟩
/-! promises -/
def spUpR : Sp := fun vs H Q _ => ∃ n : Int, vs = [.int n] ∧ 0 ≤ n ∧ n.natAbs < 2 ^ 240 ∧ Q (.int (rt n)) H
def spDownR : Sp := fun vs H Q _ => ∃ n : Int, vs = [.int n] ∧ n.natAbs < 2 ^ 250 ∧ ∀ r : Int, 0 ≤ r → (n ≤ 0 → r = 0) → (0 ≤ n → r * r ≤ n ∧ n < (r + 1) * (r + 1)) → Q (.int r) H
def spRootR : Sp := fun vs H Q _ => ∃ n : Int, vs = [.int n] ∧ 0 ≤ n ∧ n ≤ 100000000000000 ∧ Q (.int (rt n)) H
def spLegLen : Sp := fun vs H Q _ => ∃ (ch : Addr) (D : CD) (s e : Str) (a b : Addr) (ax ay bx by' : Int), vs = [.ref ch, .str s, .str e] ∧ ChartAt H ch D ∧ D.pt s = some (a, ax, ay) ∧ D.pt e = some (b, bx, by') ∧ Q (.int (D.len s e)) H
def spLegBt : Sp := fun vs H Q _ => ∃ (ch : Addr) (D : CD) (s e : Str), vs = [.ref ch, .str s, .str e] ∧ ChartAt H ch D ∧ Q (optL (D.leg s e)) H
def spIs : Sp := fun vs H Q _ => ∃ a b : Bool, vs = [.bl a, .bl b] ∧ Q (.bl (decide (a = b))) H
/-- a list of texts -/
def spNames (K : PySem.W.Frag) : Sp := fun vs H Q _ => ∃ (d c : Addr) (m : Int), vs = [.ref d, .int m] ∧ St1 K H d c ∧ 0 ≤ m ∧ m ≤ 12 ∧
  ∀ (ns : List Str) p H', (ns.length : Int) = m → (∀ n ∈ ns, sOk n) → ns.Nodup → H p = none → H' p = some (.lst (ns.map V.str)) → St1 K H' d c → Keep d H H' → Q (.ref p) H'
/-- legs among the names -/
structure LegsAt (H : Hp) (l : Addr) (ns : List Str) (ls : List Lg) : Prop where
  li : H l = some (.lst (ls.map fun l => V.ref l.a))
  tu : ∀ q ∈ ls, H q.a = some (.tup q.v)
  nm : ∀ q ∈ ls, q.s ∈ ns ∧ q.e ∈ ns
  ck : ∀ q ∈ ls, sOk q.c
  ne : ns.Nodup → ∀ q ∈ ls, q.s ≠ q.e
theorem LegsAt.same {H H' : Hp} {l : Addr} {ns : List Str} {ls : List Lg} (L : LegsAt H l ns ls) (e : Same H H') : LegsAt H' l ns ls := ⟨e _ _ L.li, fun q h => e _ _ (L.tu q h), L.nm, L.ck, L.ne⟩
theorem LegsAt.keep {K : PySem.W.Frag} {H H' : Hp} {d c l : Addr} {ns : List Str} {ls : List Lg} (L : LegsAt H l ns ls) (S : St1 K H d c) (k : Keep d H H') : LegsAt H' l ns ls := ⟨k.l S L.li, fun q h => k.t S (L.tu q h), L.nm, L.ck, L.ne⟩
theorem LegsAt.snoc {H : Hp} {l : Addr} {ns : List Str} {ls : List Lg} {q : Lg} (L : LegsAt H l ns ls) (hp : H q.a = some (.tup q.v)) (h1 : q.s ∈ ns) (h2 : q.e ∈ ns) (h3 : sOk q.c) (h4 : ns.Nodup → q.s ≠ q.e) : LegsAt (upd H l (.lst ((ls.map fun l => V.ref l.a) ++ [.ref q.a]))) l ns (ls ++ [q]) := by
  refine ⟨by rw [upd_same, List.map_append]; rfl, fun z hz => ?_, fun z hz => ?_, fun z hz => ?_, fun nd z hz => ?_⟩
  · have ht : H z.a = some (.tup z.v) := by
      rcases List.mem_append.mp hz with h | h
      · exact L.tu z h
      · rw [List.mem_singleton.mp h]; exact hp
    rw [upd_ne (ne_of ht L.li (by intro e; cases e))]
    exact ht
  · rcases List.mem_append.mp hz with h | h
    · exact L.nm z h
    · rw [List.mem_singleton.mp h]; exact ⟨h1, h2⟩
  · rcases List.mem_append.mp hz with h | h
    · exact L.ck z h
    · rw [List.mem_singleton.mp h]; exact h3
  · rcases List.mem_append.mp hz with h | h
    · exact L.ne nd z h
    · rw [List.mem_singleton.mp h]; exact h4 nd
def spLegs (K : PySem.W.Frag) : Sp := fun vs H Q _ => ∃ (d c l : Addr) (ns : List Str), vs = [.ref d, .ref l] ∧ St1 K H d c ∧ H l = some (.lst (ns.map V.str)) ∧ 2 ≤ ns.length ∧ ns.length ≤ 12 ∧
  ∀ (ls : List Lg) p H', LegsAt H' p ns ls → ls.length ≤ 100 → H p = none → St1 K H' d c → Keep d H H' → Q (.ref p) H'
def spChart (K : PySem.W.Frag) : Sp := fun vs H Q _ => ∃ (d c : Addr) (m z : Int), vs = [.ref d, .int m, .int z] ∧ St1 K H d c ∧ 2 ≤ m ∧ m ≤ 7 ∧ 1 ≤ z ∧ z ≤ 9000 ∧
  ∀ (D : CD) ch H', (∀ l ∈ D.ls, 1 ≤ D.len l.s l.e) → ChartAt H' ch D → H ch = none → H D.fx = none → St1 K H' d c → Keep d H H' → Q (.ref ch) H'
def spLawLeg : Sp := spLegBt
/-! the parts of a chart while it is made -/
/-- all but two -/
def Keep2 (d e : Addr) (H H' : Hp) : Prop := ∀ c o, H c = some o → c ≠ d → c ≠ e → H' c = some o
theorem Keep2.refl (d e : Addr) (H : Hp) : Keep2 d e H H := fun _ _ h _ _ => h
theorem Keep2.k {d e : Addr} {H H1 H2 : Hp} (a : Keep2 d e H H1) (b : Keep d H1 H2) : Keep2 d e H H2 := fun c o h n m => b c o (a c o h n m) n
theorem Keep2.new {d e p : Addr} {o : HO} {H H1 : Hp} (a : Keep2 d e H H1) (h : H1 p = none) : Keep2 d e H (upd H1 p o) := fun c u q n m => same_new h _ _ (a c u q n m)
theorem Keep2.put {d e : Addr} {o : HO} {H H1 : Hp} (a : Keep2 d e H H1) : Keep2 d e H (upd H1 e o) := fun c u q n m => by
  rw [upd_ne m]
  exact a c u q n m
structure FixAt (H : Hp) (f : Addr) (kvs : List (Key × V)) (pt : Str → Option (Addr × Int × Int)) (ns : List Str) : Prop where
  dc : H f = some (.dK kvs)
  pf : ∀ n a x y, pt n = some (a, x, y) → valV kvs (.inr n) = some (.ref a) ∧ H a = some (.tup [.int x, .int y]) ∧ -100000 ≤ x ∧ x ≤ 100000 ∧ -100000 ≤ y ∧ y ≤ 100000
  nm : ∀ n ∈ ns, ∃ a x y, pt n = some (a, x, y)
theorem FixAt.same {H H' : Hp} {f : Addr} {kvs : List (Key × V)} {pt : Str → Option (Addr × Int × Int)} {ns : List Str} (F : FixAt H f kvs pt ns) (e : Same H H') : FixAt H' f kvs pt ns :=
  ⟨e _ _ F.dc, fun n a x y h => let ⟨h1, h2, h3⟩ := F.pf n a x y h; ⟨h1, e _ _ h2, h3⟩, F.nm⟩
theorem FixAt.keep {K : PySem.W.Frag} {H H' : Hp} {d c f : Addr} {kvs : List (Key × V)} {pt : Str → Option (Addr × Int × Int)} {ns : List Str} (F : FixAt H f kvs pt ns) (S : St1 K H d c) (k : Keep d H H') (n : f ≠ d) : FixAt H' f kvs pt ns :=
  ⟨k _ _ F.dc n, fun n a x y h => let ⟨h1, h2, h3⟩ := F.pf n a x y h; ⟨h1, k.t S h2, h3⟩, F.nm⟩
theorem FixAt.keep2 {K : PySem.W.Frag} {H H' : Hp} {d c e f : Addr} {o : List (Key × V)} {kvs : List (Key × V)} {pt : Str → Option (Addr × Int × Int)} {ns : List Str} (F : FixAt H f kvs pt ns) (S : St1 K H d c) (he : ∀ xs, H e ≠ some (.tup xs)) (k : Keep2 d e H H') (n : f ≠ d) (m : f ≠ e) : FixAt H' f kvs pt ns :=
  ⟨k _ _ F.dc n m, fun n a x y h => let ⟨h1, h2, h3⟩ := F.pf n a x y h; ⟨h1, k _ _ h2 (let ⟨_, z⟩ := S.dk; ne_of h2 z (by intro w; cases w)) (fun w => he _ (w ▸ h2)), h3⟩, F.nm⟩
theorem FixAt.put {H : Hp} {f p : Addr} {kvs : List (Key × V)} {pt : Str → Option (Addr × Int × Int)} {ns : List Str} {n : Str} {x y : Int} (F : FixAt H f kvs pt ns) (hp : H p = some (.tup [.int x, .int y])) (b : -100000 ≤ x ∧ x ≤ 100000 ∧ -100000 ≤ y ∧ y ≤ 100000) :
    FixAt (upd H f (.dK (putK kvs (.inr n) (.ref p)))) f (putK kvs (.inr n) (.ref p)) (fun m => if m = n then some (p, x, y) else pt m) (ns ++ [n]) := by
  refine ⟨upd_same, fun m a u v h => ?_, fun m hm => ?_⟩
  · rw [valV_put]
    by_cases e : m = n
    · subst e
      simp only [if_true] at h
      cases h
      rw [if_pos rfl, upd_ne (ne_of hp F.dc (by intro z; cases z))]
      exact ⟨rfl, hp, b⟩
    · simp only [if_neg e] at h
      obtain ⟨h1, h2, h3⟩ := F.pf m a u v h
      rw [if_neg (fun z => e (Sum.inr.inj z)), upd_ne (ne_of h2 F.dc (by intro z; cases z))]
      exact ⟨h1, h2, h3⟩
  · by_cases e : m = n
    · exact ⟨p, x, y, by simp [e]⟩
    · rcases List.mem_append.mp hm with h | h
      · obtain ⟨a, u, v, h⟩ := F.nm m h
        exact ⟨a, u, v, by simp only [if_neg e]; exact h⟩
      · exact absurd (List.mem_singleton.mp h) e
theorem putK_len {kvs : List (Key × V)} {k : Key} {v : V} : (putK kvs k v).length ≤ kvs.length + 1 := by
  unfold putK
  split
  · rw [List.length_map]; omega
  · rw [List.length_append]; exact Nat.le_refl _
section
variable {f l z r h u w : V}
def chK (f l z r h u w : V) : List (Key × V) := putK (putK (mergeK [] [(.inr "fixes", f), (.inr "legs", l), (.inr "zones", z), (.inr "runways", r), (.inr "holds", h)]) (.inr "hours") u) (.inr "capacities") w
theorem ch_fix : valV (chK f l z r h u w) (.inr "fixes") = some f := by
  unfold chK
  simp only [mergeK, List.foldl, valV_put]
  rw [if_neg (kr (by decide +kernel)), if_neg (kr (by decide +kernel)), if_neg (kr (by decide +kernel)), if_neg (kr (by decide +kernel)), if_neg (kr (by decide +kernel)), if_neg (kr (by decide +kernel)), if_pos trivial]
theorem ch_leg : valV (chK f l z r h u w) (.inr "legs") = some l := by
  unfold chK
  simp only [mergeK, List.foldl, valV_put]
  rw [if_neg (kr (by decide +kernel)), if_neg (kr (by decide +kernel)), if_neg (kr (by decide +kernel)), if_neg (kr (by decide +kernel)), if_neg (kr (by decide +kernel)), if_pos trivial]
theorem ch_len : (mergeK [] [((.inr "fixes" : Key), f), (.inr "legs", l), (.inr "zones", z), (.inr "runways", r), (.inr "holds", h)]).length ≤ 5 := by
  have := length_mergeK [((.inr "fixes" : Key), f), (.inr "legs", l), (.inr "zones", z), (.inr "runways", r), (.inr "holds", h)] []
  simpa using this
end
/-! routes -/
def rn (ns : List Str) (j : Nat) : Str := ns.getD j (Str.ofString "")
theorem rn_at {ns : List Str} {j : Nat} (h : j < ns.length) : (ns.map V.str)[j]? = some (V.str (rn ns j)) := by
  unfold rn
  simp [h]
def Chain (D : CD) (ns : List Str) : Prop := ∀ j, j + 1 < ns.length → ∃ l, D.leg (rn ns j) (rn ns (j + 1)) = some l
theorem rn_l {xs ys : List Str} {j : Nat} (h : j < xs.length) : rn (xs ++ ys) j = rn xs j := by
  unfold rn
  rw [List.getD_eq_getElem?_getD, List.getD_eq_getElem?_getD, List.getElem?_append_left h]
theorem rn_r (xs : List Str) (b : Str) : rn (xs ++ [b]) xs.length = b := by
  unfold rn
  rw [List.getD_eq_getElem?_getD, List.getElem?_append_right (Nat.le_refl _), Nat.sub_self]
  rfl
theorem Chain.snoc {D : CD} {ns : List Str} {a b : Str} (h : Chain D ns) (ha : ns.getLast? = some a) (hl : ∃ l, D.leg a b = some l) : Chain D (ns ++ [b]) := by
  intro j hj
  rw [List.length_append, List.length_singleton] at hj
  obtain ⟨ys, rfl⟩ := List.getLast?_eq_some_iff.mp ha
  by_cases e : j + 1 < (ys ++ [a]).length
  · rw [rn_l (show j < (ys ++ [a]).length by omega), rn_l e]
    exact h j e
  · have ej : j = ys.length := by rw [List.length_append, List.length_singleton] at e hj; omega
    subst ej
    have e2 : rn (ys ++ [a] ++ [b]) (ys.length + 1) = b := by
      have := rn_r (ys ++ [a]) b
      rw [List.length_append, List.length_singleton] at this
      exact this
    rw [rn_l (by rw [List.length_append, List.length_singleton]; omega), rn_r, e2]
    exact hl
structure Route (D : CD) (ns : List Str) : Prop where
  n2 : 2 ≤ ns.length
  n20 : ns.length ≤ 20
  ch : Chain D ns
theorem CD.leg_some {D : CD} {l : Lg} (h : l ∈ D.ls) : ∃ l', D.leg l.s l.e = some l' := by
  cases e : D.leg l.s l.e with
  | some l' => exact ⟨l', rfl⟩
  | none =>
    have := List.find?_eq_none.mp e l h
    simp at this
/-- the lengths of the legs -/
def LenAt (H : Hp) (ld : Addr) (D : CD) : Prop := ∃ kvs, H ld = some (.dT kvs) ∧ ∀ s e l, D.leg s e = some l → valV kvs [(.inr s : Key), .inr e] = some (.int (D.len s e))
theorem LenAt.same {H H' : Hp} {ld : Addr} {D : CD} (L : LenAt H ld D) (e : Same H H') : LenAt H' ld D := let ⟨kvs, h1, h2⟩ := L; ⟨kvs, e _ _ h1, h2⟩
theorem LenAt.keep {K : PySem.W.Frag} {H H' : Hp} {d c ld : Addr} {D : CD} (L : LenAt H ld D) (S : St1 K H d c) (k : Keep d H H') : LenAt H' ld D :=
  let ⟨kvs, h1, h2⟩ := L; ⟨kvs, k _ _ h1 (let ⟨_, w⟩ := S.dk; ne_of h1 w (by intro z; cases z)), h2⟩
theorem LenAt.g {H : Hp} {ld p : Addr} {D : CD} {s e : Str} (L : LenAt H ld D) (h : ∃ l, D.leg s e = some l) (hp : H p = some (.tup [.str s, .str e])) : DGet H ld (.ref p) (some (.int (D.len s e))) := by
  obtain ⟨kvs, h1, h2⟩ := L
  obtain ⟨l, h⟩ := h
  rw [← h2 s e l h]
  exact DGet.t (k := [(.inr s : Key), .inr e]) h1 hp
def spLegS : Sp := fun vs H Q _ => ∃ (ch : Addr) (D : CD) (s e : Str), vs = [.ref ch, .str s, .str e] ∧ ChartAt H ch D ∧ ∀ H', Same H H' → Q (optL (D.leg s e)) H'
def spLens : Sp := fun vs H Q _ => ∃ (ch : Addr) (D : CD), vs = [.ref ch] ∧ ChartAt H ch D ∧ ∀ ld H', H ld = none → LenAt H' ld D → Same H H' → Q (.ref ld) H'
def spWalk (K : PySem.W.Frag) : Sp := fun vs H Q _ => ∃ (d c ch : Addr) (D : CD) (m : Int), vs = [.ref d, .ref ch, .int m] ∧ St1 K H d c ∧ ChartAt H ch D ∧ ch ≠ d ∧ D.fx ≠ d ∧ D.ls ≠ [] ∧ 1 ≤ m ∧ m ≤ 15 ∧
  ∀ (ns : List Str) r H', Route D ns → H r = none → H' r = some (.tup (ns.map V.str)) → St1 K H' d c → Keep d H H' → Q (.ref r) H'
theorem head_find {α : Type} (p : α → Bool) (xs : List α) : (xs.filter p).head? = xs.find? p := by
  rw [List.head?_filter]
/-! the places of a chart lie apart -/
theorem sq_pos {d : Int} (h : d ≠ 0) : 1 ≤ d * d := by
  rcases ltge 0 d with w | w
  · have := Int.mul_le_mul (show 1 ≤ d by omega) (show 1 ≤ d by omega) (by decide) (by omega)
    omega
  · have := Int.mul_le_mul (show 1 ≤ -d by omega) (show 1 ≤ -d by omega) (by decide) (by omega)
    rw [Int.neg_mul_neg] at this
    omega
theorem rt_one {n : Int} (h : 1 ≤ n) : 1 ≤ rt n := by
  have z := rt_is (show 0 ≤ n by omega)
  rcases ltge 0 (rt n) with w | w
  · omega
  · have e : rt n = 0 := by have := z.nn; omega
    have := z.up
    rw [e] at this
    omega
theorem CD.len_one {D : CD} {s e : Str} {a b : Addr} {ax ay bx by' : Int} (h1 : D.pt s = some (a, ax, ay)) (h2 : D.pt e = some (b, bx, by')) (h : ay ≠ by') : 1 ≤ D.len s e := by
  rw [CD.len_eq h1 h2]
  refine rt_one ?_
  have z1 := sq0 (bx - ax)
  have z2 := sq_pos (show by' - ay ≠ 0 by omega)
  omega
def LETS : List Nat := ("QXAMBZKCTDRE" : Str).cps.toList
def Let1 (ns : List Str) (x : Int) : Prop := ∀ j (h : j < ns.length), ∃ c, (ns[j]).cps.toList.head? = some c ∧ atI LETS (((j : Int) + x) % 12) = some c
theorem lets_inj : ∀ u : Fin 12, ∀ v : Fin 12, LETS[u.val]? = LETS[v.val]? → u = v := by decide +kernel
theorem lets_at {u : Nat} (h : u < 12) : atI LETS (u : Int) = LETS[u]? := by
  have e : u < LETS.length := by
    have : LETS.length = 12 := by decide +kernel
    omega
  rw [List.getElem?_eq_getElem e]
  exact atI_nat (List.getElem?_eq_getElem e)
theorem let_nodup {ns : List Str} {x : Int} (h : Let1 ns x) (hl : ns.length ≤ 12) : ns.Nodup := by
  refine List.pairwise_iff_getElem.mpr fun i j hi hj hij e => ?_
  obtain ⟨c1, a1, b1⟩ := h i hi
  obtain ⟨c2, a2, b2⟩ := h j hj
  rw [e, a2] at a1
  cases a1
  obtain ⟨u, hu⟩ : ∃ u : Nat, ((i : Int) + x) % 12 = (u : Int) := ⟨(((i : Int) + x) % 12).toNat, by omega⟩
  obtain ⟨v, hv⟩ : ∃ v : Nat, ((j : Int) + x) % 12 = (v : Int) := ⟨(((j : Int) + x) % 12).toNat, by omega⟩
  have hu2 : u < 12 := by omega
  have hv2 : v < 12 := by omega
  rw [hu, lets_at hu2] at b1
  rw [hv, lets_at hv2] at b2
  have := lets_inj ⟨u, hu2⟩ ⟨v, hv2⟩ (b1.trans b2.symm)
  have : u = v := congrArg Fin.val this
  omega
theorem at_mod2 {α : Type} {f : α → V} {ns : List α} {z m : Int} (hm : m = (ns.length : Int)) (h : 0 < ns.length) : ∃ (j : Nat) (hj : j < ns.length), z % m = (j : Int) ∧ atI (ns.map f) (z % m) = some (f ns[j]) := by
  obtain ⟨j, hj⟩ : ∃ j : Nat, z % m = (j : Int) := ⟨(z % m).toNat, by have := Int.emod_nonneg z (show m ≠ 0 by omega); omega⟩
  have hj2 : j < ns.length := by have := Int.emod_lt_of_pos z (show 0 < m by omega); omega
  exact ⟨j, hj2, hj, by rw [hj]; exact atI_nat (mapAt hj2)⟩
theorem mod_ne {i j : Nat} {x m : Int} (hi : (i : Int) < m) (h0 : 0 ≤ x) (h1 : x < m - 1) (e : (0 + (i : Int) + 1 + x) % m = (j : Int)) : i ≠ j := by
  rintro rfl
  have z := Int.mul_ediv_add_emod (0 + (i : Int) + 1 + x) m
  rw [e] at z
  generalize (0 + (i : Int) + 1 + x) / m = q at z
  rcases ltge 0 q with w | w
  · have := Int.mul_le_mul_of_nonneg_left (show 1 ≤ q by omega) (show 0 ≤ m by omega)
    omega
  · have := Int.mul_nonneg (show 0 ≤ m by omega) (show 0 ≤ -q by omega)
    rw [Int.mul_neg] at this
    omega
theorem nodup_ne {ns : List Str} (nd : ns.Nodup) {i j : Nat} (hi : i < ns.length) (hj : j < ns.length) (n : i ≠ j) : ns[i] ≠ ns[j] := by
  have p := List.pairwise_iff_getElem.mp nd
  rcases Nat.lt_or_gt_of_ne n with h | h
  · exact p i j hi hj h
  · exact (p j i hj hi h).symm
def Sep (pt : Str → Option (Addr × Int × Int)) (ns : List Str) (m : Int) (i : Nat) : Prop := ∀ j (h : j < ns.length), j < i → ∃ a x y, pt ns[j] = some (a, x, y) ∧ y % m = (j : Int)
theorem Sep.put {pt : Str → Option (Addr × Int × Int)} {ns : List Str} {m : Int} {i : Nat} {p : Addr} {x y : Int} (nd : ns.Nodup) (S : Sep pt ns m i) (hi : i < ns.length) (hy : y % m = (i : Int)) : Sep (fun q => if q = ns[i] then some (p, x, y) else pt q) ns m (i + 1) := by
  intro j hj hji
  by_cases e : j = i
  · subst e
    exact ⟨p, x, y, by simp, hy⟩
  · obtain ⟨a, u, v, h1, h2⟩ := S j hj (by omega)
    exact ⟨a, u, v, by simp only [if_neg (nodup_ne nd hj hi e)]; exact h1, h2⟩
theorem y_mod {m a i : Int} (h0 : 0 ≤ i) (h1 : i < m) : (m * a + (0 + i)) % m = i := by
  rw [Int.add_comm, Int.add_mul_emod_self_left, Int.zero_add]
  exact Int.emod_eq_of_lt h0 h1
theorem Sep.len {D : CD} {ns : List Str} {m : Int} {s e : Str} (S : Sep D.pt ns m ns.length) (nd : ns.Nodup) (hs : s ∈ ns) (he : e ∈ ns) (n : s ≠ e) : 1 ≤ D.len s e := by
  obtain ⟨i, hi, rfl⟩ := List.getElem_of_mem hs
  obtain ⟨j, hj, rfl⟩ := List.getElem_of_mem he
  obtain ⟨a, x, y, h1, h2⟩ := S i hi hi
  obtain ⟨b, u, v, h3, h4⟩ := S j hj hj
  refine CD.len_one h1 h3 fun z => n ?_
  rw [z, h4] at h2
  have : i = j := by omega
  subst this
  rfl
end Sk

set_option Elab.async false
set_option linter.all false
set_option maxRecDepth 100000
set_option maxHeartbeats 4000000
namespace Sk
open PySem PySem.Spec PyProof.Rows L2
/-! the mathematics of paths -/
theorem CD.len_nn (D : CD) (s e : Str) : 0 ≤ D.len s e := by
  unfold CD.len
  split
  · exact rt_nn (Int.add_nonneg (sq0 _) (sq0 _))
  · exact Int.le_refl 0
def bg (D : CD) (ns : List Str) : Nat → Int
  | 0 => 0
  | j + 1 => bg D ns j + D.len (rn ns j) (rn ns (j + 1))
theorem bg_step (D : CD) (ns : List Str) (j : Nat) : bg D ns j ≤ bg D ns (j + 1) := by
  have := D.len_nn (rn ns j) (rn ns (j + 1))
  show bg D ns j ≤ bg D ns j + _
  omega
theorem bg_mono (D : CD) (ns : List Str) {i j : Nat} (h : i ≤ j) : bg D ns i ≤ bg D ns j := by
  induction j with
  | zero => rw [show i = 0 by omega]; exact Int.le_refl _
  | succ j ih =>
    by_cases e : i = j + 1
    · rw [e]; exact Int.le_refl _
    · exact Int.le_trans (ih (by omega)) (bg_step D ns j)
theorem bg_nn (D : CD) (ns : List Str) (j : Nat) : 0 ≤ bg D ns j := bg_mono D ns (Nat.zero_le j)
def CD.xy (D : CD) (s : Str) : Int × Int := match D.pt s with
  | some (_, x, y) => (x, y)
  | none => (0, 0)
theorem CD.xy_eq {D : CD} {s : Str} {a : Addr} {x y : Int} (h : D.pt s = some (a, x, y)) : D.xy s = (x, y) := by
  unfold CD.xy
  rw [h]
def Bd (D : CD) : Prop := ∀ s, -100000 ≤ (D.xy s).1 ∧ (D.xy s).1 ≤ 100000 ∧ -100000 ≤ (D.xy s).2 ∧ (D.xy s).2 ≤ 100000
theorem ChartAt.bd {H : Hp} {ch : Addr} {D : CD} (C : ChartAt H ch D) : Bd D := by
  intro s
  unfold CD.xy
  split
  · rename_i a x y h
    exact (C.pf s a x y h).2.2
  · exact ⟨by decide, by decide, by decide, by decide⟩
theorem CD.len_le {D : CD} (b : Bd D) (s e : Str) : D.len s e ≤ 300000 := by
  unfold CD.len
  split
  · rename_i a ax ay a' bx by' h1 h2
    have b1 := b s
    have b2 := b e
    rw [CD.xy_eq h1] at b1
    rw [CD.xy_eq h2] at b2
    dsimp only at b1 b2
    refine rt_small (Int.add_nonneg (sq0 _) (sq0 _)) (by decide) ?_
    have e1 := sq_le (show -200000 ≤ bx - ax by omega) (show bx - ax ≤ 200000 by omega)
    have e2 := sq_le (show -200000 ≤ by' - ay by omega) (show by' - ay ≤ 200000 by omega)
    omega
  · decide
theorem bg_le {D : CD} (b : Bd D) (ns : List Str) (j : Nat) : bg D ns j ≤ 300000 * (j : Int) := by
  induction j with
  | zero => exact Int.le_refl 0
  | succ j ih =>
    have := D.len_le b (rn ns j) (rn ns (j + 1))
    show bg D ns j + _ ≤ _
    omega
/-- the leg to which p belongs, of the first m + 1 -/
def lat (D : CD) (ns : List Str) (m : Nat) (p : Int) : Nat := ((List.range m).find? fun i => decide (p < bg D ns (i + 1))).getD m
theorem find_range {q : Nat → Bool} {m k : Nat} (hk : k < m) (h1 : q k = true) (h0 : ∀ i, i < k → q i = false) : (List.range m).find? q = some k := by
  have e : List.range m = List.range k ++ (List.range (m - k)).map (k + ·) := by
    rw [← List.range_add, Nat.add_sub_cancel' (Nat.le_of_lt hk)]
  rw [e, List.find?_append]
  have a : (List.range k).find? q = none := List.find?_eq_none.mpr fun i hi => by rw [h0 i (List.mem_range.mp hi)]; simp
  rw [a]
  obtain ⟨z, hz⟩ : ∃ z, m - k = z + 1 := ⟨m - k - 1, by omega⟩
  rw [hz, List.range_succ_eq_map]
  simp [h1]
theorem find_none {q : Nat → Bool} {m : Nat} (h0 : ∀ i, i < m → q i = false) : (List.range m).find? q = none :=
  List.find?_eq_none.mpr fun i hi => by rw [h0 i (List.mem_range.mp hi)]; simp
theorem lat_cases (D : CD) (ns : List Str) (m : Nat) (p : Int) : (lat D ns m p ≤ m) ∧ (∀ i, i < lat D ns m p → bg D ns (i + 1) ≤ p) ∧ (lat D ns m p < m → p < bg D ns (lat D ns m p + 1)) := by
  unfold lat
  cases h : (List.range m).find? fun i => decide (p < bg D ns (i + 1)) with
  | none =>
    have h0 := List.find?_eq_none.mp h
    refine ⟨Nat.le_refl m, fun i hi => ?_, fun z => absurd z (Nat.lt_irrefl m)⟩
    have hi : i < m := hi
    have := h0 i (List.mem_range.mpr hi)
    simp at this
    exact this
  | some k =>
    have h1 := List.find?_some h
    have h2 := List.mem_of_find?_eq_some h
    have hk := List.mem_range.mp h2
    refine ⟨Nat.le_of_lt hk, fun i hi => ?_, fun _ => of_decide_eq_true h1⟩
    have hi : i < k := hi
    by_cases e : p < bg D ns (i + 1)
    · exfalso
      have : (List.range m).find? (fun i => decide (p < bg D ns (i + 1))) = some ((List.range (i + 1)).find? (fun i => decide (p < bg D ns (i + 1)))).get! := by
        have e2 : List.range m = List.range (i + 1) ++ (List.range (m - (i + 1))).map ((i + 1) + ·) := by rw [← List.range_add, Nat.add_sub_cancel' (show i + 1 ≤ m by omega)]
        rw [e2, List.find?_append]
        cases w : (List.range (i + 1)).find? fun i => decide (p < bg D ns (i + 1)) with
        | some z => rfl
        | none =>
          have := List.find?_eq_none.mp w i (List.mem_range.mpr (Nat.lt_succ_self i))
          simp [e] at this
      rw [h] at this
      cases w : (List.range (i + 1)).find? fun i => decide (p < bg D ns (i + 1)) with
      | none =>
        have := List.find?_eq_none.mp w i (List.mem_range.mpr (Nat.lt_succ_self i))
        simp [e] at this
      | some z =>
        rw [w] at this
        have hz := List.mem_range.mp (List.mem_of_find?_eq_some w)
        have : k = z := Option.some.inj this
        omega
    · omega
theorem lat_eq {D : CD} {ns : List Str} {m k : Nat} {p : Int} (hk : k ≤ m) (h0 : ∀ i, i < k → bg D ns (i + 1) ≤ p) (h1 : k < m → p < bg D ns (k + 1)) : lat D ns m p = k := by
  obtain ⟨a, b, c⟩ := lat_cases D ns m p
  rcases Nat.lt_trichotomy (lat D ns m p) k with h | h | h
  · have := c (by omega)
    have := h0 _ h
    omega
  · exact h
  · have := b k h
    have := h1 (by omega)
    omega
theorem lat_succ (D : CD) (ns : List Str) (m : Nat) (p : Int) : lat D ns (m + 1) p = if bg D ns (m + 1) ≤ p then m + 1 else lat D ns m p := by
  obtain ⟨a, b, c⟩ := lat_cases D ns m p
  split
  · rename_i h
    exact lat_eq (Nat.le_refl _) (fun i hi => Int.le_trans (bg_mono D ns (show i + 1 ≤ m + 1 by omega)) h) (fun z => absurd z (Nat.lt_irrefl _))
  · rename_i h
    refine lat_eq (by omega) b fun _ => ?_
    by_cases e : lat D ns m p < m
    · exact c e
    · rw [show lat D ns m p = m by omega]
      omega
/-- place on leg k -/
def plc (D : CD) (ns : List Str) (k : Nat) (p : Int) : List Int :=
  let a := D.xy (rn ns k)
  let b := D.xy (rn ns (k + 1))
  let n := D.len (rn ns k) (rn ns (k + 1))
  [a.1 * n + (b.1 - a.1) * (p - bg D ns k), a.2 * n + (b.2 - a.2) * (p - bg D ns k)]
def seg (D : CD) (ns : List Str) (k : Nat) (s e : Int) : List Int := plc D ns k s ++ (plc D ns k e ++ [D.len (rn ns k) (rn ns (k + 1))])
def segOf (D : CD) (ns : List Str) (f l : Int) (k : Nat) : Option (List Int) :=
  let s := if bg D ns k > f then bg D ns k else f
  let e := if bg D ns (k + 1) < l then bg D ns (k + 1) else l
  if s < e then some (seg D ns k s e) else none
def segsOf (D : CD) (ns : List Str) (f l : Int) (ks : List Nat) : List (List Int) := ks.filterMap (segOf D ns f l)
theorem segOf_none {D : CD} {ns : List Str} {f l : Int} {k : Nat} (h : bg D ns (k + 1) ≤ f ∨ l ≤ bg D ns k) : segOf D ns f l k = none := by
  unfold segOf
  dsimp only
  rw [if_neg]
  split <;> split <;> omega
theorem segs_eq {D : CD} {ns : List Str} {f l : Int} {m : Nat} (hfl : f ≤ l) (h : lat D ns m f ≤ lat D ns m l) : segsOf D ns f l (List.range (m + 1)) = segsOf D ns f l ((List.range (lat D ns m l + 1 - lat D ns m f)).map (lat D ns m f + ·)) := by
  obtain ⟨a1, b1, c1⟩ := lat_cases D ns m f
  obtain ⟨a2, b2, c2⟩ := lat_cases D ns m l
  generalize lat D ns m f = u at *
  generalize lat D ns m l = v at *
  have e1 : List.range (m + 1) = List.range u ++ ((List.range (v + 1 - u)).map (u + ·) ++ (List.range (m - v)).map ((v + 1) + ·)) := by
    have x1 : List.range (m + 1) = List.range (v + 1) ++ (List.range (m - v)).map ((v + 1) + ·) := by rw [← List.range_add]; congr 1; omega
    have x2 : List.range (v + 1) = List.range u ++ (List.range (v + 1 - u)).map (u + ·) := by rw [← List.range_add]; congr 1; omega
    rw [x1, x2, List.append_assoc]
  unfold segsOf
  rw [e1, List.filterMap_append, List.filterMap_append]
  have n1 : (List.range u).filterMap (segOf D ns f l) = [] := List.filterMap_eq_nil_iff.mpr fun k hk => segOf_none (.inl (b1 k (List.mem_range.mp hk)))
  have n2 : ((List.range (m - v)).map ((v + 1) + ·)).filterMap (segOf D ns f l) = [] := List.filterMap_eq_nil_iff.mpr fun k hk => by
    obtain ⟨z, hz, rfl⟩ := List.mem_map.mp hk
    have := c2 (by have := List.mem_range.mp hz; omega)
    exact segOf_none (.inr (Int.le_trans (Int.le_of_lt this) (bg_mono D ns (by omega))))
  rw [n1, n2, List.nil_append, List.append_nil]
theorem lat_mono (D : CD) (ns : List Str) (m : Nat) {p q : Int} (h : p ≤ q) : lat D ns m p ≤ lat D ns m q := by
  obtain ⟨a1, b1, c1⟩ := lat_cases D ns m p
  obtain ⟨a2, b2, c2⟩ := lat_cases D ns m q
  rcases Nat.lt_or_ge (lat D ns m q) (lat D ns m p) with w | w
  · have x := b1 _ w
    have y := c2 (by omega)
    omega
  · exact w
/-- the piece, as the document says it -/
def pcs (D : CD) (ns : List Str) (low high : Int) : List (List Int) :=
  let L := ns.length - 1
  let t := bg D ns L
  if high < 0 ∨ t ≤ low then [] else
  let f := if 0 > low then 0 else low
  let l := if t < high then t else high
  if f = l then [seg D ns (lat D ns (L - 1) f) f f] else segsOf D ns f l (List.range L)
/-! lists of tuples of ints -/
def LoT (H : Hp) (l : Addr) (xss : List (List Int)) : Prop := ∃ qs : List (Addr × List Int), H l = some (.lst (qs.map fun q => V.ref q.1)) ∧ (∀ q ∈ qs, H q.1 = some (.tup (q.2.map V.int))) ∧ qs.map (·.2) = xss
theorem LoT.same {H H' : Hp} {l : Addr} {xss : List (List Int)} (L : LoT H l xss) (e : Same H H') : LoT H' l xss := let ⟨qs, h1, h2, h3⟩ := L; ⟨qs, e _ _ h1, fun q h => e _ _ (h2 q h), h3⟩
theorem LoT.keep {K : PySem.W.Frag} {H H' : Hp} {d c l : Addr} {xss : List (List Int)} (L : LoT H l xss) (S : St1 K H d c) (k : Keep d H H') : LoT H' l xss := let ⟨qs, h1, h2, h3⟩ := L; ⟨qs, k.l S h1, fun q h => k.t S (h2 q h), h3⟩
theorem LoT.li {H : Hp} {l : Addr} {xss : List (List Int)} (L : LoT H l xss) : ∃ xs : List V, H l = some (.lst xs) ∧ xs.length = xss.length := let ⟨qs, h1, _, h3⟩ := L; ⟨_, h1, by rw [List.length_map, ← h3, List.length_map]⟩
theorem LoT.snoc {H : Hp} {l p : Addr} {xss : List (List Int)} {xs : List Int} {ys : List V} (L : LoT H l xss) (hl : H l = some (.lst ys)) (hp : H p = some (.tup (xs.map V.int))) : LoT (upd H l (.lst (ys ++ [.ref p]))) l (xss ++ [xs]) := by
  obtain ⟨qs, h1, h2, h3⟩ := L
  rw [h1] at hl
  cases hl
  refine ⟨qs ++ [(p, xs)], by rw [upd_same, List.map_append]; rfl, fun q hq => ?_, by rw [List.map_append, h3]; rfl⟩
  have ht : H q.1 = some (.tup (q.2.map V.int)) := by
    rcases List.mem_append.mp hq with h | h
    · exact h2 q h
    · rw [List.mem_singleton.mp h]; exact hp
  rw [upd_ne (ne_of ht h1 (by intro e; cases e))]
  exact ht
theorem LoT.nil {H : Hp} {l : Addr} (h : H l = some (.lst [])) : LoT H l [] := ⟨[], h, (fun _ h => nomatch h), rfl⟩
def pdT (xs : List Int) : PyData := .tuple (xs.map PyData.int)
theorem dpAll_int {K : PySem.W.Frag} {H : Hp} : ∀ xs : List Int, DpAll K H (xs.map V.int) (xs.map PyData.int)
  | [] => .nil
  | x :: xs => .cons (.int x) (dpAll_int xs)
theorem LoT.dp {K : PySem.W.Frag} {H : Hp} {l : Addr} {xss : List (List Int)} (L : LoT H l xss) : Dp K H (.ref l) (.list (xss.map pdT)) := by
  obtain ⟨qs, h1, h2, rfl⟩ := L
  refine .lst (.inl (.inl h1)) ?_
  clear h1
  induction qs with
  | nil => exact .nil
  | cons q qs ih =>
    refine .cons (.tup (.inl (.inl (h2 q List.mem_cons_self))) (dpAll_int _)) (ih fun z hz => h2 z (List.mem_cons_of_mem _ hz))
/-! a path's object -/
def pfl (r l1 l2 l3 l4 : Addr) : List (Str × V) := [("_route", .ref r), ("_legs", .ref l1), ("_starts", .ref l2), ("_vectors", .ref l3), ("_begins", .ref l4)]
section
variable {r l1 l2 l3 l4 : Addr}
theorem pf1 : (pfl r l1 l2 l3 l4).lookup ("_route" : Str) = some (.ref r) := by rfl
theorem pf2 : (pfl r l1 l2 l3 l4).lookup ("_legs" : Str) = some (.ref l1) := by rfl
theorem pf3 : (pfl r l1 l2 l3 l4).lookup ("_starts" : Str) = some (.ref l2) := by rfl
theorem pf4 : (pfl r l1 l2 l3 l4).lookup ("_vectors" : Str) = some (.ref l3) := by rfl
theorem pf5 : (pfl r l1 l2 l3 l4).lookup ("_begins" : Str) = some (.ref l4) := by rfl
end
structure PathP (C : Addr) (H : Hp) (p : Addr) (D : CD) (ns : List Str) (r : Addr) (i : Nat) (dx l1 l2 l3 l4 : Addr) (sa va : List Addr) : Prop where
  ob : H p = some (.ins C dx (pfl r l1 l2 l3 l4))
  rt : H r = some (.tup (ns.map V.str))
  lg : H l1 = some (.lst ((List.range i).map fun j => optL (D.leg (rn ns j) (rn ns (j + 1)))))
  st : H l2 = some (.lst (sa.map V.ref))
  ve : H l3 = some (.lst (va.map V.ref))
  bgn : H l4 = some (.lst ((List.range (i + 1)).map fun j => V.int (bg D ns j)))
  sl : sa.length = i
  vl : va.length = i
  sx : ∀ j (h : j < sa.length), H sa[j] = some (.tup [.int (D.xy (rn ns j)).1, .int (D.xy (rn ns j)).2])
  vx : ∀ j (h : j < va.length), H va[j] = some (.tup [.int ((D.xy (rn ns (j + 1))).1 - (D.xy (rn ns j)).1), .int ((D.xy (rn ns (j + 1))).2 - (D.xy (rn ns j)).2), .int (D.len (rn ns j) (rn ns (j + 1)))])
  d12 : l1 ≠ l2
  d13 : l1 ≠ l3
  d14 : l1 ≠ l4
  d23 : l2 ≠ l3
  d24 : l2 ≠ l4
  d34 : l3 ≠ l4
theorem PathP.same {C p r dx l1 l2 l3 l4 : Addr} {H H' : Hp} {D : CD} {ns : List Str} {i : Nat} {sa va : List Addr} (P : PathP C H p D ns r i dx l1 l2 l3 l4 sa va) (e : Same H H') : PathP C H' p D ns r i dx l1 l2 l3 l4 sa va :=
  { P with ob := e _ _ P.ob, rt := e _ _ P.rt, lg := e _ _ P.lg, st := e _ _ P.st, ve := e _ _ P.ve, bgn := e _ _ P.bgn, sx := fun j h => e _ _ (P.sx j h), vx := fun j h => e _ _ (P.vx j h) }
theorem PathP.keep {K : PySem.W.Frag} {C p r dx l1 l2 l3 l4 d c : Addr} {H H' : Hp} {D : CD} {ns : List Str} {i : Nat} {sa va : List Addr} (P : PathP C H p D ns r i dx l1 l2 l3 l4 sa va) (S : St1 K H d c) (k : Keep d H H') : PathP C H' p D ns r i dx l1 l2 l3 l4 sa va :=
  { P with ob := k _ _ P.ob (let ⟨_, w⟩ := S.dk; ne_of P.ob w (by intro z; cases z)), rt := k.t S P.rt, lg := k.l S P.lg, st := k.l S P.st, ve := k.l S P.ve, bgn := k.l S P.bgn, sx := fun j h => k.t S (P.sx j h), vx := fun j h => k.t S (P.vx j h) }
def PathAt (C : Addr) (H : Hp) (p : Addr) (D : CD) (ns : List Str) (r : Addr) : Prop := ∃ dx l1 l2 l3 l4 sa va, PathP C H p D ns r (ns.length - 1) dx l1 l2 l3 l4 sa va
theorem PathAt.same {C p r : Addr} {H H' : Hp} {D : CD} {ns : List Str} (P : PathAt C H p D ns r) (e : Same H H') : PathAt C H' p D ns r := let ⟨_, _, _, _, _, _, _, P⟩ := P; ⟨_, _, _, _, _, _, _, P.same e⟩
theorem PathAt.keep {K : PySem.W.Frag} {C p r d c : Addr} {H H' : Hp} {D : CD} {ns : List Str} (P : PathAt C H p D ns r) (S : St1 K H d c) (k : Keep d H H') : PathAt C H' p D ns r := let ⟨_, _, _, _, _, _, _, P⟩ := P; ⟨_, _, _, _, _, _, _, P.keep S k⟩
/-- what the class has -/
structure PathY (K : PySem.W.Frag) (mg : Str → Option Value) (C : Addr) : Prop where
  cl : Cls K C
  n1 : NoAttr K C "_route"
  n2 : NoAttr K C "_legs"
  n3 : NoAttr K C "_starts"
  n4 : NoAttr K C "_vectors"
  n5 : NoAttr K C "_begins"
/-! promises of the methods -/
def spTotal (C : Addr) : Sp := fun vs H Q _ => ∃ (p r dx l1 l2 l3 l4 : Addr) (D : CD) (ns : List Str) (i : Nat), vs = [.ref p] ∧ H p = some (.ins C dx (pfl r l1 l2 l3 l4)) ∧ H l4 = some (.lst ((List.range (i + 1)).map fun j => V.int (bg D ns j))) ∧ Q (.int (bg D ns i)) H
def spLegAt (C : Addr) : Sp := fun vs H Q _ => ∃ (p r : Addr) (D : CD) (ns : List Str) (x : Int), vs = [.ref p, .int x] ∧ PathAt C H p D ns r ∧ 2 ≤ ns.length ∧ ns.length ≤ 20 ∧ Q (.int (lat D ns (ns.length - 1 - 1) x : Nat)) H
def spBegin (C : Addr) : Sp := fun vs H Q _ => ∃ (p r : Addr) (D : CD) (ns : List Str) (j : Nat) (z : Int), vs = [.ref p, .int z] ∧ z = (j : Int) ∧ PathAt C H p D ns r ∧ j ≤ ns.length - 1 ∧ Q (.int (bg D ns j)) H
def spLegI (C : Addr) : Sp := fun vs H Q _ => ∃ (p r : Addr) (D : CD) (ns : List Str) (j : Nat) (z : Int), vs = [.ref p, .int z] ∧ z = (j : Int) ∧ PathAt C H p D ns r ∧ j < ns.length - 1 ∧ Q (optL (D.leg (rn ns j) (rn ns (j + 1)))) H
def spVec (C : Addr) : Sp := fun vs H Q _ => ∃ (p r : Addr) (D : CD) (ns : List Str) (j : Nat) (z : Int), vs = [.ref p, .int z] ∧ z = (j : Int) ∧ PathAt C H p D ns r ∧ j < ns.length - 1 ∧
  ∀ v, H v = some (.tup [.int ((D.xy (rn ns (j + 1))).1 - (D.xy (rn ns j)).1), .int ((D.xy (rn ns (j + 1))).2 - (D.xy (rn ns j)).2), .int (D.len (rn ns j) (rn ns (j + 1)))]) → Q (.ref v) H
def spRoute (C : Addr) : Sp := fun vs H Q _ => ∃ (p r : Addr) (D : CD) (ns : List Str), vs = [.ref p] ∧ PathAt C H p D ns r ∧ Q (.ref r) H
def spPoint (C : Addr) : Sp := fun vs H Q _ => ∃ (p r : Addr) (D : CD) (ns : List Str) (j : Nat) (z x : Int), vs = [.ref p, .int z, .int x] ∧ z = (j : Int) ∧ PathAt C H p D ns r ∧ Bd D ∧ j < ns.length - 1 ∧ ∀ q H', H q = none → Same H H' → H' q = some (.tup ((plc D ns j x).map V.int)) → Q (.ref q) H'
def spSeg (C : Addr) : Sp := fun vs H Q _ => ∃ (p r : Addr) (D : CD) (ns : List Str) (j : Nat) (z s e : Int), vs = [.ref p, .int z, .int s, .int e] ∧ z = (j : Int) ∧ PathAt C H p D ns r ∧ Bd D ∧ j < ns.length - 1 ∧ ∀ q H', H q = none → Same H H' → H' q = some (.tup ((seg D ns j s e).map V.int)) → Q (.ref q) H'
def spSegs (C : Addr) : Sp := fun vs H Q _ => ∃ (p r : Addr) (D : CD) (ns : List Str) (f l : Int), vs = [.ref p, .int f, .int l] ∧ PathAt C H p D ns r ∧ Bd D ∧ 2 ≤ ns.length ∧ ns.length ≤ 20 ∧ f ≤ l ∧
  ∀ q H', H q = none → Same H H' → LoT H' q (segsOf D ns f l (List.range (ns.length - 1))) → Q (.ref q) H'
def spPlace (C : Addr) : Sp := fun vs H Q _ => ∃ (p r : Addr) (D : CD) (ns : List Str) (x : Int), vs = [.ref p, .int x] ∧ PathAt C H p D ns r ∧ Bd D ∧ 2 ≤ ns.length ∧ ns.length ≤ 20 ∧
  ∀ q H', H q = none → Same H H' → H' q = some (.tup ((plc D ns (lat D ns (ns.length - 1 - 1) x) x ++ [D.len (rn ns (lat D ns (ns.length - 1 - 1) x)) (rn ns (lat D ns (ns.length - 1 - 1) x + 1))]).map V.int)) → Q (.ref q) H'
def spPiece (C : Addr) : Sp := fun vs H Q _ => ∃ (p r : Addr) (D : CD) (ns : List Str) (f l : Int), vs = [.ref p, .int f, .int l] ∧ PathAt C H p D ns r ∧ Bd D ∧ 2 ≤ ns.length ∧ ns.length ≤ 20 ∧ f ≤ l ∧
  ∀ q H', H q = none → Same H H' → LoT H' q (pcs D ns f l) → Q (.ref q) H'
def spJoin (C : Addr) : Sp := fun vs H Q _ => ∃ (p ch r dx l1 l2 l3 l4 : Addr) (D : CD) (ns : List Str) (i : Nat) (sa va : List Addr), vs = [.ref p, .ref ch, .str (rn ns i), .str (rn ns (i + 1))] ∧ ChartAt H ch D ∧ PathP C H p D ns r i dx l1 l2 l3 l4 sa va ∧
  (∃ l, D.leg (rn ns i) (rn ns (i + 1)) = some l) ∧ i ≤ 20 ∧ ∀ (s v : Addr) H', PathP C H' p D ns r (i + 1) dx l1 l2 l3 l4 (sa ++ [s]) (va ++ [v]) → (∀ b o, H b = some o → b ≠ l1 → b ≠ l2 → b ≠ l3 → b ≠ l4 → H' b = some o) → Q .non H'
def spPInit (C : Addr) : Sp := fun vs H Q _ => ∃ (p ch r dx : Addr) (D : CD) (ns : List Str), vs = [.ref p, .ref ch, .ref r] ∧ H p = some (.ins C dx []) ∧ ChartAt H ch D ∧ H r = some (.tup (ns.map V.str)) ∧ Route D ns ∧
  ∀ H', PathAt C H' p D ns r → (∀ b o, H b = some o → b ≠ p → H' b = some o) → Q .non H'
theorem ChartAt.fr {H H' : Hp} {ch p C dx : Addr} {fs : List (Str × V)} {D : CD} (Q : ChartAt H ch D) (hp : H p = some (.ins C dx fs)) (e : ∀ b o, H b = some o → b ≠ p → H' b = some o) : ChartAt H' ch D := by
  have e' : ∀ b o, H b = some o → (∀ C dx fs, o ≠ .ins C dx fs) → H' b = some o := fun b o h n => e b o h (ne_of h hp (n _ _ _))
  obtain ⟨⟨kvs, h1, h2, h3⟩, h4, h5, h6, h7, h8, h8', h9⟩ := Q
  exact ⟨⟨kvs, e' _ _ h1 (by intro _ _ _ z; cases z), h2, h3⟩, e' _ _ h4 (by intro _ _ _ z; cases z), e' _ _ h5 (by intro _ _ _ z; cases z), fun l hl => e' _ _ (h6 l hl) (by intro _ _ _ z; cases z),
    fun n a x y hp => let ⟨p1, p2, p3⟩ := h7 n a x y hp; ⟨p1, e' _ _ p2 (by intro _ _ _ z; cases z), p3⟩, h8, h8', h9⟩
/-! a class of the text, ready to be made -/
structure CDef (P : Program) (w : World) (K : PySem.W.Frag) (mg : Str → Option Value) (base : Heap) (k : Nat) (C : Addr) (x : Str) (ps : List Str) (sp : Sp) : Prop where
  ex : ∃ (f : Addr) (fd : FuncData), FnOk P w K mg base CX0 k f fd ps sp ∧ Mk K C f ∧ mg x = some (.ref C) ∧ Binds K fd ps []
theorem pe_cdef {X : Cx} {k : Nat} {C : Addr} {x : Str} {ps : List Str} {sp : Sp} {p pos : Pos} {e : Expr} {es : List Expr} {t : TA} (D : CDef X.prog X.w X.K X.mg X.base k C x ps sp) (hr : Room (k + 1) X.A) (hg : Gl X x)
    (ha : PA X (e :: es) t) (hdb : (x == ("__debug__" : Str)) = false := by decide) (he : starEach (e :: es) X.env = (false, eval e X.env) :: starEach es X.env := by rfl) (hpl : (backTo pos (starEach es X.env)).any (·.1) = false := by rfl) :
    PE X (.Call (.Name x p) (e :: es) [] pos) (tMake C sp [] E0 t) := by
  obtain ⟨f, fd, F, M, m, b⟩ := D.ex
  exact pe_make M F hr hg m b .nil pass0 ha hdb he hpl
/-! what the law's own defs promise -/
def bgs (D : CD) (ns : List Str) : List Int := (List.range ns.length).map (bg D ns)
theorem bgs_at {D : CD} {ns : List Str} {j : Nat} (h : j < ns.length) : ((bgs D ns).map V.int)[j]? = some (.int (bg D ns j)) := by
  unfold bgs
  rw [List.getElem?_map, List.getElem?_map, List.getElem?_range h]
  rfl
theorem bgs_len {D : CD} {ns : List Str} : ((bgs D ns).map V.int).length = ns.length := by
  unfold bgs
  rw [List.length_map, List.length_map, List.length_range]
theorem bgs_last {D : CD} {ns : List Str} (h : 0 < ns.length) : ((bgs D ns).map V.int).getLast? = some (.int (bg D ns (ns.length - 1))) := by
  rw [List.getLast?_eq_getElem?, bgs_len]
  exact bgs_at (by omega)
def spBegins : Sp := fun vs H Q _ => ∃ (ld r : Addr) (D : CD) (ns : List Str), vs = [.ref ld, .ref r] ∧ LenAt H ld D ∧ H r = some (.tup (ns.map V.str)) ∧ Route D ns ∧ ∀ b H', H b = none → Same H H' → H' b = some (.lst ((bgs D ns).map V.int)) → Q (.ref b) H'
def spLawLegAt : Sp := fun vs H Q _ => ∃ (b : Addr) (x : Int) (D : CD) (ns : List Str), vs = [.ref b, .int x] ∧ H b = some (.lst ((bgs D ns).map V.int)) ∧ 2 ≤ ns.length ∧ ns.length ≤ 20 ∧ Q (.int (lat D ns (ns.length - 1 - 1) x : Nat)) H
def spPlaceOn : Sp := fun vs H Q _ => ∃ (ch r b : Addr) (z x : Int) (D : CD) (ns : List Str) (k : Nat), vs = [.ref ch, .ref r, .ref b, .int z, .int x] ∧ z = (k : Int) ∧ ChartAt H ch D ∧ H r = some (.tup (ns.map V.str)) ∧ H b = some (.lst ((bgs D ns).map V.int)) ∧ Route D ns ∧ k + 1 < ns.length ∧
  ∀ q H', H q = none → Same H H' → H' q = some (.tup ((plc D ns k x ++ [D.len (rn ns k) (rn ns (k + 1))]).map V.int)) → Q (.ref q) H'
def spLawPiece : Sp := fun vs H Q _ => ∃ (ch r b : Addr) (f l : Int) (D : CD) (ns : List Str), vs = [.ref ch, .ref r, .ref b, .int f, .int l] ∧ ChartAt H ch D ∧ H r = some (.tup (ns.map V.str)) ∧ H b = some (.lst ((bgs D ns).map V.int)) ∧ Route D ns ∧ f ≤ l ∧
  ∀ q H', H q = none → Same H H' → LoT H' q (pcs D ns f l) → Q (.ref q) H'
def spRight (C : Addr) : Sp := fun vs H Q _ => ∃ (p ch ld r : Addr) (D : CD) (ns : List Str), vs = [.ref p, .ref ch, .ref ld, .ref r] ∧ PathAt C H p D ns r ∧ ChartAt H ch D ∧ LenAt H ld D ∧ Route D ns ∧ ∀ H', Same H H' → Q (.bl true) H'
def spProgress (K : PySem.W.Frag) : Sp := fun vs H Q _ => ∃ (d c b : Addr) (D : CD) (ns : List Str), vs = [.ref d, .ref b] ∧ St1 K H d c ∧ H b = some (.lst ((bgs D ns).map V.int)) ∧ Bd D ∧ 2 ≤ ns.length ∧ ns.length ≤ 20 ∧ ∀ z H', St1 K H' d c → Keep d H H' → Q (.int z) H'
def spAreNum : Sp := fun vs H Q _ => ∃ (l : Addr) (xss : List (List Int)), vs = [.ref l] ∧ LoT H l xss ∧ xss.length ≤ 100 ∧ (∀ xs ∈ xss, xs.length ≤ 100) ∧ ∀ H', Same H H' → Q (.bl true) H'
theorem segsOf_len (D : CD) (ns : List Str) (f l : Int) (ks : List Nat) : (segsOf D ns f l ks).length ≤ ks.length := List.length_filterMap_le _ _
theorem pcs_len (D : CD) (ns : List Str) (f l : Int) : (pcs D ns f l).length ≤ ns.length + 1 := by
  unfold pcs
  dsimp only
  generalize (if 0 > f then 0 else f) = u
  generalize (if bg D ns (ns.length - 1) < l then bg D ns (ns.length - 1) else l) = v
  split
  · exact Nat.zero_le _
  · split
    · show 1 ≤ _
      omega
    · have := segsOf_len D ns u v (List.range (ns.length - 1))
      rw [List.length_range] at this
      omega
theorem seg_len (D : CD) (ns : List Str) (k : Nat) (s e : Int) : (seg D ns k s e).length = 5 := rfl
theorem segOf_len {D : CD} {ns : List Str} {f l : Int} {k : Nat} {xs : List Int} (h : segOf D ns f l k = some xs) : xs.length = 5 := by
  unfold segOf at h
  dsimp only at h
  generalize (if bg D ns k > f then bg D ns k else f) = u at h
  generalize (if bg D ns (k + 1) < l then bg D ns (k + 1) else l) = v at h
  by_cases e : u < v
  · rw [if_pos e] at h
    rw [← Option.some.inj h, seg_len]
  · rw [if_neg e] at h
    cases h
theorem pcs_five (D : CD) (ns : List Str) (f l : Int) : ∀ xs ∈ pcs D ns f l, xs.length ≤ 100 := by
  unfold pcs
  dsimp only
  generalize (if 0 > f then 0 else f) = u
  generalize (if bg D ns (ns.length - 1) < l then bg D ns (ns.length - 1) else l) = v
  intro xs h
  split at h
  · cases h
  · split at h
    · rw [List.mem_singleton.mp h, seg_len]
      decide
    · obtain ⟨k, _, e⟩ := List.mem_filterMap.mp h
      rw [segOf_len e]
      decide
theorem Route.pt {H : Hp} {ch : Addr} {D : CD} {ns : List Str} (R : Route D ns) (C : ChartAt H ch D) {j : Nat} (h : j + 1 < ns.length) : (∃ a x y, D.pt (rn ns j) = some (a, x, y)) ∧ ∃ a x y, D.pt (rn ns (j + 1)) = some (a, x, y) := by
  obtain ⟨l, hl⟩ := R.ch j h
  obtain ⟨h1, h2, h3⟩ := CD.leg_mem hl
  have := C.wf l h1
  rw [h2, h3] at this
  exact this
/-! data that can be compared -/
theorem cla {xs : List PyData} (h : ∀ x ∈ xs, x.canLay0 = true) : PyData.canLayAll0 xs = true := by
  induction xs with
  | nil => rfl
  | cons x xs ih =>
    show (PyData.canLay0 x && PyData.canLayAll0 xs) = true
    rw [h x List.mem_cons_self, ih fun y hy => h y (List.mem_cons_of_mem _ hy)]
    rfl
theorem dpa {xs : List PyData} {n : Nat} (h : ∀ x ∈ xs, x.depth ≤ n) : PyData.depthAll xs ≤ n := by
  induction xs with
  | nil => exact Nat.zero_le _
  | cons x xs ih =>
    show max (PyData.depth x) (PyData.depthAll xs) ≤ n
    exact Nat.max_le.mpr ⟨h x List.mem_cons_self, ih fun y hy => h y (List.mem_cons_of_mem _ hy)⟩
theorem sh_of {d : PyData} (h1 : d.canLay0 = true) (h2 : d.depth ≤ 64) : SeqAt.shaped d = true := by
  unfold SeqAt.shaped
  rw [h1, decide_eq_true h2]
  rfl
theorem can_str {ns : List Str} (h : ∀ n ∈ ns, sOk n) : (PyData.tuple (ns.map PyData.str)).canLay0 = true := by
  show PyData.canLayAll0 _ = true
  refine cla fun x hx => ?_
  obtain ⟨n, hn, rfl⟩ := List.mem_map.mp hx
  exact h n hn
theorem sh_str {ns : List Str} (h : ∀ n ∈ ns, sOk n) : SeqAt.shaped (.tuple (ns.map PyData.str)) = true := by
  refine sh_of (can_str h) ?_
  show PyData.depthAll _ + 1 ≤ 64
  have : PyData.depthAll (ns.map PyData.str) ≤ 1 := dpa fun x hx => by
    obtain ⟨n, _, rfl⟩ := List.mem_map.mp hx
    exact Nat.zero_le _
  omega
theorem can_pd (xs : List Int) : (pdT xs).canLay0 = true := by
  show PyData.canLayAll0 _ = true
  refine cla fun x hx => ?_
  obtain ⟨n, hn, rfl⟩ := List.mem_map.mp hx
  rfl
theorem dep_pd (xs : List Int) : (pdT xs).depth ≤ 2 := by
  show PyData.depthAll _ + 1 ≤ 2
  have : PyData.depthAll (xs.map PyData.int) ≤ 1 := dpa fun x hx => by
    obtain ⟨n, _, rfl⟩ := List.mem_map.mp hx
    exact Nat.zero_le _
  omega
theorem sh_pd (xs : List Int) : SeqAt.shaped (pdT xs) = true := sh_of (can_pd xs) (Nat.le_trans (dep_pd xs) (by decide))
theorem can_pds (xss : List (List Int)) : (PyData.list (xss.map pdT)).canLay0 = true := by
  show PyData.canLayAll0 _ = true
  refine cla fun x hx => ?_
  obtain ⟨n, hn, rfl⟩ := List.mem_map.mp hx
  exact can_pd n
theorem sh_pds (xss : List (List Int)) : SeqAt.shaped (.list (xss.map pdT)) = true := by
  refine sh_of (can_pds xss) ?_
  show PyData.depthAll _ + 1 ≤ 64
  have : PyData.depthAll (xss.map pdT) ≤ 2 := dpa fun x hx => by
    obtain ⟨n, _, rfl⟩ := List.mem_map.mp hx
    exact dep_pd n
  omega
theorem dpAll_str {K : PySem.W.Frag} {H : Hp} : ∀ xs : List Str, DpAll K H (xs.map V.str) (xs.map PyData.str)
  | [] => .nil
  | x :: xs => .cons (.str x) (dpAll_str xs)
def pdL (l : Lg) : PyData := .tuple [.str l.s, .str l.e, .str l.c, .int l.lo, .int l.hi]
theorem can_lg {l : Lg} (h : sOk l.s ∧ sOk l.e ∧ sOk l.c) : (pdL l).canLay0 = true := by
  show (PyData.canLay0 (.str l.s) && (PyData.canLay0 (.str l.e) && (PyData.canLay0 (.str l.c) && (true && (true && true))))) = true
  have h1 : PyData.canLay0 (.str l.s) = true := h.1
  have h2 : PyData.canLay0 (.str l.e) = true := h.2.1
  have h3 : PyData.canLay0 (.str l.c) = true := h.2.2
  rw [h1, h2, h3]
  rfl
theorem dp_lg {K : PySem.W.Frag} {H : Hp} {l : Lg} (h : H l.a = some (.tup l.v)) : Dp K H (.ref l.a) (pdL l) := .tup (.inl (.inl h)) (.cons (.str _) (.cons (.str _) (.cons (.str _) (.cons (.int _) (.cons (.int _) .nil)))))
theorem sh_lg {l : Lg} (h : sOk l.s ∧ sOk l.e ∧ sOk l.c) : SeqAt.shaped (pdL l) = true := sh_of (can_lg h) (by
  show PyData.depthAll _ + 1 ≤ 64
  have : PyData.depthAll [.str l.s, .str l.e, .str l.c, .int l.lo, .int l.hi] ≤ 1 := dpa fun x hx => by
    simp only [List.mem_cons, List.not_mem_nil, or_false] at hx
    rcases hx with rfl | rfl | rfl | rfl | rfl <;> exact Nat.zero_le _
  omega)
theorem Route.sok {H : Hp} {ch : Addr} {D : CD} {ns : List Str} (R : Route D ns) (C : ChartAt H ch D) : ∀ n ∈ ns, sOk n := by
  intro n hn
  obtain ⟨j, hj, rfl⟩ := List.getElem_of_mem hn
  have e : ∀ i (h : i < ns.length), rn ns i = ns[i] := fun i h => by
    unfold rn
    rw [List.getD_eq_getElem?_getD, List.getElem?_eq_getElem h]
    rfl
  have n2 := R.n2
  by_cases h : j + 1 < ns.length
  · obtain ⟨l, hl⟩ := R.ch j h
    obtain ⟨h1, h2, _⟩ := CD.leg_mem hl
    have := (C.sk l h1).1
    rw [h2, e j hj] at this
    exact this
  · obtain ⟨i, rfl⟩ : ∃ i, j = i + 1 := ⟨j - 1, by omega⟩
    obtain ⟨l, hl⟩ := R.ch i hj
    obtain ⟨h1, _, h3⟩ := CD.leg_mem hl
    have := (C.sk l h1).2.1
    rw [h3, e (i + 1) hj] at this
    exact this
end Sk

set_option Elab.async false
set_option linter.all false
set_option maxRecDepth 100000
set_option maxHeartbeats 4000000
namespace Sk
open PySem PySem.Spec PyProof.Rows L2
abbrev WQ := Addr × Int × Int × Int × Int
def wv (q : WQ) : List V := [.int q.2.1, .int q.2.2.1, .int q.2.2.2.1, .int q.2.2.2.2]
def lb (t : Int) (qs : List WQ) : List WQ := qs.filter fun q => decide (q.2.1 ≤ t)
theorem lb_snoc (t : Int) (qs : List WQ) (q : WQ) : lb t (qs ++ [q]) = lb t qs ++ (if q.2.1 ≤ t then [q] else []) := by
  unfold lb
  rw [List.filter_append]
  congr 1
  by_cases h : q.2.1 ≤ t <;> simp [h]
structure WAt (H : Hp) (l : Addr) (qs : List WQ) : Prop where
  li : H l = some (.lst (qs.map fun q => V.ref q.1))
  tu : ∀ q ∈ qs, H q.1 = some (.tup (wv q))
  bd : ∀ q ∈ qs, -10001 ≤ q.2.2.1 ∧ q.2.2.1 ≤ 10001 ∧ -10001 ≤ q.2.2.2.1 ∧ q.2.2.2.1 ≤ 10001 ∧ 0 ≤ q.2.2.2.2 ∧ q.2.2.2.2 ≤ 10001
  hd : ∃ q r, qs = q :: r ∧ q.2.1 = 0
theorem WAt.keep {K : PySem.W.Frag} {d c l : Addr} {H H' : Hp} {qs : List WQ} (W : WAt H l qs) (S : St1 K H d c) (k : Keep d H H') : WAt H' l qs := ⟨k.l S W.li, fun q h => k.t S (W.tu q h), W.bd, W.hd⟩
theorem WAt.same {l : Addr} {H H' : Hp} {qs : List WQ} (W : WAt H l qs) (e : Same H H') : WAt H' l qs := ⟨e _ _ W.li, fun q h => e _ _ (W.tu q h), W.bd, W.hd⟩
theorem WAt.at {l : Addr} {H : Hp} {qs : List WQ} (W : WAt H l qs) {i : Nat} (h : i < qs.length) : (qs.map fun q => V.ref q.1)[i]? = some (.ref qs[i].1) := by simp [h]
theorem WAt.snoc {l : Addr} {H : Hp} {qs : List WQ} {q : WQ} (W : WAt H l qs) (hp : H q.1 = some (.tup (wv q))) (hb : -10001 ≤ q.2.2.1 ∧ q.2.2.1 ≤ 10001 ∧ -10001 ≤ q.2.2.2.1 ∧ q.2.2.2.1 ≤ 10001 ∧ 0 ≤ q.2.2.2.2 ∧ q.2.2.2.2 ≤ 10001) :
    WAt (upd H l (.lst ((qs.map fun q => V.ref q.1) ++ [.ref q.1]))) l (qs ++ [q]) := by
  refine ⟨by rw [upd_same, List.map_append]; rfl, fun z hz => ?_, fun z hz => ?_, ?_⟩
  · have ht : H z.1 = some (.tup (wv z)) := by
      rcases List.mem_append.mp hz with h | h
      · exact W.tu z h
      · rw [List.mem_singleton.mp h]; exact hp
    rw [upd_ne (ne_of ht W.li (by intro e; cases e))]
    exact ht
  · rcases List.mem_append.mp hz with h | h
    · exact W.bd z h
    · rw [List.mem_singleton.mp h]; exact hb
  · obtain ⟨q0, r, h, h0⟩ := W.hd
    exact ⟨q0, r ++ [q], by rw [h]; rfl, h0⟩

def ab (x : Int) : Int := if x < 0 then -x else x
theorem mul_ab {f e x : Int} (h0 : -e ≤ f) (h1 : f ≤ e) : -(e * ab x) ≤ f * x ∧ f * x ≤ e * ab x := by
  unfold ab
  split
  · rename_i h
    have a := Int.mul_le_mul_of_nonneg_right h1 (show 0 ≤ -x by omega)
    have b := Int.mul_le_mul_of_nonneg_right h0 (show 0 ≤ -x by omega)
    simp only [Int.mul_neg, Int.neg_mul, Int.neg_neg] at a b ⊢
    omega
  · rename_i h
    have a := Int.mul_le_mul_of_nonneg_right h1 (show 0 ≤ x by omega)
    have b := Int.mul_le_mul_of_nonneg_right h0 (show 0 ≤ x by omega)
    rw [Int.neg_mul] at b
    omega
def lo (dx dy n s sl wx wy e : Int) : Int := s - sl + (wx * dx + wy * dy - e * (ab dx + ab dy)) / n
def hi (dx dy n s sl wx wy e : Int) : Int := s + sl + (wx * dx + wy * dy + e * (ab dx + ab dy)) / n
def fp (dx dy n x y : Int) : Int := (x * dx + y * dy) / n
theorem div_mono {a b n : Int} (hn : 0 < n) (h : a ≤ b) : a / n ≤ b / n := Int.ediv_le_ediv hn h
def spWind (K : PySem.W.Frag) : Sp := fun vs H Q _ => ∃ (l : Addr) (t : Int) (qs : List WQ), vs = [.ref l, .int t] ∧ WAt H l qs ∧ 0 ≤ t ∧ ∀ q, (lb t qs).getLast? = some q → Q (.ref q.1) H
def spStep : Sp := fun vs H Q _ => ∃ (v w : Addr) (s sl dx dy n t wx wy e : Int), vs = [.ref v, .int s, .int sl, .ref w] ∧ H v = some (.tup [.int dx, .int dy, .int n]) ∧ H w = some (.tup [.int t, .int wx, .int wy, .int e]) ∧
  (-10000000 ≤ dx ∧ dx ≤ 10000000 ∧ -10000000 ≤ dy ∧ dy ≤ 10000000 ∧ -10000000 ≤ wx ∧ wx ≤ 10000000 ∧ -10000000 ≤ wy ∧ wy ≤ 10000000 ∧ -10000000 ≤ e ∧ e ≤ 10000000 ∧ 0 < n ∧ n ≤ 100000000) ∧
  ∀ p, H p = none → Q (.ref p) (upd H p (.tup [.int (lo dx dy n s sl wx wy e), .int (hi dx dy n s sl wx wy e)]))
end Sk

set_option Elab.async false
set_option linter.all false
set_option maxRecDepth 100000
set_option maxHeartbeats 4000000
namespace Sk
open PySem PySem.Spec PyProof.Rows L2
/-! next boxes: the mathematics -/
def clamp (lo hi x : Int) : Int := if hi < (if lo > x then lo else x) then hi else (if lo > x then lo else x)
def tgt (D : CD) (ns : List Str) (k : Nat) (x : Int) : Int :=
  let v := match D.leg (rn ns k) (rn ns (k + 1)) with | some l => clamp l.lo l.hi x | none => x
  if k + 2 < ns.length then match D.leg (rn ns (k + 1)) (rn ns (k + 2)) with | some l => clamp l.lo l.hi v | none => v else v
def PosR (D : CD) (ns : List Str) : Prop := ∀ j, j + 1 < ns.length → 1 ≤ D.len (rn ns j) (rn ns (j + 1))
theorem PosR.of {D : CD} {ns : List Str} (R : Route D ns) (h : ∀ l ∈ D.ls, 1 ≤ D.len l.s l.e) : PosR D ns := fun j hj => by
  obtain ⟨l, hl⟩ := R.ch j hj
  obtain ⟨h1, h2, h3⟩ := CD.leg_mem hl
  have := h l h1
  rw [h2, h3] at this
  exact this
theorem PosR.lt {D : CD} {ns : List Str} (p : PosR D ns) {j : Nat} (h : j + 1 < ns.length) : bg D ns j + 1 ≤ bg D ns (j + 1) := by
  have := p j h
  show _ ≤ bg D ns j + _
  omega
def lowest (a b x g : Int) : Int := if x < g then (if g < x + a then g else x + a) else (if g > x - b then g else x - b)
def highest (a b x g : Int) : Int := if x > g then (if g > x - a then g else x - a) else (if g < x + b then g else x + b)
def tow (x g r : Int) : Int := if x < g then (if g < x + r then g else x + r) else (if g > x - r then g else x - r)
theorem low_mem {a b x g : Int} : lowest a b x g = tow x g a ∨ lowest a b x g = tow x g b := by
  unfold lowest tow
  by_cases h : x < g
  · left; rw [if_pos h, if_pos h]
  · right; rw [if_neg h, if_neg h]
theorem low_le {a b x y g r : Int} (ha : 1 ≤ a) (hab : a ≤ b) (h : x ≤ y) (hr : r = a ∨ r = b) : lowest a b x g ≤ tow y g r := by
  unfold lowest tow
  rcases hr with rfl | rfl <;> (split <;> split <;> split <;> split <;> omega)
theorem high_mem {a b x g : Int} (ha : 1 ≤ a) (hab : a ≤ b) : highest a b x g = tow x g a ∨ highest a b x g = tow x g b := by
  unfold highest tow
  by_cases h : x > g
  · left; rw [if_pos h, if_neg (show ¬ x < g by omega)]
  · right
    by_cases e : x < g
    · rw [if_neg h, if_pos e]
    · rw [if_neg h, if_neg e, if_pos (show g < x + b by omega), if_pos (show g > x - b by omega)]
theorem high_le {a b x y g r : Int} (ha : 1 ≤ a) (hab : a ≤ b) (h : y ≤ x) (hr : r = a ∨ r = b) : tow y g r ≤ highest a b x g := by
  unfold highest tow
  rcases hr with rfl | rfl <;> (split <;> split <;> split <;> split <;> omega)
theorem low_mono {a b x y g : Int} (ha : 1 ≤ a) (hab : a ≤ b) (h : x ≤ y) : lowest a b x g ≤ lowest a b y g := by
  rcases low_mem (a := a) (b := b) (x := y) (g := g) with e | e <;> rw [e]
  · exact low_le ha hab h (.inl rfl)
  · exact low_le ha hab h (.inr rfl)
theorem high_mono {a b x y g : Int} (ha : 1 ≤ a) (hab : a ≤ b) (h : x ≤ y) : highest a b x g ≤ highest a b y g := by
  rcases high_mem (x := x) (g := g) ha hab with e | e <;> rw [e]
  · exact high_le ha hab h (.inl rfl)
  · exact high_le ha hab h (.inr rfl)
theorem low_high {a b x y g : Int} (ha : 1 ≤ a) (hab : a ≤ b) (h : x ≤ y) : lowest a b x g ≤ highest a b y g :=
  Int.le_trans (low_le ha hab (Int.le_refl x) (.inl rfl)) (high_le ha hab h (.inl rfl))
structure NextOf (lt : Int → Nat) (lf hf af : Nat → Int) (a b low high down up v0 v1 v2 v3 : Int) : Prop where
  e0 : ∃ p, low ≤ p ∧ p ≤ high ∧ v0 = p + lf (lt p)
  m0 : ∀ p, low ≤ p → p ≤ high → v0 ≤ p + lf (lt p)
  e1 : ∃ p, low ≤ p ∧ p ≤ high ∧ v1 = p + hf (lt p)
  m1 : ∀ p, low ≤ p → p ≤ high → p + hf (lt p) ≤ v1
  e2 : ∃ p, low ≤ p ∧ p ≤ high ∧ v2 = lowest a b down (af (lt p))
  m2 : ∀ p, low ≤ p → p ≤ high → v2 ≤ lowest a b down (af (lt p))
  e3 : ∃ p, low ≤ p ∧ p ≤ high ∧ v3 = highest a b up (af (lt p))
  m3 : ∀ p, low ≤ p → p ≤ high → highest a b up (af (lt p)) ≤ v3
section
variable {lt : Int → Nat} {lf hf af : Nat → Int} {a b low high down up v0 v1 v2 v3 : Int}
theorem NextOf.uniq {w0 w1 w2 w3 : Int} (X : NextOf lt lf hf af a b low high down up v0 v1 v2 v3) (Y : NextOf lt lf hf af a b low high down up w0 w1 w2 w3) : v0 = w0 ∧ v1 = w1 ∧ v2 = w2 ∧ v3 = w3 := by
  obtain ⟨p0, a0, b0, c0⟩ := X.e0
  obtain ⟨q0, d0, f0, g0⟩ := Y.e0
  obtain ⟨p1, a1, b1, c1⟩ := X.e1
  obtain ⟨q1, d1, f1, g1⟩ := Y.e1
  obtain ⟨p2, a2, b2, c2⟩ := X.e2
  obtain ⟨q2, d2, f2, g2⟩ := Y.e2
  obtain ⟨p3, a3, b3, c3⟩ := X.e3
  obtain ⟨q3, d3, f3, g3⟩ := Y.e3
  have := X.m0 q0 d0 f0
  have := Y.m0 p0 a0 b0
  have := X.m1 q1 d1 f1
  have := Y.m1 p1 a1 b1
  have := X.m2 q2 d2 f2
  have := Y.m2 p2 a2 b2
  have := X.m3 q3 d3 f3
  have := Y.m3 p3 a3 b3
  omega
theorem NextOf.inner {low' high' down' up' w0 w1 w2 w3 : Int} (X : NextOf lt lf hf af a b low high down up v0 v1 v2 v3) (Y : NextOf lt lf hf af a b low' high' down' up' w0 w1 w2 w3) (ha : 1 ≤ a) (hab : a ≤ b) (hlh : ∀ p, lf (lt p) ≤ hf (lt p))
    (h0 : low ≤ low') (h1 : high' ≤ high) (h2 : down ≤ down') (h3 : up' ≤ up) (h4 : down' ≤ up') : v0 ≤ w0 ∧ w0 ≤ w1 ∧ w1 ≤ v1 ∧ v2 ≤ w2 ∧ w2 ≤ w3 ∧ w3 ≤ v3 := by
  obtain ⟨q0, d0, f0, g0⟩ := Y.e0
  obtain ⟨q1, d1, f1, g1⟩ := Y.e1
  obtain ⟨q2, d2, f2, g2⟩ := Y.e2
  obtain ⟨q3, d3, f3, g3⟩ := Y.e3
  have i0 := X.m0 q0 (by omega) (by omega)
  have i1 := Y.m1 q0 d0 f0
  have i2 := hlh q0
  have i3 := X.m1 q1 (by omega) (by omega)
  have i4 := X.m2 q2 (by omega) (by omega)
  have i5 := low_mono (g := af (lt q2)) ha hab h2
  have i6 := Y.m3 q2 d2 f2
  have i7 := low_high (g := af (lt q2)) ha hab h4
  have i8 := X.m3 q3 (by omega) (by omega)
  have i9 := high_mono (g := af (lt q3)) ha hab h3
  omega
/-- from lists over every progress and every level -/
theorem NextOf.every {c : Nat} {L : List Int} (hc : (c : Int) = high + 1 - low) (ha : 1 ≤ a) (hab : a ≤ b) (hdu : down ≤ up)
    (h0 : v0 ∈ (List.range c).map fun j : Nat => low + (j : Int) + lf (lt (low + (j : Int)))) (l0 : ∀ y ∈ (List.range c).map fun j : Nat => low + (j : Int) + lf (lt (low + (j : Int))), v0 ≤ y)
    (h1 : v1 ∈ (List.range c).map fun j : Nat => low + (j : Int) + hf (lt (low + (j : Int)))) (l1 : ∀ y ∈ (List.range c).map fun j : Nat => low + (j : Int) + hf (lt (low + (j : Int))), y ≤ v1)
    (hL : ∀ x ∈ L, ∃ p lv r, low ≤ p ∧ p ≤ high ∧ down ≤ lv ∧ lv ≤ up ∧ (r = a ∨ r = b) ∧ x = tow lv (af (lt p)) r) (hL2 : ∀ p lv r, low ≤ p → p ≤ high → down ≤ lv → lv ≤ up → (r = a ∨ r = b) → tow lv (af (lt p)) r ∈ L)
    (h2 : v2 ∈ L) (l2 : ∀ y ∈ L, v2 ≤ y) (h3 : v3 ∈ L) (l3 : ∀ y ∈ L, y ≤ v3) : NextOf lt lf hf af a b low high down up v0 v1 v2 v3 := by
  have mem : ∀ (g : Int → Int) p, low ≤ p → p ≤ high → g p ∈ (List.range c).map fun j : Nat => g (low + (j : Int)) := fun g p p0 p1 =>
    List.mem_map.mpr ⟨(p - low).toNat, List.mem_range.mpr (by omega), by rw [show low + ((p - low).toNat : Int) = p by omega]⟩
  have low2 : ∀ p, low ≤ p → p ≤ high → v2 ≤ lowest a b down (af (lt p)) := fun p p0 p1 => by
    rcases low_mem (a := a) (b := b) (x := down) (g := af (lt p)) with e | e <;> rw [e]
    · exact l2 _ (hL2 p down a p0 p1 (Int.le_refl _) hdu (.inl rfl))
    · exact l2 _ (hL2 p down b p0 p1 (Int.le_refl _) hdu (.inr rfl))
  have high2 : ∀ p, low ≤ p → p ≤ high → highest a b up (af (lt p)) ≤ v3 := fun p p0 p1 => by
    rcases high_mem (x := up) (g := af (lt p)) ha hab with e | e <;> rw [e]
    · exact l3 _ (hL2 p up a p0 p1 hdu (Int.le_refl _) (.inl rfl))
    · exact l3 _ (hL2 p up b p0 p1 hdu (Int.le_refl _) (.inr rfl))
  refine ⟨?_, fun p p0 p1 => l0 _ (mem (fun p => p + lf (lt p)) p p0 p1), ?_, fun p p0 p1 => l1 _ (mem (fun p => p + hf (lt p)) p p0 p1), ?_, low2, ?_, high2⟩
  · obtain ⟨j, hj, rfl⟩ := List.mem_map.mp h0
    have := List.mem_range.mp hj
    exact ⟨low + (j : Int), by omega, by omega, rfl⟩
  · obtain ⟨j, hj, rfl⟩ := List.mem_map.mp h1
    have := List.mem_range.mp hj
    exact ⟨low + (j : Int), by omega, by omega, rfl⟩
  · obtain ⟨p, lv, r, p0, p1, q0, q1, hr, rfl⟩ := hL v2 h2
    have := low2 p p0 p1
    have := low_le (g := af (lt p)) ha hab q0 hr
    exact ⟨p, p0, p1, by omega⟩
  · obtain ⟨p, lv, r, p0, p1, q0, q1, hr, rfl⟩ := hL v3 h3
    have := high2 p p0 p1
    have := high_le (g := af (lt p)) ha hab q1 hr
    exact ⟨p, p0, p1, by omega⟩
end
/-- from lists over the legs -/
theorem NextOf.legs {D : CD} {ns : List Str} {lf hf af : Nat → Int} {a b low high down up v0 v1 v2 v3 : Int} (pos : PosR D ns) (n2 : 2 ≤ ns.length) (hlh : low ≤ high) {first last : Nat} (hf1 : lat D ns (ns.length - 1 - 1) low = first) (hl1 : lat D ns (ns.length - 1 - 1) high = last) {c : Nat} (hc : c = last + 1 - first)
    (h0 : v0 ∈ (List.range c).map fun j => (if first + j = first then low else bg D ns (first + j)) + lf (first + j)) (l0 : ∀ y ∈ (List.range c).map fun j => (if first + j = first then low else bg D ns (first + j)) + lf (first + j), v0 ≤ y)
    (h1 : v1 ∈ (List.range c).map fun j => (if first + j = last then high else bg D ns (first + j + 1) - 1) + hf (first + j)) (l1 : ∀ y ∈ (List.range c).map fun j => (if first + j = last then high else bg D ns (first + j + 1) - 1) + hf (first + j), y ≤ v1)
    (h2 : v2 ∈ (List.range c).map fun j => lowest a b down (af (first + j))) (l2 : ∀ y ∈ (List.range c).map fun j => lowest a b down (af (first + j)), v2 ≤ y)
    (h3 : v3 ∈ (List.range c).map fun j => highest a b up (af (first + j))) (l3 : ∀ y ∈ (List.range c).map fun j => highest a b up (af (first + j)), y ≤ v3) :
    NextOf (fun x => lat D ns (ns.length - 1 - 1) x) lf hf af a b low high down up v0 v1 v2 v3 := by
  have mono : ∀ p q, p ≤ q → lat D ns (ns.length - 1 - 1) p ≤ lat D ns (ns.length - 1 - 1) q := fun p q h => lat_mono D ns _ h
  obtain ⟨fa, fb, fc⟩ := lat_cases D ns (ns.length - 1 - 1) low
  obtain ⟨ga, gb, gc⟩ := lat_cases D ns (ns.length - 1 - 1) high
  have hfl := mono low high hlh
  rw [hf1] at fa fb fc hfl
  rw [hl1] at ga gb gc hfl
  have lk : ∀ k x, k ≤ ns.length - 1 - 1 → bg D ns k ≤ x → (k < ns.length - 1 - 1 → x < bg D ns (k + 1)) → lat D ns (ns.length - 1 - 1) x = k := fun k x hk hx hx2 =>
    lat_eq hk (fun i hi => Int.le_trans (bg_mono D ns (show i + 1 ≤ k by omega)) hx) hx2
  -- the first progress on leg k
  have C : ∀ k, first ≤ k → k ≤ last → ∃ x, x = (if k = first then low else bg D ns k) ∧ low ≤ x ∧ x ≤ high ∧ lat D ns (ns.length - 1 - 1) x = k := fun k k0 k1 => by
    by_cases e : k = first
    · exact ⟨low, by rw [if_pos e], Int.le_refl _, hlh, by rw [hf1, e]⟩
    · have e1 : lat D ns (ns.length - 1 - 1) (bg D ns k) = k := lk k _ (by omega) (Int.le_refl _) fun h => by have := pos.lt (show k + 1 < ns.length by omega); omega
      refine ⟨_, by rw [if_neg e], ?_, ?_, e1⟩
      · rcases ltge (bg D ns k) low with w | w
        · have := mono _ _ (Int.le_of_lt w)
          rw [e1, hf1] at this
          omega
        · exact w
      · have := gb (k - 1) (by omega)
        rw [show k - 1 + 1 = k by omega] at this
        exact this
  -- the last progress on leg k
  have E : ∀ k, first ≤ k → k ≤ last → ∃ x, x = (if k = last then high else bg D ns (k + 1) - 1) ∧ low ≤ x ∧ x ≤ high ∧ lat D ns (ns.length - 1 - 1) x = k := fun k k0 k1 => by
    by_cases e : k = last
    · exact ⟨high, by rw [if_pos e], hlh, Int.le_refl _, by rw [hl1, e]⟩
    · have p1 := pos.lt (show k + 1 < ns.length by omega)
      have e1 : lat D ns (ns.length - 1 - 1) (bg D ns (k + 1) - 1) = k := lk k _ (by omega) (by omega) fun h => by omega
      refine ⟨_, by rw [if_neg e], ?_, ?_, e1⟩
      · have := fc (by omega)
        have := bg_mono D ns (show first + 1 ≤ k + 1 by omega)
        omega
      · have := gb k (by omega)
        omega
  have leg : ∀ p, low ≤ p → p ≤ high → first ≤ lat D ns (ns.length - 1 - 1) p ∧ lat D ns (ns.length - 1 - 1) p ≤ last := fun p p0 p1 => ⟨hf1 ▸ mono _ _ p0, hl1 ▸ mono _ _ p1⟩
  have mem : ∀ (g : Nat → Int) k, first ≤ k → k ≤ last → g k ∈ (List.range c).map fun j => g (first + j) := fun g k k0 k1 =>
    List.mem_map.mpr ⟨k - first, List.mem_range.mpr (by omega), by rw [show first + (k - first) = k by omega]⟩
  have unm : ∀ (g : Nat → Int) v, v ∈ ((List.range c).map fun j => g (first + j)) → ∃ k, first ≤ k ∧ k ≤ last ∧ v = g k := fun g v h => by
    obtain ⟨j, hj, e⟩ := List.mem_map.mp h
    have := List.mem_range.mp hj
    exact ⟨first + j, by omega, by omega, e.symm⟩
  refine ⟨?_, fun p p0 p1 => ?_, ?_, fun p p0 p1 => ?_, ?_, fun p p0 p1 => ?_, ?_, fun p p0 p1 => ?_⟩
  · obtain ⟨k, k0, k1, e⟩ := unm (fun k => (if k = first then low else bg D ns k) + lf k) v0 h0
    obtain ⟨x, hx, x0, x1, x2⟩ := C k k0 k1
    exact ⟨x, x0, x1, by rw [x2, e, ← hx]⟩
  · obtain ⟨k0, k1⟩ := leg p p0 p1
    obtain ⟨ta, tb, tc⟩ := lat_cases D ns (ns.length - 1 - 1) p
    have := l0 _ (mem (fun k => (if k = first then low else bg D ns k) + lf k) _ k0 k1)
    refine Int.le_trans this ?_
    by_cases e : lat D ns (ns.length - 1 - 1) p = first
    · rw [if_pos e]; omega
    · rw [if_neg e]
      have := tb (lat D ns (ns.length - 1 - 1) p - 1) (by omega)
      rw [show lat D ns (ns.length - 1 - 1) p - 1 + 1 = lat D ns (ns.length - 1 - 1) p by omega] at this
      omega
  · obtain ⟨k, k0, k1, e⟩ := unm (fun k => (if k = last then high else bg D ns (k + 1) - 1) + hf k) v1 h1
    obtain ⟨x, hx, x0, x1, x2⟩ := E k k0 k1
    exact ⟨x, x0, x1, by rw [x2, e, ← hx]⟩
  · obtain ⟨k0, k1⟩ := leg p p0 p1
    obtain ⟨ta, tb, tc⟩ := lat_cases D ns (ns.length - 1 - 1) p
    have := l1 _ (mem (fun k => (if k = last then high else bg D ns (k + 1) - 1) + hf k) _ k0 k1)
    refine Int.le_trans ?_ this
    by_cases e : lat D ns (ns.length - 1 - 1) p = last
    · rw [if_pos e]; omega
    · rw [if_neg e]
      have := tc (by omega)
      omega
  · obtain ⟨k, k0, k1, e⟩ := unm (fun k => lowest a b down (af k)) v2 h2
    obtain ⟨x, hx, x0, x1, x2⟩ := C k k0 k1
    exact ⟨x, x0, x1, by rw [x2, e]⟩
  · obtain ⟨k0, k1⟩ := leg p p0 p1
    exact l2 _ (mem (fun k => lowest a b down (af k)) _ k0 k1)
  · obtain ⟨k, k0, k1, e⟩ := unm (fun k => highest a b up (af k)) v3 h3
    obtain ⟨x, hx, x0, x1, x2⟩ := C k k0 k1
    exact ⟨x, x0, x1, by rw [x2, e]⟩
  · obtain ⟨k0, k1⟩ := leg p p0 p1
    exact l3 _ (mem (fun k => highest a b up (af k)) _ k0 k1)
/-! what stands ready -/
structure ND where
  p : Addr
  r : Addr
  ch : Addr
  cs : Addr
  ki : Addr
  ru : Addr
  wi : Addr
  D : CD
  ns : List Str
  pc : Int
  lv : Int
  w : Int
  s : Int
  f : Int
  a : Int
  b : Int
  sl : Int
  tick : Int
  qs : List WQ
  qw : WQ
structure NIn (C : Addr) (H : Hp) (N : ND) : Prop where
  P : PathAt C H N.p N.D N.ns N.r
  C0 : ChartAt H N.ch N.D
  R : Route N.D N.ns
  ps : PosR N.D N.ns
  cs : H N.cs = some (.tup [.ref N.r, .int N.pc, .int N.lv])
  ki : H N.ki = some (.tup [.int N.w, .int N.s, .int N.f, .int N.a, .int N.b])
  ru : ∃ kvs, H N.ru = some (.dK kvs) ∧ valV kvs (.inr "slip") = some (.int N.sl)
  wi : WAt H N.wi N.qs
  tk : 0 ≤ N.tick
  qw : (lb N.tick N.qs).getLast? = some N.qw
  hab : 1 ≤ N.a ∧ N.a ≤ N.b
  sl0 : 0 ≤ N.sl
  qn : N.qs.length ≤ 100
theorem NIn.same {C : Addr} {H H' : Hp} {N : ND} (I : NIn C H N) (e : Same H H') : NIn C H' N :=
  { I with P := I.P.same e, C0 := I.C0.same e, cs := e _ _ I.cs, ki := e _ _ I.ki, ru := let ⟨kvs, h1, h2⟩ := I.ru; ⟨kvs, e _ _ h1, h2⟩, wi := I.wi.same e }
theorem NIn.keep {K : PySem.W.Frag} {C d c : Addr} {H H' : Hp} {N : ND} (I : NIn C H N) (S : St1 K H d c) (k : Keep d H H') (n1 : N.ch ≠ d) (n2 : N.D.fx ≠ d) (n3 : N.ru ≠ d) : NIn C H' N :=
  { I with P := I.P.keep S k, C0 := I.C0.keep S k n1 n2, cs := k.t S I.cs, ki := k.t S I.ki, ru := let ⟨kvs, h1, h2⟩ := I.ru; ⟨kvs, k _ _ h1 n3, h2⟩, wi := I.wi.keep S k }
theorem NIn.sl {C : Addr} {H : Hp} {N : ND} (I : NIn C H N) : DGet H N.ru (.str "slip") (some (.int N.sl)) := let ⟨_, h1, h2⟩ := I.ru; h2 ▸ DGet.k (k := .inr "slip") h1
theorem NIn.rt {C : Addr} {H : Hp} {N : ND} (I : NIn C H N) : H N.r = some (.tup (N.ns.map V.str)) := let ⟨_, _, _, _, _, _, _, P⟩ := I.P; P.rt
def ND.dx (N : ND) (k : Nat) : Int := (N.D.xy (rn N.ns (k + 1))).1 - (N.D.xy (rn N.ns k)).1
def ND.dy (N : ND) (k : Nat) : Int := (N.D.xy (rn N.ns (k + 1))).2 - (N.D.xy (rn N.ns k)).2
def ND.ln (N : ND) (k : Nat) : Int := N.D.len (rn N.ns k) (rn N.ns (k + 1))
def ND.lf (N : ND) (k : Nat) : Int := lo (N.dx k) (N.dy k) (N.ln k) N.pc N.sl N.qw.2.2.1 N.qw.2.2.2.1 N.qw.2.2.2.2
def ND.hf (N : ND) (k : Nat) : Int := hi (N.dx k) (N.dy k) (N.ln k) N.pc N.sl N.qw.2.2.1 N.qw.2.2.2.1 N.qw.2.2.2.2
def ND.af (N : ND) (k : Nat) : Int := tgt N.D N.ns k N.lv
def ND.lt (N : ND) (x : Int) : Nat := lat N.D N.ns (N.ns.length - 1 - 1) x
def ND.nx (N : ND) (low high down up v0 v1 v2 v3 : Int) : Prop := NextOf N.lt N.lf N.hf N.af N.a N.b low high down up v0 v1 v2 v3
theorem ab_nn (x : Int) : 0 ≤ ab x := by unfold ab; split <;> omega
theorem NIn.qm {C : Addr} {H : Hp} {N : ND} (I : NIn C H N) : N.qw ∈ N.qs := (List.mem_filter.mp (List.mem_of_getLast? I.qw)).1
theorem NIn.lh {C : Addr} {H : Hp} {N : ND} (I : NIn C H N) (k : Nat) (hk : k + 1 < N.ns.length) : N.lf k ≤ N.hf k := by
  unfold ND.lf ND.hf lo hi
  have h1 := I.sl0
  have h2 := I.ps k hk
  have h3 := (I.wi.bd _ I.qm).2.2.2.2.1
  have h4 := Int.mul_nonneg h3 (Int.add_nonneg (ab_nn (N.dx k)) (ab_nn (N.dy k)))
  have h5 := div_mono (n := N.ln k) (a := N.qw.2.2.1 * N.dx k + N.qw.2.2.2.1 * N.dy k - N.qw.2.2.2.2 * (ab (N.dx k) + ab (N.dy k))) (b := N.qw.2.2.1 * N.dx k + N.qw.2.2.2.1 * N.dy k + N.qw.2.2.2.2 * (ab (N.dx k) + ab (N.dy k))) (by show 0 < N.D.len _ _; omega) (by omega)
  omega
/-! promises -/
def spWithin : Sp := fun vs H Q _ => ∃ (l : Lg) (x : Int), vs = [.ref l.a, .int x] ∧ H l.a = some (.tup l.v) ∧ Q (.int (clamp l.lo l.hi x)) H
def spTarget (C : Addr) : Sp := fun vs H Q _ => ∃ (N : ND) (k : Nat) (z : Int), vs = [.ref N.p, .ref N.cs, .int z] ∧ z = (k : Int) ∧ NIn C H N ∧ k + 1 < N.ns.length ∧ Q (.int (N.af k)) H
def spBounds (C : Addr) : Sp := fun vs H Q _ => ∃ (N : ND) (k : Nat) (z : Int), vs = [.ref N.p, .ref N.cs, .ref N.ru, .ref N.wi, .int N.tick, .int z] ∧ z = (k : Int) ∧ NIn C H N ∧ k + 1 < N.ns.length ∧
  ∀ q H', H q = none → Same H H' → H' q = some (.tup [.int (N.lf k), .int (N.hf k)]) → Q (.ref q) H'
def spLowest : Sp := fun vs H Q _ => ∃ (ki : Addr) (x g w s f a b : Int), vs = [.ref ki, .int x, .int g] ∧ H ki = some (.tup [.int w, .int s, .int f, .int a, .int b]) ∧ Q (.int (lowest a b x g)) H
def spHighest : Sp := fun vs H Q _ => ∃ (ki : Addr) (x g w s f a b : Int), vs = [.ref ki, .int x, .int g] ∧ H ki = some (.tup [.int w, .int s, .int f, .int a, .int b]) ∧ Q (.int (highest a b x g)) H
def spNext (C : Addr) : Sp := fun vs H Q _ => ∃ (N : ND) (bx : Addr) (low high down up : Int), vs = [.ref N.p, .ref N.cs, .ref N.ki, .ref N.ru, .ref N.wi, .int N.tick, .ref bx] ∧ NIn C H N ∧ H bx = some (.tup [.int low, .int high, .int down, .int up]) ∧ low ≤ high ∧ down ≤ up ∧
  ∀ q v0 v1 v2 v3 H', H q = none → Same H H' → H' q = some (.tup [.int v0, .int v1, .int v2, .int v3]) → N.nx low high down up v0 v1 v2 v3 → Q (.ref q) H'
def spLawNext (C : Addr) : Sp := fun vs H Q _ => ∃ (N : ND) (b bx : Addr) (low high down up : Int), vs = [.ref N.ch, .ref N.r, .ref b, .ref N.cs, .ref N.ki, .ref N.ru, .ref N.wi, .int N.tick, .ref bx] ∧ NIn C H N ∧ H b = some (.lst ((bgs N.D N.ns).map V.int)) ∧ H bx = some (.tup [.int low, .int high, .int down, .int up]) ∧ low ≤ high ∧ high - low ≤ 40 ∧ down ≤ up ∧ up - down ≤ 11 ∧ -10000000 ≤ low ∧ low ≤ 10000000 ∧ -10000000 ≤ down ∧ down ≤ 10000000 ∧
  ∀ q v0 v1 v2 v3 H', H q = none → Same H H' → H' q = some (.tup [.int v0, .int v1, .int v2, .int v3]) → N.nx low high down up v0 v1 v2 v3 → Q (.ref q) H'
def spLawTarget (C : Addr) : Sp := fun vs H Q _ => ∃ (N : ND) (k : Nat) (z : Int), vs = [.ref N.ch, .ref N.r, .int z, .int N.lv] ∧ z = (k : Int) ∧ NIn C H N ∧ k + 1 < N.ns.length ∧ ∀ H', Same H H' → Q (.int (N.af k)) H'
def spLawBounds (C : Addr) : Sp := fun vs H Q _ => ∃ (N : ND) (b : Addr) (k : Nat) (z : Int), vs = [.ref N.ch, .ref N.r, .ref b, .int z, .int N.pc, .int N.sl, .ref N.qw.1] ∧ z = (k : Int) ∧ NIn C H N ∧ H b = some (.lst ((bgs N.D N.ns).map V.int)) ∧ k + 1 < N.ns.length ∧
  ∀ q H', H q = none → Same H H' → H' q = some (.tup [.int (N.lf k), .int (N.hf k)]) → Q (.ref q) H'
def spLawWindAt (C : Addr) : Sp := fun vs H Q _ => ∃ (N : ND), vs = [.ref N.wi, .int N.tick] ∧ NIn C H N ∧ ∀ H', Same H H' → Q (.ref N.qw.1) H'
def spTowards : Sp := fun vs H Q _ => ∃ (x g r : Int), vs = [.int x, .int g, .int r] ∧ Q (.int (tow x g r)) H
def spKind (K : PySem.W.Frag) : Sp := fun vs H Q _ => ∃ (d c : Addr), vs = [.ref d] ∧ St1 K H d c ∧ ∀ q w s f a b H', H q = none → 1 ≤ s → s ≤ f → f ≤ 1000 → 1 ≤ a → a ≤ b → H' q = some (.tup [.int w, .int s, .int f, .int a, .int b]) → St1 K H' d c → Keep d H H' → Q (.ref q) H'
def spRules (K : PySem.W.Frag) : Sp := fun vs H Q _ => ∃ (d c : Addr), vs = [.ref d] ∧ St1 K H d c ∧ ∀ ru kvs sl H', H ru = none → H' ru = some (.dK kvs) → valV kvs (.inr "slip") = some (.int sl) → 0 ≤ sl → St1 K H' d c → Keep d H H' → Q (.ref ru) H'
def spWinds (K : PySem.W.Frag) : Sp := fun vs H Q _ => ∃ (d c : Addr), vs = [.ref d] ∧ St1 K H d c ∧ ∀ wi qs H', H wi = none → WAt H' wi qs → qs.length ≤ 100 → St1 K H' d c → Keep d H H' → Q (.ref wi) H'
def spLawBox (K : PySem.W.Frag) : Sp := fun vs H Q _ => ∃ (d c b : Addr) (D : CD) (ns : List Str) (wide : Int), vs = [.ref d, .ref b, .int wide] ∧ St1 K H d c ∧ H b = some (.lst ((bgs D ns).map V.int)) ∧ Bd D ∧ 2 ≤ ns.length ∧ ns.length ≤ 20 ∧ 1 ≤ wide ∧ wide ≤ 41 ∧
  ∀ q low high down up H', H q = none → low ≤ high → high - low ≤ 40 → down ≤ up → up - down ≤ 11 → -10000000 ≤ low → low ≤ 10000000 → -10000000 ≤ down → down ≤ 10000000 → H' q = some (.tup [.int low, .int high, .int down, .int up]) → St1 K H' d c → Keep d H H' → Q (.ref q) H'
end Sk

set_option Elab.async false
set_option linter.all false
set_option maxRecDepth 100000
set_option maxHeartbeats 4000000
namespace Sk
open PySem PySem.Spec PyProof.Rows L2
/-! ### separated boxes -/
/-- what the laws want of the rules -/
structure RuD where
  la : Int
  ve : Int
  ra : Int
  ba : Int
structure RuAt (H : Hp) (ru : Addr) (r : RuD) : Prop where
  ex : ∃ kvs, H ru = some (.dK kvs) ∧ valV kvs (.inr "lateral") = some (.int r.la) ∧ valV kvs (.inr "vertical") = some (.int r.ve) ∧ valV kvs (.inr "radius") = some (.int r.ra) ∧ valV kvs (.inr "band") = some (.int r.ba)
  bd : 1 ≤ r.la ∧ r.la ≤ 1000 ∧ 1 ≤ r.ve ∧ r.ve ≤ 1000 ∧ 0 ≤ r.ra ∧ r.ra ≤ 1000 ∧ 0 ≤ r.ba ∧ r.ba ≤ 1000
section
variable {H H' : Hp} {ru : Addr} {r : RuD}
theorem RuAt.same (R : RuAt H ru r) (s : Same H H') : RuAt H' ru r := ⟨let ⟨kvs, e, h⟩ := R.ex; ⟨kvs, s _ _ e, h⟩, R.bd⟩
theorem RuAt.keep {d : Addr} (R : RuAt H ru r) (s : Keep d H H') (n : ru ≠ d) : RuAt H' ru r := ⟨let ⟨kvs, e, h⟩ := R.ex; ⟨kvs, s _ _ e n, h⟩, R.bd⟩
theorem RuAt.st {T : List Addr} (R : RuAt H ru r) (s : SameT T H H') (t : Tabs T H) : RuAt H' ru r := ⟨let ⟨kvs, e, h⟩ := R.ex; ⟨kvs, s.d t e, h⟩, R.bd⟩
theorem RuAt.gla (R : RuAt H ru r) : DGet H ru (.str "lateral") (some (.int r.la)) := let ⟨_, e, h, _⟩ := R.ex; h ▸ DGet.k (k := .inr "lateral") e
theorem RuAt.gve (R : RuAt H ru r) : DGet H ru (.str "vertical") (some (.int r.ve)) := let ⟨_, e, _, h, _⟩ := R.ex; h ▸ DGet.k (k := .inr "vertical") e
theorem RuAt.gra (R : RuAt H ru r) : DGet H ru (.str "radius") (some (.int r.ra)) := let ⟨_, e, _, _, h, _⟩ := R.ex; h ▸ DGet.k (k := .inr "radius") e
theorem RuAt.gba (R : RuAt H ru r) : DGet H ru (.str "band") (some (.int r.ba)) := let ⟨_, e, _, _, _, h⟩ := R.ex; h ▸ DGet.k (k := .inr "band") e
end
def Seg.li (s : Seg) : List Int := [s.ax, s.ay, s.bx, s.bw, s.d]
theorem segs_of {P : Seg → Prop} : ∀ {xss : List (List Int)}, (∀ xs ∈ xss, ∃ s : Seg, xs = s.li ∧ P s) → ∃ ss : List Seg, xss = ss.map Seg.li ∧ ∀ s ∈ ss, P s
  | [], _ => ⟨[], rfl, fun _ h => nomatch h⟩
  | xs :: xss, h => by
    obtain ⟨s, e, p⟩ := h xs List.mem_cons_self
    obtain ⟨ss, e2, q⟩ := segs_of (P := P) (xss := xss) fun ys hy => h ys (List.mem_cons_of_mem _ hy)
    refine ⟨s :: ss, by rw [e, e2]; rfl, fun t ht => ?_⟩
    rcases List.mem_cons.mp ht with rfl | ht
    · exact p
    · exact q t ht
theorem LoT.segs {H : Hp} {l : Addr} {ss : List Seg} (L : LoT H l (ss.map Seg.li)) (hb : ∀ s ∈ ss, SegBd 200 100 s) : ∃ xs, H l = some (.lst xs) ∧ SegsAt H xs ss := by
  obtain ⟨qs, h1, h2, h3⟩ := L
  have el : qs.length = ss.length := by
    have := congrArg List.length h3
    rw [List.length_map, List.length_map] at this
    exact this
  refine ⟨_, h1, by rw [List.length_map]; exact el, fun i s hs => ?_⟩
  have hi := (List.getElem?_eq_some_iff.mp hs).1
  have hi2 : i < qs.length := by omega
  have e : qs[i].2 = s.li := by
    have e1 : (qs.map (·.2))[i]? = (ss.map Seg.li)[i]? := by rw [h3]
    rw [List.getElem?_map, List.getElem?_map, hs, List.getElem?_eq_getElem hi2] at e1
    exact Option.some.inj e1
  refine ⟨qs[i].1, by rw [List.getElem?_map, List.getElem?_eq_getElem hi2]; rfl, ?_, hb s (List.mem_of_getElem? hs)⟩
  have := h2 _ (List.getElem_mem hi2)
  rw [e] at this
  exact this
/-- the piece's segments are small and have a length -/
theorem plc_bd {D : CD} {ns : List Str} (b : Bd D) {k : Nat} {p : Int} (h0 : -100000000 ≤ p) (h1 : p ≤ 100000000) (hk : k ≤ 20) : ∃ x y, plc D ns k p = [x, y] ∧ BdN 200 x ∧ BdN 200 y := by
  have a1 := b (rn ns k)
  have a2 := b (rn ns (k + 1))
  have l0 := D.len_nn (rn ns k) (rn ns (k + 1))
  have l1 := D.len_le b (rn ns k) (rn ns (k + 1))
  have g0 := bg_nn D ns k
  have g1 := bg_le b ns k
  have e : ((2 ^ 30 : Nat) : Int) = 1073741824 := by decide
  have q : ∀ x : Int, -1000000000 ≤ x → x ≤ 1000000000 → BdN 30 x := fun x u v => BdN.of (by rw [e]; omega) (by rw [e]; omega)
  refine ⟨_, _, rfl, (((q _ (by omega) (by omega)).mul (q _ (by omega) (by omega))).add ((q _ (by omega) (by omega)).mul (q _ (by omega) (by omega)))).mono (by decide), (((q _ (by omega) (by omega)).mul (q _ (by omega) (by omega))).add ((q _ (by omega) (by omega)).mul (q _ (by omega) (by omega)))).mono (by decide)⟩
theorem seg_bd {D : CD} {ns : List Str} (b : Bd D) (pos : PosR D ns) {k : Nat} {s e : Int} (h0 : -100000000 ≤ s) (h1 : s ≤ 100000000) (h2 : -100000000 ≤ e) (h3 : e ≤ 100000000) (hk : k ≤ 20) (hk2 : k + 1 < ns.length) : ∃ t : Seg, seg D ns k s e = t.li ∧ SegBd 200 100 t ∧ 1 ≤ t.d := by
  obtain ⟨x, y, e1, b1, b2⟩ := plc_bd (D := D) (ns := ns) b (k := k) (p := s) h0 h1 hk
  obtain ⟨x', y', e2, b3, b4⟩ := plc_bd (D := D) (ns := ns) b (k := k) (p := e) h2 h3 hk
  have l1 := D.len_le b (rn ns k) (rn ns (k + 1))
  have l0 := pos k hk2
  have e : ((2 ^ 30 : Nat) : Int) = 1073741824 := by decide
  refine ⟨⟨x, y, x', y', D.len (rn ns k) (rn ns (k + 1))⟩, ?_, ⟨b1, b2, b3, b4, (BdN.of (x := D.len (rn ns k) (rn ns (k + 1))) (n := 30) (by rw [e]; omega) (by rw [e]; omega)).mono (by decide)⟩, l0⟩
  show plc D ns k s ++ (plc D ns k _ ++ _) = _
  rw [e1, e2]
  rfl
theorem pcs_segs {D : CD} {ns : List Str} (b : Bd D) (pos : PosR D ns) (n2 : 2 ≤ ns.length) (n20 : ns.length ≤ 20) {lo hi : Int} (h0 : -100000000 ≤ lo) (h1 : lo ≤ 100000000) (h2 : -100000000 ≤ hi) (h3 : hi ≤ 100000000) : ∃ ss : List Seg, pcs D ns lo hi = ss.map Seg.li ∧ ∀ s ∈ ss, SegBd 200 100 s ∧ 1 ≤ s.d := by
  refine segs_of (P := fun s => SegBd 200 100 s ∧ 1 ≤ s.d) fun xs hx => ?_
  have t0 := bg_nn D ns (ns.length - 1)
  have t1 := bg_le b ns (ns.length - 1)
  unfold pcs at hx
  dsimp only at hx
  generalize ef : (if 0 > lo then 0 else lo) = f at hx
  generalize el : (if bg D ns (ns.length - 1) < hi then bg D ns (ns.length - 1) else hi) = l at hx
  have f0 : -100000000 ≤ f ∧ f ≤ 100000000 := by split at ef <;> omega
  have l0 : -100000000 ≤ l ∧ l ≤ 100000000 := by split at el <;> omega
  split at hx
  · cases hx
  · split at hx
    · rw [List.mem_singleton.mp hx]
      have := (lat_cases D ns (ns.length - 1 - 1) f).1
      exact seg_bd b pos f0.1 f0.2 f0.1 f0.2 (by omega) (by omega)
    · obtain ⟨k, hk, e⟩ := List.mem_filterMap.mp hx
      have hk := List.mem_range.mp hk
      unfold segOf at e
      dsimp only at e
      have g0 := bg_nn D ns k
      have g1 := bg_le b ns k
      have g2 := bg_nn D ns (k + 1)
      have g3 := bg_le b ns (k + 1)
      generalize eu : (if bg D ns k > f then bg D ns k else f) = u at e
      generalize ev : (if bg D ns (k + 1) < l then bg D ns (k + 1) else l) = v at e
      split at e
      · rw [← Option.some.inj e]
        exact seg_bd b pos (by split at eu <;> omega) (by split at eu <;> omega) (by split at ev <;> omega) (by split at ev <;> omega) (by omega) (by omega)
      · cases e
structure Bx where
  lo : Int
  hi : Int
  dn : Int
  up : Int
def Bx.t (b : Bx) : HO := .tup [.int b.lo, .int b.hi, .int b.dn, .int b.up]
structure Bx.ok (b : Bx) : Prop where
  le : b.lo ≤ b.hi
  l0 : -100000000 ≤ b.lo
  h1 : b.hi ≤ 100000000
  d0 : -100000000 ≤ b.dn
  d1 : b.dn ≤ 100000000
def lvA (r : RuD) (x y : Bx) : Bool := decide (r.ve + 2 * r.ba ≤ x.dn - y.up) || decide (r.ve + 2 * r.ba ≤ y.dn - x.up)
def anyC (ss ts : List Seg) (l : Int) : Bool := ss.any fun s => ts.any fun t => clo s t l
theorem anyC_swap (ss ts : List Seg) (l : Int) : anyC ts ss l = anyC ss ts l := by
  unfold anyC
  rw [Bool.eq_iff_iff, List.any_eq_true, List.any_eq_true]
  constructor
  · rintro ⟨t, ht, h⟩
    obtain ⟨s, hs, h⟩ := List.any_eq_true.mp h
    exact ⟨s, hs, List.any_eq_true.mpr ⟨t, ht, by rw [← clo_swap]; exact h⟩⟩
  · rintro ⟨s, hs, h⟩
    obtain ⟨t, ht, h⟩ := List.any_eq_true.mp h
    exact ⟨t, ht, List.any_eq_true.mpr ⟨s, hs, by rw [← clo_swap]; exact h⟩⟩
def sepB (r : RuD) (x y : Bx) (ss ts : List Seg) : Bool := lvA r x y || !anyC ss ts (r.la + 2 * r.ra)
theorem sepB_swap (r : RuD) (x y : Bx) (ss ts : List Seg) : sepB r y x ts ss = sepB r x y ss ts := by
  unfold sepB lvA
  rw [anyC_swap, Bool.or_comm (decide (r.ve + 2 * r.ba ≤ y.dn - x.up))]
def spLvA : Sp := fun vs H Q _ => ∃ (ru b1 b2 : Addr) (r : RuD) (x y : Bx), vs = [.ref ru, .ref b1, .ref b2] ∧ RuAt H ru r ∧ H b1 = some x.t ∧ H b2 = some y.t ∧ Q (.bl (lvA r x y)) H
def spLeast : Sp := fun vs H Q _ => ∃ (ru : Addr) (r : RuD), vs = [.ref ru] ∧ RuAt H ru r ∧ Q (.int (r.la + 2 * r.ra)) H
def spSep (C : Addr) (TT : List Addr) : Sp := fun vs H Q _ => ∃ (ru p1 b1 p2 b2 r1 r2 : Addr) (r : RuD) (x y : Bx) (D : CD) (ns ms : List Str) (ss ts : List Seg), vs = [.ref ru, .ref p1, .ref b1, .ref p2, .ref b2] ∧ RuAt H ru r ∧ H b1 = some x.t ∧ H b2 = some y.t ∧ x.lo ≤ x.hi ∧ y.lo ≤ y.hi ∧
  PathAt C H p1 D ns r1 ∧ PathAt C H p2 D ms r2 ∧ Bd D ∧ 2 ≤ ns.length ∧ ns.length ≤ 20 ∧ 2 ≤ ms.length ∧ ms.length ≤ 20 ∧ pcs D ns x.lo x.hi = ss.map Seg.li ∧ (∀ s ∈ ss, SegBd 200 100 s ∧ 1 ≤ s.d) ∧ pcs D ms y.lo y.hi = ts.map Seg.li ∧ (∀ s ∈ ts, SegBd 200 100 s ∧ 1 ≤ s.d) ∧ Tabs TT H ∧
  ∀ H', SameT TT H H' → Q (.bl (sepB r x y ss ts)) H'
def spLSep : Sp := fun vs H Q _ => ∃ (ru b1 q1 b2 q2 : Addr) (r : RuD) (x y : Bx) (ss ts : List Seg), vs = [.ref ru, .ref b1, .ref q1, .ref b2, .ref q2] ∧ RuAt H ru r ∧ H b1 = some x.t ∧ H b2 = some y.t ∧ LoT H q1 (ss.map Seg.li) ∧ LoT H q2 (ts.map Seg.li) ∧ (∀ s ∈ ss, SegBd 200 100 s ∧ 1 ≤ s.d) ∧ (∀ s ∈ ts, SegBd 200 100 s ∧ 1 ≤ s.d) ∧ ss.length ≤ 100 ∧ ts.length ≤ 100 ∧
  ∀ H', Same H H' → Q (.bl (sepB r x y ss ts)) H'
def spRulesB (K : PySem.W.Frag) : Sp := fun vs H Q _ => ∃ (d c : Addr), vs = [.ref d] ∧ St1 K H d c ∧ ∀ ru (r : RuD) H', H ru = none → RuAt H' ru r → St1 K H' d c → Keep d H H' → Q (.ref ru) H'
def spBoxB (K : PySem.W.Frag) : Sp := fun vs H Q _ => ∃ (d c b : Addr) (D : CD) (ns : List Str), vs = [.ref d, .ref b] ∧ St1 K H d c ∧ H b = some (.lst ((bgs D ns).map V.int)) ∧ Bd D ∧ 2 ≤ ns.length ∧ ns.length ≤ 20 ∧ ∀ q (x : Bx) H', H q = none → x.ok → H' q = some x.t → St1 K H' d c → Keep d H H' → Q (.ref q) H'
end Sk

set_option Elab.async false
set_option linter.all false
set_option maxRecDepth 100000
set_option maxHeartbeats 4000000
namespace Sk
open PySem PySem.Spec PyProof.Rows L2 GenW GxR
/-! min over a generator expression whose element may call own defs -/
/-- the least of some -/
def mins : List Int → Int
  | [] => 0
  | z :: zs => zs.foldl (fun b z => if z < b then z else b) z
theorem mins_app {zs : List Int} {z : Int} (h : zs ≠ []) : mins (zs ++ [z]) = if z < mins zs then z else mins zs := by
  cases zs with
  | nil => exact absurd rfl h
  | cons y ys =>
    show (ys ++ [z]).foldl _ y = _
    rw [List.foldl_append]
    rfl
theorem mins_spec : ∀ {zs : List Int}, zs ≠ [] → mins zs ∈ zs ∧ ∀ z ∈ zs, mins zs ≤ z := by
  have go : ∀ (ys : List Int) (y : Int), ((ys.foldl (fun b z => if z < b then z else b) y) = y ∨ (ys.foldl (fun b z => if z < b then z else b) y) ∈ ys) ∧ (ys.foldl (fun b z => if z < b then z else b) y) ≤ y ∧ ∀ z ∈ ys, (ys.foldl (fun b z => if z < b then z else b) y) ≤ z := by
    intro ys
    induction ys with
    | nil => intro y; exact ⟨.inl rfl, Int.le_refl _, fun _ h => nomatch h⟩
    | cons x ys ih =>
      intro y
      obtain ⟨a, b, c⟩ := ih (if x < y then x else y)
      show (ys.foldl _ (if x < y then x else y) = y ∨ ys.foldl _ (if x < y then x else y) ∈ x :: ys) ∧ ys.foldl _ (if x < y then x else y) ≤ y ∧ _
      refine ⟨?_, Int.le_trans b (by split <;> omega), fun z hz => ?_⟩
      · rcases a with a | a
        · rw [a]
          split
          · exact .inr List.mem_cons_self
          · exact .inl rfl
        · exact .inr (List.mem_cons_of_mem _ a)
      · rcases List.mem_cons.mp hz with rfl | hz
        · exact Int.le_trans b (by split <;> omega)
        · exact c z hz
  intro zs h
  cases zs with
  | nil => exact absurd rfl h
  | cons y ys =>
    obtain ⟨a, b, c⟩ := go ys y
    refine ⟨?_, fun z hz => ?_⟩
    · rcases a with a | a
      · show ys.foldl _ y ∈ _
        rw [a]; exact List.mem_cons_self
      · exact List.mem_cons_of_mem _ a
    · rcases List.mem_cons.mp hz with rfl | hz
      · exact b
      · exact c z hz
/-- every value is a number -/
def eInt : Eats := fun _ y _ go => (∃ z, y = .int z) ∧ go
theorem eInt_mono : EatsMono eInt := fun _ _ _ _ _ f h => ⟨h.1, f h.2⟩
theorem int_inj {xs ys : List Int} (h : xs.map V.int = ys.map V.int) : xs = ys := (List.map_inj_right (fun a b e => V.int.inj e)).mp h
section
variable {Y : GEx} {σ : L2.St} {H : Hp} {s s0 s1 : Shared}
/-- the frame's state goes past what the consumer did -/
theorem GEx.Ok.past (O : Y.Ok) (I : Inv Y.Xg (Y.pn s0) σ H s) (there : ∀ b ∈ Y.a :: Y.Sx, ∃ o, s0.heap.get? b = some o) (A : Aft Y.Sx s s1) : Inv Y.Xg [] σ H s1 := by
  have hT : ∀ b ∈ Y.a :: Y.Sx, H b = none := fun b hb => by
    obtain ⟨o, e⟩ := there b hb
    exact (O.pinned I hb e).2
  have I0 : Inv Y.Xg [] σ H s := I.pins_of fun p hp => absurd (show p ∈ ([] : List (Addr × Obj)) ++ [] from hp) (by simp)
  have nt : ∀ b u, H b = some u → b ∉ Y.Sx := fun b u q hb => by rw [hT b (List.mem_cons_of_mem _ hb)] at q; cases q
  obtain ⟨z1, z2, z3, z4⟩ := A
  obtain ⟨hh, g', d, t, o⟩ := s1
  have ho : o = s.os := z1
  subst ho
  refine I0.step (h' := hh) (g' := g') (t' := t) (d' := d) (ch := Y.Sx) (fun b hb => ?_) (fun b ob _ _ hc q _ => z3 b ob hc q) (fun b ob _ _ hc q _ => ⟨ob.slots, z3 b ob hc q⟩)
      (fun _ _ _ _ n => n) (fun b ob hc q => ⟨ob, z3 b ob hc q⟩) (fun _ _ q => q) (fun _ _ _ q => q) (fun b ps q => ⟨#[], by rw [q]; simp⟩) (fun m hm => ?_) (fun b u q => ?_) z2
  · have h1 := O.new b (List.mem_cons_of_mem _ hb)
    refine ⟨.inr (Nat.le_of_lt h1), fun z => ?_, fun y c e z => ?_, fun p hp => absurd (show p ∈ ([] : List (Addr × Obj)) ++ [] from hp) (by simp)⟩
    · have z : b = Y.cenv.locals := z
      rw [z, O.loc] at h1
      exact Nat.lt_irrefl _ h1
    · have h2 := O.cel y c e
      rw [z] at h2
      exact Nat.lt_irrefl _ (Nat.lt_trans h1 h2)
  · obtain ⟨ob, es, ep, ho, r⟩ := hm
    refine ⟨ob, es, ep, z3 _ ob (fun hb => ?_) ho, r⟩
    have h1 := O.new _ (List.mem_cons_of_mem _ hb)
    have h1 : Y.s4.heap.objs.size < Y.cenv.locals := h1
    rw [O.loc] at h1
    exact Nat.lt_irrefl _ h1
  · refine (I0.hok b u q).stay (fun c v hc y => z3 c v ?_ y) (fun _ y => y) fun _ _ y => y
    rcases hc with y | y
    · rw [y]; exact nt b u q
    · exact nt c _ y
end
abbrev bestL (vs : Array Value) (c : Nat) : Obj := { cls := .type "list", dict := none, data := .seq vs c, slots := #[] }
section
variable {Y : GEx} {A : Around} {R : Result → Shared → Prop} {Qd : Int → Hp → Prop} {S : Addr}
theorem aft_put {s1 s2 : Shared} {x y : Array Value} {c : Nat} (hos : s2.os = s1.os) (hb : AllBare s2.gens) (e : s1.heap.get? S = some (bestL x c)) (hh : s2.heap = s1.heap.update S (Obj.mapSeq fun _ => y)) : Aft [S] s1 s2 := by
  refine ⟨hos, hb, fun b o n e' => ?_, fun b hb => ?_⟩
  · rw [hh]
    exact (Heap.get?_update_other _ _ (fun h : S = b => n (by rw [h]; exact List.mem_singleton.mpr rfl))).trans e'
  · rw [List.mem_singleton.mp hb, hh, Heap.get?_update_self _ e rfl]
    exact ⟨_, rfl, fun v z => by cases z⟩
theorem aft_id {s1 s2 : Shared} {x : Array Value} {c : Nat} (hos : s2.os = s1.os) (hb : AllBare s2.gens) (e : s1.heap.get? S = some (bestL x c)) (hh : s2.heap = s1.heap) : Aft [S] s1 s2 := by
  refine ⟨hos, hb, fun b o n e' => by rw [hh]; exact e', fun b hb => ?_⟩
  rw [List.mem_singleton.mp hb, hh, e]
  exact ⟨_, rfl, fun v z => by cases z⟩
theorem min_loop1 (O : Y.Ok) (hB : Y.B = A.in1.in1) (hS : Y.Sx = [S]) (hC : Y.C = eInt) (hF : Y.F = fun ys H => ∃ zs, ys = zs.map V.int ∧ zs ≠ [] ∧ Qd (mins zs) H) (hh : A.handled = none) (hroom : A.depth < recursionLimit)
    (hR : ∀ k t σ' H' s1, Inv Y.Xg [] σ' H' s1 → Qd k H' → R (.ok (.ret (.int k t))) s1) : ∀ (n : Nat) (zs : List Int) (H : Hp) (gs : GenState) (sp s : Shared) (t : Tok) (c : Nat), zs ≠ [] → Y.Rdy n (zs.map V.int) H gs sp → Aft Y.Sx sp s → s.heap.IsGen Y.a Y.g → s.gens[Y.g]? = some gs → s.heap.NoLimit →
      s.heap.get? S = some (bestL #[.int (mins zs) t, .int (mins zs) t] c) → codeAny Y.M A (.builtin "min.loop" ⟨[.ref Y.a, .none, .ref S], []⟩) R s := by
  have hname : (toString "min" ++ toString ".loop" : String) = "min.loop" := by decide
  have hSm : S ∈ Y.a :: Y.Sx := by rw [hS]; simp
  have main : ∀ (n : Nat) (zs : List Int) (H : Hp) (gs : GenState) (sp s : Shared) (t : Tok) (c : Nat), zs ≠ [] → Y.Rdy n (zs.map V.int) H gs sp → Aft Y.Sx sp s → s.heap.IsGen Y.a Y.g → s.gens[Y.g]? = some gs → s.heap.NoLimit →
      s.heap.get? S = some (bestL #[.int (mins zs) t, .int (mins zs) t] c) →
      (∀ (zs' : List Int) (H' : Hp) (gs' : GenState) (sp' s' : Shared) (t' : Tok) (c' : Nat), zs' ≠ [] → Y.Rp n (zs'.map V.int) H' gs' sp' → Aft Y.Sx sp' s' → s'.heap.IsGen Y.a Y.g → s'.gens[Y.g]? = some gs' → s'.heap.NoLimit →
        s'.heap.get? S = some (bestL #[.int (mins zs') t', .int (mins zs') t'] c') → codeAny Y.M A (.builtin "min.loop" ⟨[.ref Y.a, .none, .ref S], []⟩) R s') → codeAny Y.M A (.builtin "min.loop" ⟨[.ref Y.a, .none, .ref S], []⟩) R s := by
    intro n zs H gs sp s t c hne rd af hg hgs nl hSo ih
    have there : ∀ b ∈ Y.a :: Y.Sx, ∃ o, s.heap.get? b = some o := fun b hb => by
      rcases List.mem_cons.mp hb with z | z
      · obtain ⟨o, n1, n2, e, r⟩ := hg
        exact ⟨o, by rw [z]; exact e⟩
      · rw [hS] at z
        exact ⟨_, by rw [List.mem_singleton.mp z]; exact hSo⟩
    refine codeAny_builtin F.entry_min_loop ?_
    rw [Around.under_plainId F.plain_min_loop _]
    show wpAny _ A.in1 (seqItems? (.ref S) >>= _) _ _ s
    refine wpAny_bind (wpAny_seqItems hSo rfl ?_)
    show wpAny _ A.in1 (tryCatch (pyNext (.ref Y.a)) _ >>= _) _ _ s
    refine wpAny_bind (wpAny_tryCatch (GEx.next O hB hh hroom nl rd af hg hgs (Array.getElem?_eq_some_iff.mp hgs).1 (fun σ' H' s1 s2 I f a => ?_) fun v y σ' H' s1 gs' I r cc hb hsz => ?_))
    · rw [hF] at f
      obtain ⟨zs', ez, _, f⟩ := f
      obtain rfl := int_inj ez
      have e1 := (O.pinned I hSm hSo).1
      have e2 := a.keep _ _ (by simp) e1
      show wpAny _ A.in1 (updateSeq S (fun _ => #[]) >>= _) _ _ _
      refine wpAny_bind ?_
      refine wpAny_updateSeq e2 rfl (wpAny_bind (wpAny_letGo (wpAny_pure ?_)))
      refine hR _ t σ' H' _ (O.past I there ?_) f
      rw [hS]
      refine ⟨a.os, a.bare, fun b o n e' => ?_, fun b hb => ?_⟩
      · exact (Heap.get?_update_other _ _ (fun h : S = b => n (by rw [h]; exact List.mem_singleton.mpr rfl))).trans (a.keep _ _ (by simp) e')
      · rw [List.mem_singleton.mp hb]
        exact ⟨_, Heap.get?_update_self _ e2 rfl, fun v z => by cases z⟩
    · rw [hC] at cc
      obtain ⟨⟨z, rfl⟩, cc⟩ := cc
      obtain ⟨t', rfl⟩ : ∃ t', v = .int z t' := r
      have e1 := (O.pinned I hSm hSo).1
      have e2 : (s1.setGen Y.g gs').heap.get? S = _ := e1
      rw [show zs.map V.int ++ [V.int z] = (zs ++ [z]).map V.int by rw [List.map_append]; rfl] at cc
      have hg1 : (s1.setGen Y.g gs').heap.IsGen Y.a Y.g := by
        obtain ⟨o, n1, n2, e, r⟩ := hg
        exact ⟨o, n1, n2, (O.pinned I List.mem_cons_self e).1, r⟩
      have hgs1 := setGen_at (x := gs') (Nat.lt_of_lt_of_le (Array.getElem?_eq_some_iff.mp hgs).1 hsz)
      have hna : S ≠ Y.a := fun z => O.aS (by rw [← z, hS]; simp)
      show wpAny _ A.in1 (tryCatch (holding [.int z t', .int z t'] (richCompare .Lt (.int z t') (.int (mins zs) t) >>= _)) _ >>= _) _ _ _
      refine wpAny_bind (wpAny_tryCatch (wpAny_holding (wpAny_bind (CmpOf.ints_lt (P := fun j v => ∃ t, v = .int (if j = 0 then z else mins zs) t) (fun j => if j = 0 then z else mins zs) (fun j v h => h) 0 1 _ _ _ _ _ ⟨t', rfl⟩ ⟨t, rfl⟩ ?_))))
      refine wpAny_bind (wpAny_holding (wpAny_truthy_bool ?_))
      refine wpAny_bind (wpAny_letGo (wpAny_pure ?_))
      have em := mins_app (z := z) hne
      show wpAny _ A.in1 (if decide (z < mins zs) = true then _ else _) _ _ _
      by_cases hlt : z < mins zs
      · rw [if_pos (decide_eq_true hlt)]
        rw [if_pos hlt] at em
        refine wpAny_bind ?_
        refine wpAny_updateSeq e2 rfl (wpAny_bind (wpAny_letGo ?_))
        rw [hname]
        refine wpAny_pure ⟨plainId_quiet F.plain_min_loop _, ih (zs ++ [z]) H' gs' s1 _ t' c (by simp) cc ?_ ?_ hgs1 ?_ ?_⟩
        · rw [hS]
          exact aft_put (s2 := { (s1.setGen Y.g gs') with heap := s1.heap.update S (Obj.mapSeq fun _ => #[Value.int z t', Value.int z t']) }) rfl (allBare_setGen I.bare hb) e1 rfl
        · obtain ⟨o, n1, n2, e, r⟩ := hg1
          exact ⟨o, n1, n2, (Heap.get?_update_other _ _ hna).trans e, r⟩
        · exact (O.past (s1 := { (s1.setGen Y.g gs') with heap := s1.heap.update S (Obj.mapSeq fun _ => #[Value.int z t', Value.int z t']) }) I there (by rw [hS]; exact aft_put rfl (allBare_setGen I.bare hb) e1 rfl)).nolimit
        · rw [em]
          exact Heap.get?_update_self _ e2 rfl
      · rw [if_neg (by rw [decide_eq_false hlt]; exact Bool.false_ne_true)]
        rw [if_neg hlt] at em
        refine wpAny_bind (wpAny_letGo ?_)
        rw [hname]
        refine wpAny_pure ⟨plainId_quiet F.plain_min_loop _, ih (zs ++ [z]) H' gs' s1 _ t c (by simp) cc ?_ hg1 hgs1 I.nolimit ?_⟩
        · rw [hS]
          exact aft_id rfl (allBare_setGen I.bare hb) e1 rfl
        · rw [em]
          exact e2
  intro n
  induction n with
  | zero =>
    intro zs H gs sp s t c hne rd af hg hgs nl hSo
    exact main 0 zs H gs sp s t c hne rd af hg hgs nl hSo fun _ _ _ _ _ _ _ _ q => (show False from q).elim
  | succ n ih =>
    intro zs H gs sp s t c hne rd af hg hgs nl hSo
    exact main (n + 1) zs H gs sp s t c hne rd af hg hgs nl hSo fun zs' H' gs' sp' s' t' c' a1 a2 a3 a4 a5 a6 a7 => ih zs' H' gs' sp' s' t' c' a1 a2 a3 a4 a5 a6 a7
/-- .. from the start -/
theorem min_first (O : Y.Ok) (hB : Y.B = A.in1.in1) (hS : Y.Sx = [S]) (hC : Y.C = eInt) (hF : Y.F = fun ys H => ∃ zs, ys = zs.map V.int ∧ zs ≠ [] ∧ Qd (mins zs) H) (hh : A.handled = none) (hroom : A.depth < recursionLimit)
    (hR : ∀ k t σ' H' s1, Inv Y.Xg [] σ' H' s1 → Qd k H' → R (.ok (.ret (.int k t))) s1) (n : Nat) (H : Hp) (gs : GenState) (sp s : Shared) (c : Nat) (rd : Y.Rdy n [] H gs sp) (af : Aft Y.Sx sp s) (hg : s.heap.IsGen Y.a Y.g) (hgs : s.gens[Y.g]? = some gs) (nl : s.heap.NoLimit)
    (hSo : s.heap.get? S = some (bestL #[] c)) : codeAny Y.M A (.builtin "min.loop" ⟨[.ref Y.a, .none, .ref S], []⟩) R s := by
  have hname : (toString "min" ++ toString ".loop" : String) = "min.loop" := by decide
  have hSm : S ∈ Y.a :: Y.Sx := by rw [hS]; simp
  have there : ∀ b ∈ Y.a :: Y.Sx, ∃ o, s.heap.get? b = some o := fun b hb => by
    rcases List.mem_cons.mp hb with z | z
    · obtain ⟨o, n1, n2, e, r⟩ := hg
      exact ⟨o, by rw [z]; exact e⟩
    · rw [hS] at z
      exact ⟨_, by rw [List.mem_singleton.mp z]; exact hSo⟩
  refine codeAny_builtin F.entry_min_loop ?_
  rw [Around.under_plainId F.plain_min_loop _]
  show wpAny _ A.in1 (seqItems? (.ref S) >>= _) _ _ s
  refine wpAny_bind (wpAny_seqItems hSo rfl ?_)
  show wpAny _ A.in1 (tryCatch (pyNext (.ref Y.a)) _ >>= _) _ _ s
  refine wpAny_bind (wpAny_tryCatch (GEx.next O hB hh hroom nl rd af hg hgs (Array.getElem?_eq_some_iff.mp hgs).1 (fun σ' H' s1 s2 I f a => ?_) fun v y σ' H' s1 gs' I r cc hb hsz => ?_))
  · rw [hF] at f
    obtain ⟨zs', ez, ne, f⟩ := f
    cases zs' with
    | nil => exact absurd rfl ne
    | cons u us => cases ez
  · rw [hC] at cc
    obtain ⟨⟨z, rfl⟩, cc⟩ := cc
    obtain ⟨t', rfl⟩ : ∃ t', v = .int z t' := r
    have e1 := (O.pinned I hSm hSo).1
    have e2 : (s1.setGen Y.g gs').heap.get? S = _ := e1
    have hg1 : (s1.setGen Y.g gs').heap.IsGen Y.a Y.g := by
      obtain ⟨o, n1, n2, e, r⟩ := hg
      exact ⟨o, n1, n2, (O.pinned I List.mem_cons_self e).1, r⟩
    have hgs1 := setGen_at (x := gs') (Nat.lt_of_lt_of_le (Array.getElem?_eq_some_iff.mp hgs).1 hsz)
    have hna : S ≠ Y.a := fun z => O.aS (by rw [← z, hS]; simp)
    have put : Aft [S] s1 { (s1.setGen Y.g gs') with heap := s1.heap.update S (Obj.mapSeq fun _ => #[Value.int z t', Value.int z t']) } := aft_put rfl (allBare_setGen I.bare hb) e1 rfl
    show wpAny _ A.in1 (updateSeq S (fun _ => #[.int z t', .int z t']) >>= _) _ _ _
    refine wpAny_bind ?_
    refine wpAny_updateSeq e2 rfl ?_
    rw [hname]
    cases n with
    | zero => exact (show False from cc).elim
    | succ n =>
      refine wpAny_pure ⟨plainId_quiet F.plain_min_loop _, min_loop1 O hB hS hC hF hh hroom hR n [z] H' gs' s1 _ t' (c + 1) (by simp) cc (by rw [hS]; exact put) ?_ hgs1 (O.past I there (by rw [hS]; exact put)).nolimit ?_⟩
      · obtain ⟨o, n1, n2, e, r⟩ := hg1
        exact ⟨o, n1, n2, (Heap.get?_update_other _ _ hna).trans e, r⟩
      · have e3 := Heap.get?_update_self (Obj.mapSeq fun _ => #[Value.int z t', Value.int z t']) e2 rfl
        exact e3
end
section
variable {X : Cx}
theorem call_minP {P : Program} {w : World} {A : Around} {Q : Value → Shared → Prop} {E : Value → Shared → Prop} {s : Shared} {a g : Addr} (hg : s.heap.IsGen a g)
    (h : codeAny (model P w) A (.builtin "min.loop" ⟨[.ref a, .none, .ref s.heap.objs.size], []⟩) (RetQ Q E) { s with heap := s.heap.push (bestL #[] 0) }) : wpAny (model P w) A (call (.builtin "min") [.ref a]) Q E s := by
  have hname : (toString "min" ++ toString ".loop" : String) = "min.loop" := by decide
  refine call_function_tree F.kind_min F.plain_min F.entry_min (F.args_min1 _) ?_
  show wpAny _ A.in1 (Builtin.Builtins.bindParams "min" ["key", "default"] 0 ⟨[], []⟩ >>= _) _ _ s
  refine wpAny_bind (wpAny_of_eq (show Builtin.Builtins.bindParams "min" ["key", "default"] 0 ⟨[], []⟩ = pure [none, none] from rfl) ?_)
  refine wpAny_bind (wpAny_pure ?_)
  refine wpAny_bind (wpAny_pyIter_gen hg ?_)
  refine wpAny_bind (wpAny_newObj_type ?_)
  rw [hname]
  exact wpAny_pure ⟨plainId_quiet F.plain_min_loop _, h⟩
/-- one more value is out -/
def MN (Nx : List Int → Hp → Prop) (zs : List Int) (y : V) (H : Hp) : Prop := (∃ z, y = .int z) ∧ ∃ zs', zs.map V.int ++ [y] = zs'.map V.int ∧ Nx zs' H
theorem MN.of {Nx : List Int → Hp → Prop} {zs : List Int} {z : Int} {H : Hp} (h : Nx (zs ++ [z]) H) : MN Nx zs (.int z) H := ⟨⟨z, rfl⟩, zs ++ [z], by rw [List.map_append]; rfl, h⟩
def MZ (Nx : List Int → Hp → Prop) (zs : List Int) (H : Hp) : Prop := ∃ zs', zs.map V.int = zs'.map V.int ∧ Nx zs' H
/-- min of elt for target in iter if ..; W carries what is out so far -/
def tMinG (P : Addr) (wi : TI) (g : TG) (tt : TT) (te : TE) (vs : List Nat) : TE := fun σ H Q => wi σ H fun J H1 => TabG H1 P ∧ ∀ H2, Tabbed P H1 H2 →
  ∃ W : Nat → Nat → List Int → Hp → Prop, (∃ m, W 0 m [] H2) ∧ ∀ i m zs H, W i m zs H → (J.stop i H ∧ zs ≠ [] ∧ Q (.int (mins zs)) H) ∨ (J.go i H ∧ ∃ Nx : List Int → Hp → Prop, (∀ zs' H', Nx zs' H' → ∃ m', m' < m ∧ W (i + 1) m' zs' H') ∧
    ∀ x H', J.yld i H x H' → g x (wipe σ vs) H' fun σ2 H2 => wipe σ2 vs = wipe σ vs ∧ tt σ2 H2 fun b H3 => if b = true then te σ2 H3 fun y H4 => MN Nx zs y H4 else MZ Nx zs H3)
theorem tMinG_step {J : It} {g : TG} {tt : TT} {te : TE} {vs : List Nat} {σ : L2.St} {Q : VK} {W : Nat → Nat → List Int → Hp → Prop}
    (h : ∀ i m zs H, W i m zs H → (J.stop i H ∧ zs ≠ [] ∧ Q (.int (mins zs)) H) ∨ (J.go i H ∧ ∃ Nx : List Int → Hp → Prop, (∀ zs' H', Nx zs' H' → ∃ m', m' < m ∧ W (i + 1) m' zs' H') ∧
      ∀ x H', J.yld i H x H' → g x (wipe σ vs) H' fun σ2 H2 => wipe σ2 vs = wipe σ vs ∧ tt σ2 H2 fun b H3 => if b = true then te σ2 H3 fun y H4 => MN Nx zs y H4 else MZ Nx zs H3)) :
    GStep (fun i m ys H => ∃ zs, ys = zs.map V.int ∧ W i m zs H) J g tt te vs (wipe σ vs) eInt (fun ys H => ∃ zs, ys = zs.map V.int ∧ zs ≠ [] ∧ Q (.int (mins zs)) H) := fun i m ys H ⟨zs, ey, w⟩ => by
  subst ey
  rcases h i m zs H w with ⟨z1, z2, z3⟩ | ⟨go, Nx, hN, st⟩
  · exact .inl ⟨z1, zs, rfl, z2, z3⟩
  · exact .inr ⟨go, fun ys H => ∃ zs, ys = zs.map V.int ∧ Nx zs H, fun ys' H' ⟨zs', e', nx⟩ => by
      obtain ⟨m', h1, h2⟩ := hN zs' H' nx
      exact ⟨m', h1, zs', e', h2⟩, st⟩
section
variable {c P : Addr} {elt tg iter : Expr} {ifs : List Expr} {scope : Scope} {own : List (Str × Nat)} {p pos gpos : Pos} {wi : TI} {g : TG} {tt : TT} {te : TE} {k : Nat}
theorem pe_minG (hr : Room (k + 1) X.A) (hn : X.N.Nodup) (hgl : Gl X "min") (hm : X.mg "min" = none) (TB : LamX.TabB X.base X.mg c P) (hcode : X.env.code = .ref c) (G : GScp scope) (ok : BlkOk X.N X.env.scope scope own) (hi : PI X tg iter wi)
    (hg : GPG X k scope tg g) (ht : GPT X k scope ifs tt) (he : GPE X k scope elt te)
    (hb : bootBuiltins "min" = some (.builtin "min") := by first | rfl | decide +kernel) (hs : ∀ v, genFold iter X.env v = pure v := by intro _; rfl)
    (hst : starEach [.GeneratorExp elt [⟨tg, iter, ifs, 0⟩] scope gpos] X.env = (false, eval (.GeneratorExp elt [⟨tg, iter, ifs, 0⟩] scope gpos) X.env) :: starEach [] X.env := by rfl) :
    PE X (.Call (.Name "min" p) [.GeneratorExp elt [⟨tg, iter, ifs, 0⟩] scope gpos] [] pos) (tMinG P wi g tt te (own.map (·.2))) := by
  refine ⟨fun pins s σ H Q I h => ?_⟩
  refine wpAny_Call_Name_kw (ld_blt I hgl hm hb ?_)
  refine PyProof.Rows.callWith_builtin1 ?_ hst (by rfl)
  rw [hst]
  show wpAny _ _ (spliced ((false, eval (.GeneratorExp elt [⟨tg, iter, ifs, 0⟩] scope gpos) X.env) :: backTo pos (starEach [] X.env))) _ _ s
  refine Calls.spliced_cons (gen_made (R := fun J H1 => _) hr TB hcode G ok hi hs I h fun J H1 H2 s4 cenv fp it tn a gn s5 q tb M => ?_)
  refine Calls.spliced_nil (call_minP M.isg ?_)
  obtain ⟨W, ⟨m, w0⟩, st⟩ := q H2 tb
  obtain ⟨code, hce⟩ := M.env
  subst hce
  have hlt : a < s5.heap.objs.size := by rw [M.lt]; exact Nat.lt_succ_self a
  obtain ⟨O, rd⟩ := gen_rdy (B := X.A.in1.in1) (Sx := [s5.heap.objs.size]) hr (nearA2 _) G ok hn M (fun A r => hg _ _ _ _ _ _ A r) (fun A r => ht _ _ _ _ _ _ A r) (fun A r => he _ _ _ _ _ _ A r) (fun b z => by rw [List.mem_singleton.mp z]; exact hlt) eInt_mono (tMinG_step st) m ⟨[], rfl, w0⟩
  have hpush : ∀ b o, s5.heap.get? b = some o → (s5.heap.push (bestL #[] 0)).get? b = some o := fun b o e => Heap.get?_push_of_some _ e
  refine min_first (Qd := fun k H => Q (.int k) H) (S := s5.heap.objs.size) (Y := mkY X s4 H2 _ fp X.A.in1.in1 (wipe σ (own.map (·.2))) (.GeneratorExp elt [⟨tg, iter, ifs, 0⟩] scope gpos) it a gn [s5.heap.objs.size] eInt (fun ys H => ∃ zs, ys = zs.map V.int ∧ zs ≠ [] ∧ Q (.int (mins zs)) H)) O rfl rfl rfl rfl hr.hd hr.depth (fun k t σ' H' s1 I' q => ?_) m H2 _ s5 _ 0 rd ?_ ?_ ?_ ?_ (Heap.get?_push_size _ rfl)
  · exact ⟨.int k, H', GEx.out (Y := mkY X s4 H2 _ fp X.A.in1.in1 (wipe σ (own.map (·.2))) (.GeneratorExp elt [⟨tg, iter, ifs, 0⟩] scope gpos) it a gn [s5.heap.objs.size] eInt (fun ys H => ∃ zs, ys = zs.map V.int ∧ zs ≠ [] ∧ Q (.int (mins zs)) H)) M.inv (fun b hb => (M.fps b hb).1) I' (Aft.refl I'.bare), ⟨t, rfl⟩, q⟩
  · refine ⟨rfl, ?_, fun b o _ e => hpush b o e, fun b hb => ?_⟩
    · show AllBare s5.gens
      rw [M.gens]
      exact M.inv.bare.push rfl
    · rw [List.mem_singleton.mp hb]
      exact ⟨_, Heap.get?_push_size _ rfl, fun v z => by cases z⟩
  · obtain ⟨o, n1, n2, e, r⟩ := M.isg
    exact ⟨o, n1, n2, hpush _ _ e, r⟩
  · show s5.gens[gn]? = _
    rw [M.gens, M.num]
    simp
  · exact (M.inv.nolimit.keeps M.keep).push _
end
end
section
variable {K : PySem.W.Frag} {a : Addr} {xs : List V} {g : TG} {tt : TT} {te : TE} {vs : List Nat} {σ : L2.St} {H2 : Hp} {Q : VK}
/-- over a list that the element leaves as it is -/
theorem min_list (Pv : Nat → List Int → Hp → Prop) (h0 : Pv 0 [] H2) (hl : ∀ i zs H, i ≤ xs.length → Pv i zs H → SqL K H a xs)
    (hs : ∀ i zs x H, xs[i]? = some x → Pv i zs H → g x (wipe σ vs) H fun σ2 H2 => wipe σ2 vs = wipe σ vs ∧ tt σ2 H2 fun b H3 => if b = true then te σ2 H3 fun y H4 => MN (Pv (i + 1)) zs y H4 else MZ (Pv (i + 1)) zs H3) (hd : ∀ zs H, Pv xs.length zs H → zs ≠ [] ∧ Q (.int (mins zs)) H) :
    ∃ W : Nat → Nat → List Int → Hp → Prop, (∃ m, W 0 m [] H2) ∧ ∀ i m zs H, W i m zs H → ((Itl K a).stop i H ∧ zs ≠ [] ∧ Q (.int (mins zs)) H) ∨ ((Itl K a).go i H ∧ ∃ Nx : List Int → Hp → Prop, (∀ zs' H', Nx zs' H' → ∃ m', m' < m ∧ W (i + 1) m' zs' H') ∧
      ∀ x H', (Itl K a).yld i H x H' → g x (wipe σ vs) H' fun σ2 H2 => wipe σ2 vs = wipe σ vs ∧ tt σ2 H2 fun b H3 => if b = true then te σ2 H3 fun y H4 => MN Nx zs y H4 else MZ Nx zs H3) := by
  refine ⟨fun i m zs H => m = xs.length - i ∧ i ≤ xs.length ∧ Pv i zs H, ⟨xs.length, by simp, Nat.zero_le _, h0⟩, fun i m zs H w => ?_⟩
  obtain ⟨hm, hi, p⟩ := w
  have q := hl i zs H hi p
  rcases Nat.lt_or_ge i xs.length with z | z
  · refine .inr ⟨⟨xs, xs[i], q, by simp [z]⟩, Pv (i + 1), fun zs' H' p' => ⟨xs.length - (i + 1), by omega, rfl, z, p'⟩, fun x H' y => ?_⟩
    obtain ⟨rfl, y⟩ := y
    exact hs i zs x _ (y xs q) p
  · obtain rfl : i = xs.length := by omega
    exact .inl ⟨⟨xs, q, Nat.le_refl _⟩, hd zs H p⟩
end
end Sk

set_option Elab.async false
set_option linter.all false
set_option maxRecDepth 100000
set_option maxHeartbeats 4000000
namespace Sk
open PySem PySem.Spec PyProof.Rows L2 GenW GxR
/-! max over a generator expression whose element may call own defs -/
/-- the greatest of some -/
def maxs : List Int → Int
  | [] => 0
  | z :: zs => zs.foldl (fun b z => if b < z then z else b) z
theorem maxs_app {zs : List Int} {z : Int} (h : zs ≠ []) : maxs (zs ++ [z]) = if maxs zs < z then z else maxs zs := by
  cases zs with
  | nil => exact absurd rfl h
  | cons y ys =>
    show (ys ++ [z]).foldl _ y = _
    rw [List.foldl_append]
    rfl
theorem maxs_spec : ∀ {zs : List Int}, zs ≠ [] → maxs zs ∈ zs ∧ ∀ z ∈ zs, z ≤ maxs zs := by
  have go : ∀ (ys : List Int) (y : Int), ((ys.foldl (fun b z => if b < z then z else b) y) = y ∨ (ys.foldl (fun b z => if b < z then z else b) y) ∈ ys) ∧ y ≤ (ys.foldl (fun b z => if b < z then z else b) y) ∧ ∀ z ∈ ys, z ≤ (ys.foldl (fun b z => if b < z then z else b) y) := by
    intro ys
    induction ys with
    | nil => intro y; exact ⟨.inl rfl, Int.le_refl _, fun _ h => nomatch h⟩
    | cons x ys ih =>
      intro y
      obtain ⟨a, b, c⟩ := ih (if y < x then x else y)
      show (ys.foldl _ (if y < x then x else y) = y ∨ ys.foldl _ (if y < x then x else y) ∈ x :: ys) ∧ y ≤ ys.foldl _ (if y < x then x else y) ∧ _
      refine ⟨?_, Int.le_trans (by split <;> omega) b, fun z hz => ?_⟩
      · rcases a with a | a
        · rw [a]
          split
          · exact .inr List.mem_cons_self
          · exact .inl rfl
        · exact .inr (List.mem_cons_of_mem _ a)
      · rcases List.mem_cons.mp hz with rfl | hz
        · exact Int.le_trans (by split <;> omega) b
        · exact c z hz
  intro zs h
  cases zs with
  | nil => exact absurd rfl h
  | cons y ys =>
    obtain ⟨a, b, c⟩ := go ys y
    refine ⟨?_, fun z hz => ?_⟩
    · rcases a with a | a
      · show ys.foldl _ y ∈ _
        rw [a]; exact List.mem_cons_self
      · exact List.mem_cons_of_mem _ a
    · rcases List.mem_cons.mp hz with rfl | hz
      · exact b
      · exact c z hz
section
variable {Y : GEx} {A : Around} {R : Result → Shared → Prop} {Qd : Int → Hp → Prop} {S : Addr}
theorem max_loop1 (O : Y.Ok) (hB : Y.B = A.in1.in1) (hS : Y.Sx = [S]) (hC : Y.C = eInt) (hF : Y.F = fun ys H => ∃ zs, ys = zs.map V.int ∧ zs ≠ [] ∧ Qd (maxs zs) H) (hh : A.handled = none) (hroom : A.depth < recursionLimit)
    (hR : ∀ k t σ' H' s1, Inv Y.Xg [] σ' H' s1 → Qd k H' → R (.ok (.ret (.int k t))) s1) : ∀ (n : Nat) (zs : List Int) (H : Hp) (gs : GenState) (sp s : Shared) (t : Tok) (c : Nat), zs ≠ [] → Y.Rdy n (zs.map V.int) H gs sp → Aft Y.Sx sp s → s.heap.IsGen Y.a Y.g → s.gens[Y.g]? = some gs → s.heap.NoLimit →
      s.heap.get? S = some (bestL #[.int (maxs zs) t, .int (maxs zs) t] c) → codeAny Y.M A (.builtin "max.loop" ⟨[.ref Y.a, .none, .ref S], []⟩) R s := by
  have hname : (toString "max" ++ toString ".loop" : String) = "max.loop" := by decide
  have hSm : S ∈ Y.a :: Y.Sx := by rw [hS]; simp
  have main : ∀ (n : Nat) (zs : List Int) (H : Hp) (gs : GenState) (sp s : Shared) (t : Tok) (c : Nat), zs ≠ [] → Y.Rdy n (zs.map V.int) H gs sp → Aft Y.Sx sp s → s.heap.IsGen Y.a Y.g → s.gens[Y.g]? = some gs → s.heap.NoLimit →
      s.heap.get? S = some (bestL #[.int (maxs zs) t, .int (maxs zs) t] c) →
      (∀ (zs' : List Int) (H' : Hp) (gs' : GenState) (sp' s' : Shared) (t' : Tok) (c' : Nat), zs' ≠ [] → Y.Rp n (zs'.map V.int) H' gs' sp' → Aft Y.Sx sp' s' → s'.heap.IsGen Y.a Y.g → s'.gens[Y.g]? = some gs' → s'.heap.NoLimit →
        s'.heap.get? S = some (bestL #[.int (maxs zs') t', .int (maxs zs') t'] c') → codeAny Y.M A (.builtin "max.loop" ⟨[.ref Y.a, .none, .ref S], []⟩) R s') → codeAny Y.M A (.builtin "max.loop" ⟨[.ref Y.a, .none, .ref S], []⟩) R s := by
    intro n zs H gs sp s t c hne rd af hg hgs nl hSo ih
    have there : ∀ b ∈ Y.a :: Y.Sx, ∃ o, s.heap.get? b = some o := fun b hb => by
      rcases List.mem_cons.mp hb with z | z
      · obtain ⟨o, n1, n2, e, r⟩ := hg
        exact ⟨o, by rw [z]; exact e⟩
      · rw [hS] at z
        exact ⟨_, by rw [List.mem_singleton.mp z]; exact hSo⟩
    refine codeAny_builtin F.entry_max_loop ?_
    rw [Around.under_plainId F.plain_max_loop _]
    show wpAny _ A.in1 (seqItems? (.ref S) >>= _) _ _ s
    refine wpAny_bind (wpAny_seqItems hSo rfl ?_)
    show wpAny _ A.in1 (tryCatch (pyNext (.ref Y.a)) _ >>= _) _ _ s
    refine wpAny_bind (wpAny_tryCatch (GEx.next O hB hh hroom nl rd af hg hgs (Array.getElem?_eq_some_iff.mp hgs).1 (fun σ' H' s1 s2 I f a => ?_) fun v y σ' H' s1 gs' I r cc hb hsz => ?_))
    · rw [hF] at f
      obtain ⟨zs', ez, _, f⟩ := f
      obtain rfl := int_inj ez
      have e1 := (O.pinned I hSm hSo).1
      have e2 := a.keep _ _ (by simp) e1
      show wpAny _ A.in1 (updateSeq S (fun _ => #[]) >>= _) _ _ _
      refine wpAny_bind ?_
      refine wpAny_updateSeq e2 rfl (wpAny_bind (wpAny_letGo (wpAny_pure ?_)))
      refine hR _ t σ' H' _ (O.past I there ?_) f
      rw [hS]
      refine ⟨a.os, a.bare, fun b o n e' => ?_, fun b hb => ?_⟩
      · exact (Heap.get?_update_other _ _ (fun h : S = b => n (by rw [h]; exact List.mem_singleton.mpr rfl))).trans (a.keep _ _ (by simp) e')
      · rw [List.mem_singleton.mp hb]
        exact ⟨_, Heap.get?_update_self _ e2 rfl, fun v z => by cases z⟩
    · rw [hC] at cc
      obtain ⟨⟨z, rfl⟩, cc⟩ := cc
      obtain ⟨t', rfl⟩ : ∃ t', v = .int z t' := r
      have e1 := (O.pinned I hSm hSo).1
      have e2 : (s1.setGen Y.g gs').heap.get? S = _ := e1
      rw [show zs.map V.int ++ [V.int z] = (zs ++ [z]).map V.int by rw [List.map_append]; rfl] at cc
      have hg1 : (s1.setGen Y.g gs').heap.IsGen Y.a Y.g := by
        obtain ⟨o, n1, n2, e, r⟩ := hg
        exact ⟨o, n1, n2, (O.pinned I List.mem_cons_self e).1, r⟩
      have hgs1 := setGen_at (x := gs') (Nat.lt_of_lt_of_le (Array.getElem?_eq_some_iff.mp hgs).1 hsz)
      have hna : S ≠ Y.a := fun z => O.aS (by rw [← z, hS]; simp)
      show wpAny _ A.in1 (tryCatch (holding [.int z t', .int z t'] (richCompare .Gt (.int z t') (.int (maxs zs) t) >>= _)) _ >>= _) _ _ _
      refine wpAny_bind (wpAny_tryCatch (wpAny_holding (wpAny_bind (CmpOf.ints_gt (P := fun j v => ∃ t, v = .int (if j = 0 then z else maxs zs) t) (fun j => if j = 0 then z else maxs zs) (fun j v h => h) 0 1 _ _ _ _ _ ⟨t', rfl⟩ ⟨t, rfl⟩ ?_))))
      refine wpAny_bind (wpAny_holding (wpAny_truthy_bool ?_))
      refine wpAny_bind (wpAny_letGo (wpAny_pure ?_))
      have em := maxs_app (z := z) hne
      show wpAny _ A.in1 (if decide (maxs zs < z) = true then _ else _) _ _ _
      by_cases hlt : maxs zs < z
      · rw [if_pos (decide_eq_true hlt)]
        rw [if_pos hlt] at em
        refine wpAny_bind ?_
        refine wpAny_updateSeq e2 rfl (wpAny_bind (wpAny_letGo ?_))
        rw [hname]
        refine wpAny_pure ⟨plainId_quiet F.plain_max_loop _, ih (zs ++ [z]) H' gs' s1 _ t' c (by simp) cc ?_ ?_ hgs1 ?_ ?_⟩
        · rw [hS]
          exact aft_put (s2 := { (s1.setGen Y.g gs') with heap := s1.heap.update S (Obj.mapSeq fun _ => #[Value.int z t', Value.int z t']) }) rfl (allBare_setGen I.bare hb) e1 rfl
        · obtain ⟨o, n1, n2, e, r⟩ := hg1
          exact ⟨o, n1, n2, (Heap.get?_update_other _ _ hna).trans e, r⟩
        · exact (O.past (s1 := { (s1.setGen Y.g gs') with heap := s1.heap.update S (Obj.mapSeq fun _ => #[Value.int z t', Value.int z t']) }) I there (by rw [hS]; exact aft_put rfl (allBare_setGen I.bare hb) e1 rfl)).nolimit
        · rw [em]
          exact Heap.get?_update_self _ e2 rfl
      · rw [if_neg (by rw [decide_eq_false hlt]; exact Bool.false_ne_true)]
        rw [if_neg hlt] at em
        refine wpAny_bind (wpAny_letGo ?_)
        rw [hname]
        refine wpAny_pure ⟨plainId_quiet F.plain_max_loop _, ih (zs ++ [z]) H' gs' s1 _ t c (by simp) cc ?_ hg1 hgs1 I.nolimit ?_⟩
        · rw [hS]
          exact aft_id rfl (allBare_setGen I.bare hb) e1 rfl
        · rw [em]
          exact e2
  intro n
  induction n with
  | zero =>
    intro zs H gs sp s t c hne rd af hg hgs nl hSo
    exact main 0 zs H gs sp s t c hne rd af hg hgs nl hSo fun _ _ _ _ _ _ _ _ q => (show False from q).elim
  | succ n ih =>
    intro zs H gs sp s t c hne rd af hg hgs nl hSo
    exact main (n + 1) zs H gs sp s t c hne rd af hg hgs nl hSo fun zs' H' gs' sp' s' t' c' a1 a2 a3 a4 a5 a6 a7 => ih zs' H' gs' sp' s' t' c' a1 a2 a3 a4 a5 a6 a7
/-- .. from the start -/
theorem max_first (O : Y.Ok) (hB : Y.B = A.in1.in1) (hS : Y.Sx = [S]) (hC : Y.C = eInt) (hF : Y.F = fun ys H => ∃ zs, ys = zs.map V.int ∧ zs ≠ [] ∧ Qd (maxs zs) H) (hh : A.handled = none) (hroom : A.depth < recursionLimit)
    (hR : ∀ k t σ' H' s1, Inv Y.Xg [] σ' H' s1 → Qd k H' → R (.ok (.ret (.int k t))) s1) (n : Nat) (H : Hp) (gs : GenState) (sp s : Shared) (c : Nat) (rd : Y.Rdy n [] H gs sp) (af : Aft Y.Sx sp s) (hg : s.heap.IsGen Y.a Y.g) (hgs : s.gens[Y.g]? = some gs) (nl : s.heap.NoLimit)
    (hSo : s.heap.get? S = some (bestL #[] c)) : codeAny Y.M A (.builtin "max.loop" ⟨[.ref Y.a, .none, .ref S], []⟩) R s := by
  have hname : (toString "max" ++ toString ".loop" : String) = "max.loop" := by decide
  have hSm : S ∈ Y.a :: Y.Sx := by rw [hS]; simp
  have there : ∀ b ∈ Y.a :: Y.Sx, ∃ o, s.heap.get? b = some o := fun b hb => by
    rcases List.mem_cons.mp hb with z | z
    · obtain ⟨o, n1, n2, e, r⟩ := hg
      exact ⟨o, by rw [z]; exact e⟩
    · rw [hS] at z
      exact ⟨_, by rw [List.mem_singleton.mp z]; exact hSo⟩
  refine codeAny_builtin F.entry_max_loop ?_
  rw [Around.under_plainId F.plain_max_loop _]
  show wpAny _ A.in1 (seqItems? (.ref S) >>= _) _ _ s
  refine wpAny_bind (wpAny_seqItems hSo rfl ?_)
  show wpAny _ A.in1 (tryCatch (pyNext (.ref Y.a)) _ >>= _) _ _ s
  refine wpAny_bind (wpAny_tryCatch (GEx.next O hB hh hroom nl rd af hg hgs (Array.getElem?_eq_some_iff.mp hgs).1 (fun σ' H' s1 s2 I f a => ?_) fun v y σ' H' s1 gs' I r cc hb hsz => ?_))
  · rw [hF] at f
    obtain ⟨zs', ez, ne, f⟩ := f
    cases zs' with
    | nil => exact absurd rfl ne
    | cons u us => cases ez
  · rw [hC] at cc
    obtain ⟨⟨z, rfl⟩, cc⟩ := cc
    obtain ⟨t', rfl⟩ : ∃ t', v = .int z t' := r
    have e1 := (O.pinned I hSm hSo).1
    have e2 : (s1.setGen Y.g gs').heap.get? S = _ := e1
    have hg1 : (s1.setGen Y.g gs').heap.IsGen Y.a Y.g := by
      obtain ⟨o, n1, n2, e, r⟩ := hg
      exact ⟨o, n1, n2, (O.pinned I List.mem_cons_self e).1, r⟩
    have hgs1 := setGen_at (x := gs') (Nat.lt_of_lt_of_le (Array.getElem?_eq_some_iff.mp hgs).1 hsz)
    have hna : S ≠ Y.a := fun z => O.aS (by rw [← z, hS]; simp)
    have put : Aft [S] s1 { (s1.setGen Y.g gs') with heap := s1.heap.update S (Obj.mapSeq fun _ => #[Value.int z t', Value.int z t']) } := aft_put rfl (allBare_setGen I.bare hb) e1 rfl
    show wpAny _ A.in1 (updateSeq S (fun _ => #[.int z t', .int z t']) >>= _) _ _ _
    refine wpAny_bind ?_
    refine wpAny_updateSeq e2 rfl ?_
    rw [hname]
    cases n with
    | zero => exact (show False from cc).elim
    | succ n =>
      refine wpAny_pure ⟨plainId_quiet F.plain_max_loop _, max_loop1 O hB hS hC hF hh hroom hR n [z] H' gs' s1 _ t' (c + 1) (by simp) cc (by rw [hS]; exact put) ?_ hgs1 (O.past I there (by rw [hS]; exact put)).nolimit ?_⟩
      · obtain ⟨o, n1, n2, e, r⟩ := hg1
        exact ⟨o, n1, n2, (Heap.get?_update_other _ _ hna).trans e, r⟩
      · have e3 := Heap.get?_update_self (Obj.mapSeq fun _ => #[Value.int z t', Value.int z t']) e2 rfl
        exact e3
end
section
variable {X : Cx}
theorem call_maxP {P : Program} {w : World} {A : Around} {Q : Value → Shared → Prop} {E : Value → Shared → Prop} {s : Shared} {a g : Addr} (hg : s.heap.IsGen a g)
    (h : codeAny (model P w) A (.builtin "max.loop" ⟨[.ref a, .none, .ref s.heap.objs.size], []⟩) (RetQ Q E) { s with heap := s.heap.push (bestL #[] 0) }) : wpAny (model P w) A (call (.builtin "max") [.ref a]) Q E s := by
  have hname : (toString "max" ++ toString ".loop" : String) = "max.loop" := by decide
  refine call_function_tree F.kind_max F.plain_max F.entry_max (F.args_max1 _) ?_
  show wpAny _ A.in1 (Builtin.Builtins.bindParams "max" ["key", "default"] 0 ⟨[], []⟩ >>= _) _ _ s
  refine wpAny_bind (wpAny_of_eq (show Builtin.Builtins.bindParams "max" ["key", "default"] 0 ⟨[], []⟩ = pure [none, none] from rfl) ?_)
  refine wpAny_bind (wpAny_pure ?_)
  refine wpAny_bind (wpAny_pyIter_gen hg ?_)
  refine wpAny_bind (wpAny_newObj_type ?_)
  rw [hname]
  exact wpAny_pure ⟨plainId_quiet F.plain_max_loop _, h⟩
/-- min of elt for target in iter if ..; W carries what is out so far -/
def tMaxG (P : Addr) (wi : TI) (g : TG) (tt : TT) (te : TE) (vs : List Nat) : TE := fun σ H Q => wi σ H fun J H1 => TabG H1 P ∧ ∀ H2, Tabbed P H1 H2 →
  ∃ W : Nat → Nat → List Int → Hp → Prop, (∃ m, W 0 m [] H2) ∧ ∀ i m zs H, W i m zs H → (J.stop i H ∧ zs ≠ [] ∧ Q (.int (maxs zs)) H) ∨ (J.go i H ∧ ∃ Nx : List Int → Hp → Prop, (∀ zs' H', Nx zs' H' → ∃ m', m' < m ∧ W (i + 1) m' zs' H') ∧
    ∀ x H', J.yld i H x H' → g x (wipe σ vs) H' fun σ2 H2 => wipe σ2 vs = wipe σ vs ∧ tt σ2 H2 fun b H3 => if b = true then te σ2 H3 fun y H4 => MN Nx zs y H4 else MZ Nx zs H3)
theorem tMaxG_step {J : It} {g : TG} {tt : TT} {te : TE} {vs : List Nat} {σ : L2.St} {Q : VK} {W : Nat → Nat → List Int → Hp → Prop}
    (h : ∀ i m zs H, W i m zs H → (J.stop i H ∧ zs ≠ [] ∧ Q (.int (maxs zs)) H) ∨ (J.go i H ∧ ∃ Nx : List Int → Hp → Prop, (∀ zs' H', Nx zs' H' → ∃ m', m' < m ∧ W (i + 1) m' zs' H') ∧
      ∀ x H', J.yld i H x H' → g x (wipe σ vs) H' fun σ2 H2 => wipe σ2 vs = wipe σ vs ∧ tt σ2 H2 fun b H3 => if b = true then te σ2 H3 fun y H4 => MN Nx zs y H4 else MZ Nx zs H3)) :
    GStep (fun i m ys H => ∃ zs, ys = zs.map V.int ∧ W i m zs H) J g tt te vs (wipe σ vs) eInt (fun ys H => ∃ zs, ys = zs.map V.int ∧ zs ≠ [] ∧ Q (.int (maxs zs)) H) := fun i m ys H ⟨zs, ey, w⟩ => by
  subst ey
  rcases h i m zs H w with ⟨z1, z2, z3⟩ | ⟨go, Nx, hN, st⟩
  · exact .inl ⟨z1, zs, rfl, z2, z3⟩
  · exact .inr ⟨go, fun ys H => ∃ zs, ys = zs.map V.int ∧ Nx zs H, fun ys' H' ⟨zs', e', nx⟩ => by
      obtain ⟨m', h1, h2⟩ := hN zs' H' nx
      exact ⟨m', h1, zs', e', h2⟩, st⟩
section
variable {c P : Addr} {elt tg iter : Expr} {ifs : List Expr} {scope : Scope} {own : List (Str × Nat)} {p pos gpos : Pos} {wi : TI} {g : TG} {tt : TT} {te : TE} {k : Nat}
theorem pe_maxG (hr : Room (k + 1) X.A) (hn : X.N.Nodup) (hgl : Gl X "max") (hm : X.mg "max" = none) (TB : LamX.TabB X.base X.mg c P) (hcode : X.env.code = .ref c) (G : GScp scope) (ok : BlkOk X.N X.env.scope scope own) (hi : PI X tg iter wi)
    (hg : GPG X k scope tg g) (ht : GPT X k scope ifs tt) (he : GPE X k scope elt te)
    (hb : bootBuiltins "max" = some (.builtin "max") := by first | rfl | decide +kernel) (hs : ∀ v, genFold iter X.env v = pure v := by intro _; rfl)
    (hst : starEach [.GeneratorExp elt [⟨tg, iter, ifs, 0⟩] scope gpos] X.env = (false, eval (.GeneratorExp elt [⟨tg, iter, ifs, 0⟩] scope gpos) X.env) :: starEach [] X.env := by rfl) :
    PE X (.Call (.Name "max" p) [.GeneratorExp elt [⟨tg, iter, ifs, 0⟩] scope gpos] [] pos) (tMaxG P wi g tt te (own.map (·.2))) := by
  refine ⟨fun pins s σ H Q I h => ?_⟩
  refine wpAny_Call_Name_kw (ld_blt I hgl hm hb ?_)
  refine PyProof.Rows.callWith_builtin1 ?_ hst (by rfl)
  rw [hst]
  show wpAny _ _ (spliced ((false, eval (.GeneratorExp elt [⟨tg, iter, ifs, 0⟩] scope gpos) X.env) :: backTo pos (starEach [] X.env))) _ _ s
  refine Calls.spliced_cons (gen_made (R := fun J H1 => _) hr TB hcode G ok hi hs I h fun J H1 H2 s4 cenv fp it tn a gn s5 q tb M => ?_)
  refine Calls.spliced_nil (call_maxP M.isg ?_)
  obtain ⟨W, ⟨m, w0⟩, st⟩ := q H2 tb
  obtain ⟨code, hce⟩ := M.env
  subst hce
  have hlt : a < s5.heap.objs.size := by rw [M.lt]; exact Nat.lt_succ_self a
  obtain ⟨O, rd⟩ := gen_rdy (B := X.A.in1.in1) (Sx := [s5.heap.objs.size]) hr (nearA2 _) G ok hn M (fun A r => hg _ _ _ _ _ _ A r) (fun A r => ht _ _ _ _ _ _ A r) (fun A r => he _ _ _ _ _ _ A r) (fun b z => by rw [List.mem_singleton.mp z]; exact hlt) eInt_mono (tMaxG_step st) m ⟨[], rfl, w0⟩
  have hpush : ∀ b o, s5.heap.get? b = some o → (s5.heap.push (bestL #[] 0)).get? b = some o := fun b o e => Heap.get?_push_of_some _ e
  refine max_first (Qd := fun k H => Q (.int k) H) (S := s5.heap.objs.size) (Y := mkY X s4 H2 _ fp X.A.in1.in1 (wipe σ (own.map (·.2))) (.GeneratorExp elt [⟨tg, iter, ifs, 0⟩] scope gpos) it a gn [s5.heap.objs.size] eInt (fun ys H => ∃ zs, ys = zs.map V.int ∧ zs ≠ [] ∧ Q (.int (maxs zs)) H)) O rfl rfl rfl rfl hr.hd hr.depth (fun k t σ' H' s1 I' q => ?_) m H2 _ s5 _ 0 rd ?_ ?_ ?_ ?_ (Heap.get?_push_size _ rfl)
  · exact ⟨.int k, H', GEx.out (Y := mkY X s4 H2 _ fp X.A.in1.in1 (wipe σ (own.map (·.2))) (.GeneratorExp elt [⟨tg, iter, ifs, 0⟩] scope gpos) it a gn [s5.heap.objs.size] eInt (fun ys H => ∃ zs, ys = zs.map V.int ∧ zs ≠ [] ∧ Q (.int (maxs zs)) H)) M.inv (fun b hb => (M.fps b hb).1) I' (Aft.refl I'.bare), ⟨t, rfl⟩, q⟩
  · refine ⟨rfl, ?_, fun b o _ e => hpush b o e, fun b hb => ?_⟩
    · show AllBare s5.gens
      rw [M.gens]
      exact M.inv.bare.push rfl
    · rw [List.mem_singleton.mp hb]
      exact ⟨_, Heap.get?_push_size _ rfl, fun v z => by cases z⟩
  · obtain ⟨o, n1, n2, e, r⟩ := M.isg
    exact ⟨o, n1, n2, hpush _ _ e, r⟩
  · show s5.gens[gn]? = _
    rw [M.gens, M.num]
    simp
  · exact (M.inv.nolimit.keeps M.keep).push _
end
end
section
variable {K : PySem.W.Frag} {a : Addr} {xs : List V} {g : TG} {tt : TT} {te : TE} {vs : List Nat} {σ : L2.St} {H2 : Hp} {Q : VK}
/-- over a list that the element leaves as it is -/
theorem max_list (Pv : Nat → List Int → Hp → Prop) (h0 : Pv 0 [] H2) (hl : ∀ i zs H, i ≤ xs.length → Pv i zs H → SqL K H a xs)
    (hs : ∀ i zs x H, xs[i]? = some x → Pv i zs H → g x (wipe σ vs) H fun σ2 H2 => wipe σ2 vs = wipe σ vs ∧ tt σ2 H2 fun b H3 => if b = true then te σ2 H3 fun y H4 => MN (Pv (i + 1)) zs y H4 else MZ (Pv (i + 1)) zs H3) (hd : ∀ zs H, Pv xs.length zs H → zs ≠ [] ∧ Q (.int (maxs zs)) H) :
    ∃ W : Nat → Nat → List Int → Hp → Prop, (∃ m, W 0 m [] H2) ∧ ∀ i m zs H, W i m zs H → ((Itl K a).stop i H ∧ zs ≠ [] ∧ Q (.int (maxs zs)) H) ∨ ((Itl K a).go i H ∧ ∃ Nx : List Int → Hp → Prop, (∀ zs' H', Nx zs' H' → ∃ m', m' < m ∧ W (i + 1) m' zs' H') ∧
      ∀ x H', (Itl K a).yld i H x H' → g x (wipe σ vs) H' fun σ2 H2 => wipe σ2 vs = wipe σ vs ∧ tt σ2 H2 fun b H3 => if b = true then te σ2 H3 fun y H4 => MN Nx zs y H4 else MZ Nx zs H3) := by
  refine ⟨fun i m zs H => m = xs.length - i ∧ i ≤ xs.length ∧ Pv i zs H, ⟨xs.length, by simp, Nat.zero_le _, h0⟩, fun i m zs H w => ?_⟩
  obtain ⟨hm, hi, p⟩ := w
  have q := hl i zs H hi p
  rcases Nat.lt_or_ge i xs.length with z | z
  · refine .inr ⟨⟨xs, xs[i], q, by simp [z]⟩, Pv (i + 1), fun zs' H' p' => ⟨xs.length - (i + 1), by omega, rfl, z, p'⟩, fun x H' y => ?_⟩
    obtain ⟨rfl, y⟩ := y
    exact hs i zs x _ (y xs q) p
  · obtain rfl : i = xs.length := by omega
    exact .inl ⟨⟨xs, q, Nat.le_refl _⟩, hd zs H p⟩
end
end Sk

set_option Elab.async false
set_option linter.all false
set_option maxRecDepth 100000
set_option maxHeartbeats 4000000
namespace Sk
open PySem PySem.Spec PyProof.Rows L2
/-! a place of a stretch is on one of the segments of its piece -/
/-- (px / d, py / d) is on the segment -/
def OnS (px py d : Int) (s : Seg) : Prop := ∃ u v : Int, 0 ≤ u ∧ 0 ≤ v ∧ 1 ≤ u + v ∧ px * s.d * (u + v) = d * (u * s.ax + v * s.bx) ∧ py * s.d * (u + v) = d * (u * s.ay + v * s.bw)
theorem on_first {s : Seg} {px py : Int} (hx : px = s.ax) (hy : py = s.ay) : OnS px py s.d s := by
  refine ⟨1, 0, by decide, by decide, by decide, ?_, ?_⟩
  · rw [hx]; grind
  · rw [hy]; grind
theorem between {A B n g p st en : Int} : (A * n + B * (p - g)) * n * (en - p + (p - st)) = n * ((en - p) * (A * n + B * (st - g)) + (p - st) * (A * n + B * (en - g))) := by grind
theorem at_end {A B n g' : Int} {px d : Int} (h : px = A * d) (en : n * 1 = n) : px * n * (0 + 1) = d * (0 * g' + 1 * (A * n)) := by
  rw [h]; grind
theorem plc_eq (D : CD) (ns : List Str) (k : Nat) (p : Int) : plc D ns k p = [(D.xy (rn ns k)).1 * D.len (rn ns k) (rn ns (k + 1)) + ((D.xy (rn ns (k + 1))).1 - (D.xy (rn ns k)).1) * (p - bg D ns k), (D.xy (rn ns k)).2 * D.len (rn ns k) (rn ns (k + 1)) + ((D.xy (rn ns (k + 1))).2 - (D.xy (rn ns k)).2) * (p - bg D ns k)] := rfl
theorem li_inj {s t : Seg} (h : s.li = t.li) : s = t := by
  obtain ⟨a, b, c, d, e⟩ := s
  obtain ⟨a', b', c', d', e'⟩ := t
  simp only [Seg.li, List.cons.injEq, and_true] at h
  obtain ⟨rfl, rfl, rfl, rfl, rfl⟩ := h
  rfl
theorem place_on_piece {D : CD} {ns : List Str} (pos : PosR D ns) (n2 : 2 ≤ ns.length) {lo hi p px py : Int} {ss : List Seg} (e : pcs D ns lo hi = ss.map Seg.li)
    (h0 : 0 ≤ p) (h1 : p < bg D ns (ns.length - 1)) (hl : lo ≤ p) (hh : p ≤ hi) (hp : plc D ns (lat D ns (ns.length - 1 - 1) p) p = [px, py]) :
    ∃ s ∈ ss, OnS px py (D.len (rn ns (lat D ns (ns.length - 1 - 1) p)) (rn ns (lat D ns (ns.length - 1 - 1) p + 1))) s := by
  obtain ⟨c0, c1, c2⟩ := lat_cases D ns (ns.length - 1 - 1) p
  generalize hk : lat D ns (ns.length - 1 - 1) p = k at *
  have hk1 : k + 1 < ns.length := by omega
  have pk := pos k hk1
  have gk : bg D ns k ≤ p := by
    match k, c1 with
    | 0, _ => exact h0
    | k + 1, c1 => exact c1 k (by omega)
  have gk2 : p < bg D ns (k + 1) := by
    by_cases z : k < ns.length - 1 - 1
    · exact c2 z
    · have : k + 1 = ns.length - 1 := by omega
      rw [this]; exact h1
  have gs : bg D ns (k + 1) = bg D ns k + D.len (rn ns k) (rn ns (k + 1)) := rfl
  rw [plc_eq] at hp
  have hpx := (List.cons.inj hp).1.symm
  have hpy := (List.cons.inj (List.cons.inj hp).2).1.symm
  unfold pcs at e
  dsimp only at e
  rw [if_neg (by omega)] at e
  generalize ef : (if 0 > lo then 0 else lo) = f at e
  generalize el : (if bg D ns (ns.length - 1) < hi then bg D ns (ns.length - 1) else hi) = l at e
  have hf : f ≤ p ∧ 0 ≤ f := by split at ef <;> omega
  have hlp : p ≤ l := by split at el <;> omega
  have hlt : l ≤ bg D ns (ns.length - 1) := by split at el <;> omega
  by_cases fl : f = l
  · rw [if_pos fl] at e
    have fp : f = p := by omega
    rw [fp, hk] at e
    obtain ⟨s, rfl, es⟩ : ∃ s, ss = [s] ∧ s.li = seg D ns k p p := by
      cases ss with
      | nil => cases e
      | cons s r =>
        cases r with
        | nil => exact ⟨s, rfl, (List.cons.inj e).1.symm⟩
        | cons t r =>
          have := congrArg List.length e
          simp at this
    have ed : s.d = D.len (rn ns k) (rn ns (k + 1)) := by
      simp only [seg, plc_eq, Seg.li, List.cons_append, List.nil_append, List.cons.injEq, and_true] at es
      exact es.2.2.2.2
    have ea : s.ax = px ∧ s.ay = py := by
      simp only [seg, plc_eq, Seg.li, List.cons_append, List.nil_append, List.cons.injEq, and_true] at es
      exact ⟨by rw [hpx]; exact es.1, by rw [hpy]; exact es.2.1⟩
    refine ⟨s, List.mem_singleton.mpr rfl, ?_⟩
    rw [← ed]
    exact on_first ea.1.symm ea.2.symm
  · rw [if_neg fl] at e
    have mem : ∀ (k' : Nat) (st en : Int), k' < ns.length - 1 → (if bg D ns k' > f then bg D ns k' else f) = st → (if bg D ns (k' + 1) < l then bg D ns (k' + 1) else l) = en → st < en →
        ∃ s ∈ ss, s.li = seg D ns k' st en := fun k' st en h1 h2 h3 h4 => by
      have hm : seg D ns k' st en ∈ segsOf D ns f l (List.range (ns.length - 1)) := by
        refine List.mem_filterMap.mpr ⟨k', List.mem_range.mpr h1, ?_⟩
        unfold segOf
        dsimp only
        rw [h2, h3, if_pos h4]
      rw [e] at hm
      obtain ⟨s, hs, es⟩ := List.mem_map.mp hm
      exact ⟨s, hs, es⟩
    generalize est : (if bg D ns k > f then bg D ns k else f) = st
    generalize een : (if bg D ns (k + 1) < l then bg D ns (k + 1) else l) = en
    have hst : st ≤ p := by split at est <;> omega
    have hen : p ≤ en := by split at een <;> omega
    by_cases lt : st < en
    · obtain ⟨s, hs, es⟩ := mem k st en (by omega) est een lt
      refine ⟨s, hs, en - p, p - st, by omega, by omega, by omega, ?_, ?_⟩
      all_goals
        simp only [seg, plc_eq, Seg.li, List.cons_append, List.nil_append, List.cons.injEq, and_true] at es
        obtain ⟨e1, e2, e3, e4, e5⟩ := es
      · rw [hpx, e1, e3, e5]
        exact between
      · rw [hpy, e2, e4, e5]
        exact between
    · -- the joint: p is the end of the leg before
      have pst : st = p ∧ en = p := by omega
      have pl : l = p := by
        have := pst.2
        split at een <;> omega
      have pg : bg D ns k = p := by
        have := pst.1
        split at est <;> omega
      have k0 : k ≠ 0 := fun z => by
        rw [z] at pg
        have : (0 : Int) = p := pg
        omega
      obtain ⟨j, rfl⟩ : ∃ j, k = j + 1 := ⟨k - 1, by omega⟩
      have pj := pos j (by omega)
      have gj : bg D ns (j + 1) = bg D ns j + D.len (rn ns j) (rn ns (j + 1)) := rfl
      generalize est' : (if bg D ns j > f then bg D ns j else f) = st'
      have h5 : (if bg D ns (j + 1) < l then bg D ns (j + 1) else l) = p := by split <;> omega
      have h6 : st' < p := by split at est' <;> omega
      obtain ⟨s, hs, es⟩ := mem j st' p (by omega) est' h5 h6
      refine ⟨s, hs, 0, 1, by decide, by decide, by decide, ?_, ?_⟩
      all_goals
        simp only [seg, plc_eq, Seg.li, List.cons_append, List.nil_append, List.cons.injEq, and_true] at es
        obtain ⟨e1, e2, e3, e4, e5⟩ := es
        have q : p - bg D ns j = D.len (rn ns j) (rn ns (j + 1)) := by omega
        have q2 : p - bg D ns (j + 1) = 0 := by omega
        rw [q] at e3 e4
        rw [q2] at hpx hpy
      · rw [hpx, e3, e5]
        grind
      · rw [hpy, e4, e5]
        grind
/-! the greatest rounded down, the least rounded up, of the ends of some segments -/
def c0 (i : Nat) (s : Seg) : Int := if i = 0 then s.ax else s.ay
def c1 (i : Nat) (s : Seg) : Int := if i = 0 then s.bx else s.bw
def dn (i : Nat) (ss : List Seg) : List Int := ss.flatMap fun s => [c0 i s / s.d, c1 i s / s.d]
def up (i : Nat) (ss : List Seg) : List Int := ss.flatMap fun s => [-(-c0 i s / s.d), -(-c1 i s / s.d)]
theorem maxs_eq {zs : List Int} {m : Int} (h : m ∈ zs) (g : ∀ z ∈ zs, z ≤ m) : maxs zs = m := by
  have ne : zs ≠ [] := fun e => by rw [e] at h; cases h
  obtain ⟨a, b⟩ := maxs_spec ne
  have := g _ a
  have := b _ h
  omega
theorem mins_eq {zs : List Int} {m : Int} (h : m ∈ zs) (g : ∀ z ∈ zs, m ≤ z) : mins zs = m := by
  have ne : zs ≠ [] := fun e => by rw [e] at h; cases h
  obtain ⟨a, b⟩ := mins_spec ne
  have := g _ a
  have := b _ h
  omega
theorem maxs_same {zs ws : List Int} (h : ∀ z, z ∈ zs ↔ z ∈ ws) (ne : zs ≠ []) : maxs zs = maxs ws := by
  obtain ⟨a, b⟩ := maxs_spec ne
  exact (maxs_eq ((h _).mp a) fun z hz => b z ((h z).mpr hz)).symm
theorem mins_same {zs ws : List Int} (h : ∀ z, z ∈ zs ↔ z ∈ ws) (ne : zs ≠ []) : mins zs = mins ws := by
  obtain ⟨a, b⟩ := mins_spec ne
  exact (mins_eq ((h _).mp a) fun z hz => b z ((h z).mpr hz)).symm
/-- the ends as fractions, in the program's order -/
def ends (i : Nat) (ss : List Seg) : List (Int × Int) := ss.map (fun s => (c0 i s, s.d)) ++ ss.map (fun s => (c1 i s, s.d))
theorem ends_dn (i : Nat) (ss : List Seg) (z : Int) : z ∈ (ends i ss).map (fun e => e.1 / e.2) ↔ z ∈ dn i ss := by
  unfold ends dn
  simp only [List.map_append, List.map_map, List.mem_append, List.mem_map, List.mem_flatMap, List.mem_cons, List.not_mem_nil, or_false, Function.comp]
  constructor
  · rintro (⟨s, h, e⟩ | ⟨s, h, e⟩)
    · exact ⟨s, h, .inl e.symm⟩
    · exact ⟨s, h, .inr e.symm⟩
  · rintro ⟨s, h, e | e⟩
    · exact .inl ⟨s, h, e.symm⟩
    · exact .inr ⟨s, h, e.symm⟩
theorem ends_up (i : Nat) (ss : List Seg) (z : Int) : z ∈ (ends i ss).map (fun e => -(-e.1 / e.2)) ↔ z ∈ up i ss := by
  unfold ends up
  simp only [List.map_append, List.map_map, List.mem_append, List.mem_map, List.mem_flatMap, List.mem_cons, List.not_mem_nil, or_false, Function.comp]
  constructor
  · rintro (⟨s, h, e⟩ | ⟨s, h, e⟩)
    · exact ⟨s, h, .inl e.symm⟩
    · exact ⟨s, h, .inr e.symm⟩
  · rintro ⟨s, h, e | e⟩
    · exact .inl ⟨s, h, e.symm⟩
    · exact .inr ⟨s, h, e.symm⟩
theorem ends_ne {i : Nat} {ss : List Seg} (h : ss ≠ []) : ends i ss ≠ [] := by
  cases ss with
  | nil => exact absurd rfl h
  | cons s ss => intro z; cases z
theorem ends_bd {i : Nat} {ss : List Seg} (h : ∀ s ∈ ss, SegBd 200 100 s ∧ 1 ≤ s.d) : ∀ e ∈ ends i ss, BdN 200 e.1 ∧ BdN 100 e.2 ∧ 1 ≤ e.2 := fun e he => by
  unfold ends at he
  rcases List.mem_append.mp he with he | he
  · obtain ⟨s, hs, rfl⟩ := List.mem_map.mp he
    obtain ⟨b, d⟩ := h s hs
    exact ⟨by show BdN 200 (c0 i s); unfold c0; split; exact b.ax; exact b.ay, b.d, d⟩
  · obtain ⟨s, hs, rfl⟩ := List.mem_map.mp he
    obtain ⟨b, d⟩ := h s hs
    exact ⟨by show BdN 200 (c1 i s); unfold c1; split; exact b.bx; exact b.bw, b.d, d⟩
/-! the estimate -/
structure Est where
  x1 : Int
  x2 : Int
  y1 : Int
  y2 : Int
def Est.v (e : Est) : List V := [.int e.x1, .int e.x2, .int e.y1, .int e.y2]
def nlo (low told m : Int) (i : Nat) (ss : List Seg) : Int := if told - m - maxs (dn i ss) > low then told - m - maxs (dn i ss) else low
def nhi (high told m : Int) (i : Nat) (ss : List Seg) : Int := if told + m - mins (up i ss) < high then told + m - mins (up i ss) else high
def nar (e : Est) (m x y : Int) (ss : List Seg) : Option Est :=
  if nlo e.x1 x m 0 ss > nhi e.x2 x m 0 ss ∨ nlo e.y1 y m 1 ss > nhi e.y2 y m 1 ss then none else some ⟨nlo e.x1 x m 0 ss, nhi e.x2 x m 0 ss, nlo e.y1 y m 1 ss, nhi e.y2 y m 1 ss⟩
/-- what lies below the greatest end, lies below it rounded down -/
theorem below_max {px d u v w : Int} {i : Nat} {s : Seg} {ss : List Seg} (hs : s ∈ ss) (d1 : 1 ≤ d) (sd : 1 ≤ s.d) (u0 : 0 ≤ u) (v0 : 0 ≤ v) (uv : 1 ≤ u + v) (e : px * s.d * (u + v) = d * (u * c0 i s + v * c1 i s)) (h : w * d ≤ px) : w ≤ maxs (dn i ss) := by
  have ne : dn i ss ≠ [] := fun z => by
    have : c0 i s / s.d ∈ dn i ss := List.mem_flatMap.mpr ⟨s, hs, by simp⟩
    rw [z] at this; cases this
  obtain ⟨_, b⟩ := maxs_spec ne
  have b0 := b _ (show c0 i s / s.d ∈ dn i ss from List.mem_flatMap.mpr ⟨s, hs, by simp⟩)
  have b1 := b _ (show c1 i s / s.d ∈ dn i ss from List.mem_flatMap.mpr ⟨s, hs, by simp⟩)
  rcases Int.lt_or_le (maxs (dn i ss)) w with z | z
  · exfalso
    have q0 : c0 i s < w * s.d := by
      have := Int.lt_ediv_add_one_mul_self (c0 i s) (show 0 < s.d by omega)
      have := Int.mul_le_mul_of_nonneg_right (show c0 i s / s.d + 1 ≤ w by omega) (show 0 ≤ s.d by omega)
      omega
    have q1 : c1 i s < w * s.d := by
      have := Int.lt_ediv_add_one_mul_self (c1 i s) (show 0 < s.d by omega)
      have := Int.mul_le_mul_of_nonneg_right (show c1 i s / s.d + 1 ≤ w by omega) (show 0 ≤ s.d by omega)
      omega
    have r0 : u * c0 i s ≤ u * (w * s.d - 1) := Int.mul_le_mul_of_nonneg_left (by omega) u0
    have r1 : v * c1 i s ≤ v * (w * s.d - 1) := Int.mul_le_mul_of_nonneg_left (by omega) v0
    have r2 : u * (w * s.d - 1) + v * (w * s.d - 1) = (u + v) * (w * s.d) - (u + v) := by grind
    have r3 : u * c0 i s + v * c1 i s ≤ (u + v) * (w * s.d) - 1 := by omega
    have r4 := Int.mul_le_mul_of_nonneg_left r3 (show 0 ≤ d by omega)
    have r5 := Int.mul_le_mul_of_nonneg_right (Int.mul_le_mul_of_nonneg_right h (show 0 ≤ s.d by omega)) (show 0 ≤ u + v by omega)
    have r6 : w * d * s.d * (u + v) = d * ((u + v) * (w * s.d)) := by grind
    have r7 : d * ((u + v) * (w * s.d) - 1) = d * ((u + v) * (w * s.d)) - d := by grind
    omega
  · exact z
theorem above_min {px d u v w : Int} {i : Nat} {s : Seg} {ss : List Seg} (hs : s ∈ ss) (d1 : 1 ≤ d) (sd : 1 ≤ s.d) (u0 : 0 ≤ u) (v0 : 0 ≤ v) (uv : 1 ≤ u + v) (e : px * s.d * (u + v) = d * (u * c0 i s + v * c1 i s)) (h : px ≤ w * d) : mins (up i ss) ≤ w := by
  have ne : up i ss ≠ [] := fun z => by
    have : -(-c0 i s / s.d) ∈ up i ss := List.mem_flatMap.mpr ⟨s, hs, by simp⟩
    rw [z] at this; cases this
  obtain ⟨_, b⟩ := mins_spec ne
  have b0 := b _ (show -(-c0 i s / s.d) ∈ up i ss from List.mem_flatMap.mpr ⟨s, hs, by simp⟩)
  have b1 := b _ (show -(-c1 i s / s.d) ∈ up i ss from List.mem_flatMap.mpr ⟨s, hs, by simp⟩)
  rcases Int.lt_or_le w (mins (up i ss)) with z | z
  · exfalso
    have q0 : w * s.d < c0 i s := by
      have := Int.lt_ediv_add_one_mul_self (-c0 i s) (show 0 < s.d by omega)
      have := Int.mul_le_mul_of_nonneg_right (show -c0 i s / s.d + 1 ≤ -w by omega) (show 0 ≤ s.d by omega)
      rw [Int.neg_mul] at this
      omega
    have q1 : w * s.d < c1 i s := by
      have := Int.lt_ediv_add_one_mul_self (-c1 i s) (show 0 < s.d by omega)
      have := Int.mul_le_mul_of_nonneg_right (show -c1 i s / s.d + 1 ≤ -w by omega) (show 0 ≤ s.d by omega)
      rw [Int.neg_mul] at this
      omega
    have r0 : u * (w * s.d + 1) ≤ u * c0 i s := Int.mul_le_mul_of_nonneg_left (by omega) u0
    have r1 : v * (w * s.d + 1) ≤ v * c1 i s := Int.mul_le_mul_of_nonneg_left (by omega) v0
    have r2 : u * (w * s.d + 1) + v * (w * s.d + 1) = (u + v) * (w * s.d) + (u + v) := by grind
    have r3 : (u + v) * (w * s.d) + 1 ≤ u * c0 i s + v * c1 i s := by omega
    have r4 := Int.mul_le_mul_of_nonneg_left r3 (show 0 ≤ d by omega)
    have r5 := Int.mul_le_mul_of_nonneg_right (Int.mul_le_mul_of_nonneg_right h (show 0 ≤ s.d by omega)) (show 0 ≤ u + v by omega)
    have r6 : w * d * s.d * (u + v) = d * ((u + v) * (w * s.d)) := by grind
    have r7 : d * ((u + v) * (w * s.d) + 1) = d * ((u + v) * (w * s.d)) + d := by grind
    omega
  · exact z
/-- squares and sides -/
theorem side_of {a b m : Int} (hm : 0 ≤ m) (h : a * a + b * b ≤ m * m) : -m ≤ a ∧ a ≤ m := by
  have hb : 0 ≤ b * b := sq0 b
  constructor
  · rcases Int.lt_or_le a (-m) with z | z
    · have := Int.mul_le_mul (show m + 1 ≤ -a by omega) (show m + 1 ≤ -a by omega) (by omega) (by omega)
      rw [Int.neg_mul_neg] at this
      have e : (m + 1) * (m + 1) = m * m + 2 * m + 1 := by grind
      omega
    · exact z
  · rcases Int.lt_or_le m a with z | z
    · have := Int.mul_le_mul (show m + 1 ≤ a by omega) (show m + 1 ≤ a by omega) (by omega) (by omega)
      have e : (m + 1) * (m + 1) = m * m + 2 * m + 1 := by grind
      omega
    · exact z
theorem tri {a b c e M N : Int} (hM : 0 ≤ M) (hN : 0 ≤ N) (h1 : a * a + b * b ≤ M * M) (h2 : c * c + e * e ≤ N * N) : (a + c) * (a + c) + (b + e) * (b + e) ≤ (M + N) * (M + N) := by
  have dot : a * c + b * e ≤ M * N := by
    rcases Int.lt_or_le (M * N) (a * c + b * e) with z | z
    · exfalso
      have mn : 0 ≤ M * N := Int.mul_nonneg hM hN
      have q1 := Int.mul_le_mul (show M * N + 1 ≤ a * c + b * e by omega) (show M * N + 1 ≤ a * c + b * e by omega) (by omega) (by omega)
      have q2 := Int.mul_le_mul h1 h2 (Int.add_nonneg (sq0 c) (sq0 e)) (Int.mul_nonneg hM hM)
      have q3 : (a * c + b * e) * (a * c + b * e) + (a * e - b * c) * (a * e - b * c) = (a * a + b * b) * (c * c + e * e) := by grind
      have q4 := sq0 (a * e - b * c)
      have q5 : (M * N + 1) * (M * N + 1) = M * M * (N * N) + 2 * (M * N) + 1 := by grind
      omega
    · exact z
  have e1 : (a + c) * (a + c) + (b + e) * (b + e) = (a * a + b * b) + (c * c + e * e) + 2 * (a * c + b * e) := by grind
  have e2 : (M + N) * (M + N) = M * M + N * N + 2 * (M * N) := by grind
  omega
end Sk
namespace Sk
open PySem PySem.Spec PyProof.Rows L2
/-- the error of the radars -/
def RrAt (H : Hp) (ru : Addr) (rd : Int) : Prop := ∃ kvs, H ru = some (.dK kvs) ∧ valV kvs (.inr "radar") = some (.int rd)
section
variable {H H' : Hp} {ru : Addr} {rd : Int}
theorem RrAt.same (R : RrAt H ru rd) (s : Same H H') : RrAt H' ru rd := let ⟨kvs, e, h⟩ := R; ⟨kvs, s _ _ e, h⟩
theorem RrAt.keep {d : Addr} (R : RrAt H ru rd) (s : Keep d H H') (n : ru ≠ d) : RrAt H' ru rd := let ⟨kvs, e, h⟩ := R; ⟨kvs, s _ _ e n, h⟩
theorem RrAt.st {T : List Addr} (R : RrAt H ru rd) (s : SameT T H H') (t : Tabs T H) : RrAt H' ru rd := let ⟨kvs, e, h⟩ := R; ⟨kvs, s.d t e, h⟩
theorem RrAt.g (R : RrAt H ru rd) : DGet H ru (.str "radar") (some (.int rd)) := let ⟨_, e, h⟩ := R; h ▸ DGet.k (k := .inr "radar") e
end
def spRulesR (K : PySem.W.Frag) : Sp := fun vs H Q _ => ∃ (d c : Addr), vs = [.ref d] ∧ St1 K H d c ∧ ∀ ru (r : RuD) (rd : Int) H', H ru = none → RuAt H' ru r → RrAt H' ru rd → 0 ≤ rd → rd ≤ 1000 → St1 K H' d c → Keep d H H' → Q (.ref ru) H'
/-- a list of pairs -/
def PrAt (H : Hp) (l : Addr) (es : List (Int × Int)) : Prop := ∃ qs : List (Addr × Int × Int), H l = some (.lst (qs.map fun q => V.ref q.1)) ∧ (∀ q ∈ qs, H q.1 = some (.tup [.int q.2.1, .int q.2.2])) ∧ qs.map (·.2) = es
theorem PrAt.same {H H' : Hp} {l : Addr} {es : List (Int × Int)} (L : PrAt H l es) (e : Same H H') : PrAt H' l es := let ⟨qs, h1, h2, h3⟩ := L; ⟨qs, e _ _ h1, fun q h => e _ _ (h2 q h), h3⟩
theorem PrAt.st {T : List Addr} {H H' : Hp} {l : Addr} {es : List (Int × Int)} (L : PrAt H l es) (s : SameT T H H') (t : Tabs T H) : PrAt H' l es := let ⟨qs, h1, h2, h3⟩ := L; ⟨qs, s.l t h1, fun q h => s.t t (h2 q h), h3⟩
theorem PrAt.nil {H : Hp} {l : Addr} (h : H l = some (.lst [])) : PrAt H l [] := ⟨[], h, (fun _ h => nomatch h), rfl⟩
theorem PrAt.snoc {H : Hp} {l p : Addr} {es : List (Int × Int)} {a b : Int} {ys : List V} (L : PrAt H l es) (hl : H l = some (.lst ys)) (hp : H p = some (.tup [.int a, .int b])) : PrAt (upd H l (.lst (ys ++ [.ref p]))) l (es ++ [(a, b)]) := by
  obtain ⟨qs, h1, h2, h3⟩ := L
  rw [hl] at h1
  cases h1
  refine ⟨qs ++ [(p, a, b)], by rw [upd_same, List.map_append]; rfl, fun q hq => ?_, by rw [List.map_append, h3]; rfl⟩
  have ht : H q.1 = some (.tup [.int q.2.1, .int q.2.2]) := by
    rcases List.mem_append.mp hq with h | h
    · exact h2 q h
    · rw [List.mem_singleton.mp h]; exact hp
  rw [upd_ne (ne_of ht hl (by intro z; cases z))]
  exact ht
theorem PrAt.cat {H : Hp} {l m p : Addr} {es fs : List (Int × Int)} {xs ys : List V} (L : PrAt H l es) (M : PrAt H m fs) (hl : H l = some (.lst xs)) (hm : H m = some (.lst ys)) (hp : H p = none) : PrAt (upd H p (.lst (xs ++ ys))) p (es ++ fs) := by
  obtain ⟨qs, h1, h2, h3⟩ := L
  obtain ⟨rs, g1, g2, g3⟩ := M
  rw [hl] at h1
  rw [hm] at g1
  cases h1
  cases g1
  refine ⟨qs ++ rs, by rw [upd_same, List.map_append], fun q hq => same_new hp _ _ ?_, by rw [List.map_append, h3, g3]⟩
  rcases List.mem_append.mp hq with h | h
  · exact h2 q h
  · exact g2 q h
theorem PrAt.len {H : Hp} {l : Addr} {es : List (Int × Int)} (L : PrAt H l es) : ∃ ys : List V, H l = some (.lst ys) ∧ ys.length = es.length := let ⟨qs, h1, _, h3⟩ := L; ⟨_, h1, by rw [List.length_map, ← h3, List.length_map]⟩
/-- the pair at a place -/
theorem PrAt.at {H : Hp} {l : Addr} {es : List (Int × Int)} (L : PrAt H l es) : ∃ ps : List Addr, H l = some (.lst (ps.map V.ref)) ∧ ps.length = es.length ∧ ∀ (i : Nat) (v : V), (ps.map V.ref)[i]? = some v → ∃ (p : Addr) (e : Int × Int), v = .ref p ∧ es[i]? = some e ∧ H p = some (.tup [.int e.1, .int e.2]) := by
  obtain ⟨qs, h1, h2, h3⟩ := L
  refine ⟨qs.map (·.1), by rw [List.map_map]; exact h1, by rw [List.length_map, ← h3, List.length_map], fun i v h => ?_⟩
  rw [List.map_map, List.getElem?_map] at h
  cases e : qs[i]? with
  | none => rw [e] at h; cases h
  | some q =>
    rw [e] at h
    refine ⟨q.1, q.2, (Option.some.inj h).symm, by rw [← h3, List.getElem?_map, e]; rfl, h2 q (List.mem_of_getElem? e)⟩
/-- the segment at a place -/
theorem LoT.at {H : Hp} {l : Addr} {ss : List Seg} (L : LoT H l (ss.map Seg.li)) : ∃ ps : List Addr, H l = some (.lst (ps.map V.ref)) ∧ ps.length = ss.length ∧ ∀ (i : Nat) (v : V), (ps.map V.ref)[i]? = some v → ∃ (p : Addr) (s : Seg), v = .ref p ∧ ss[i]? = some s ∧ H p = some (.tup (s.li.map V.int)) := by
  obtain ⟨qs, h1, h2, h3⟩ := L
  have hl : qs.length = ss.length := by
    have := congrArg List.length h3
    rw [List.length_map, List.length_map] at this
    exact this
  refine ⟨qs.map (·.1), by rw [List.map_map]; exact h1, by rw [List.length_map]; exact hl, fun i v h => ?_⟩
  rw [List.map_map, List.getElem?_map] at h
  cases e : qs[i]? with
  | none => rw [e] at h; cases h
  | some q =>
    rw [e] at h
    have hi : i < ss.length := by rw [← hl]; exact (List.getElem?_eq_some_iff.mp e).1
    refine ⟨q.1, ss[i], (Option.some.inj h).symm, List.getElem?_eq_getElem hi, ?_⟩
    have e1 : (qs.map (·.2))[i]? = (ss.map Seg.li)[i]? := by rw [h3]
    rw [List.getElem?_map, List.getElem?_map, e, List.getElem?_eq_getElem hi] at e1
    have e2 : q.2 = ss[i].li := Option.some.inj e1
    rw [← e2]
    exact h2 q (List.mem_of_getElem? e)
/-! promises -/
def spEnds (i : Nat) : Sp := fun vs H Q _ => ∃ (l : Addr) (ss : List Seg), vs = [.ref l] ∧ LoT H l (ss.map Seg.li) ∧ ss.length ≤ 100 ∧ ∀ p H', Same H H' → PrAt H' p (ends i ss) → Q (.ref p) H'
def rlo (low told m : Int) (es : List (Int × Int)) : Int := if told - m - maxs (es.map fun e => e.1 / e.2) > low then told - m - maxs (es.map fun e => e.1 / e.2) else low
def rhi (high told m : Int) (es : List (Int × Int)) : Int := if told + m - mins (es.map fun e => -(-e.1 / e.2)) < high then told + m - mins (es.map fun e => -(-e.1 / e.2)) else high
def spRange (TT : List Addr) : Sp := fun vs H Q _ => ∃ (lo hi told m : Int) (l : Addr) (es : List (Int × Int)), vs = [.int lo, .int hi, .int told, .int m, .ref l] ∧ PrAt H l es ∧ es ≠ [] ∧ es.length ≤ 1000 ∧ (∀ e ∈ es, BdN 200 e.1 ∧ BdN 100 e.2 ∧ 1 ≤ e.2) ∧ Tabs TT H ∧
  ∀ q H', SameT TT H H' → H' q = some (.tup [.int (rlo lo told m es), .int (rhi hi told m es)]) → Q (.ref q) H'
theorem rlo_eq {low told m : Int} {i : Nat} {ss : List Seg} (h : ss ≠ []) : rlo low told m (ends i ss) = nlo low told m i ss := by
  have ne : (ends i ss).map (fun e => e.1 / e.2) ≠ [] := fun z => ends_ne h (List.map_eq_nil_iff.mp z)
  unfold rlo nlo
  rw [maxs_same (ends_dn i ss) ne]
theorem rhi_eq {high told m : Int} {i : Nat} {ss : List Seg} (h : ss ≠ []) : rhi high told m (ends i ss) = nhi high told m i ss := by
  have ne : (ends i ss).map (fun e => -(-e.1 / e.2)) ≠ [] := fun z => ends_ne h (List.map_eq_nil_iff.mp z)
  unfold rhi nhi
  rw [mins_same (ends_up i ss) ne]
/-- a tuple of the estimate, or None -/
def optE (H : Hp) (o : Option Est) (v : V) : Prop := match o with
  | none => v = .non
  | some e => ∃ q, v = .ref q ∧ H q = some (.tup e.v)
def pdE : Option Est → PyData
  | none => .none
  | some e => .tuple ([e.x1, e.x2, e.y1, e.y2].map .int)
theorem optE.dp {K : PySem.W.Frag} {H : Hp} {o : Option Est} {v : V} (h : optE H o v) : Dp K H v (pdE o) := by
  cases o with
  | none => rw [show v = .non from h]; exact .non
  | some e =>
    obtain ⟨q, rfl, hq⟩ := h
    exact .tup (.inl (.inl hq)) (dpAll_int [e.x1, e.x2, e.y1, e.y2])
theorem optE.same {H H' : Hp} {o : Option Est} {v : V} (h : optE H o v) (s : Same H H') : optE H' o v := by
  cases o with
  | none => exact h
  | some e =>
    obtain ⟨q, rfl, hq⟩ := h
    exact ⟨q, rfl, s _ _ hq⟩
theorem optE.st {T : List Addr} {H H' : Hp} {o : Option Est} {v : V} (h : optE H o v) (s : SameT T H H') (t : Tabs T H) : optE H' o v := by
  cases o with
  | none => exact h
  | some e =>
    obtain ⟨q, rfl, hq⟩ := h
    exact ⟨q, rfl, s.t t hq⟩
theorem can_e (o : Option Est) : (pdE o).canLay0 = true := by
  cases o with
  | none => rfl
  | some e => exact can_pd _
theorem sh_e (o : Option Est) : SeqAt.shaped (pdE o) = true := by
  cases o with
  | none => rfl
  | some e => exact sh_pd _
structure PtB (H : Hp) (q : Addr) (x y z : Int) : Prop where
  t : H q = some (.tup [.int x, .int y, .int z])
def spNar (C : Addr) (TT : List Addr) : Sp := fun vs H Q _ => ∃ (ru e p b q r1 : Addr) (r : RuD) (rd : Int) (E : Est) (D : CD) (ns : List Str) (x : Bx) (px py pz : Int) (ss : List Seg), vs = [.ref ru, .ref e, .ref p, .ref b, .ref q] ∧ RuAt H ru r ∧ RrAt H ru rd ∧ H e = some (.tup E.v) ∧ H b = some x.t ∧ x.lo ≤ x.hi ∧
  H q = some (.tup [.int px, .int py, .int pz]) ∧ PathAt C H p D ns r1 ∧ Bd D ∧ 2 ≤ ns.length ∧ ns.length ≤ 20 ∧ pcs D ns x.lo x.hi = ss.map Seg.li ∧ (∀ s ∈ ss, SegBd 200 100 s ∧ 1 ≤ s.d) ∧ ss ≠ [] ∧ ss.length ≤ 100 ∧ Tabs TT H ∧
  ∀ v H', SameT TT H H' → optE H' (nar E (rd + r.ra) px py ss) v → Q v H'
/-- what the correction gives -/
def mid (a b : Int) : Int := (a + b) / 2
def side (a b : Int) : Int := if mid a b - a > b - mid a b then mid a b - a else b - mid a b
def spCor : Sp := fun vs H Q _ => ∃ (ru e q : Addr) (rd : Int) (E : Est) (px py pz : Int), vs = [.ref ru, .ref e, .ref q] ∧ RrAt H ru rd ∧ H e = some (.tup E.v) ∧ H q = some (.tup [.int px, .int py, .int pz]) ∧
  0 ≤ side E.x1 E.x2 ∧ side E.x1 E.x2 ≤ 1000000 ∧ 0 ≤ side E.y1 E.y2 ∧ side E.y1 E.y2 ≤ 1000000 ∧
  ∀ (u v : Addr) (H' : Hp), Same H H' → H' u = some (.tup [.ref v, .int (rd + rt (side E.x1 E.x2 * side E.x1 E.x2 + side E.y1 E.y2 * side E.y1 E.y2))]) → H' v = some (.tup [.int (px - mid E.x1 E.x2), .int (py - mid E.y1 E.y2), .int pz]) → Q (.ref u) H'
end Sk
namespace Sk
open PySem PySem.Spec PyProof.Rows L2 GenW GxR
section
variable {K : PySem.W.Frag} {a : Addr} {xs : List V} {g : TG} {tt : TT} {te : TE} {vs : List Nat} {σ : L2.St} {H2 : Hp} {R : List Int → Hp → Prop}
/-- over a list that the element leaves as it is -/
theorem gen_listR (Pv : Nat → List Int → Hp → Prop) (h0 : Pv 0 [] H2) (hl : ∀ i zs H, i ≤ xs.length → Pv i zs H → SqL K H a xs)
    (hs : ∀ i zs x H, xs[i]? = some x → Pv i zs H → g x (wipe σ vs) H fun σ2 H2 => wipe σ2 vs = wipe σ vs ∧ tt σ2 H2 fun b H3 => if b = true then te σ2 H3 fun y H4 => MN (Pv (i + 1)) zs y H4 else MZ (Pv (i + 1)) zs H3) (hd : ∀ zs H, Pv xs.length zs H → zs ≠ [] ∧ R zs H) :
    ∃ W : Nat → Nat → List Int → Hp → Prop, (∃ m, W 0 m [] H2) ∧ ∀ i m zs H, W i m zs H → ((Itl K a).stop i H ∧ zs ≠ [] ∧ R zs H) ∨ ((Itl K a).go i H ∧ ∃ Nx : List Int → Hp → Prop, (∀ zs' H', Nx zs' H' → ∃ m', m' < m ∧ W (i + 1) m' zs' H') ∧
      ∀ x H', (Itl K a).yld i H x H' → g x (wipe σ vs) H' fun σ2 H2 => wipe σ2 vs = wipe σ vs ∧ tt σ2 H2 fun b H3 => if b = true then te σ2 H3 fun y H4 => MN Nx zs y H4 else MZ Nx zs H3) := by
  refine ⟨fun i m zs H => m = xs.length - i ∧ i ≤ xs.length ∧ Pv i zs H, ⟨xs.length, by simp, Nat.zero_le _, h0⟩, fun i m zs H w => ?_⟩
  obtain ⟨hm, hi, p⟩ := w
  have q := hl i zs H hi p
  rcases Nat.lt_or_ge i xs.length with z | z
  · refine .inr ⟨⟨xs, xs[i], q, by simp [z]⟩, Pv (i + 1), fun zs' H' p' => ⟨xs.length - (i + 1), by omega, rfl, z, p'⟩, fun x H' y => ?_⟩
    obtain ⟨rfl, y⟩ := y
    exact hs i zs x _ (y xs q) p
  · obtain rfl : i = xs.length := by omega
    exact .inl ⟨⟨xs, q, Nat.le_refl _⟩, hd zs H p⟩
end
theorem sameU {H H' : Hp} {L : Addr} {o : HO} (hL : H L = none) (sm : Same H H') : Same H (upd H' L o) := fun b u e => by
  rw [upd_ne (ne_of_none e hL)]
  exact sm b u e
end Sk
namespace Sk
open PySem PySem.Spec PyProof.Rows L2
def aLo (E : Est) (i : Nat) : Int := if i = 0 then E.x1 else E.y1
def aHi (E : Est) (i : Nat) : Int := if i = 0 then E.x2 else E.y2
def aP (px py : Int) (i : Nat) : Int := if i = 0 then px else py
theorem est_lo (E : Est) {i : Nat} (h : i < 2) : atI E.v (2 * (0 + (i : Int))) = some (.int (aLo E i)) := by
  match i, h with
  | 0, _ => rfl
  | 1, _ => rfl
theorem est_hi (E : Est) {i : Nat} (h : i < 2) : atI E.v (2 * (0 + (i : Int)) + 1) = some (.int (aHi E i)) := by
  match i, h with
  | 0, _ => rfl
  | 1, _ => rfl
theorem plot_at (px py pz : Int) {i : Nat} (h : i < 2) : atI [V.int px, .int py, .int pz] (0 + (i : Int)) = some (.int (aP px py i)) := by
  match i, h with
  | 0, _ => rfl
  | 1, _ => rfl
theorem seg_at0 (s : Seg) {i : Nat} (h : i < 2) : atI (s.li.map V.int) (0 + (i : Int)) = some (.int (c0 i s)) := by
  match i, h with
  | 0, _ => rfl
  | 1, _ => rfl
theorem seg_at1 (s : Seg) {i : Nat} (h : i < 2) : atI (s.li.map V.int) (0 + (i : Int) + 2) = some (.int (c1 i s)) := by
  match i, h with
  | 0, _ => rfl
  | 1, _ => rfl
theorem two_step {a b : Int} {f : Int → Int} {k : Nat} {x : V} (h : ([V.int a, V.int b])[k]? = some x) : ∃ z, x = .int z ∧ ([f a, f b].take (k + 1)) = [f a, f b].take k ++ [f z] ∧ (z = a ∨ z = b) := by
  match k, h with
  | 0, h => exact ⟨a, (Option.some.inj h).symm, rfl, .inl rfl⟩
  | 1, h => exact ⟨b, (Option.some.inj h).symm, rfl, .inr rfl⟩
theorem dn_step {i j : Nat} {ss : List Seg} {s : Seg} (h : ss[j]? = some s) : dn i (ss.take (j + 1)) = dn i (ss.take j) ++ [c0 i s / s.d, c1 i s / s.d] := by
  unfold dn
  rw [List.take_add_one, h, List.flatMap_append]
  simp
theorem up_step {i j : Nat} {ss : List Seg} {s : Seg} (h : ss[j]? = some s) : up i (ss.take (j + 1)) = up i (ss.take j) ++ [-(-c0 i s / s.d), -(-c1 i s / s.d)] := by
  unfold up
  rw [List.take_add_one, h, List.flatMap_append]
  simp
theorem dn_len (i : Nat) (ss : List Seg) : (dn i ss).length = 2 * ss.length := by
  unfold dn
  induction ss with
  | nil => rfl
  | cons s ss ih => rw [List.flatMap_cons, List.length_append, ih]; simp only [List.length_cons, List.length_nil]; omega
theorem up_len (i : Nat) (ss : List Seg) : (up i ss).length = 2 * ss.length := by
  unfold up
  induction ss with
  | nil => rfl
  | cons s ss ih => rw [List.flatMap_cons, List.length_append, ih]; simp only [List.length_cons, List.length_nil]; omega
/-- both bounds along an axis -/
def axLo (E : Est) (m px py : Int) (ss : List Seg) (i : Nat) : Int := nlo (aLo E i) (aP px py i) m i ss
def axHi (E : Est) (m px py : Int) (ss : List Seg) (i : Nat) : Int := nhi (aHi E i) (aP px py i) m i ss
def axs (E : Est) (m px py : Int) (ss : List Seg) : Nat → List Int
  | 0 => []
  | i + 1 => axs E m px py ss i ++ [axLo E m px py ss i, axHi E m px py ss i]
theorem nar_none {E : Est} {m px py : Int} {ss : List Seg} {i : Nat} (h : i < 2) (c : axHi E m px py ss i < axLo E m px py ss i) : nar E m px py ss = none := by
  unfold nar
  match i, h with
  | 0, _ => rw [if_pos (.inl c)]
  | 1, _ => rw [if_pos (.inr c)]
theorem nar_some {E : Est} {m px py : Int} {ss : List Seg} (c : ∀ i, i < 2 → axLo E m px py ss i ≤ axHi E m px py ss i) : nar E m px py ss = some ⟨axLo E m px py ss 0, axHi E m px py ss 0, axLo E m px py ss 1, axHi E m px py ss 1⟩ := by
  have a : nlo E.x1 px m 0 ss ≤ nhi E.x2 px m 0 ss := c 0 (by decide)
  have b : nlo E.y1 py m 1 ss ≤ nhi E.y2 py m 1 ss := c 1 (by decide)
  unfold nar
  rw [if_neg (by omega)]
  rfl
def spVecR (K : PySem.W.Frag) : Sp := fun vs H Q _ => ∃ (d c : Addr) (m : Int), vs = [.ref d, .int m] ∧ St1 K H d c ∧ 0 ≤ m ∧ m ≤ 2000 ∧
  ∀ (q : Addr) (x y : Int) (H' : Hp), H q = none → H' q = some (.tup [.int x, .int y]) → -m ≤ x → x ≤ m → -m ≤ y → y ≤ m → St1 K H' d c → Keep d H H' → Q (.ref q) H'
def spLNar : Sp := fun vs H Q _ => ∃ (e q l : Addr) (m : Int) (E : Est) (px py pz : Int) (ss : List Seg), vs = [.ref e, .int m, .ref q, .ref l] ∧ H e = some (.tup E.v) ∧ H q = some (.tup [.int px, .int py, .int pz]) ∧ LoT H l (ss.map Seg.li) ∧ (∀ s ∈ ss, SegBd 200 100 s ∧ 1 ≤ s.d) ∧ ss ≠ [] ∧ ss.length ≤ 100 ∧
  ∀ (v : V) (H' : Hp), Same H H' → optE H' (nar E m px py ss) v → Q v H'
def nearB (px py d x y m : Int) : Bool := decide ((px - x * d) * (px - x * d) + (py - y * d) * (py - y * d) ≤ m * m * d * d)
def spNear : Sp := fun vs H Q _ => ∃ (q : Addr) (px py d x y m : Int), vs = [.ref q, .int x, .int y, .int m] ∧ H q = some (.tup [.int px, .int py, .int d]) ∧ BdN 200 px ∧ BdN 200 py ∧ BdN 30 d ∧ BdN 300 x ∧ BdN 300 y ∧ BdN 100 m ∧ Q (.bl (nearB px py d x y m)) H
def spLCor : Sp := fun vs H Q _ => ∃ (e q : Addr) (rd : Int) (E : Est) (px py pz : Int), vs = [.ref e, .ref q, .int rd] ∧ H e = some (.tup E.v) ∧ H q = some (.tup [.int px, .int py, .int pz]) ∧
  0 ≤ side E.x1 E.x2 ∧ side E.x1 E.x2 ≤ 1000000 ∧ 0 ≤ side E.y1 E.y2 ∧ side E.y1 E.y2 ≤ 1000000 ∧
  ∀ (u v : Addr) (H' : Hp), Same H H' → H' u = some (.tup [.ref v, .int (rd + rt (side E.x1 E.x2 * side E.x1 E.x2 + side E.y1 E.y2 * side E.y1 E.y2))]) → H' v = some (.tup [.int (px - mid E.x1 E.x2), .int (py - mid E.y1 E.y2), .int pz]) → Q (.ref u) H'
end Sk
namespace Sk
open PySem PySem.Spec PyProof.Rows L2
structure EstOk (E : Est) (ox oy : Int) : Prop where
  x0 : E.x1 ≤ ox
  x1 : ox ≤ E.x2
  y0 : E.y1 ≤ oy
  y1 : oy ≤ E.y2
  bx0 : -20000 ≤ E.x1
  bx1 : E.x2 ≤ 20000
  by0 : -20000 ≤ E.y1
  by1 : E.y2 ≤ 20000
theorem near_sides {px py d x y m : Int} (hd : 1 ≤ d) (hm : 0 ≤ m) (h : nearB px py d x y m = true) : ((x - m) * d ≤ px ∧ px ≤ (x + m) * d) ∧ (y - m) * d ≤ py ∧ py ≤ (y + m) * d := by
  have h := of_decide_eq_true h
  have e : m * m * d * d = (m * d) * (m * d) := by grind
  rw [e] at h
  have md : 0 ≤ m * d := Int.mul_nonneg hm (by omega)
  have a := side_of md h
  have b := side_of md (show (py - y * d) * (py - y * d) + (px - x * d) * (px - x * d) ≤ (m * d) * (m * d) by omega)
  have e1 : (x - m) * d = x * d - m * d := Int.sub_mul ..
  have e2 : (x + m) * d = x * d + m * d := Int.add_mul ..
  have e3 : (y - m) * d = y * d - m * d := Int.sub_mul ..
  have e4 : (y + m) * d = y * d + m * d := Int.add_mul ..
  omega
theorem nar_fits {E : Est} {ox oy m x y px py d : Int} {ss : List Seg} (hd : 1 ≤ d) (hm : 0 ≤ m) (ok : EstOk E ox oy) (on : ∃ s ∈ ss, OnS px py d s) (sd : ∀ s ∈ ss, SegBd 200 100 s ∧ 1 ≤ s.d) (near : nearB px py d x y m = true) :
    ∃ E2, nar E m (x + ox) (y + oy) ss = some E2 ∧ EstOk E2 ox oy ∧ E.x1 ≤ E2.x1 ∧ E2.y2 ≤ E.y2 := by
  obtain ⟨s, hs, u, v, u0, v0, uv, ex, ey⟩ := on
  obtain ⟨⟨a, b⟩, c, e⟩ := near_sides hd hm near
  have s1 := (sd s hs).2
  have p1 : x - m ≤ maxs (dn 0 ss) := below_max (i := 0) hs hd s1 u0 v0 uv ex a
  have p2 : mins (up 0 ss) ≤ x + m := above_min (i := 0) hs hd s1 u0 v0 uv ex b
  have p3 : y - m ≤ maxs (dn 1 ss) := below_max (i := 1) hs hd s1 u0 v0 uv ey c
  have p4 : mins (up 1 ss) ≤ y + m := above_min (i := 1) hs hd s1 u0 v0 uv ey e
  obtain ⟨k1, k2, k3, k4, k5, k6, k7, k8⟩ := ok
  have q1 : nlo E.x1 (x + ox) m 0 ss ≤ ox ∧ E.x1 ≤ nlo E.x1 (x + ox) m 0 ss := by unfold nlo; split <;> omega
  have q2 : ox ≤ nhi E.x2 (x + ox) m 0 ss ∧ nhi E.x2 (x + ox) m 0 ss ≤ E.x2 := by unfold nhi; split <;> omega
  have q3 : nlo E.y1 (y + oy) m 1 ss ≤ oy ∧ E.y1 ≤ nlo E.y1 (y + oy) m 1 ss := by unfold nlo; split <;> omega
  have q4 : oy ≤ nhi E.y2 (y + oy) m 1 ss ∧ nhi E.y2 (y + oy) m 1 ss ≤ E.y2 := by unfold nhi; split <;> omega
  refine ⟨⟨nlo E.x1 (x + ox) m 0 ss, nhi E.x2 (x + ox) m 0 ss, nlo E.y1 (y + oy) m 1 ss, nhi E.y2 (y + oy) m 1 ss⟩, ?_, ⟨q1.1, q2.1, q3.1, q4.1, ?_, ?_, ?_, ?_⟩, q1.2, q4.2⟩
  · unfold nar
    rw [if_neg (by omega)]
  all_goals (dsimp only; omega)
theorem side_bd {a b : Int} (h : a ≤ b) : 0 ≤ side a b ∧ side a b ≤ b - a := by
  unfold side mid
  split <;> omega
theorem side_in {a b o : Int} (h0 : a ≤ o) (h1 : o ≤ b) : -(side a b) ≤ o - mid a b ∧ o - mid a b ≤ side a b := by
  unfold side mid
  split <;> omega
theorem near_told {E : Est} {ox oy m x y px py d R : Int} (hd : 1 ≤ d) (hm : 0 ≤ m) (hR : 0 ≤ R) (ok : EstOk E ox oy) (near : nearB px py d x y m = true) (hS : side E.x1 E.x2 * side E.x1 E.x2 + side E.y1 E.y2 * side E.y1 E.y2 ≤ R * R) :
    nearB px py d (x + ox - mid E.x1 E.x2) (y + oy - mid E.y1 E.y2) (m + R) = true := by
  have near := of_decide_eq_true near
  obtain ⟨k1, k2, k3, k4, _, _, _, _⟩ := ok
  have sx := side_in k1 k2
  have sy := side_in k3 k4
  have bx := side_bd (show E.x1 ≤ E.x2 by omega)
  have by' := side_bd (show E.y1 ≤ E.y2 by omega)
  generalize side E.x1 E.x2 = sx' at *
  generalize side E.y1 E.y2 = sy' at *
  generalize ec : ox - mid E.x1 E.x2 = cx at *
  generalize ee : oy - mid E.y1 E.y2 = cy at *
  have h1 := sq_le sx.1 sx.2
  have h2 := sq_le sy.1 sy.2
  have md : 0 ≤ m * d := Int.mul_nonneg hm (by omega)
  have rdd : 0 ≤ R * d := Int.mul_nonneg hR (by omega)
  have e1 : m * m * d * d = (m * d) * (m * d) := by grind
  rw [e1] at near
  have h3 : (-(cx * d)) * (-(cx * d)) + (-(cy * d)) * (-(cy * d)) ≤ (R * d) * (R * d) := by
    have q := Int.mul_le_mul_of_nonneg_right (show cx * cx + cy * cy ≤ R * R by omega) (sq0 d)
    have e2 : (-(cx * d)) * (-(cx * d)) + (-(cy * d)) * (-(cy * d)) = (cx * cx + cy * cy) * (d * d) := by grind
    have e3 : (R * d) * (R * d) = R * R * (d * d) := by grind
    rw [e2, e3]
    exact q
  have t := tri md rdd near h3
  refine decide_eq_true ?_
  have e4 : px - (x + ox - mid E.x1 E.x2) * d = (px - x * d) + -(cx * d) := by rw [← ec]; grind
  have e5 : py - (y + oy - mid E.y1 E.y2) * d = (py - y * d) + -(cy * d) := by rw [← ee]; grind
  have e6 : (m + R) * (m + R) * d * d = (m * d + R * d) * (m * d + R * d) := by grind
  rw [e4, e5, e6]
  exact t
theorem BdN.ediv {n : Nat} {x d : Int} (h : BdN n x) (hd : 1 ≤ d) : BdN n (x / d) := by
  have a : (x / d).natAbs ≤ x.natAbs := by
    rcases Int.lt_or_le x 0 with z | z
    · have h1 : x / d < 0 := Int.ediv_neg_of_neg_of_pos z (by omega)
      have h2 : x ≤ x / d := by
        rw [Int.le_ediv_iff_mul_le (by omega)]
        have := Int.mul_le_mul_of_nonpos_left (show x ≤ 0 by omega) (show (1 : Int) ≤ d from hd)
        omega
      omega
    · have h1 : 0 ≤ x / d := Int.ediv_nonneg z (by omega)
      have h2 : x / d ≤ x := Int.ediv_le_self d z
      omega
  exact Nat.le_trans a h
theorem pdc_can (a b c n : Int) : (PyData.tuple [.tuple ([a, b, c].map .int), .int n]).canLay0 = true := by rfl
theorem pdc_sh (a b c n : Int) : SeqAt.shaped (.tuple [.tuple ([a, b, c].map .int), .int n]) = true := by
  refine sh_of (pdc_can a b c n) ?_
  show PyData.depthAll _ + 1 ≤ 64
  have : PyData.depthAll [PyData.tuple ([a, b, c].map .int), .int n] ≤ 3 := dpa fun x hx => by
    simp only [List.mem_cons, List.not_mem_nil, or_false] at hx
    rcases hx with rfl | rfl
    · exact Nat.le_trans (dep_pd [a, b, c]) (by decide)
    · exact Nat.zero_le _
  omega
theorem pdc_dp {K : PySem.W.Frag} {H : Hp} {u v : Addr} {a b c n : Int} (hu : H u = some (.tup [.ref v, .int n])) (hv : H v = some (.tup [.int a, .int b, .int c])) : Dp K H (.ref u) (.tuple [.tuple ([a, b, c].map .int), .int n]) :=
  .tup (.inl (.inl hu)) (.cons (.tup (.inl (.inl hv)) (dpAll_int [_, _, _])) (.cons (.int _) .nil))
end Sk

set_option Elab.async false
set_option linter.all false
set_option maxRecDepth 100000
set_option maxHeartbeats 4000000
namespace Sk
open PySem PySem.Spec PyProof.Rows L2
/-! xs[::-1] of a list -/
theorem back_range (n : Nat) : sliceRange ((n : Int) - 1) (-1) (-1) = (List.range n).map fun k => n - 1 - k := by
  unfold sliceRange
  rw [if_neg (by decide)]
  have e : (if ((n : Int) - 1) > -1 then (((n : Int) - 1) - (-1) - (-1) - 1) / (-(-1)) else 0) = (n : Int) := by
    have e1 : (((n : Int) - 1) - (-1) - (-1) - 1) / (-(-1)) = (n : Int) := by
      rw [show (-(-1) : Int) = 1 from rfl, Int.ediv_one]
      omega
    rw [e1]
    split <;> omega
  rw [e]
  show (List.range ((n : Int)).toNat).map _ = _
  rw [Int.toNat_natCast]
  apply List.map_congr_left
  intro k hk
  have := List.mem_range.mp hk
  omega
theorem fm_congr {α β : Type} {f g : α → Option β} : ∀ {l : List α}, (∀ x ∈ l, f x = g x) → l.filterMap f = l.filterMap g
  | [], _ => rfl
  | x :: l, h => by
    rw [List.filterMap_cons, List.filterMap_cons, h x (List.mem_cons_self ..), fm_congr (l := l) fun y hy => h y (List.mem_cons_of_mem _ hy)]
theorem pick_back {α : Type} (xs : List α) : (((List.range xs.length).map fun k => xs.length - 1 - k).filterMap (xs[·]?)) = xs.reverse := by
  induction xs with
  | nil => rfl
  | cons x xs ih =>
    rw [List.length_cons, List.range_succ, List.map_append, List.filterMap_append, List.reverse_cons]
    congr 1
    · rw [← ih, List.filterMap_map, List.filterMap_map]
      apply fm_congr
      intro k hk
      have := List.mem_range.mp hk
      show (x :: xs)[xs.length + 1 - 1 - k]? = xs[xs.length - 1 - k]?
      rw [show xs.length + 1 - 1 - k = (xs.length - 1 - k) + 1 by omega, List.getElem?_cons_succ]
    · simp
theorem slicePick_back (its : List Value) : slicePick its.toArray none none (some (-1)) = its.reverse.toArray := by
  have e : sliceBounds none none (some (-1)) its.toArray.size = ((its.length : Int) - 1, -1, -1) := by
    rw [List.size_toArray]
    rfl
  unfold slicePick
  rw [e, back_range]
  congr 1
  have := pick_back its
  simpa using this
/-- what is asked of xs[::st] -/
def tBack (K : PySem.W.Frag) (te ts : TE) : TE := fun σ H Q => te σ H fun x H1 => ts σ H1 fun y H2 => y = .int (-1) ∧ ∃ a xs, x = .ref a ∧ SqL K H2 a xs ∧ ∀ p, H2 p = none → Q (.ref p) (upd H2 p (.lst xs.reverse))
theorem pe_back {X : Cx} {e st : Expr} {te ts : TE} {p2 pos : Pos} (he : PE X e te) (hst : PE X st ts) : PE X (.Subscript e (.Slice none none (some st) p2) pos) (tBack X.K te ts) := by
  refine ⟨fun pins s σ H Q I h => ?_⟩
  refine Subscript_ (thn (he.run pins s σ H _ I h) fun v s1 ⟨x, H1, I1, r1, q1⟩ => ?_)
  refine wpAny_Slice ?_
  rw [evalPart_none]
  refine wpAny_pure ?_
  refine wpAny_pure ?_
  rw [evalPart_some]
  refine thn (hst.run pins s1 σ H1 _ I1 q1) fun vs s2 ⟨y, H2, I2, r2, q2⟩ => ?_
  obtain ⟨rfl, a, xs, rfl, hx, q⟩ := q2
  obtain ⟨t, rfl⟩ := r2
  cases r1
  have I4 : Inv X pins σ H2 { s2 with heap := s2.heap.push { cls := .type "slice", data := .fields #[.none, .none, .int (-1) t] } } := I2.kept (t' := s2.toks) fun b ob q => Heap.get?_push_of_some _ q
  obtain ⟨its, r, ht, hz⟩ := I4.list hx
  have hg : wpAny (model X.prog X.w) X.A (getItem (.ref a) (.ref s2.heap.objs.size)) (EP X pins σ Q) X.xe { s2 with heap := s2.heap.push { cls := .type "slice", data := .fields #[.none, .none, .int (-1) t] } } := by
    refine wpAny_getItem_list_slice ht.isList (Heap.IsSliceOf.new ..) .none .none (.int (-1) t) (by simp) ?_ (by rw [List.size_toArray]; exact r.length ▸ hz)
    rw [slicePick_back]
    refine ⟨.ref _, _, I4.laid (t' := s2.toks) (o := .lst xs.reverse) (fun b ob q => Heap.get?_push_of_some _ q) (Nat.le_refl _) ?_, rfl, q _ (I4.hok.fresh (Nat.le_refl _))⟩
    exact ⟨by rw [List.length_reverse]; exact hz, _, 0, r.reverse, Heap.get?_push_size _ rfl⟩
  show wpAny (model X.prog X.w) X.A (subscriptTail e (.Slice none none (some st) p2) (.ref a) (.ref s2.heap.objs.size)) (EP X pins σ Q) X.xe { s2 with heap := s2.heap.push { cls := .type "slice", data := .fields #[.none, .none, .int (-1) t] } }
  exact tail_any (ops := [.ref a, .ref s2.heap.objs.size]) ht.isList.typeIs list_getitem_lookup hg (by with_unfolding_all rfl)
end Sk

set_option Elab.async false
set_option linter.all false
set_option maxRecDepth 100000
set_option maxHeartbeats 4000000
namespace Sk
open PySem PySem.Spec PyProof.Rows L2
structure Fr where
  x : Int
  y : Int
  z : Int
  c : Int
structure Fr.Ok (f : Fr) : Prop where
  x0 : -8388608 ≤ f.x
  x1 : f.x ≤ 8388607
  y0 : -8388608 ≤ f.y
  y1 : f.y ≤ 8388607
  z0 : -32768 ≤ f.z
  z1 : f.z ≤ 32767
  c0 : 0 ≤ f.c
  c1 : f.c < 256
def ten (f : Fr) : List Int := [170, (f.x + 8388608) / 65536, (f.x + 8388608) / 256 % 256, (f.x + 8388608) % 256, (f.y + 8388608) / 65536, (f.y + 8388608) / 256 % 256, (f.y + 8388608) % 256, (f.z + 32768) / 256, (f.z + 32768) % 256, f.c]
def fr (f : Fr) : List Int := ten f ++ [(ten f).sum % 251]
theorem fr_len (f : Fr) : (fr f).length = 11 := rfl
def num (ns : List Int) : Int := ns.foldl (fun t n => t * 256 + n) 0
theorem num_snoc (ns : List Int) (n : Int) : num (ns ++ [n]) = num ns * 256 + n := by simp [num]
def isFr (ys : List Int) : Bool := decide (ys.getD 0 0 = 170) && decide (ys.getD 10 0 = (ys.take 10).sum % 251)
def cont (ys : List Int) : Fr := ⟨num ((ys.drop 1).take 3) - 8388608, num ((ys.drop 4).take 3) - 8388608, num ((ys.drop 7).take 2) - 32768, ys.getD 9 0⟩
def rd (ys : List Int) : List Fr := if _h : 11 ≤ ys.length then (if isFr ys = true then cont ys :: rd (ys.drop 11) else rd (ys.drop 1)) else []
termination_by ys.length
decreasing_by all_goals (rw [List.length_drop]; omega)
theorem rd_short {ys : List Int} (h : ys.length < 11) : rd ys = [] := by rw [rd, dif_neg (by omega)]
theorem rd_yes {ys : List Int} (h : 11 ≤ ys.length) (e : isFr ys = true) : rd ys = cont ys :: rd (ys.drop 11) := by rw [rd, dif_pos h, if_pos e]
theorem rd_no {ys : List Int} (h : 11 ≤ ys.length) (e : isFr ys = false) : rd ys = rd (ys.drop 1) := by rw [rd, dif_pos h, if_neg (by rw [e]; decide)]
theorem rd_noise {n : List Int} (ys : List Int) (h : ∀ x ∈ n, x ≠ 170) : rd (n ++ ys) = rd ys := by
  induction n with
  | nil => rfl
  | cons a n ih =>
    have ih := ih fun x hx => h x (List.mem_cons_of_mem _ hx)
    rcases Nat.lt_or_ge ((a :: n) ++ ys).length 11 with l | l
    · rw [rd_short l]
      have l2 : ys.length < 11 := by
        rw [List.length_append] at l
        omega
      rw [rd_short l2]
    · have e : isFr ((a :: n) ++ ys) = false := by
        have := h a (List.mem_cons_self ..)
        simp [isFr, this]
      rw [rd_no l e]
      exact ih
theorem rd_fr {f : Fr} (k : f.Ok) (ys : List Int) : rd (fr f ++ ys) = f :: rd ys := by
  have hl : 11 ≤ (fr f ++ ys).length := by rw [List.length_append, fr_len]; omega
  have e : isFr (fr f ++ ys) = true := by
    simp [isFr, fr, ten]
  rw [rd_yes hl e]
  have hd : (fr f ++ ys).drop 11 = ys := by
    have := List.drop_left (l₁ := fr f) (l₂ := ys)
    rw [fr_len] at this
    exact this
  rw [hd]
  congr 1
  obtain ⟨x, y, z, c⟩ := f
  obtain ⟨x0, x1, y0, y1, z0, z1, c0, c1⟩ := k
  simp only at x0 x1 y0 y1 z0 z1 c0 c1
  show Fr.mk _ _ _ _ = _
  have ex : num [(x + 8388608) / 65536, (x + 8388608) / 256 % 256, (x + 8388608) % 256] - 8388608 = x := by
    simp only [num, List.foldl_cons, List.foldl_nil]
    omega
  have ey : num [(y + 8388608) / 65536, (y + 8388608) / 256 % 256, (y + 8388608) % 256] - 8388608 = y := by
    simp only [num, List.foldl_cons, List.foldl_nil]
    omega
  have ez : num [(z + 32768) / 256, (z + 32768) % 256] - 32768 = z := by
    simp only [num, List.foldl_cons, List.foldl_nil]
    omega
  simp only [fr, ten, List.cons_append, List.nil_append, List.drop_succ_cons, List.drop_zero, List.take_succ_cons, List.take_zero, List.getD_cons_succ, List.getD_cons_zero]
  rw [ex, ey, ez]
def Byte (n : Int) : Prop := 0 ≤ n ∧ n < 256
theorem fr_byte {f : Fr} (k : f.Ok) : ∀ n ∈ fr f, Byte n := by
  obtain ⟨x, y, z, c⟩ := f
  obtain ⟨x0, x1, y0, y1, z0, z1, c0, c1⟩ := k
  simp only at x0 x1 y0 y1 z0 z1 c0 c1
  intro n hn
  simp only [fr, ten, List.cons_append, List.nil_append, List.mem_cons, List.not_mem_nil, or_false] at hn
  unfold Byte
  rcases hn with rfl | rfl | rfl | rfl | rfl | rfl | rfl | rfl | rfl | rfl | rfl <;> omega
/-- the last bytes of a number, the lowest first -/
def lowb : Nat → Int → List Int
  | 0, _ => []
  | k + 1, n => lowb k n ++ [n / 256 ^ k % 256]
theorem lowb_len (k : Nat) (n : Int) : (lowb k n).length = k := by
  induction k with
  | zero => rfl
  | succ k ih => simp [lowb, ih]
theorem div_pow (n : Int) (k : Nat) : n / 256 ^ k / 256 = n / 256 ^ (k + 1) := by
  rw [Int.ediv_ediv_of_nonneg (by exact Int.pow_nonneg (by decide)), Int.pow_succ]
theorem high3 {n : Int} (h0 : 0 ≤ n) (h1 : n < 16777216) : (lowb 3 n).reverse = [n / 65536, n / 256 % 256, n % 256] := by
  have e : n / 65536 % 256 = n / 65536 := by omega
  simp [lowb, e]
theorem high2 {n : Int} (h0 : 0 ≤ n) (h1 : n < 65536) : (lowb 2 n).reverse = [n / 256, n % 256] := by
  have e : n / 256 % 256 = n / 256 := by omega
  simp [lowb, e]
theorem num_bd {ns : List Int} (h : ∀ n ∈ ns, Byte n) (k : ns.length ≤ 3) : 0 ≤ num ns ∧ num ns < 16777216 := by
  match ns, k with
  | [], _ => decide
  | [a], _ => 
    have a1 := h a (by simp)
    unfold Byte at a1
    simp [num]; omega
  | [a, b], _ => 
    have a1 := h a (by simp)
    have a2 := h b (by simp)
    unfold Byte at a1 a2
    simp [num]; omega
  | [a, b, c], _ => 
    have a1 := h a (by simp)
    have a2 := h b (by simp)
    have a3 := h c (by simp)
    unfold Byte at a1 a2 a3
    simp [num]; omega

/-! frames in a heap -/
def frT (f : Fr) : List V := [.int f.x, .int f.y, .int f.z]
inductive Frs (H : Hp) : List V → List Fr → Prop
  | nil : Frs H [] []
  | cons {p q : Addr} {f : Fr} {xs : List V} {fs : List Fr} : H p = some (.tup [.ref q, .int f.c]) → H q = some (.tup (frT f)) → Frs H xs fs → Frs H (.ref p :: xs) (f :: fs)
theorem Frs.snoc {H : Hp} {xs : List V} {fs : List Fr} (h : Frs H xs fs) {p q : Addr} {f : Fr} (hp : H p = some (.tup [.ref q, .int f.c])) (hq : H q = some (.tup (frT f))) : Frs H (xs ++ [.ref p]) (fs ++ [f]) := by
  induction h with
  | nil => exact .cons hp hq .nil
  | cons a b c ih => exact .cons a b ih
theorem Frs.move {H H' : Hp} {xs : List V} {fs : List Fr} (h : Frs H xs fs) (k : ∀ q u, H q = some (.tup u) → H' q = some (.tup u)) : Frs H' xs fs := by
  induction h with
  | nil => exact .nil
  | cons a b c ih => exact .cons (k _ _ a) (k _ _ b) ih
theorem Frs.len {H : Hp} {xs : List V} {fs : List Fr} (h : Frs H xs fs) : xs.length = fs.length := by
  induction h with
  | nil => rfl
  | cons a b c ih => rw [List.length_cons, List.length_cons, ih]
def pdF (f : Fr) : PyData := .tuple [.tuple ([f.x, f.y, f.z].map .int), .int f.c]
theorem Frs.data {K : PySem.W.Frag} {H : Hp} {xs : List V} {fs : List Fr} (h : Frs H xs fs) : DpAll K H xs (fs.map pdF) := by
  induction h with
  | nil => exact .nil
  | cons a b c ih => exact .cons (.tup (.inl (.inl a)) (.cons (.tup (.inl (.inl b)) (dpAll_int [_, _, _])) (.cons (.int _) .nil))) ih
theorem can_f (f : Fr) : (pdF f).canLay0 = true := by rfl
theorem dep_f (f : Fr) : (pdF f).depth ≤ 4 := by
  show PyData.depthAll _ + 1 ≤ 4
  have : PyData.depthAll [PyData.tuple ([f.x, f.y, f.z].map .int), .int f.c] ≤ 3 := dpa fun x hx => by
    simp only [List.mem_cons, List.not_mem_nil, or_false] at hx
    rcases hx with rfl | rfl
    · exact Nat.le_trans (dep_pd [f.x, f.y, f.z]) (by decide)
    · exact Nat.zero_le _
  omega
theorem can_fs (fs : List Fr) : (PyData.list (fs.map pdF)).canLay0 = true := by
  show PyData.canLayAll0 _ = true
  refine cla fun x hx => ?_
  obtain ⟨n, hn, rfl⟩ := List.mem_map.mp hx
  exact can_f n
theorem sh_fs (fs : List Fr) : SeqAt.shaped (.list (fs.map pdF)) = true := by
  refine sh_of (can_fs fs) ?_
  show PyData.depthAll _ + 1 ≤ 64
  have : PyData.depthAll (fs.map pdF) ≤ 4 := dpa fun x hx => by
    obtain ⟨n, _, rfl⟩ := List.mem_map.mp hx
    exact dep_f n
  omega
theorem can_li (xs : List Int) : (PyData.list (xs.map .int)).canLay0 = true := by
  show PyData.canLayAll0 _ = true
  refine cla fun x hx => ?_
  obtain ⟨n, hn, rfl⟩ := List.mem_map.mp hx
  rfl
theorem sh_li (xs : List Int) : SeqAt.shaped (.list (xs.map .int)) = true := by
  refine sh_of (can_li xs) ?_
  show PyData.depthAll _ + 1 ≤ 64
  have : PyData.depthAll (xs.map PyData.int) ≤ 1 := dpa fun x hx => by
    obtain ⟨n, _, rfl⟩ := List.mem_map.mp hx
    exact Nat.zero_le _
  omega
theorem eqvY {d : PyData} {A B : Prop} (h : d.canLay0 = true) (q : A) : if (PyData.eqv d d) = true then A else B := by
  rw [SeqAt.eqv_refl d h]
  exact iteT q
/-! places -/
theorem cutV_nat (xs : List V) (i j : Nat) (hj : j ≤ xs.length) (hi : i ≤ j) : cutV xs (some (i : Int)) (some (j : Int)) = (xs.drop i).take (j - i) := by
  unfold cutV
  rw [HT.sIx_nat, HT.sIx_nat, Nat.min_eq_left (by omega), Nat.min_eq_left (by omega)]
theorem map_cut (ns : List Int) (i j : Nat) (hj : j ≤ ns.length) (hi : i ≤ j) : cutV (ns.map V.int) (some (i : Int)) (some (j : Int)) = (((ns.drop i).take (j - i)).map V.int) := by
  rw [cutV_nat _ _ _ (by rw [List.length_map]; exact hj) hi, List.map_take, List.map_drop]
theorem getD_at {ns : List Int} {i : Nat} (h : i < ns.length) : ns[i]? = some (ns.getD i 0) := by
  rw [List.getD_eq_getElem?_getD, List.getElem?_eq_getElem h]; rfl
theorem at_drop {ns : List Int} {i k : Nat} {z : Int} (hz : z = ((i + k : Nat) : Int)) (h : i + k < ns.length) : atI (ns.map V.int) z = some (.int ((ns.drop i).getD k 0)) := by
  rw [hz]
  refine atI_nat ?_
  rw [List.getElem?_map, List.getD_eq_getElem?_getD, List.getElem?_drop, List.getElem?_eq_getElem h]
  rfl
/-! the promises -/
def spBytes : Sp := fun vs H Q _ => ∃ (n : Int) (m : Nat), vs = [.int n, .int m] ∧ 0 ≤ n ∧ n < 16777216 ∧ m ≤ 3 ∧ ∀ p H', H p = none → Same H H' → H' p = some (.lst ((lowb m n).reverse.map V.int)) → Q (.ref p) H'
def spFrame : Sp := fun vs H Q _ => ∃ (a : Addr) (f : Fr), vs = [.ref a, .int f.c] ∧ H a = some (.tup (frT f)) ∧ f.Ok ∧ ∀ p H', H p = none → Same H H' → H' p = some (.lst ((fr f).map V.int)) → Q (.ref p) H'
def spNum (K : PySem.W.Frag) : Sp := fun vs H Q _ => ∃ (a : Addr) (ns : List Int), vs = [.ref a] ∧ SqL K H a (ns.map V.int) ∧ (∀ n ∈ ns, Byte n) ∧ ns.length ≤ 3 ∧ Q (.int (num ns)) H
def spIsFr : Sp := fun vs H Q _ => ∃ (a : Addr) (ns : List Int) (i : Nat), vs = [.ref a, .int i] ∧ H a = some (.lst (ns.map V.int)) ∧ i + 11 ≤ ns.length ∧ ∀ H', Same H H' → Q (.bl (isFr (ns.drop i))) H'
def spCont : Sp := fun vs H Q _ => ∃ (a : Addr) (ns : List Int) (i : Nat), vs = [.ref a, .int i] ∧ H a = some (.lst (ns.map V.int)) ∧ i + 11 ≤ ns.length ∧ (∀ n ∈ ns, Byte n) ∧
  ∀ p q H', H p = none → Same H H' → H' p = some (.tup [.ref q, .int (cont (ns.drop i)).c]) → H' q = some (.tup (frT (cont (ns.drop i)))) → Q (.ref p) H'
def spFrames : Sp := fun vs H Q _ => ∃ (a : Addr) (ns : List Int), vs = [.ref a] ∧ H a = some (.lst (ns.map V.int)) ∧ ns.length ≤ 500 ∧ (∀ n ∈ ns, Byte n) ∧
  ∀ p l r xs H', H p = none → H l = none → Same H H' → H' p = some (.tup [.ref l, .ref r]) → H' l = some (.lst xs) → Frs H' xs (rd ns) → Q (.ref p) H'
def spRead : Sp := fun vs H Q _ => ∃ (a : Addr) (ns : List Int), vs = [.ref a] ∧ H a = some (.lst (ns.map V.int)) ∧ ns.length ≤ 500 ∧ (∀ n ∈ ns, Byte n) ∧
  ∀ l xs H', H l = none → Same H H' → H' l = some (.lst xs) → Frs H' xs (rd ns) → Q (.ref l) H'
def spRanged (K : PySem.W.Frag) : Sp := fun vs H Q _ => ∃ (d c : Addr) (lo hi : Int), vs = [.ref d, .int lo, .int hi] ∧ St1 K H d c ∧ lo ≤ -1 ∧ 170 ≤ hi ∧ -8388608 ≤ lo ∧ hi ≤ 8388607 ∧
  ∀ x H', lo ≤ x → x ≤ hi → St1 K H' d c → Keep d H H' → Q (.int x) H'
def spNoise (K : PySem.W.Frag) : Sp := fun vs H Q _ => ∃ (d c : Addr), vs = [.ref d] ∧ St1 K H d c ∧
  ∀ (p : Addr) (ns : List Int) (H' : Hp), H p = none → p ≠ d → p ≠ c → H' p = some (.lst (ns.map V.int)) → ns.length ≤ 12 → (∀ n ∈ ns, Byte n) → (∀ n ∈ ns, n ≠ 170) → St1 K H' d c → Keep d H H' → Q (.ref p) H'
end Sk
namespace Sk
open PySem PySem.Spec PyProof.Rows L2
theorem keepT {H : Hp} {L : Addr} {xs : List V} {o : HO} (h : H L = some (.lst xs)) : ∀ q u, H q = some (.tup u) → (upd H L o) q = some (.tup u) := fun q u hq => by
  rw [upd_ne (ne_of hq h (by intro z; cases z))]
  exact hq
theorem keepU {H H' : Hp} {d L : Addr} {o : HO} (hL : H L = none) (kp : Keep d H H') : Keep d H (upd H' L o) := fun b u e n => by
  rw [upd_ne (ne_of_none e hL)]
  exact kp b u e n
theorem tupS {H H' : Hp} (sm : Same H H') : ∀ q u, H q = some (.tup u) → H' q = some (.tup u) := fun q u h => sm _ _ h
theorem tupK {K : PySem.W.Frag} {d c : Addr} {H H' : Hp} (S : St1 K H d c) (kp : Keep d H H') : ∀ q u, H q = some (.tup u) → H' q = some (.tup u) := fun q u h => kp.t S h
theorem cut_in {ns : List Int} {i a b : Nat} {lo hi : Int} (hlo : lo = ((i + a : Nat) : Int)) (hhi : hi = ((i + b : Nat) : Int)) (h : i + b ≤ ns.length) (ab : a ≤ b) :
    cutV (ns.map V.int) (some lo) (some hi) = (((ns.drop i).drop a).take (b - a)).map V.int := by
  rw [hlo, hhi, map_cut ns (i + a) (i + b) h (by omega), List.drop_drop, show i + b - (i + a) = b - a by omega]
theorem mem_cut {ns : List Int} {P : Int → Prop} {i a k : Nat} (h : ∀ n ∈ ns, P n) : ∀ n ∈ ((ns.drop i).drop a).take k, P n := fun n hn => h n (List.mem_of_mem_drop (List.mem_of_mem_drop (List.mem_of_mem_take hn)))
theorem dec_v (a b : Int) : decide (V.int a = V.int b) = decide (a = b) := by
  by_cases h : a = b
  · subst h; simp
  · have : V.int a ≠ V.int b := fun z => h (V.int.inj z)
    simp [h, this]
theorem isFr_no {ys : List Int} (h : ¬ ys.getD 0 0 = 170) : isFr ys = false := by
  unfold isFr
  rw [decide_eq_false h]
  rfl
theorem isFr_if {ys : List Int} (h : ys.getD 0 0 = 170) : isFr ys = decide (ys.getD 10 0 = (ys.take 10).sum % 251) := by
  unfold isFr
  rw [decide_eq_true h]
  rfl
/-- the first eleven -/
theorem eleven {ys : List Int} (h : 11 ≤ ys.length) : ∃ a0 a1 a2 a3 a4 a5 a6 a7 a8 a9 a10 r, ys = a0 :: a1 :: a2 :: a3 :: a4 :: a5 :: a6 :: a7 :: a8 :: a9 :: a10 :: r := by
  match ys, h with
  | a0 :: a1 :: a2 :: a3 :: a4 :: a5 :: a6 :: a7 :: a8 :: a9 :: a10 :: r, _ => exact ⟨_, _, _, _, _, _, _, _, _, _, _, _, rfl⟩
theorem cont_eq {ys : List Int} (h : 11 ≤ ys.length) : cont ys = ⟨ys.getD 1 0 * 65536 + ys.getD 2 0 * 256 + ys.getD 3 0 - 8388608, ys.getD 4 0 * 65536 + ys.getD 5 0 * 256 + ys.getD 6 0 - 8388608, ys.getD 7 0 * 256 + ys.getD 8 0 - 32768, ys.getD 9 0⟩ := by
  obtain ⟨a0, a1, a2, a3, a4, a5, a6, a7, a8, a9, a10, r, rfl⟩ := eleven h
  show Fr.mk (num [a1, a2, a3] - 8388608) (num [a4, a5, a6] - 8388608) (num [a7, a8] - 32768) a9 = Fr.mk (a1 * 65536 + a2 * 256 + a3 - 8388608) (a4 * 65536 + a5 * 256 + a6 - 8388608) (a7 * 256 + a8 - 32768) a9
  have e1 : num [a1, a2, a3] = a1 * 65536 + a2 * 256 + a3 := by simp only [num, List.foldl_cons, List.foldl_nil]; omega
  have e2 : num [a4, a5, a6] = a4 * 65536 + a5 * 256 + a6 := by simp only [num, List.foldl_cons, List.foldl_nil]; omega
  have e3 : num [a7, a8] = a7 * 256 + a8 := by simp only [num, List.foldl_cons, List.foldl_nil]; omega
  rw [e1, e2, e3]
/-- a place within the eleven that were cut out -/
theorem at_ten {ys : List Int} {k : Nat} {z : Int} (hz : z = (k : Int)) (hk : k < 11) (h : 11 ≤ ys.length) : atI ((ys.take 11).map V.int) z = some (.int (ys.getD k 0)) := by
  rw [hz]
  refine atI_nat ?_
  rw [List.getElem?_map, List.getElem?_take_of_lt hk, getD_at (by omega)]
  rfl
theorem byteD {ns : List Int} (h : ∀ n ∈ ns, Byte n) (i k : Nat) : Byte ((ns.drop i).getD k 0) := by
  rw [List.getD_eq_getElem?_getD, List.getElem?_drop]
  cases e : ns[i + k]? with
  | none => exact ⟨by decide, by decide⟩
  | some x => exact h x (List.mem_of_getElem? e)
theorem wb {n z : Int} (h : Byte n) (hz : z.natAbs < 2 ^ 250) : CMulW n z := wm (by
  unfold Byte at h
  have : n.natAbs < 256 := by omega
  exact Nat.lt_of_lt_of_le this (by decide)) hz
/-- the bytes of the frame, as far as the first i coordinates -/
def by3 (n : Int) : List Int := [n / 65536, n / 256 % 256, n % 256]
def lead (X Y : Int) (i : Nat) : List Int := 170 :: (([X, Y].take i).map by3).flatten
theorem lead_step {X Y : Int} {i : Nat} {x : V} (h : ([V.int X, V.int Y])[i]? = some x) : ∃ z, x = .int z ∧ lead X Y (i + 1) = lead X Y i ++ by3 z ∧ (lead X Y i).length ≤ 4 := by
  match i, h with
  | 0, h => exact ⟨X, (Option.some.inj h).symm, rfl, by show 1 ≤ 4; decide⟩
  | 1, h => exact ⟨Y, (Option.some.inj h).symm, rfl, by show 4 ≤ 4; decide⟩
theorem nE {a b : Addr} {H : Hp} (h : H a = none) (h2 : H b ≠ none) : a ≠ b := fun z => h2 (z ▸ h)
end Sk
namespace Sk
open PySem PySem.Spec PyProof.Rows L2
theorem byte_in {ms : List Int} (h : ∀ n ∈ ms, Byte n) {z : Int} (hz : Byte z) (k : Nat) : ∀ n ∈ ms.take k ++ [z] ++ ms.drop k, Byte n := fun n hn => by
  rcases List.mem_append.mp hn with hn | hn
  · rcases List.mem_append.mp hn with hn | hn
    · exact h n (List.mem_of_mem_take hn)
    · rw [List.mem_singleton.mp hn]; exact hz
  · exact h n (List.mem_of_mem_drop hn)
theorem len_in (ms : List Int) (z : Int) (k : Nat) : (ms.take k ++ [z] ++ ms.drop k).length = ms.length + 1 := by
  rw [List.length_append, List.length_append, List.length_take, List.length_drop]
  show min k ms.length + 1 + (ms.length - k) = _
  omega
theorem map_in (ms : List Int) (z : Int) (k : Nat) : (ms.map V.int).take k ++ [V.int z] ++ (ms.map V.int).drop k = (ms.take k ++ [z] ++ ms.drop k).map V.int := by
  rw [List.map_append, List.map_append, List.map_take, List.map_drop]
  rfl
theorem map_out (ms : List Int) (k : Nat) : (ms.map V.int).eraseIdx k = (ms.eraseIdx k).map V.int := by
  rw [List.eraseIdx_eq_take_drop_succ, List.eraseIdx_eq_take_drop_succ, List.map_append, List.map_take, List.map_drop]
theorem byte_out {ms : List Int} (h : ∀ n ∈ ms, Byte n) (k : Nat) : ∀ n ∈ ms.eraseIdx k, Byte n := fun n hn => h n (List.mem_of_mem_eraseIdx hn)
theorem map_set (ms : List Int) (k : Nat) (z : Int) : (ms.map V.int).set k (.int z) = (ms.set k z).map V.int := by
  rw [List.map_set]
theorem byte_set {ms : List Int} (h : ∀ n ∈ ms, Byte n) {z : Int} (hz : Byte z) (k : Nat) : ∀ n ∈ ms.set k z, Byte n := fun n hn => by
  rcases List.mem_or_eq_of_mem_set hn with hn | hn
  · exact h n hn
  · rw [hn]; exact hz
end Sk

set_option Elab.async false
set_option linter.all false
set_option maxRecDepth 100000
set_option maxHeartbeats 4000000
namespace Sk
/-- the reflected code of a number -/
def enc (n : Nat) : Nat := n ^^^ (n / 2)
/-- a code and all its halves, added without carry -/
def dec (c : Nat) : Nat := if _h : c = 0 then 0 else c ^^^ dec (c / 2)
termination_by c
decreasing_by omega
theorem dec_zero : dec 0 = 0 := by unfold dec; rfl
theorem dec_step (c : Nat) : dec c = c ^^^ dec (c / 2) := by
  rcases Nat.eq_zero_or_pos c with h | h
  · subst h
    rw [show (0:Nat) / 2 = 0 from rfl, dec_zero]
    rfl
  · rw [dec, dif_neg (by omega)]
theorem enc_half (n : Nat) : enc n / 2 = enc (n / 2) := Nat.xor_div_two
theorem dec_enc (n : Nat) : dec (enc n) = n := by
  induction n using Nat.strongRecOn with
  | ind n ih =>
    rcases Nat.eq_zero_or_pos n with h | h
    · subst h
      rw [show enc 0 = 0 from rfl, dec_zero]
    · rw [dec_step, enc_half, ih (n / 2) (by omega)]
      unfold enc
      rw [Nat.xor_assoc, Nat.xor_self, Nat.xor_zero]
theorem dec_half (c : Nat) : dec c / 2 = dec (c / 2) := by
  induction c using Nat.strongRecOn with
  | ind c ih =>
    rcases Nat.eq_zero_or_pos c with h | h
    · subst h
      rw [show (0:Nat) / 2 = 0 from rfl, dec_zero]
    · rw [dec_step c, Nat.xor_div_two, ih (c / 2) (by omega), ← dec_step]
theorem enc_dec (c : Nat) : enc (dec c) = c := by
  unfold enc
  rw [dec_half, dec_step c, Nat.xor_assoc, Nat.xor_self, Nat.xor_zero]
theorem dec_lt {c n : Nat} (h : c < 2 ^ n) : dec c < 2 ^ n := by
  induction c using Nat.strongRecOn generalizing n with
  | ind c ih =>
    rcases Nat.eq_zero_or_pos c with z | z
    · subst z
      rw [dec_zero]; exact h
    · rw [dec_step]
      exact Nat.xor_lt_two_pow h (ih (c / 2) (by omega) (by omega))
theorem enc_lt {c n : Nat} (h : c < 2 ^ n) : enc c < 2 ^ n := Nat.xor_lt_two_pow h (by omega)
theorem xor_mod (a b : Nat) : (a ^^^ b) % 2 = if a % 2 = b % 2 then 0 else 1 := by
  have h := Nat.testBit_xor a b 0
  simp only [Nat.testBit_zero] at h
  rcases Nat.mod_two_eq_zero_or_one a with e1 | e1 <;> rcases Nat.mod_two_eq_zero_or_one b with e2 | e2 <;> rcases Nat.mod_two_eq_zero_or_one (a ^^^ b) with e3 | e3 <;> simp [e1, e2, e3] at h ⊢
/-- the first k bits, the lowest first -/
def bits : Nat → Nat → List Nat
  | 0, _ => []
  | k + 1, n => n % 2 :: bits k (n / 2)
theorem bits_len (k n : Nat) : (bits k n).length = k := by
  induction k generalizing n with
  | zero => rfl
  | succ k ih => simp [bits, ih]
theorem bits_at {k n i : Nat} (h : i < k) : (bits k n)[i]? = some (n / 2 ^ i % 2) := by
  induction k generalizing n i with
  | zero => omega
  | succ k ih =>
    cases i with
    | zero => simp [bits]
    | succ i =>
      rw [bits, List.getElem?_cons_succ, ih (by omega), Nat.div_div_eq_div_mul, Nat.pow_succ, Nat.mul_comm]
theorem bits_snoc (k n : Nat) : bits (k + 1) n = bits k n ++ [n / 2 ^ k % 2] := by
  induction k generalizing n with
  | zero => simp [bits]
  | succ k ih =>
    rw [bits, ih, bits, Nat.div_div_eq_div_mul, Nat.pow_succ, Nat.mul_comm (2 ^ k)]
    rfl
/-- the code that the bits tell, up to the k-th one -/
theorem enc_bit (n k : Nat) : enc n / 2 ^ k % 2 = if n / 2 ^ k % 2 = n / 2 ^ (k + 1) % 2 then 0 else 1 := by
  induction k generalizing n with
  | zero => simpa [enc] using xor_mod n (n / 2)
  | succ k ih =>
    have e : ∀ m : Nat, m / 2 ^ (k + 1) = m / 2 / 2 ^ k := fun m => by rw [Nat.div_div_eq_div_mul, Nat.pow_succ, Nat.mul_comm]
    have e2 : ∀ m : Nat, m / 2 ^ (k + 1 + 1) = m / 2 / 2 ^ (k + 1) := fun m => by rw [Nat.div_div_eq_div_mul, Nat.pow_succ 2 (k + 1), Nat.mul_comm 2]
    rw [e, e, e2, enc_half, ih]
theorem low_step (c k : Nat) : c % 2 ^ (k + 1) = c % 2 ^ k + 2 ^ k * (c / 2 ^ k % 2) := by
  rw [Nat.pow_succ, Nat.mod_mul]
/-- where the first k bits of two numbers differ -/
def diff (k a b : Nat) : List Nat := (List.range k).filter fun i => decide (a / 2 ^ i % 2 ≠ b / 2 ^ i % 2)
theorem diff_snoc (k a b : Nat) : diff (k + 1) a b = diff k a b ++ (if a / 2 ^ k % 2 ≠ b / 2 ^ k % 2 then [k] else []) := by
  unfold diff
  rw [List.range_succ, List.filter_append]
  congr 1
  by_cases h : a / 2 ^ k % 2 = b / 2 ^ k % 2 <;> simp [h]
theorem diff_len_succ (k a b : Nat) : (diff (k + 1) a b).length = (if a % 2 ≠ b % 2 then 1 else 0) + (diff k (a / 2) (b / 2)).length := by
  induction k with
  | zero => 
    rw [diff_snoc]
    simp [diff]
    split <;> simp
  | succ k ih =>
    rw [diff_snoc, List.length_append, ih, diff_snoc k, List.length_append]
    have e : ∀ m : Nat, m / 2 ^ (k + 1) = m / 2 / 2 ^ k := fun m => by rw [Nat.div_div_eq_div_mul, Nat.pow_succ, Nat.mul_comm]
    rw [e, e]
    by_cases h : a / 2 / 2 ^ k % 2 = b / 2 / 2 ^ k % 2 <;> simp [h] <;> omega
theorem diff_self (k a : Nat) : (diff k a a).length = 0 := by simp [diff]
/-- codes of neighbours differ in one bit -/
theorem one_bit (k n : Nat) (h : n + 1 < 2 ^ k) : (diff k (enc n) (enc (n + 1))).length = 1 := by
  induction k generalizing n with
  | zero => simp at h
  | succ k ih =>
    rw [diff_len_succ, enc_half, enc_half]
    have a0 := enc_bit n 0
    have a1 := enc_bit (n + 1) 0
    simp only [Nat.pow_zero, Nat.div_one, Nat.zero_add, Nat.pow_one] at a0 a1
    rw [a0, a1]
    rcases Nat.mod_two_eq_zero_or_one n with e | e
    · rw [show (n + 1) / 2 = n / 2 by omega, diff_self, e, show (n + 1) % 2 = 1 by omega]
      rcases Nat.mod_two_eq_zero_or_one (n / 2) with e2 | e2 <;> simp [e2]
    · rw [show (n + 1) / 2 = n / 2 + 1 by omega, ih (n / 2) (by rw [Nat.pow_succ] at h; omega), e, show (n + 1) % 2 = 0 by omega]
      rcases Nat.mod_two_eq_zero_or_one (n / 2) with e2 | e2
      · rw [e2, show (n / 2 + 1) % 2 = 1 by omega]; rfl
      · rw [e2, show (n / 2 + 1) % 2 = 0 by omega]; rfl
end Sk
namespace Sk
open PySem PySem.Spec PyProof.Rows L2
/-! as whole numbers of the program -/
def nv (n : Nat) : V := .int (n : Int)
def bL (k n : Nat) : List V := (bits k n).map nv
theorem bL_len (k n : Nat) : (bL k n).length = k := by rw [bL, List.length_map, bits_len]
theorem bL_snoc (k n : Nat) : bL (k + 1) n = bL k n ++ [nv (n / 2 ^ k % 2)] := by rw [bL, bits_snoc, List.map_append]; rfl
theorem bL_at {k n i : Nat} (h : i < k) : (bL k n)[i]? = some (nv (n / 2 ^ i % 2)) := by
  rw [bL, List.getElem?_map, bits_at h]; rfl
theorem half_cast (n : Nat) : ((n : Nat) : Int) / 2 = ((n / 2 : Nat) : Int) := by omega
theorem rem_cast (n : Nat) : ((n : Nat) : Int) % 2 = ((n % 2 : Nat) : Int) := by omega
theorem half_pow (n i : Nat) : n / 2 ^ i / 2 = n / 2 ^ (i + 1) := by rw [Nat.div_div_eq_div_mul, Nat.pow_succ]
theorem xor_cast (a b : Nat) : Builtin.bitXor ((a : Nat) : Int) ((b : Nat) : Int) = ((a ^^^ b : Nat) : Int) := by
  rw [Bits.bitXor_pp (Int.natCast_nonneg _) (Int.natCast_nonneg _)]; rfl
theorem enc_val (n : Nat) : Builtin.bitXor ((n : Nat) : Int) (((n : Nat) : Int) / 2) = ((enc n : Nat) : Int) := by rw [half_cast, xor_cast]; rfl
theorem two (l : Int) : CDivW l 2 := log_of (by decide) (by decide)
theorem nv_ne {a b : Nat} : (!decide (nv a = nv b)) = !decide (a = b) := by
  by_cases h : a = b
  · subst h; simp
  · have : nv a ≠ nv b := fun e => h (by unfold nv at e; injection e with e; omega)
    simp [h, this]
theorem decide_int {z : Int} (n : Nat) (h : z = n) : (.int z : V) = nv n := by rw [h]; rfl
theorem atz {α : Type} {xs : List α} {i : Nat} {v : α} (h : xs[i]? = some v) : atI xs (0 + (i : Int)) = some v := by
  rw [Int.zero_add]
  exact atI_nat h
theorem atz1 {α : Type} {xs : List α} {i : Nat} {v : α} (h : xs[i + 1]? = some v) : atI xs (0 + (i : Int) + 1) = some v := by
  rw [Int.zero_add]
  exact atI_nat (j := i + 1) h
theorem code_step (n i : Nat) : ((enc n % 2 ^ i : Nat) : Int) + ((2 ^ i : Nat) : Int) * (if (!decide (n / 2 ^ i % 2 = n / 2 ^ (i + 1) % 2)) = true then 1 else 0) = ((enc n % 2 ^ (i + 1) : Nat) : Int) := by
  rw [low_step (enc n) i, enc_bit]
  by_cases h : n / 2 ^ i % 2 = n / 2 ^ (i + 1) % 2
  · rw [if_pos h, decide_eq_true h]
    simp
  · rw [if_neg h, decide_eq_false h]
    simp
theorem pow_step (i : Nat) : 2 * ((2 ^ i : Nat) : Int) = ((2 ^ (i + 1) : Nat) : Int) := by
  rw [Nat.pow_succ]
  omega
/-- the promises -/
def spEnc : Sp := fun vs H Q _ => ∃ n : Nat, vs = [nv n] ∧ Q (nv (enc n)) H
def spDec : Sp := fun vs H Q _ => ∃ n : Nat, vs = [nv n] ∧ Q (nv (dec n)) H
def spBits : Sp := fun vs H Q _ => ∃ n : Nat, vs = [nv n] ∧ ∀ p H', H p = none → H' p = some (.lst (bL 17 n)) → Same H H' → Q (.ref p) H'
def spCode : Sp := fun vs H Q _ => ∃ n : Nat, vs = [nv n] ∧ ∀ H', Same H H' → Q (nv (enc n % 2 ^ 16)) H'
end Sk

set_option Elab.async false
set_option linter.all false
set_option maxRecDepth 100000
set_option maxHeartbeats 4000000
namespace Sk
open PySem PySem.Spec PyProof.Rows L2
/-! reading a stream piece by piece -/
/-- what is left behind the last place at which 11 bytes are there -/
def rm (ys : List Int) : List Int := if _h : 11 ≤ ys.length then (if isFr ys = true then rm (ys.drop 11) else rm (ys.drop 1)) else ys
termination_by ys.length
decreasing_by all_goals (rw [List.length_drop]; omega)
theorem rm_short {ys : List Int} (h : ys.length < 11) : rm ys = ys := by rw [rm, dif_neg (by omega)]
theorem rm_yes {ys : List Int} (h : 11 ≤ ys.length) (e : isFr ys = true) : rm ys = rm (ys.drop 11) := by rw [rm, dif_pos h, if_pos e]
theorem rm_no {ys : List Int} (h : 11 ≤ ys.length) (e : isFr ys = false) : rm ys = rm (ys.drop 1) := by rw [rm, dif_pos h, if_neg (by rw [e]; decide)]
theorem cut_tail {ns : List Int} {i : Nat} (h : i ≤ ns.length) : cutV (ns.map V.int) (some (i : Int)) none = (ns.drop i).map V.int := by
  unfold cutV
  rw [HT.sIx_nat, Nat.min_eq_left (by rw [List.length_map]; exact h), List.map_drop]
  show ((ns.map V.int).drop i).take ((ns.map V.int).length - i) = _
  rw [List.take_of_length_le (by rw [List.length_drop]; exact Nat.le_refl _)]
theorem isFr_app {xs : List Int} (ys : List Int) (h : 11 ≤ xs.length) : isFr (xs ++ ys) = isFr xs := by
  obtain ⟨a0, a1, a2, a3, a4, a5, a6, a7, a8, a9, a10, r, rfl⟩ := eleven h
  rfl
theorem cont_app {xs : List Int} (ys : List Int) (h : 11 ≤ xs.length) : cont (xs ++ ys) = cont xs := by
  obtain ⟨a0, a1, a2, a3, a4, a5, a6, a7, a8, a9, a10, r, rfl⟩ := eleven h
  rfl
theorem rdrm_app (ys : List Int) : ∀ (n : Nat) (xs : List Int), xs.length ≤ n → rd (xs ++ ys) = rd xs ++ rd (rm xs ++ ys) ∧ rm (xs ++ ys) = rm (rm xs ++ ys)
  | n, xs, hn => by
    rcases Nat.lt_or_ge xs.length 11 with h | h
    · rw [rd_short h, rm_short h]
      exact ⟨rfl, rfl⟩
    match n with
    | 0 => omega
    | n + 1 =>
      have hl : 11 ≤ (xs ++ ys).length := by rw [List.length_append]; omega
      cases e : isFr xs with
      | true =>
        have e2 : isFr (xs ++ ys) = true := (isFr_app ys h).trans e
        obtain ⟨i1, i2⟩ := rdrm_app ys n (xs.drop 11) (by rw [List.length_drop]; omega)
        rw [rd_yes hl e2, rm_yes hl e2, rd_yes h e, rm_yes h e, cont_app ys h, List.drop_append_of_le_length h, i1, i2]
        exact ⟨rfl, rfl⟩
      | false =>
        have e2 : isFr (xs ++ ys) = false := (isFr_app ys h).trans e
        obtain ⟨i1, i2⟩ := rdrm_app ys n (xs.drop 1) (by rw [List.length_drop]; omega)
        rw [rd_no hl e2, rm_no hl e2, rd_no h e, rm_no h e, List.drop_append_of_le_length (by omega), i1, i2]
        exact ⟨rfl, rfl⟩
theorem rd_app (xs ys : List Int) : rd (xs ++ ys) = rd xs ++ rd (rm xs ++ ys) := (rdrm_app ys _ xs (Nat.le_refl _)).1
theorem rm_app (xs ys : List Int) : rm (xs ++ ys) = rm (rm xs ++ ys) := (rdrm_app ys _ xs (Nat.le_refl _)).2
theorem rm_len (ys : List Int) : (rm ys).length ≤ 10 := by
  induction hn : ys.length using Nat.strongRecOn generalizing ys with
  | ind n ih =>
    rcases Nat.lt_or_ge ys.length 11 with h | h
    · rw [rm_short h]; omega
    cases e : isFr ys with
    | true => rw [rm_yes h e]; exact ih _ (by rw [List.length_drop]; omega) _ rfl
    | false => rw [rm_no h e]; exact ih _ (by rw [List.length_drop]; omega) _ rfl
theorem rm_sub {P : Int → Prop} (ys : List Int) (h : ∀ n ∈ ys, P n) : ∀ n ∈ rm ys, P n := by
  induction hn : ys.length using Nat.strongRecOn generalizing ys with
  | ind n ih =>
    rcases Nat.lt_or_ge ys.length 11 with l | l
    · rw [rm_short l]; exact h
    cases e : isFr ys with
    | true => rw [rm_yes l e]; exact ih _ (by rw [List.length_drop]; omega) _ (fun n hn => h n (List.mem_of_mem_drop hn)) rfl
    | false => rw [rm_no l e]; exact ih _ (by rw [List.length_drop]; omega) _ (fun n hn => h n (List.mem_of_mem_drop hn)) rfl
/-- heights that were read -/
theorem rd_z (ys : List Int) (h : ∀ n ∈ ys, Byte n) : ∀ f ∈ rd ys, 0 ≤ f.z + 32768 ∧ f.z + 32768 < 16777216 ∧ -8388608 ≤ f.x ∧ f.x < 8388608 ∧ -8388608 ≤ f.y ∧ f.y < 8388608 := by
  induction hn : ys.length using Nat.strongRecOn generalizing ys with
  | ind n ih =>
    rcases Nat.lt_or_ge ys.length 11 with l | l
    · rw [rd_short l]; intro f hf; cases hf
    have sub : ∀ k, ∀ n ∈ ys.drop k, Byte n := fun k n hn => h n (List.mem_of_mem_drop hn)
    cases e : isFr ys with
    | true =>
      rw [rd_yes l e]
      intro f hf
      rcases List.mem_cons.mp hf with rfl | hf
      · have bx := num_bd (ns := (ys.drop 1).take 3) (fun n hn => sub 1 n (List.mem_of_mem_take hn)) (by rw [List.length_take]; omega)
        have by' := num_bd (ns := (ys.drop 4).take 3) (fun n hn => sub 4 n (List.mem_of_mem_take hn)) (by rw [List.length_take]; omega)
        have bz := num_bd (ns := (ys.drop 7).take 2) (fun n hn => sub 7 n (List.mem_of_mem_take hn)) (by rw [List.length_take]; omega)
        unfold cont
        dsimp only
        omega
      · exact ih _ (by rw [List.length_drop]; omega) _ (sub 11) rfl f hf
    | false => rw [rd_no l e]; exact ih _ (by rw [List.length_drop]; omega) _ (sub 1) rfl
theorem rm_noise {n : List Int} (ys : List Int) (h : ∀ x ∈ n, x ≠ 170) (l : 11 ≤ ys.length) : rm (n ++ ys) = rm ys := by
  induction n with
  | nil => rfl
  | cons a n ih =>
    have ih := ih fun x hx => h x (List.mem_cons_of_mem _ hx)
    have l2 : 11 ≤ ((a :: n) ++ ys).length := by rw [List.length_append, List.length_cons]; omega
    have e : isFr ((a :: n) ++ ys) = false := by
      have := h a (List.mem_cons_self ..)
      simp [isFr, this]
    rw [rm_no l2 e]
    exact ih
theorem rm_quiet {n : List Int} (h : ∀ x ∈ n, x ≠ 170) : rm n = n.drop (n.length - 10) := by
  induction n with
  | nil => rw [rm_short (by decide)]; rfl
  | cons a n ih =>
    have ih := ih fun x hx => h x (List.mem_cons_of_mem _ hx)
    rcases Nat.lt_or_ge (a :: n).length 11 with l | l
    · rw [rm_short l, show (a :: n).length - 10 = 0 by omega, List.drop_zero]
    · have e : isFr (a :: n) = false := by
        have := h a (List.mem_cons_self ..)
        simp [isFr, this]
      rw [rm_no l e]
      show rm n = _
      rw [ih, List.length_cons, show n.length + 1 - 10 = (n.length - 10) + 1 by rw [List.length_cons] at l; omega]
      rfl
theorem rm_fr {f : Fr} (k : f.Ok) : rm (fr f) = [] := by
  have e : isFr (fr f) = true := by simp [isFr, fr, ten]
  rw [rm_yes (by rw [fr_len]; decide) e, List.drop_of_length_le (by rw [fr_len]; decide), rm_short (by decide)]
theorem rd_part {n : List Int} {f : Fr} (h : ∀ x ∈ n, x ≠ 170) {k : Nat} (hk : k < n.length + 11) : rd ((n ++ fr f).take k) = [] := by
  rw [List.take_append, rd_noise _ (fun x hx => h x (List.mem_of_mem_take hx))]
  exact rd_short (by rw [List.length_take, fr_len]; omega)
/-- bytes that are no marks, frames between them; each frame with the place behind it -/
inductive Strm : List Int → List (Fr × Nat) → Prop
  | nil : Strm [] []
  | snoc {ms : List Int} {fs : List (Fr × Nat)} {n : List Int} {f : Fr} : Strm ms fs → (∀ x ∈ n, Byte x) → (∀ x ∈ n, x ≠ 170) → f.Ok → Strm (ms ++ n ++ fr f) (fs ++ [(f, (ms ++ n ++ fr f).length)])
theorem Strm.rm {ms : List Int} {fs : List (Fr × Nat)} (S : Strm ms fs) : Sk.rm ms = [] ∧ rd ms = fs.map (·.1) := by
  induction S with
  | nil => exact ⟨rm_short (by decide), rd_short (by decide)⟩
  | @snoc ms fs n f S b q k ih =>
    rw [List.append_assoc, rm_app, rd_app, ih.1, ih.2, List.nil_append, rm_noise _ q (by rw [fr_len]; decide), rm_fr k, rd_noise _ q, List.map_append]
    refine ⟨rfl, ?_⟩
    have := rd_fr k []
    rw [List.append_nil] at this
    rw [this, rd_short (by decide)]
    rfl
theorem Strm.at_le {ms : List Int} {fs : List (Fr × Nat)} (S : Strm ms fs) : ∀ a ∈ fs, a.2 ≤ ms.length := by
  induction S with
  | nil => intro a h; cases h
  | @snoc ms fs n f S b q k ih =>
    intro a h
    rcases List.mem_append.mp h with h | h
    · have := ih a h
      rw [List.length_append, List.length_append]; omega
    · rw [List.mem_singleton.mp h]; exact Nat.le_refl _
theorem Strm.byte {ms : List Int} {fs : List (Fr × Nat)} (S : Strm ms fs) : ∀ x ∈ ms, Byte x := by
  induction S with
  | nil => intro a h; cases h
  | @snoc ms fs n f S b q k ih =>
    intro a h
    rcases List.mem_append.mp h with h | h
    · rcases List.mem_append.mp h with h | h
      · exact ih a h
      · exact b a h
    · exact fr_byte k a h
theorem Strm.last {ms : List Int} {fs : List (Fr × Nat)} (S : Strm ms fs) : ((0 : Nat) :: fs.map (·.2)).getLast (by simp) = ms.length := by
  cases S with
  | nil => rfl
  | snoc S b q k =>
    simp only [List.map_append, List.map_cons, List.map_nil]
    rw [List.getLast_cons (by simp), List.getLast_concat]
/-- the frames that end within the first e bytes -/
def upTo (fs : List (Fr × Nat)) (e : Nat) : List (Fr × Nat) := fs.filter fun a => decide (a.2 ≤ e)
theorem upTo_all {fs : List (Fr × Nat)} {e : Nat} (h : ∀ a ∈ fs, a.2 ≤ e) : upTo fs e = fs := List.filter_eq_self.mpr fun a ha => decide_eq_true (h a ha)
theorem Strm.take {ms : List Int} {fs : List (Fr × Nat)} (S : Strm ms fs) (e : Nat) : rd (ms.take e) = (upTo fs e).map (·.1) := by
  induction S with
  | nil => rw [List.take_nil, rd_short (by decide)]; rfl
  | @snoc ms fs n f S b q k ih =>
    unfold upTo
    rw [List.filter_append, List.map_append]
    show _ = (upTo fs e).map _ ++ _
    rcases Nat.lt_or_ge ms.length e with h | h
    · rw [List.append_assoc, List.take_append, List.take_of_length_le (by omega), rd_app, S.rm.1, S.rm.2, List.nil_append, upTo_all fun a ha => Nat.le_trans (S.at_le a ha) (by omega)]
      congr 1
      rcases Nat.lt_or_ge (e - ms.length) (n.length + 11) with z | z
      · rw [rd_part q z]
        have : ¬ ((ms ++ (n ++ fr f)).length ≤ e) := by rw [List.length_append, List.length_append, fr_len]; omega
        simp only [List.filter_cons, List.filter_nil]
        rw [decide_eq_false this]
        rfl
      · rw [List.take_of_length_le (by rw [List.length_append, fr_len]; omega), rd_noise _ q]
        have := rd_fr k []
        rw [List.append_nil] at this
        rw [this, rd_short (by decide)]
        have : (ms ++ (n ++ fr f)).length ≤ e := by rw [List.length_append, List.length_append, fr_len]; omega
        simp only [List.filter_cons, List.filter_nil]
        rw [decide_eq_true this]
        rfl
    · rw [List.append_assoc, List.take_append_of_le_length h, ih]
      have : ¬ ((ms ++ (n ++ fr f)).length ≤ e) := by rw [List.length_append, List.length_append, fr_len]; omega
      simp only [List.filter_cons, List.filter_nil]
      rw [decide_eq_false this]
      exact (List.append_nil _).symm
/-- the whole stream: quiet bytes behind the last frame -/
structure Whole (ms : List Int) (fs : List (Fr × Nat)) : Prop where
  ex : ∃ m n, ms = m ++ n ∧ Strm m fs ∧ (∀ x ∈ n, Byte x) ∧ ∀ x ∈ n, x ≠ 170
theorem Whole.byte {ms : List Int} {fs : List (Fr × Nat)} (W : Whole ms fs) : ∀ x ∈ ms, Byte x := by
  obtain ⟨m, n, rfl, S, b, q⟩ := W.ex
  intro x h
  rcases List.mem_append.mp h with h | h
  · exact S.byte x h
  · exact b x h
theorem Whole.take {ms : List Int} {fs : List (Fr × Nat)} (W : Whole ms fs) (e : Nat) : rd (ms.take e) = (upTo fs e).map (·.1) := by
  obtain ⟨m, n, rfl, S, b, q⟩ := W.ex
  rcases Nat.lt_or_ge m.length e with h | h
  · rw [List.take_append, List.take_of_length_le (by omega), rd_app, S.rm.1, S.rm.2, List.nil_append, upTo_all fun a ha => Nat.le_trans (S.at_le a ha) (by omega)]
    have := rd_noise [] (fun x hx => q x (List.mem_of_mem_take (i := e - m.length) hx))
    rw [List.append_nil] at this
    rw [this, rd_short (by decide), List.append_nil]
  · rw [List.take_append_of_le_length h, S.take]
theorem Whole.rm {ms : List Int} {fs : List (Fr × Nat)} (W : Whole ms fs) : Sk.rm ms = ms.drop (max (((0 : Nat) :: fs.map (·.2)).getLast (by simp)) (ms.length - 10)) := by
  obtain ⟨m, n, rfl, S, b, q⟩ := W.ex
  rw [rm_app, S.rm.1, List.nil_append, rm_quiet q, S.last, List.drop_append, List.length_append]
  rw [List.drop_of_length_le (Nat.le_max_left m.length _), List.nil_append]
  congr 1
  omega
theorem Whole.new {ms : List Int} {fs : List (Fr × Nat)} (W : Whole ms fs) {g e : Nat} (h : g ≤ e) : rd (Sk.rm (ms.take g) ++ (ms.drop g).take (e - g)) = (fs.filter fun a => decide (g < a.2 ∧ a.2 ≤ e)).map (·.1) ∧ Sk.rm (Sk.rm (ms.take g) ++ (ms.drop g).take (e - g)) = Sk.rm (ms.take e) := by
  have et : ms.take e = ms.take g ++ (ms.drop g).take (e - g) := by
    rw [show e = g + (e - g) by omega, List.take_add, show g + (e - g) - g = e - g by omega]
  have a := rd_app (ms.take g) ((ms.drop g).take (e - g))
  have b := rm_app (ms.take g) ((ms.drop g).take (e - g))
  rw [← et] at a b
  rw [W.take, W.take] at a
  refine ⟨?_, b.symm⟩
  have asc : upTo fs e = upTo fs g ++ fs.filter fun a => decide (g < a.2 ∧ a.2 ≤ e) := by
    obtain ⟨m, n, em, S, qb, qn⟩ := W.ex
    clear a b et W em qb qn n
    induction S with
    | nil => rfl
    | @snoc ms fs n f S b q k ih =>
      unfold upTo at *
      rw [List.filter_append, List.filter_append, List.filter_append, ih]
      generalize hL : (ms ++ n ++ fr f).length = L
      by_cases z : L ≤ g
      · -- then nothing of those before lies between
        have no : (fs.filter fun a => decide (g < a.2 ∧ a.2 ≤ e)) = [] := by
          refine List.filter_eq_nil_iff.mpr fun a ha => ?_
          have := S.at_le a ha
          rw [List.length_append, List.length_append] at hL
          simp only [decide_eq_true_eq]
          omega
        rw [no]
        simp only [List.filter_cons, List.filter_nil, List.append_nil]
        rw [decide_eq_true (show L ≤ e by omega), decide_eq_true z, decide_eq_false (show ¬ (g < L ∧ L ≤ e) by omega)]
        simp
      · simp only [List.filter_cons, List.filter_nil]
        rw [decide_eq_false z]
        by_cases y : L ≤ e
        · rw [decide_eq_true y, decide_eq_true (show g < L ∧ L ≤ e by omega)]
          simp
        · rw [decide_eq_false y, decide_eq_false (show ¬ (g < L ∧ L ≤ e) by omega)]
          simp
  rw [asc, List.map_append] at a
  exact (List.append_cancel_left a).symm
/-- the counts: the last one, and how many were lost -/
def noteS (s : Option Int × Int) (c : Int) : Option Int × Int := (some c, s.2 + match s.1 with | none => 0 | some l => (c - l - 1) % 256)
def notes (s : Option Int × Int) (cs : List Int) : Option Int × Int := cs.foldl noteS s
theorem notes_app (s : Option Int × Int) (a b : List Int) : notes s (a ++ b) = notes (notes s a) b := by unfold notes; rw [List.foldl_append]
def spFramesR : Sp := fun vs H Q _ => ∃ (a : Addr) (ns : List Int), vs = [.ref a] ∧ H a = some (.lst (ns.map V.int)) ∧ ns.length ≤ 500 ∧ (∀ n ∈ ns, Byte n) ∧
  ∀ p l r xs H', H p = none → H l = none → H r = none → Same H H' → H' p = some (.tup [.ref l, .ref r]) → H' l = some (.lst xs) → Frs H' xs (rd ns) → H' r = some (.lst ((rm ns).map V.int)) → Q (.ref p) H'
def spVectorR (K : PySem.W.Frag) : Sp := fun vs H Q _ => ∃ (d c : Addr) (r : Int), vs = [.ref d, .int r] ∧ St1 K H d c ∧ 0 ≤ r ∧ r ≤ 2000 ∧ ∀ q x y H', H q = none → H' q = some (.tup [.int x, .int y]) → -2000 ≤ x → x ≤ 2000 → -2000 ≤ y → y ≤ 2000 → x * x + y * y ≤ r * r → St1 K H' d c → Keep d H H' → Q (.ref q) H'
end Sk


set_option Elab.async false
set_option linter.all false
set_option maxRecDepth 100000
set_option maxHeartbeats 4000000
namespace PySem
open Sem (wp)
section
variable {prog : Program} {w : World} {K : Type} [DecidableEq K] {knd : KeyKind prog w K} {A : Around} {E : Value → Shared → Prop} {s : Shared}
theorem sk_dictPut {d : Addr} {kvs : List (K × Value)} {k : K} {key v : Value} {Q : Unit → Shared → Prop} (hkey : knd.is k key = true) (hm : s.heap.DictOf knd d kvs)
    (hQ : ∀ h', h'.DictOf knd d (stored kvs k v) → Heap.SameBut d s.heap h' → Q () { s with heap := h' })
    (hsz : kvs.length ≤ sizeLine) :
    wpAny (model prog w) A (dictPut d (knd.hash k) key v) Q E s := by
  obtain ⟨o, es, ep, ho, hc, hd, hk, hp, hn⟩ := hm
  have hes : es.size ≤ sizeLine := by have e1 := hp.length; have e2 : es.toList.length = es.size := by simp
                                      omega
  unfold dictPut
  refine wpAny_bind (wpAny_dictFind_of hkey ho hd hk ?_)
  have hidx : (es.findIdx? fun e => knd.is k e.key) = kvs.findIdx? fun kv => decide (kv.1 = k) := by
    rw [← hp.findIdx k]; obtain ⟨l⟩ := es; simp
  cases hi : es.findIdx? fun e => knd.is k e.key with
  | some i =>
    refine wpAny_updateDict ho hd (hQ _ ⟨_, _, ep, Heap.get?_update_self _ ho (Obj.isFreed_of_dict (Obj.data_mapDict hd _)),
      hc.mapDict _, Obj.data_mapDict hd _, hk.modify _ _, ?_, ?_⟩ (Heap.SameBut.update ..))
    · rw [stored, if_pos (any_of_findIdx_some (hidx ▸ hi))]
      have hl : (es.toList.findIdx? fun e => knd.is k e.key) = some i := by rw [← hi]; obtain ⟨l⟩ := es; simp
      have := hp.modify hn hl v
      obtain ⟨l⟩ := es
      simpa using this
    · rw [stored, if_pos (any_of_findIdx_some (hidx ▸ hi)), keys_map_store]; exact hn
  | none =>
    have hnot : k ∉ kvs.map (·.1) := not_mem_of_findIdx_none (hidx ▸ hi)
    have hany : ¬ (kvs.any fun kv => decide (kv.1 = k)) = true := by
      rw [List.any_eq_true]; rintro ⟨kv, hkv, he⟩
      exact hnot (List.mem_map.mpr ⟨kv, hkv, of_decide_eq_true he⟩)
    refine wpAny_updateDictKeys (hz := hes) ho hd (hQ _ ⟨_, _, ep + 1, Heap.get?_update_self _ ho (Obj.isFreed_of_dict (Obj.data_mapDictKeys hd _)),
      hc.mapDictKeys _, Obj.data_mapDictKeys hd _, hk.push hkey _, ?_, ?_⟩ (Heap.SameBut.update ..))
    · rw [stored, if_neg hany]
      have := hp.append hkey (knd.hash k) v
      obtain ⟨l⟩ := es
      simpa using this
    · rw [stored, if_neg hany, List.map_append, List.nodup_append]
      refine ⟨hn, by simp, ?_⟩
      intro a ha b hb
      simp only [List.map_cons, List.map_nil, List.mem_singleton] at hb
      subst hb
      exact fun e => hnot (e ▸ ha)
theorem sk_merge {d o : Addr} {kvs more : List (K × Value)} {Q : Unit → Shared → Prop} (hdo : d ≠ o) (hoS : (o == sysModules) = false)
    (hd : s.heap.DictOf knd d kvs) (ho : s.heap.DictOf knd o more) (hk : ∀ k key, knd.is k key = true → ∀ b, key ≠ .ref b)
    (hQ : ∀ h', h'.DictOf knd d (merged kvs more) → h'.DictOf knd o more → Heap.SameBut d s.heap h' → Q () { s with heap := h' })
    (hsz : kvs.length + more.length ≤ sizeLine + 1) :
    wpAny (model prog w) A (mergeMapping d (.ref o) false) Q E s := by
  obtain ⟨od, esd, epd, hod, hcd, hdd, hkd, hpd, hnd⟩ := id hd
  obtain ⟨oo, eso, epo, hoo, hco, hdo', hko, hpo, hno⟩ := id ho
  have hlen : more.length = eso.size := by rw [← hpo.length]; simp
  have loop : wpAny (model prog w) A (do
      let l ← dictEntries o
      let epoch ← dictEpoch o
      forIn (List.range l.size) PUnit.unit fun i (_ : PUnit) => (do
          let l' ← dictEntries o
          match l'[i]? with
            | some e => do
              holding [e.key, e.val] (dictPut d e.hash e.key e.val)
              let ep' ← dictEpoch o
              if (ep' != epoch) = true then do
                  (unsupported "dict.changed-during-merge" : Sem PUnit)
                  pure (ForInStep.yield PUnit.unit)
                else pure (ForInStep.yield PUnit.unit)
            | _ => do
              (unsupported "dict.changed-during-merge" : Sem PUnit)
              pure (ForInStep.yield PUnit.unit) : Sem (ForInStep PUnit))
      pure ()) Q E s := by
    refine wpAny_bind (wpAny_dictEntries hoo hdo' ?_)
    refine wpAny_bind (wpAny_dictEpoch hoo hdo' ?_)
    refine wpAny_bind ?_
    rw [List.range_eq_range']
    refine wpAny_forIn_list _
      (fun rest _ s' => ∃ h' i, s' = { s with heap := h' } ∧ rest = List.range' i (eso.size - i) ∧ i ≤ eso.size ∧ h'.DictOf knd d (merged kvs (more.take i)) ∧ h'.get? o = some oo ∧ Heap.SameBut d s.heap h')
      _ ?_ ?_ _ _ ⟨s.heap, 0, rfl, by simp, Nat.zero_le _, by simpa [merged] using hd, hoo, Heap.SameBut.refl _ _⟩
    · rintro x rest b s' ⟨h', i, rfl, hr, hi, hd', hoo', hs'⟩
      have hlt : i < eso.size := by
        rcases Nat.lt_or_ge i eso.size with h | h
        · exact h
        · rw [Nat.sub_eq_zero_of_le h] at hr; simp at hr
      obtain ⟨rfl, hrest⟩ : x = i ∧ rest = List.range' (i + 1) (eso.size - (i + 1)) := by
        have e : eso.size - i = (eso.size - (i + 1)) + 1 := by omega
        rw [e, List.range'_succ] at hr
        injection hr with h1 h2
        exact ⟨h1, h2⟩
      refine wpAny_bind (wpAny_dictEntries hoo' hdo' ?_)
      rw [Array.getElem?_eq_getElem hlt]
      obtain ⟨kv, hkv⟩ : ∃ kv, more[x]? = some kv := ⟨more[x]'(by rw [hlen]; exact hlt), List.getElem?_eq_getElem _⟩
      obtain ⟨k, v⟩ := kv
      obtain ⟨hkey, hval⟩ := hpo.get? (e := eso[x]) (by simp [hlt]) hkv
      obtain ⟨k', hkey', hhash⟩ := hko eso[x] (Array.getElem_mem hlt)
      obtain rfl : k' = k := knd.inj _ _ _ hkey' hkey
      show wpAny _ _ (holding [eso[x].key, eso[x].val] (dictPut d eso[x].hash eso[x].key eso[x].val) >>= _) _ _ _
      rw [hhash, hval]
      have hmx : (merged kvs (more.take x)).length ≤ sizeLine := by
        have e1 := merged_length_le kvs (more.take x)
        have e2 : (more.take x).length ≤ x := by rw [List.length_take]; omega
        omega
      refine wpAny_bind (wpAny_holding (sk_dictPut (hsz := hmx) hkey hd' fun h'' hd'' hs'' => ?_))
      have hoo'' : h''.get? o = some oo := (hs''.2 o (Ne.symm hdo)).trans hoo'
      refine wpAny_bind (wpAny_dictEpoch hoo'' hdo' ?_)
      rw [if_neg (by simp)]
      exact wpAny_pure ⟨h'', x + 1, rfl, hrest, hlt, by rw [merged_take_succ kvs more x (k', v) hkv]; exact hd'', hoo'', hs'.trans hs''⟩
    · rintro b s' ⟨h', i, rfl, hr, hi, hd', hoo', hs'⟩
      have hin : i = eso.size := by
        rcases Nat.lt_or_ge i eso.size with h | h
        · have e : eso.size - i = (eso.size - (i + 1)) + 1 := by omega
          rw [e, List.range'_succ] at hr; exact nomatch hr
        · exact Nat.le_antisymm hi h
      refine wpAny_pure (hQ h' ?_ ⟨oo, eso, epo, hoo', hco, hdo', hko, hpo, hno⟩ hs')
      rw [hin, ← hlen, List.take_length] at hd'; exact hd'
  unfold mergeMapping
  refine wpAny_bind (wpAny_isInstance ho.typeIs isSubtype_dict_dict ?_)
  rw [if_pos rfl]
  refine wpAny_bind (wpAny_specialOf ho.typeIs F.slot_dict_iter.lookup ?_)
  refine wpAny_bind (wpAny_pure ?_)
  simp only [beq_self_eq_true]
  rw [if_neg (by rw [hoS]; exact Bool.false_ne_true)]
  refine wpAny_bind (wpAny_dictEntries hod hdd ?_)
  split
  · refine wpAny_bind (wpAny_dictEntries hoo hdo' ?_)
    refine wpAny_bind ?_
    rw [← Array.forIn_toList]
    refine wpAny_forIn_list _ (fun rest _ s' => s' = s ∧ ∀ e ∈ rest, ∀ b, e.key ≠ .ref b) _ ?_ ?_ _ _ ⟨rfl, fun e he b => ?_⟩
    · rintro x rest b s' ⟨rfl, hr⟩
      have hx := hr x List.mem_cons_self
      split
      · rename_i b' e'
        exact absurd e' (hx b')
      · exact wpAny_pure ⟨rfl, fun e he => hr e (List.mem_cons_of_mem _ he)⟩
    · rintro b s' ⟨rfl, hr⟩
      exact loop
    · obtain ⟨k, h1, _⟩ := hko e (by simpa using he)
      exact hk k _ h1 b
  · exact loop
theorem sk_dstar {env : Env} {e1 k1 v1 : Expr} {pos : Pos} {Q : Value → Shared → Prop}
    (h : wpAny (model prog w) A (eval e1 env) (fun u s1 =>
      wpAny (model prog w) A (mergeMapping s.heap.objs.size u false) (fun _ s3 => wpAny (model prog w) A (subDict [(eval k1 env, do let x ← eval v1 env; standAt pos; pure x)]) (fun q s4 =>
        wpAny (model prog w) A (mergeMapping s.heap.objs.size (.ref q) false) (fun _ s5 => Q (.ref s.heap.objs.size) s5) (fun _ _ => False) s4) E s3) (fun _ _ => False) s1) E
      { s with heap := s.heap.push { cls := .type "dict", data := .dict #[] } }) :
    wpAny (model prog w) A (eval (.Dict [none, some k1] [e1, v1] pos) env) Q E s := by
  rw [arm_eval_Dict]
  refine wpAny_bind (wpAny_standAt ?_)
  unfold dictDisplay
  refine wpAny_bind ?_
  show wpAny _ _ (forIn [(none, _), (some (eval k1 env), _)] _ _) _ _ _
  rw [List.forIn_cons]
  refine wpAny_bind ?_
  refine wpAny_bind (wpAny_pure ?_)
  refine wpAny_bind (wpAny_alloc ?_)
  refine wpAny_bind (wpAny_holding (wpAny_bind (wpAny_mono h (fun u s1 h1 => wpAny_bind (wpAny_standAt (wpAny_pure ?_))) fun _ _ e => e)))
  refine wpAny_bind (wpAny_onRaise (wpAny_tryCatch (wpAny_onRaise (wpAny_holding (wpAny_mono h1 (fun _ s3 h3 => ?_) fun _ _ e => e.elim)))))
  refine wpAny_pure ?_
  dsimp only
  rw [List.forIn_cons]
  refine wpAny_bind (wpAny_pure ?_)
  dsimp only
  rw [List.forIn_nil]
  refine wpAny_pure ?_
  refine wpAny_bind ?_
  refine wpAny_bind (wpAny_holding (wpAny_mono h3 (fun q s4 h4 => ?_) fun _ _ e => e))
  exact wpAny_bind (wpAny_onRaise (wpAny_holding (wpAny_mono h4 (fun _ s5 h5 => wpAny_pure (wpAny_pure h5)) fun _ _ e => e.elim)))
end
end PySem
namespace Sk
open PySem PySem.Spec PyProof.Rows L2
/-- {**d, k: v} -/
def tDStar (te tk tv : TE) : TE := fun σ H Q => ∀ p, H p = none → te σ (upd H p (.dK [])) fun x H1 => ∃ a kvs, x = .ref a ∧ H1 a = some (.dK kvs) ∧ H1 p = some (.dK []) ∧ p ≠ a ∧
  ∀ q, (upd H1 p (.dK kvs)) q = none → tPairs [(tk, tv)] σ (upd (upd H1 p (.dK kvs)) q (.dK [])) fun ps H3 => ∃ k z, ps = [(kV k, z)] ∧ (valV kvs k).isSome = true ∧ p ≠ q ∧ H3 p = some (.dK kvs) ∧ H3 q = some (.dK []) ∧ Q (.ref p) (upd (upd H3 q (.dK [(k, z)])) p (.dK (putK kvs k z)))
theorem mix_key {P : Program} {w : World} (k : Key) (key : Value) (h : (mixKind P w).is k key = true) (b : Addr) : key ≠ .ref b := by
  rintro rfl
  rcases k with k | k <;> cases h
theorem pe_dstar {X : Cx} {pos : Pos} {e k v : Expr} {te tk tv : TE} (he : PE X e te) (hk : PE X k tk) (hv : PE X v tv) : PE X (.Dict [none, some k] [e, v] pos) (tDStar te tk tv) := by
  refine ⟨fun pins s σ H Q I h => ?_⟩
  have hn := I.hok.fresh (Nat.le_refl s.heap.objs.size)
  have I1 := I.laid (a := s.heap.objs.size) (o := .dK []) (h' := s.heap.push { cls := .type "dict", data := .dict #[] }) (t' := s.toks) (fun _ _ q => Heap.get?_push_of_some _ q) (Nat.le_refl _) (dk_empty s.heap I.big)
  refine sk_dstar (thn (he.run pins _ σ _ _ I1 (h _ hn)) fun u s1 ⟨x, H1, I2, r1, a, kvs, ex, ea, ep, ne, q1⟩ => ?_)
  subst ex
  obtain rfl : u = Value.ref a := r1
  obtain ⟨z1, hd1, vs1, rel1, dd1⟩ := dk_of I2.hok ea
  obtain ⟨z0, hd0, vs0, rel0, dd0⟩ := dk_of I2.hok ep
  cases rel0
  have hn1 : (vs1.map (·.1)).Nodup := let ⟨_, _, _, _, _, _, _, _, hn⟩ := dd1; hn
  refine sk_merge ne hd1 dd0 dd1 mix_key (fun h' hd' ho' hs' => ?_) (by rw [List.length_nil, ← rel1.length, Nat.zero_add]; exact Nat.le_succ_of_le z1)
  rw [merged_nil_of_nodup vs1 hn1] at hd'
  have he' : ∃ q, h'.get? s.heap.objs.size = some q := let ⟨q, _, _, hq, _⟩ := hd'; ⟨q, hq⟩
  have I3 := d_write (t' := s1.toks) I2 (by rw [ep]; exact True.intro) hs' he' (dk_new (H' := upd H1 s.heap.objs.size (.dK kvs)) z1 hd0 rel1 hd')
  have hq := I3.hok.fresh (Nat.le_refl h'.objs.size)
  have I4 := I3.laid (a := h'.objs.size) (o := .dK []) (h' := h'.push { cls := .type "dict", data := .dict #[] }) (t' := s1.toks) (fun _ _ q => Heap.get?_push_of_some _ q) (Nat.le_refl _) (dk_empty h' I3.big)
  refine wpAny_subDict (knd := mixKind X.prog X.w) (pairs := pairTrees [some k] [v] X.env pos) (show 1 ≤ 15 by decide) (thn ((pps_cons hk hv pps_nil).run pins _ σ _ _ I4 (q1 _ hq)) fun ws s2 ⟨ps, H3, I5, rel, k', z, e1, there, npq, e2, e3, qQ⟩ => ?_)
  obtain ⟨ks, c, rk⟩ := carries_of (P := X.prog) (w := X.w) (kvs := [(k', z)]) (ws := ws) (by rw [e1] at rel; exact rel)
  obtain ⟨z2, hd2, vs2, rel2, dd2⟩ := dk_of I5.hok e3
  cases rel2
  refine ⟨ks, c, dd2, fun h2 hd2' hs2 => ?_⟩
  have rk2 := rk.merge (kvs := []) .nil
  have he2 : ∃ q, h2.get? h'.objs.size = some q := let ⟨q, _, _, hq, _⟩ := hd2'; ⟨q, hq⟩
  have I6 := d_write (t' := s2.toks + ws.length) I5 (by rw [e3]; exact True.intro) hs2 he2 (dk_new (H' := upd H3 h'.objs.size (.dK (mergeK [] [(k', z)]))) (by rw [sizeLine_eq]; show 1 ≤ _; omega) hd2 rk2 hd2')
  have e4 : (upd H3 h'.objs.size (.dK (mergeK [] [(k', z)]))) s.heap.objs.size = some (.dK kvs) := by rw [upd_ne npq]; exact e2
  obtain ⟨z5, hd5, vs5, rel5, dd5⟩ := dk_of I6.hok e4
  obtain ⟨z6, hd6, vs6, rel6, dd6⟩ := dk_of I6.hok (upd_same (H := H3) (a := h'.objs.size) (o := .dK (mergeK [] [(k', z)])))
  refine sk_merge npq hd6 dd5 dd6 mix_key (fun h7 hd7 _ hs7 => ?_) (by rw [← rel5.length, ← rel6.length]; show kvs.length + 1 ≤ _; omega)
  have he7 : ∃ q, h7.get? s.heap.objs.size = some q := let ⟨q, _, _, hq, _⟩ := hd7; ⟨q, hq⟩
  have rl := rel6.merge rel5
  have I8 := d_write (t' := s2.toks + ws.length) I6 (by rw [e4]; exact True.intro) hs7 he7 (dk_new (H' := upd (upd H3 h'.objs.size (.dK (mergeK [] [(k', z)]))) s.heap.objs.size (.dK (mergeK kvs (mergeK [] [(k', z)])))) (by
    show (putK kvs k' z).length ≤ sizeLine
    unfold putK
    rw [if_pos (by rw [valV_any]; exact there), List.length_map]
    exact z5) hd5 rl hd7)
  exact ⟨.ref s.heap.objs.size, _, I8, rfl, qQ⟩
end Sk

set_option Elab.async false
set_option linter.all false
set_option maxRecDepth 100000
set_option maxHeartbeats 4000000
namespace Sk
open PySem PySem.Spec PyProof.Rows L2
theorem nxq {D : Ends} {σ : L2.St} {H : Hp} (h : D.nx σ H) : tNext D σ H := h
theorem iNY {c A B : Prop} [Decidable c] (h : c) (q : B) : if (!decide c) = true then A else B := by
  rw [decide_eq_true h]
  exact iteF q
theorem iNN {c A B : Prop} [Decidable c] (h : ¬ c) (q : A) : if (!decide c) = true then A else B := by
  rw [decide_eq_false h]
  exact iteT q
/-! a field as a target among others -/
def gFld (K : PySem.W.Frag) (ta : TE) (f : Str) : TG := fun y σ H Q => ta σ H fun x H2 => ∃ a C dx fs, x = .ref a ∧ H2 a = some (.ins C dx fs) ∧ Cls K C ∧ NoAttr K C f ∧ fs.length < 1000 ∧ Q σ (upd H2 a (.ins C dx (putF f y fs)))
theorem pg_fld {X : Cx} {o : Expr} {f : Str} {pos : Pos} {ta : TE} (ha : PE X o ta) : PG X (.Attribute o f pos) (gFld X.K ta f) := by
  refine ⟨fun pins s σ H v u Q I r h => ?_⟩
  show wpAny _ _ (do
    let ov ← holding [u] (eval o X.env)
    standAt pos.atName
    holding [u, ov] (setAttr ov f u)
    release [u, ov] []) _ _ _
  refine wpAny_bind (wpAny_holding (thn (ha.run pins s σ H _ I h) fun ov s1 ⟨x, H1, I1, rx, a, C, dx, fs, ex, ea, c, n, l, q⟩ => ?_))
  subst ex
  obtain rfl : ov = Value.ref a := rx
  refine wpAny_bind (wpAny_standAt (wpAny_bind (wpAny_holding (setattr_ok I1 ea c n l r fun s3 I3 => ?_))))
  exact wpAny_release ⟨σ, _, I3, q⟩
/-! all but M (and the tables) stands; tuples and lists stand -/
structure FT (M TT : List Addr) (H H' : Hp) : Prop where
  k : ∀ b o, H b = some o → b ∉ M → b ∉ TT → H' b = some o
  t : ∀ b xs, H b = some (.tup xs) → H' b = some (.tup xs)
  l : ∀ b xs, H b = some (.lst xs) → H' b = some (.lst xs)
  tb : Tabs TT H → Tabs TT H'
section
variable {M M' TT : List Addr} {H H1 H' H2 : Hp} {a p d : Addr}
theorem FT.same (s : Same H H') : FT M TT H H' := ⟨fun b o e _ _ => s _ _ e, fun b xs e => s _ _ e, fun b xs e => s _ _ e, fun t => Same.tabs s t⟩
theorem FT.refl : FT M TT H H := FT.same (Same.refl _)
theorem FT.trans (x : FT M TT H H1) (y : FT M TT H1 H2) : FT M TT H H2 := ⟨fun b o e n m => y.k _ _ (x.k _ _ e n m) n m, fun b xs e => y.t _ _ (x.t _ _ e), fun b xs e => y.l _ _ (x.l _ _ e), fun t => y.tb (x.tb t)⟩
theorem FT.sub (x : FT M TT H H') (h : ∀ b ∈ M, b ∈ M') : FT M' TT H H' := ⟨fun b o e n m => x.k _ _ e (fun z => n (h _ z)) m, x.t, x.l, x.tb⟩
theorem FT.st (s : SameT TT H H') (t : Tabs TT H) : FT M TT H H' := ⟨fun b o e _ m => s.keep _ _ e m, fun b xs e => s.t t e, fun b xs e => s.l t e, s.tabs⟩
theorem FT.put {o o' : HO} (h : H p = some o) (n : ∀ xs, o ≠ .tup xs) (n2 : ∀ xs, o ≠ .lst xs) (n3 : ∀ ps, o ≠ .tbl ps) (m : p ∈ M) : FT M TT H (upd H p o') := by
  have ne : ∀ b o1, H b = some o1 → o1 ≠ o → (upd H p o') b = some o1 := fun b o1 e z => by
    rw [upd_ne fun w => z (by rw [w, h] at e; exact (Option.some.inj e).symm)]; exact e
  refine ⟨fun b o1 e nb _ => ?_, fun b xs e => ne _ _ e fun z => n _ z.symm, fun b xs e => ne _ _ e fun z => n2 _ z.symm, fun t P hP => ?_⟩
  · rw [upd_ne fun w => nb (by rw [w]; exact m)]; exact e
  · obtain ⟨ps, e, r⟩ := t P hP
    exact ⟨ps, ne _ _ e fun z => n3 _ z.symm, r⟩
theorem FT.ins {C dx : Addr} {fs : List (Str × V)} {o' : HO} (h : H p = some (.ins C dx fs)) (m : p ∈ M) : FT M TT H (upd H p o') := FT.put h (fun _ z => nomatch z) (fun _ z => nomatch z) (fun _ z => nomatch z) m
theorem FT.dk {kvs : List (Key × V)} {o' : HO} (h : H p = some (.dK kvs)) (m : p ∈ M) : FT M TT H (upd H p o') := FT.put h (fun _ z => nomatch z) (fun _ z => nomatch z) (fun _ z => nomatch z) m
theorem FT.keep {K : PySem.W.Frag} {c : Addr} (S : St1 K H d c) (k : Keep d H H') (m : d ∈ M) : FT M TT H H' := by
  obtain ⟨kvs, hd⟩ := S.dk
  exact ⟨fun b o e n _ => k _ _ e fun z => n (z ▸ m), fun b xs e => k.t S e, fun b xs e => k.l S e, fun t => Keep.tabs k hd t⟩
theorem FT.dd (x : FT M TT H H') (t : Tabs TT H) {kvs : List (Key × V)} (e : H a = some (.dK kvs)) (n : a ∉ M) : H' a = some (.dK kvs) := x.k _ _ e n (tabs_out t e fun _ z => nomatch z)
theorem FT.i (x : FT M TT H H') (t : Tabs TT H) {C dx : Addr} {fs : List (Str × V)} (e : H a = some (.ins C dx fs)) (n : a ∉ M) : H' a = some (.ins C dx fs) := x.k _ _ e n (tabs_out t e fun _ z => nomatch z)
theorem FT.lot {l : Addr} {xss : List (List Int)} (x : FT M TT H H') (L : LoT H l xss) : LoT H' l xss := let ⟨qs, h1, h2, h3⟩ := L; ⟨qs, x.l _ _ h1, fun q h => x.t _ _ (h2 q h), h3⟩
theorem FT.ru {ru : Addr} {r : RuD} (x : FT M TT H H') (t : Tabs TT H) (R : RuAt H ru r) (n : ru ∉ M) : RuAt H' ru r := ⟨let ⟨kvs, e, h⟩ := R.ex; ⟨kvs, x.dd t e n, h⟩, R.bd⟩
theorem FT.rr {ru : Addr} {rd : Int} (x : FT M TT H H') (t : Tabs TT H) (R : RrAt H ru rd) (n : ru ∉ M) : RrAt H' ru rd := let ⟨kvs, e, h⟩ := R; ⟨kvs, x.dd t e n, h⟩
theorem FT.ch {ch : Addr} {D : CD} (x : FT M TT H H') (t : Tabs TT H) (C : ChartAt H ch D) (n1 : ch ∉ M) (n2 : D.fx ∉ M) : ChartAt H' ch D := by
  obtain ⟨⟨kvs, h1, h2, h3⟩, h4, h5, h6, h7, h8, h8', h9⟩ := C
  exact ⟨⟨kvs, x.dd t h1 n1, h2, h3⟩, x.dd t h4 n2, x.l _ _ h5, fun l hl => x.t _ _ (h6 l hl), fun n a y z hp => let ⟨p1, p2, p3⟩ := h7 n a y z hp; ⟨p1, x.t _ _ p2, p3⟩, h8, h8', h9⟩
theorem FT.s1 {K : PySem.W.Frag} {c : Addr} (x : FT M TT H H') (t : Tabs TT H) (S : St1 K H d c) (n : d ∉ M) : St1 K H' d c := by
  obtain ⟨ns, i, l, m, S⟩ := S
  exact ⟨ns, i, l, m, x.dd t S.dc n, x.l _ _ S.cs, S.nn, S.i0, S.l0, S.m0, S.m1⟩
end
/-- a new object that is changed -/
theorem FT.new {M TT : List Addr} {H H1 : Hp} {a : Addr} {o : HO} (x : FT M TT H H1) (n : H a = none) (h : ∀ ps, H1 a ≠ some (.tbl ps)) : FT M TT H (upd H1 a o) :=
  ⟨fun b o e nb nt => by rw [upd_ne (ne_of_none e n)]; exact x.k _ _ e nb nt, fun b xs e => by rw [upd_ne (ne_of_none e n)]; exact x.t _ _ e, fun b xs e => by rw [upd_ne (ne_of_none e n)]; exact x.l _ _ e, fun t P hP => by
    obtain ⟨ps, e, r⟩ := x.tb t P hP
    exact ⟨ps, by rw [upd_ne fun w => h ps (by rw [← w]; exact e)]; exact e, r⟩⟩
theorem FT.newL {M TT : List Addr} {H H1 : Hp} {a : Addr} {o : HO} {xs : List V} (x : FT M TT H H1) (n : H a = none) (h : H1 a = some (.lst xs)) : FT M TT H (upd H1 a o) := x.new n fun ps e => by rw [h] at e; cases e
/-- what is free was free -/
theorem FT.none {M TT : List Addr} {H H1 : Hp} {a : Addr} (x : FT M TT H H1) (t : Tabs TT H1) (m : ∀ b ∈ M, H1 b ≠ none) (n : H1 a = none) : H a = none := by
  cases e : H a with
  | none => rfl
  | some o =>
    by_cases z : a ∈ M
    · exact absurd n (m a z)
    by_cases y : a ∈ TT
    · obtain ⟨ps, e', _⟩ := t a y
      rw [n] at e'; cases e'
    · have := x.k _ _ e z y
      rw [n] at this; cases this
theorem LoT.off48 {H : Hp} {l a : Addr} {o : HO} {xss : List (List Int)} {xs : List V} (L : LoT H l xss) (h : H a = some (.lst xs)) (n : l ≠ a) : LoT (upd H a o) l xss := by
  obtain ⟨qs, h1, h2, h3⟩ := L
  exact ⟨qs, by rw [upd_ne n]; exact h1, fun q hq => by rw [upd_ne (ne_of (h2 q hq) h (by intro z; cases z))]; exact h2 q hq, h3⟩
theorem LoT.offI {H : Hp} {l p C dx : Addr} {fs : List (Str × V)} {o : HO} {xss : List (List Int)} (L : LoT H l xss) (h : H p = some (.ins C dx fs)) : LoT (upd H p o) l xss := by
  obtain ⟨qs, h1, h2, h3⟩ := L
  exact ⟨qs, by rw [upd_ne (ne_of h1 h (by intro z; cases z))]; exact h1, fun q hq => by rw [upd_ne (ne_of (h2 q hq) h (by intro z; cases z))]; exact h2 q hq, h3⟩
theorem LoT.row2 {H : Hp} {l : Addr} {xss : List (List Int)} (L : LoT H l xss) : ∃ ps : List Addr, H l = some (.lst (ps.map V.ref)) ∧ ps.length = xss.length ∧ ∀ (i : Nat) (v : V), (ps.map V.ref)[i]? = some v → ∃ (p : Addr) (e : List Int), v = .ref p ∧ xss[i]? = some e ∧ H p = some (.tup (e.map V.int)) := by
  obtain ⟨qs, h1, h2, h3⟩ := L
  refine ⟨qs.map (·.1), by rw [List.map_map]; exact h1, by rw [List.length_map, ← h3, List.length_map], fun i v h => ?_⟩
  rw [List.map_map, List.getElem?_map] at h
  cases e : qs[i]? with
  | none => rw [e] at h; cases h
  | some q =>
    rw [e] at h
    exact ⟨q.1, q.2, (Option.some.inj h).symm, by rw [← h3, List.getElem?_map, e]; rfl, h2 q (List.mem_of_getElem? e)⟩
theorem Frs.at {H : Hp} {xs : List V} {fs : List Fr} (h : Frs H xs fs) : ∀ (i : Nat) (v : V), xs[i]? = some v → ∃ (p q : Addr) (f : Fr), v = .ref p ∧ fs[i]? = some f ∧ H p = some (.tup [.ref q, .int f.c]) ∧ H q = some (.tup (frT f)) := by
  induction h with
  | nil => intro i v e; cases e
  | @cons p q f xs fs a b c ih =>
    intro i v e
    cases i with
    | zero => exact ⟨p, q, f, (Option.some.inj e).symm, rfl, a, b⟩
    | succ i => exact ih i v e
theorem rd_len (ys : List Int) : (rd ys).length ≤ ys.length := by
  induction hn : ys.length using Nat.strongRecOn generalizing ys with
  | ind n ih =>
    rcases Nat.lt_or_ge ys.length 11 with l | l
    · rw [rd_short l]; exact Nat.zero_le _
    cases e : isFr ys with
    | true =>
      rw [rd_yes l e, List.length_cons]
      have := ih (ys.drop 11).length (by rw [List.length_drop]; omega) _ rfl
      rw [List.length_drop] at this
      omega
    | false =>
      rw [rd_no l e]
      have := ih (ys.drop 1).length (by rw [List.length_drop]; omega) _ rfl
      rw [List.length_drop] at this
      omega
/-! the objects of the program -/
structure Sta where
  ru : Addr
  bo : Addr
  re : Addr
  lc : Option Int
  ml : Int
  mh : Int
def oI : Option Int → V
  | none => .non
  | some z => .int z
def stf (s : Sta) : List (Str × V) := [("rules", .ref s.ru), ("bounds", .ref s.bo), ("rest", .ref s.re), ("last_count", oI s.lc), ("many_lost", .int s.ml), ("many_held_back", .int s.mh)]
def dsf (g : Int) (sl : Addr) : List (Str × V) := [("_greatest_error", .int g), ("_stations", .ref sl)]
structure StaY (K : PySem.W.Frag) (mg : Str → Option Value) (C : Addr) : Prop where
  cl : Cls K C
  n1 : NoAttr K C "rules"
  n2 : NoAttr K C "bounds"
  n3 : NoAttr K C "rest"
  n4 : NoAttr K C "last_count"
  n5 : NoAttr K C "many_lost"
  n6 : NoAttr K C "many_held_back"
structure DskY (K : PySem.W.Frag) (mg : Str → Option Value) (C : Addr) : Prop where
  cl : Cls K C
  n1 : NoAttr K C "_greatest_error"
  n2 : NoAttr K C "_stations"
/-- the plot of a frame, with its height -/
def pT (f : Fr) : List Int := [f.x, f.y, (dec (f.z + 32768).toNat : Int) + -1000]
def mv (E : Est) (f : Fr) : List Int := [f.x - mid E.x1 E.x2, f.y - mid E.y1 E.y2, (dec (f.z + 32768).toNat : Int) + -1000]
def eR (err : Int) (E : Est) : Int := err + rt (side E.x1 E.x2 * side E.x1 E.x2 + side E.y1 E.y2 * side E.y1 E.y2)
def spSta (CS : Addr) (TT : List Addr) : Sp := fun vs H Q _ => ∃ (p dx ru bo : Addr), vs = [.ref p, .ref ru, .ref bo] ∧ H p = some (.ins CS dx []) ∧
  ∀ re H', H re = none → re ≠ p → H' p = some (.ins CS dx (stf ⟨ru, bo, re, none, 0, 0⟩)) → H' re = some (.lst []) → FT [p] TT H H' → Q .non H'
def spNote (CS : Addr) (TT : List Addr) : Sp := fun vs H Q _ => ∃ (p dx : Addr) (s : Sta) (c : Int), vs = [.ref p, .int c] ∧ H p = some (.ins CS dx (stf s)) ∧
  ∀ H', H' p = some (.ins CS dx (stf { s with lc := (noteS (s.lc, s.ml) c).1, ml := (noteS (s.lc, s.ml) c).2 })) → FT [p] TT H H' → Q .non H'
def spReadS (CS : Addr) (TT : List Addr) : Sp := fun vs H Q _ => ∃ (p dx l : Addr) (s : Sta) (rs ns : List Int), vs = [.ref p, .ref l] ∧ H p = some (.ins CS dx (stf s)) ∧ H s.re = some (.lst (rs.map V.int)) ∧ H l = some (.lst (ns.map V.int)) ∧ (∀ n ∈ rs ++ ns, Byte n) ∧ (rs ++ ns).length ≤ 500 ∧ Tabs TT H ∧
  ∀ q re H', H q = none → H re = none → H' p = some (.ins CS dx (stf { s with re := re, lc := (notes (s.lc, s.ml) ((rd (rs ++ ns)).map (·.c))).1, ml := (notes (s.lc, s.ml) ((rd (rs ++ ns)).map (·.c))).2 })) → H' re = some (.lst ((rm (rs ++ ns)).map V.int)) → LoT H' q ((rd (rs ++ ns)).map pT) → FT [p] TT H H' → Q (.ref q) H'
structure DskAt (CW : Addr) (H : Hp) (D sl : Addr) (g : Int) (Ss : List Addr) : Prop where
  ob : ∃ dx, H D = some (.ins CW dx (dsf g sl))
  ss : H sl = some (.lst (Ss.map V.ref))
theorem DskAt.ft {CW : Addr} {M TT : List Addr} {H H' : Hp} {D sl : Addr} {g : Int} {Ss : List Addr} (h : DskAt CW H D sl g Ss) (x : FT M TT H H') (t : Tabs TT H) (n : D ∉ M) : DskAt CW H' D sl g Ss := ⟨let ⟨dx, e⟩ := h.ob; ⟨dx, x.i t e n⟩, x.l _ _ h.ss⟩
def sides (E : Est) : Prop := 0 ≤ side E.x1 E.x2 ∧ side E.x1 E.x2 ≤ 1000000 ∧ 0 ≤ side E.y1 E.y2 ∧ side E.y1 E.y2 ≤ 1000000
def spRecv (CW CS : Addr) (TT : List Addr) : Sp := fun vs H Q _ => ∃ (D sl l p dx : Addr) (k : Nat) (g err : Int) (Ss : List Addr) (s : Sta) (rs ns : List Int) (E : Est), vs = [.ref D, .int k, .ref l] ∧ DskAt CW H D sl g Ss ∧ Ss[k]? = some p ∧ D ≠ p ∧
  H p = some (.ins CS dx (stf s)) ∧ H s.re = some (.lst (rs.map V.int)) ∧ H l = some (.lst (ns.map V.int)) ∧ (∀ n ∈ rs ++ ns, Byte n) ∧ (rs ++ ns).length ≤ 500 ∧ RrAt H s.ru err ∧ H s.bo = some (.tup E.v) ∧ sides E ∧ Tabs TT H ∧
  ∀ q re H', H' p = some (.ins CS dx (stf { s with re := re, lc := (notes (s.lc, s.ml) ((rd (rs ++ ns)).map (·.c))).1, ml := (notes (s.lc, s.ml) ((rd (rs ++ ns)).map (·.c))).2, mh := s.mh + if eR err E ≤ g then 0 else ((rd (rs ++ ns)).length : Int) })) →
    H' re = some (.lst ((rm (rs ++ ns)).map V.int)) → LoT H' q (if eR err E ≤ g then (rd (rs ++ ns)).map (mv E) else []) → FT [p] TT H H' → Q (.ref q) H'
def spLearn (CW CS C : Addr) (TT : List Addr) : Sp := fun vs H Q _ => ∃ (D sl pa b q r1 p dx : Addr) (k : Nat) (g : Int) (Ss : List Addr) (s : Sta) (r : RuD) (rd : Int) (E : Est) (Dc : CD) (ns : List Str) (x : Bx) (px py pz : Int) (ss : List Seg), vs = [.ref D, .int k, .ref pa, .ref b, .ref q] ∧ DskAt CW H D sl g Ss ∧ Ss[k]? = some p ∧ D ≠ p ∧
  H p = some (.ins CS dx (stf s)) ∧ RuAt H s.ru r ∧ RrAt H s.ru rd ∧ H s.bo = some (.tup E.v) ∧ H b = some x.t ∧ x.lo ≤ x.hi ∧
  H q = some (.tup [.int px, .int py, .int pz]) ∧ PathAt C H pa Dc ns r1 ∧ Bd Dc ∧ 2 ≤ ns.length ∧ ns.length ≤ 20 ∧ pcs Dc ns x.lo x.hi = ss.map Seg.li ∧ (∀ s ∈ ss, SegBd 200 100 s ∧ 1 ≤ s.d) ∧ ss ≠ [] ∧ ss.length ≤ 100 ∧ Tabs TT H ∧
  (nar E (rd + r.ra) px py ss = none → ∀ H', FT [p] TT H H' → H' p = some (.ins CS dx (stf s)) → Q (.bl false) H') ∧
  (∀ E2, nar E (rd + r.ra) px py ss = some E2 → ∀ bo H', FT [p] TT H H' → H' p = some (.ins CS dx (stf { s with bo := bo })) → H' bo = some (.tup E2.v) → Q (.bl true) H')
def spEst (CW CS : Addr) : Sp := fun vs H Q _ => ∃ (D sl p dx : Addr) (k : Nat) (g : Int) (Ss : List Addr) (s : Sta), vs = [.ref D, .int k] ∧ DskAt CW H D sl g Ss ∧ Ss[k]? = some p ∧ H p = some (.ins CS dx (stf s)) ∧ Q (.ref s.bo) H
def spLost (CW CS : Addr) : Sp := fun vs H Q _ => ∃ (D sl p dx : Addr) (k : Nat) (g : Int) (Ss : List Addr) (s : Sta), vs = [.ref D, .int k] ∧ DskAt CW H D sl g Ss ∧ Ss[k]? = some p ∧ H p = some (.ins CS dx (stf s)) ∧ Q (.int s.ml) H
def spHeld (CW CS : Addr) : Sp := fun vs H Q _ => ∃ (D sl p dx : Addr) (k : Nat) (g : Int) (Ss : List Addr) (s : Sta), vs = [.ref D, .int k] ∧ DskAt CW H D sl g Ss ∧ Ss[k]? = some p ∧ H p = some (.ins CS dx (stf s)) ∧ Q (.int s.mh) H
def spLeft (CW CS : Addr) : Sp := fun vs H Q _ => ∃ (D sl p dx : Addr) (k : Nat) (g : Int) (Ss : List Addr) (s : Sta) (rs : List Int), vs = [.ref D, .int k] ∧ DskAt CW H D sl g Ss ∧ Ss[k]? = some p ∧ H p = some (.ins CS dx (stf s)) ∧ H s.re = some (.lst (rs.map V.int)) ∧
  ∀ q H', H q = none → H' q = some (.lst (rs.map V.int)) → Same H H' → Q (.ref q) H'
theorem RuAt.put {H H' : Hp} {ru p : Addr} {r : RuD} {kvs : List (Key × V)} {v : V} (R : RuAt H ru r) (h : H ru = some (.dK kvs)) (h2 : H' p = some (.dK (putK kvs (.inr "radar") v))) : RuAt H' p r := by
  obtain ⟨⟨ks, e, a, b, c, d⟩, bd⟩ := R
  rw [h] at e
  cases e
  have n1 : ¬ ("lateral" : Str) = "radar" := by decide +kernel
  have n2 : ¬ ("vertical" : Str) = "radar" := by decide +kernel
  have n3 : ¬ ("radius" : Str) = "radar" := by decide +kernel
  have n4 : ¬ ("band" : Str) = "radar" := by decide +kernel
  refine ⟨⟨_, h2, ?_, ?_, ?_, ?_⟩, bd⟩
  · rw [valV_put, if_neg (fun z => n1 (Sum.inr.inj z))]; exact a
  · rw [valV_put, if_neg (fun z => n2 (Sum.inr.inj z))]; exact b
  · rw [valV_put, if_neg (fun z => n3 (Sum.inr.inj z))]; exact c
  · rw [valV_put, if_neg (fun z => n4 (Sum.inr.inj z))]; exact d
theorem RrAt.put {H' : Hp} {p : Addr} {kvs : List (Key × V)} {e : Int} (h2 : H' p = some (.dK (putK kvs (.inr "radar") (.int e)))) : RrAt H' p e := ⟨_, h2, by rw [valV_put, if_pos rfl]⟩
def spRules48 (K : PySem.W.Frag) : Sp := fun vs H Q _ => ∃ (d c : Addr), vs = [.ref d] ∧ St1 K H d c ∧ ∀ ru (r : RuD) (rd : Int) H', H ru = none → RuAt H' ru r → RrAt H' ru rd → (∃ kvs, H' ru = some (.dK kvs) ∧ kvs.length ≤ 100) → 0 ≤ rd → rd ≤ 1000 → St1 K H' d c → Keep d H H' → Q (.ref ru) H'
theorem RuAt.putLat {H H' : Hp} {ru p : Addr} {r : RuD} {kvs : List (Key × V)} {x : Int} (R : RuAt H ru r) (h : H ru = some (.dK kvs)) (h2 : H' p = some (.dK (putK kvs (.inr "lateral") (.int x)))) (b0 : 1 ≤ x) (b1 : x ≤ 1000) : RuAt H' p { r with la := x } := by
  obtain ⟨⟨ks, e, a, b, c, d⟩, bd⟩ := R
  rw [h] at e
  cases e
  have n2 : ¬ ("vertical" : Str) = "lateral" := by decide +kernel
  have n3 : ¬ ("radius" : Str) = "lateral" := by decide +kernel
  have n4 : ¬ ("band" : Str) = "lateral" := by decide +kernel
  refine ⟨⟨_, h2, ?_, ?_, ?_, ?_⟩, b0, b1, bd.2.2⟩
  · rw [valV_put, if_pos rfl]
  · rw [valV_put, if_neg (fun z => n2 (Sum.inr.inj z))]; exact b
  · rw [valV_put, if_neg (fun z => n3 (Sum.inr.inj z))]; exact c
  · rw [valV_put, if_neg (fun z => n4 (Sum.inr.inj z))]; exact d
theorem RrAt.putLat {H H' : Hp} {ru p : Addr} {rd : Int} {kvs : List (Key × V)} {v : V} (R : RrAt H ru rd) (h : H ru = some (.dK kvs)) (h2 : H' p = some (.dK (putK kvs (.inr "lateral") v))) : RrAt H' p rd := by
  obtain ⟨ks, e, a⟩ := R
  rw [h] at e
  cases e
  have n2 : ¬ ("radar" : Str) = "lateral" := by decide +kernel
  exact ⟨_, h2, by rw [valV_put, if_neg (fun z => n2 (Sum.inr.inj z))]; exact a⟩
/-- a station just made, from its error and its estimate -/
structure NewS (CS : Addr) (H0 H : Hp) (D sl : Addr) (r : RuD) (p : Addr) (err : Int) (bo : Addr) : Prop where
  ex : ∃ dx ru re, H0 ru = none ∧ ru ≠ D ∧ H p = some (.ins CS dx (stf ⟨ru, bo, re, none, 0, 0⟩)) ∧ H re = some (.lst []) ∧ re ≠ sl ∧ RuAt H ru r ∧ RrAt H ru err
theorem NewS.ft {CS : Addr} {H0 H H' : Hp} {M TT : List Addr} {D sl p bo : Addr} {r : RuD} {err : Int} (h : NewS CS H0 H D sl r p err bo) (x : FT M TT H H') (t : Tabs TT H) (n : p ∉ M) (m : ∀ b ∈ M, ∀ kvs, H b ≠ some (.dK kvs)) : NewS CS H0 H' D sl r p err bo := by
  obtain ⟨dx, ru, re, a, b, c, d, e, f, g⟩ := h.ex
  obtain ⟨kvs, e1, _⟩ := id g
  have nr : ru ∉ M := fun z => m ru z kvs e1
  exact ⟨dx, ru, re, a, b, x.i t c n, x.l _ _ d, e, x.ru t f nr, x.rr t g nr⟩
theorem NewS.offL {CS : Addr} {H0 H : Hp} {D sl p bo : Addr} {r : RuD} {err : Int} {o : HO} {xs : List V} (h : NewS CS H0 H D sl r p err bo) (e0 : H sl = some (.lst xs)) : NewS CS H0 (upd H sl o) D sl r p err bo := by
  obtain ⟨dx, ru, re, a, b, c, d, e, ⟨⟨kvs, f1, f2⟩, f3⟩, kv2, g1, g2⟩ := h.ex
  exact ⟨dx, ru, re, a, b, by rw [upd_ne (ne_of c e0 (by intro z; cases z))]; exact c, by rw [upd_ne e]; exact d, e, ⟨⟨kvs, by rw [upd_ne (ne_of f1 e0 (by intro z; cases z))]; exact f1, f2⟩, f3⟩, kv2, by rw [upd_ne (ne_of g1 e0 (by intro z; cases z))]; exact g1, g2⟩
def spDesk (CW CS : Addr) (TT : List Addr) : Sp := fun vs H Q _ => ∃ (D dx ru le lb : Addr) (r : RuD) (g : Int) (es : List Int) (bs : List Addr), vs = [.ref D, .ref ru, .ref le, .ref lb] ∧ H D = some (.ins CW dx []) ∧ RuAt H ru r ∧ RrAt H ru g ∧ H le = some (.lst (es.map V.int)) ∧ H lb = some (.lst (bs.map V.ref)) ∧ es.length = bs.length ∧ es.length ≤ 100 ∧ Tabs TT H ∧
  ∀ sl Ss H', DskAt CW H' D sl g Ss → Ss.length = es.length → Ss.Nodup → (∀ p ∈ Ss, H p = none) → D ∉ Ss → (∀ (i : Nat) (p : Addr) (e : Int) (b : Addr), Ss[i]? = some p → es[i]? = some e → bs[i]? = some b → NewS CS H H' D sl r p e b) → FT [D] TT H H' → Q .non H'
end Sk

set_option Elab.async false
set_option linter.all false
set_option maxRecDepth 100000
set_option maxHeartbeats 4000000
namespace Sk
open PySem PySem.Spec PyProof.Rows L2
/-! what the law has of a radar -/
structure Snt where
  tx : Int
  ty : Int
  tz : Int
  px : Int
  py : Int
  at_ : Nat
  c : Int
def Snt.fr (t : Snt) : Fr := ⟨t.px, t.py, (enc (t.tz + 1000).toNat : Int) - 32768, t.c⟩
def Snt.tv (t : Snt) : List V := [.int t.tx, .int t.ty, .int t.tz]
def Snt.pv (t : Snt) : List V := [.int t.px, .int t.py]
def Snt.mv (E : Est) (t : Snt) : List Int := [t.px - mid E.x1 E.x2, t.py - mid E.y1 E.y2, t.tz]
theorem Snt.fr_mv {t : Snt} (E : Est) (h : -1000 ≤ t.tz) : Sk.mv E t.fr = t.mv E := by
  unfold Sk.mv Snt.mv Snt.fr
  dsimp only
  rw [show (enc (t.tz + 1000).toNat : Int) - 32768 + 32768 = (enc (t.tz + 1000).toNat : Int) by omega, Int.toNat_natCast, dec_enc, Int.toNat_of_nonneg (by omega)]
  rw [show t.tz + 1000 + -1000 = t.tz by omega]
structure Snt.Ok (t : Snt) (err ox oy : Int) : Prop where
  m : ∃ mx my, t.px = t.tx + mx + ox ∧ t.py = t.ty + my + oy ∧ mx * mx + my * my ≤ err * err
  z : -1000 ≤ t.tz
theorem Snt.Ok.near {t : Snt} {err ox oy g : Int} {E : Est} (k : t.Ok err ox oy) (e0 : 0 ≤ err) (ok : EstOk E ox oy) (h : eR err E ≤ g) :
    (t.px - mid E.x1 E.x2 - t.tx) * (t.px - mid E.x1 E.x2 - t.tx) + (t.py - mid E.y1 E.y2 - t.ty) * (t.py - mid E.y1 E.y2 - t.ty) ≤ g * g := by
  obtain ⟨mx, my, e1, e2, e3⟩ := k.m
  obtain ⟨k1, k2, k3, k4, _, _, _, _⟩ := ok
  have sx := side_in k1 k2
  have sy := side_in k3 k4
  have bx := side_bd (show E.x1 ≤ E.x2 by omega)
  have by' := side_bd (show E.y1 ≤ E.y2 by omega)
  have n0 := Int.mul_nonneg bx.1 bx.1
  have n1 := Int.mul_nonneg by'.1 by'.1
  have isr := rt_is (Int.add_nonneg n0 n1)
  unfold eR at h
  have up := isr.up
  have nn := isr.nn
  generalize rt (side E.x1 E.x2 * side E.x1 E.x2 + side E.y1 E.y2 * side E.y1 E.y2) = R at *
  have h1 := sq_le sx.1 sx.2
  have h2 := sq_le sy.1 sy.2
  have t3 := tri e0 nn e3 (show (ox - mid E.x1 E.x2) * (ox - mid E.x1 E.x2) + (oy - mid E.y1 E.y2) * (oy - mid E.y1 E.y2) ≤ R * R by omega)
  have e4 : t.px - mid E.x1 E.x2 - t.tx = mx + (ox - mid E.x1 E.x2) := by omega
  have e5 : t.py - mid E.y1 E.y2 - t.ty = my + (oy - mid E.y1 E.y2) := by omega
  rw [e4, e5]
  have := Int.mul_le_mul h h (by omega) (by omega)
  omega
structure Sn where
  err : Int
  E : Est
  ss : List Snt
  ms : List Int
  got : Nat
  held : Int
  lost : Int
  off : Option (Int × Int)
def skv (s : Sn) (es sl ml : Addr) (ov : V) : List (Key × V) := [(.inr "error", .int s.err), (.inr "estimate", .ref es), (.inr "sent", .ref sl), (.inr "stream", .ref ml), (.inr "got", .int s.got), (.inr "held", .int s.held), (.inr "lost", .int s.lost), (.inr "offset", ov)]
section
variable (s : Sn) (es sl ml : Addr) (ov : V)
theorem sv_error : valV (skv s es sl ml ov) (.inr "error") = some (.int s.err) := rfl
theorem sv_estimate : valV (skv s es sl ml ov) (.inr "estimate") = some (.ref es) := rfl
theorem sv_sent : valV (skv s es sl ml ov) (.inr "sent") = some (.ref sl) := rfl
theorem sv_stream : valV (skv s es sl ml ov) (.inr "stream") = some (.ref ml) := rfl
theorem sv_got : valV (skv s es sl ml ov) (.inr "got") = some (.int s.got) := rfl
theorem sv_held : valV (skv s es sl ml ov) (.inr "held") = some (.int s.held) := rfl
theorem sv_lost : valV (skv s es sl ml ov) (.inr "lost") = some (.int s.lost) := rfl
theorem sv_offset : valV (skv s es sl ml ov) (.inr "offset") = some ov := rfl
theorem sp_estimate (x : Addr) : putK (skv s es sl ml ov) (.inr "estimate") (.ref x) = skv s x sl ml ov := rfl
theorem sp_stream (x : Addr) : putK (skv s es sl ml ov) (.inr "stream") (.ref x) = skv s es sl x ov := rfl
theorem sp_got (x : Nat) : putK (skv s es sl ml ov) (.inr "got") (.int x) = skv { s with got := x } es sl ml ov := rfl
theorem sp_held (x : Int) : putK (skv s es sl ml ov) (.inr "held") (.int x) = skv { s with held := x } es sl ml ov := rfl
theorem sp_lost (x : Int) : putK (skv s es sl ml ov) (.inr "lost") (.int x) = skv { s with lost := x } es sl ml ov := rfl
theorem sp_offset (x : V) : putK (skv s es sl ml ov) (.inr "offset") x = skv s es sl ml x := rfl
end
def SentAt (H : Hp) (sl : Addr) (ts : List Snt) : Prop := ∃ rs : List (Addr × Addr × Addr × Snt), H sl = some (.lst (rs.map fun r => V.ref r.1)) ∧ (∀ r ∈ rs, H r.1 = some (.tup [.ref r.2.1, .ref r.2.2.1, .int r.2.2.2.at_]) ∧ H r.2.1 = some (.tup r.2.2.2.tv) ∧ H r.2.2.1 = some (.tup r.2.2.2.pv)) ∧ rs.map (·.2.2.2) = ts
theorem SentAt.nil {H : Hp} {l : Addr} (h : H l = some (.lst [])) : SentAt H l [] := ⟨[], h, (fun _ h => nomatch h), rfl⟩
theorem SentAt.move {H H' : Hp} {l : Addr} {ts : List Snt} (L : SentAt H l ts) (hl : ∀ xs, H l = some (.lst xs) → H' l = some (.lst xs)) (k : ∀ a u, H a = some (.tup u) → H' a = some (.tup u)) : SentAt H' l ts := let ⟨rs, h1, h2, h3⟩ := L; ⟨rs, hl _ h1, fun r hr => let ⟨a, b, c⟩ := h2 r hr; ⟨k _ _ a, k _ _ b, k _ _ c⟩, h3⟩
theorem SentAt.li {H : Hp} {l : Addr} {ts : List Snt} (L : SentAt H l ts) : ∃ xs : List V, H l = some (.lst xs) ∧ xs.length = ts.length := let ⟨rs, h1, _, h3⟩ := L; ⟨_, h1, by rw [List.length_map, ← h3, List.length_map]⟩
theorem SentAt.snoc {H : Hp} {l p a b : Addr} {ts : List Snt} {t : Snt} {ys : List V} (L : SentAt H l ts) (hl : H l = some (.lst ys)) (hp : H p = some (.tup [.ref a, .ref b, .int t.at_])) (ha : H a = some (.tup t.tv)) (hb : H b = some (.tup t.pv)) : SentAt (upd H l (.lst (ys ++ [.ref p]))) l (ts ++ [t]) := by
  obtain ⟨rs, h1, h2, h3⟩ := L
  rw [hl] at h1
  cases h1
  have out : ∀ {q : Addr} {u : List V}, H q = some (.tup u) → (upd H l (.lst ((rs.map fun r => V.ref r.1) ++ [.ref p]))) q = some (.tup u) := fun e => by
    rw [upd_ne (ne_of e hl (by intro z; cases z))]; exact e
  refine ⟨rs ++ [(p, a, b, t)], by rw [upd_same, List.map_append]; rfl, fun r hr => ?_, by rw [List.map_append, h3]; rfl⟩
  rcases List.mem_append.mp hr with hr | hr
  · obtain ⟨x, y, z⟩ := h2 r hr
    exact ⟨out x, out y, out z⟩
  · rw [List.mem_singleton.mp hr]
    exact ⟨out hp, out ha, out hb⟩
theorem SentAt.at {H : Hp} {l : Addr} {ts : List Snt} (L : SentAt H l ts) : ∃ ps : List Addr, H l = some (.lst (ps.map V.ref)) ∧ ps.length = ts.length ∧ ∀ (i : Nat) (v : V), (ps.map V.ref)[i]? = some v → ∃ (p a b : Addr) (t : Snt), v = .ref p ∧ ts[i]? = some t ∧ H p = some (.tup [.ref a, .ref b, .int t.at_]) ∧ H a = some (.tup t.tv) ∧ H b = some (.tup t.pv) := by
  obtain ⟨rs, h1, h2, h3⟩ := L
  refine ⟨rs.map (·.1), by rw [List.map_map]; exact h1, by rw [List.length_map, ← h3, List.length_map], fun i v h => ?_⟩
  rw [List.map_map, List.getElem?_map] at h
  cases e : rs[i]? with
  | none => rw [e] at h; cases h
  | some r =>
    rw [e] at h
    have hr := h2 r (List.mem_of_getElem? e)
    exact ⟨r.1, r.2.1, r.2.2.1, r.2.2.2, (Option.some.inj h).symm, by rw [← h3, List.getElem?_map, e]; rfl, hr.1, hr.2.1, hr.2.2⟩
/-- pairs of a corrected plot and its true place -/
def PasAt (H : Hp) (l : Addr) (E : Est) (ts : List Snt) : Prop := ∃ rs : List (Addr × Addr × Addr × Snt), H l = some (.lst (rs.map fun r => V.ref r.1)) ∧ (∀ r ∈ rs, H r.1 = some (.tup [.ref r.2.1, .ref r.2.2.1]) ∧ H r.2.1 = some (.tup ((r.2.2.2.mv E).map V.int)) ∧ H r.2.2.1 = some (.tup r.2.2.2.tv)) ∧ rs.map (·.2.2.2) = ts
theorem PasAt.nil {H : Hp} {l : Addr} {E : Est} (h : H l = some (.lst [])) : PasAt H l E [] := ⟨[], h, (fun _ h => nomatch h), rfl⟩
theorem PasAt.move {H H' : Hp} {l : Addr} {E : Est} {ts : List Snt} (L : PasAt H l E ts) (hl : ∀ xs, H l = some (.lst xs) → H' l = some (.lst xs)) (k : ∀ a u, H a = some (.tup u) → H' a = some (.tup u)) : PasAt H' l E ts := let ⟨rs, h1, h2, h3⟩ := L; ⟨rs, hl _ h1, fun r hr => let ⟨a, b, c⟩ := h2 r hr; ⟨k _ _ a, k _ _ b, k _ _ c⟩, h3⟩
theorem PasAt.li {H : Hp} {l : Addr} {E : Est} {ts : List Snt} (L : PasAt H l E ts) : ∃ xs : List V, H l = some (.lst xs) ∧ xs.length = ts.length := let ⟨rs, h1, _, h3⟩ := L; ⟨_, h1, by rw [List.length_map, ← h3, List.length_map]⟩
theorem PasAt.snoc {H : Hp} {l p a b : Addr} {E : Est} {ts : List Snt} {t : Snt} {ys : List V} (L : PasAt H l E ts) (hl : H l = some (.lst ys)) (hp : H p = some (.tup [.ref a, .ref b])) (ha : H a = some (.tup ((t.mv E).map V.int))) (hb : H b = some (.tup t.tv)) : PasAt (upd H l (.lst (ys ++ [.ref p]))) l E (ts ++ [t]) := by
  obtain ⟨rs, h1, h2, h3⟩ := L
  rw [hl] at h1
  cases h1
  have out : ∀ {q : Addr} {u : List V}, H q = some (.tup u) → (upd H l (.lst ((rs.map fun r => V.ref r.1) ++ [.ref p]))) q = some (.tup u) := fun e => by
    rw [upd_ne (ne_of e hl (by intro z; cases z))]; exact e
  refine ⟨rs ++ [(p, a, b, t)], by rw [upd_same, List.map_append]; rfl, fun r hr => ?_, by rw [List.map_append, h3]; rfl⟩
  rcases List.mem_append.mp hr with hr | hr
  · obtain ⟨x, y, z⟩ := h2 r hr
    exact ⟨out x, out y, out z⟩
  · rw [List.mem_singleton.mp hr]
    exact ⟨out hp, out ha, out hb⟩
theorem PasAt.at {H : Hp} {l : Addr} {E : Est} {ts : List Snt} (L : PasAt H l E ts) : ∃ ps : List Addr, H l = some (.lst (ps.map V.ref)) ∧ ps.length = ts.length ∧ ∀ (i : Nat) (v : V), (ps.map V.ref)[i]? = some v → ∃ (p a b : Addr) (t : Snt), v = .ref p ∧ ts[i]? = some t ∧ H p = some (.tup [.ref a, .ref b]) ∧ H a = some (.tup ((t.mv E).map V.int)) ∧ H b = some (.tup t.tv) := by
  obtain ⟨rs, h1, h2, h3⟩ := L
  refine ⟨rs.map (·.1), by rw [List.map_map]; exact h1, by rw [List.length_map, ← h3, List.length_map], fun i v h => ?_⟩
  rw [List.map_map, List.getElem?_map] at h
  cases e : rs[i]? with
  | none => rw [e] at h; cases h
  | some r =>
    rw [e] at h
    have hr := h2 r (List.mem_of_getElem? e)
    exact ⟨r.1, r.2.1, r.2.2.1, r.2.2.2, (Option.some.inj h).symm, by rw [← h3, List.getElem?_map, e]; rfl, hr.1, hr.2.1, hr.2.2⟩
def OffAt (H : Hp) (ov : V) : Option (Int × Int) → Prop
  | none => ov = .non
  | some o => ∃ q, ov = .ref q ∧ H q = some (.tup [.int o.1, .int o.2])
theorem OffAt.move {H H' : Hp} {ov : V} {o : Option (Int × Int)} (h : OffAt H ov o) (k : ∀ a u, H a = some (.tup u) → H' a = some (.tup u)) : OffAt H' ov o := by
  cases o with
  | none => exact h
  | some o => obtain ⟨q, a, b⟩ := h; exact ⟨q, a, k _ _ b⟩
structure SnA (H : Hp) (st es sl ml : Addr) (ov : V) (s : Sn) : Prop where
  d : H st = some (.dK (skv s es sl ml ov))
  e : H es = some (.tup s.E.v)
  sn : SentAt H sl s.ss
  m : H ml = some (.lst (s.ms.map V.int))
  o : OffAt H ov s.off
theorem SnA.ft {H H' : Hp} {M TT : List Addr} {st es sl ml : Addr} {ov : V} {s : Sn} (h : SnA H st es sl ml ov s) (x : FT M TT H H') (t : Tabs TT H) (n : st ∉ M) : SnA H' st es sl ml ov s :=
  ⟨x.dd t h.d n, x.t _ _ h.e, h.sn.move (fun xs e => x.l _ _ e) x.t, x.l _ _ h.m, h.o.move x.t⟩
theorem SnA.keep {K : PySem.W.Frag} {H H' : Hp} {d c st es sl ml : Addr} {ov : V} {s : Sn} (h : SnA H st es sl ml ov s) (S : St1 K H d c) (k : Keep d H H') (n : st ≠ d) : SnA H' st es sl ml ov s :=
  h.ft (FT.keep (M := [d]) (TT := []) S k (by simp)) (fun _ h => nomatch h) (by simpa using n)
theorem SnA.same {H H' : Hp} {st es sl ml : Addr} {ov : V} {s : Sn} (h : SnA H st es sl ml ov s) (k : Same H H') : SnA H' st es sl ml ov s :=
  h.ft (M := []) (TT := []) (FT.same k) (fun _ h => nomatch h) (by simp)
def skv7 (s : Sn) (es sl ml : Addr) : List (Key × V) := [(.inr "error", .int s.err), (.inr "estimate", .ref es), (.inr "sent", .ref sl), (.inr "stream", .ref ml), (.inr "got", .int s.got), (.inr "held", .int s.held), (.inr "lost", .int s.lost)]
theorem sp7 (s : Sn) (es sl ml : Addr) (x : V) : putK (skv7 s es sl ml) (.inr "offset") x = skv s es sl ml x := rfl
theorem p7_offset {H : Hp} {st es sl ml : Addr} {s : Sn} (h : H st = some (.dK (skv7 s es sl ml))) (x : V) : DPut H st (.str "offset") x (upd H st (.dK (skv s es sl ml x))) := sp7 s es sl ml x ▸ DPut.k (k := .inr "offset") h (small1000 (by show 7 ≤ 1000; decide))
/-- a frame more -/
theorem SnA.sent {H : Hp} {st es sl ml p a b : Addr} {ov : V} {s : Sn} {t : Snt} {ys : List V} (h : SnA H st es sl ml ov s) (ne : ml ≠ sl) (hl : H sl = some (.lst ys)) (hp : H p = some (.tup [.ref a, .ref b, .int t.at_])) (ha : H a = some (.tup t.tv)) (hb : H b = some (.tup t.pv)) :
    SnA (upd H sl (.lst (ys ++ [.ref p]))) st es sl ml ov { s with ss := s.ss ++ [t] } := by
  have kt : ∀ a u, H a = some (.tup u) → (upd H sl (.lst (ys ++ [.ref p]))) a = some (.tup u) := fun a u e => by rw [upd_ne (ne_of e hl (by intro z; cases z))]; exact e
  exact ⟨by rw [upd_ne (ne_of h.d hl (by intro z; cases z))]; exact h.d, kt _ _ h.e, h.sn.snoc hl hp ha hb, by rw [upd_ne ne]; exact h.m, h.o.move kt⟩
/-- the stream is another list -/
theorem SnA.strm {H : Hp} {st es sl ml ml' : Addr} {ov : V} {s : Sn} {ms : List Int} (h : SnA H st es sl ml ov s) (hm : H ml' = some (.lst (ms.map V.int))) : SnA (upd H st (.dK (skv s es sl ml' ov))) st es sl ml' ov { s with ms := ms } := by
  have kt : ∀ a u, H a = some (.tup u) → (upd H st (.dK (skv s es sl ml' ov))) a = some (.tup u) := fun a u e => by rw [upd_ne (ne_of e h.d (by intro z; cases z))]; exact e
  have kl : ∀ a u, H a = some (.lst u) → (upd H st (.dK (skv s es sl ml' ov))) a = some (.lst u) := fun a u e => by rw [upd_ne (ne_of e h.d (by intro z; cases z))]; exact e
  exact ⟨upd_same, kt _ _ h.e, h.sn.move (fun xs e => kl _ _ e) kt, kl _ _ hm, h.o.move kt⟩
theorem SnA.offL {H : Hp} {L st es sl ml : Addr} {ov : V} {s : Sn} {xs : List V} {o : HO} (h : SnA H st es sl ml ov s) (hL : H L = some (.lst xs)) (n1 : sl ≠ L) (n2 : ml ≠ L) : SnA (upd H L o) st es sl ml ov s := by
  have kt : ∀ a u, H a = some (.tup u) → (upd H L o) a = some (.tup u) := fun a u e => by rw [upd_ne (ne_of e hL (by intro z; cases z))]; exact e
  exact ⟨by rw [upd_ne (ne_of h.d hL (by intro z; cases z))]; exact h.d, kt _ _ h.e, h.sn.move (fun xs e => by rw [upd_ne n1]; exact e) kt, by rw [upd_ne n2]; exact h.m, h.o.move kt⟩
/-- the dict alone is written -/
theorem SnA.put {H : Hp} {st es sl ml : Addr} {ov : V} {s s' : Sn} (h : SnA H st es sl ml ov s) (e1 : s'.E = s.E) (e2 : s'.ss = s.ss) (e3 : s'.ms = s.ms) (e4 : s'.off = s.off) : SnA (upd H st (.dK (skv s' es sl ml ov))) st es sl ml ov s' := by
  have kt : ∀ a u, H a = some (.tup u) → (upd H st (.dK (skv s' es sl ml ov))) a = some (.tup u) := fun a u e => by rw [upd_ne (ne_of e h.d (by intro z; cases z))]; exact e
  have kl : ∀ a u, H a = some (.lst u) → (upd H st (.dK (skv s' es sl ml ov))) a = some (.lst u) := fun a u e => by rw [upd_ne (ne_of e h.d (by intro z; cases z))]; exact e
  exact ⟨upd_same, by rw [e1]; exact kt _ _ h.e, by rw [e2]; exact h.sn.move (fun xs e => kl _ _ e) kt, by rw [e3]; exact kl _ _ h.m, by rw [e4]; exact h.o.move kt⟩
section
variable {H : Hp} {st es sl ml : Addr} {ov : V} {s : Sn}
theorem SnA.g_error (h : SnA H st es sl ml ov s) : DGet H st (.str "error") (some (.int s.err)) := sv_error s es sl ml ov ▸ DGet.k (k := .inr "error") h.d
theorem SnA.g_estimate (h : SnA H st es sl ml ov s) : DGet H st (.str "estimate") (some (.ref es)) := sv_estimate s es sl ml ov ▸ DGet.k (k := .inr "estimate") h.d
theorem SnA.g_sent (h : SnA H st es sl ml ov s) : DGet H st (.str "sent") (some (.ref sl)) := sv_sent s es sl ml ov ▸ DGet.k (k := .inr "sent") h.d
theorem SnA.g_stream (h : SnA H st es sl ml ov s) : DGet H st (.str "stream") (some (.ref ml)) := sv_stream s es sl ml ov ▸ DGet.k (k := .inr "stream") h.d
theorem SnA.g_got (h : SnA H st es sl ml ov s) : DGet H st (.str "got") (some (.int s.got)) := sv_got s es sl ml ov ▸ DGet.k (k := .inr "got") h.d
theorem SnA.g_held (h : SnA H st es sl ml ov s) : DGet H st (.str "held") (some (.int s.held)) := sv_held s es sl ml ov ▸ DGet.k (k := .inr "held") h.d
theorem SnA.g_lost (h : SnA H st es sl ml ov s) : DGet H st (.str "lost") (some (.int s.lost)) := sv_lost s es sl ml ov ▸ DGet.k (k := .inr "lost") h.d
theorem SnA.g_offset (h : SnA H st es sl ml ov s) : DGet H st (.str "offset") (some ov) := sv_offset s es sl ml ov ▸ DGet.k (k := .inr "offset") h.d
theorem sk_few (s : Sn) (es sl ml : Addr) (ov : V) : (skv s es sl ml ov).length < 1000 := by show 8 < 1000; decide
theorem SnA.p_estimate (h : H st = some (.dK (skv s es sl ml ov))) (x : Addr) : DPut H st (.str "estimate") (.ref x) (upd H st (.dK (skv s x sl ml ov))) := sp_estimate s es sl ml ov x ▸ DPut.k (k := .inr "estimate") h (small1000 (by show 8 ≤ 1000; decide))
theorem SnA.p_stream (h : H st = some (.dK (skv s es sl ml ov))) (x : Addr) : DPut H st (.str "stream") (.ref x) (upd H st (.dK (skv s es sl x ov))) := sp_stream s es sl ml ov x ▸ DPut.k (k := .inr "stream") h (small1000 (by show 8 ≤ 1000; decide))
theorem SnA.p_got (h : H st = some (.dK (skv s es sl ml ov))) (x : Nat) : DPut H st (.str "got") (.int x) (upd H st (.dK (skv { s with got := x } es sl ml ov))) := sp_got s es sl ml ov x ▸ DPut.k (k := .inr "got") h (small1000 (by show 8 ≤ 1000; decide))
theorem SnA.p_held (h : H st = some (.dK (skv s es sl ml ov))) (x : Int) : DPut H st (.str "held") (.int x) (upd H st (.dK (skv { s with held := x } es sl ml ov))) := sp_held s es sl ml ov x ▸ DPut.k (k := .inr "held") h (small1000 (by show 8 ≤ 1000; decide))
theorem SnA.p_lost (h : H st = some (.dK (skv s es sl ml ov))) (x : Int) : DPut H st (.str "lost") (.int x) (upd H st (.dK (skv { s with lost := x } es sl ml ov))) := sp_lost s es sl ml ov x ▸ DPut.k (k := .inr "lost") h (small1000 (by show 8 ≤ 1000; decide))
theorem SnA.p_offset (h : H st = some (.dK (skv s es sl ml ov))) (x : V) : DPut H st (.str "offset") x (upd H st (.dK (skv s es sl ml x))) := sp_offset s es sl ml ov x ▸ DPut.k (k := .inr "offset") h (small1000 (by show 8 ≤ 1000; decide))
end
structure SnOk (g : Int) (s : Sn) : Prop where
  W : Whole s.ms (s.ss.map fun t => (t.fr, t.at_))
  ml : s.ms.length ≤ 300
  got : s.got ≤ s.ms.length
  e0 : 0 ≤ s.err
  e1 : s.err ≤ g
  ts : s.ss.length ≤ 20
  lost : (notes (none, 0) (s.ss.map (·.c))).2 = s.lost
  tz : ∀ t ∈ s.ss, -1000 ≤ t.tz
  bd : ∀ t ∈ s.ss, t.px.natAbs < 2 ^ 60 ∧ t.py.natAbs < 2 ^ 60 ∧ t.tx.natAbs < 2 ^ 60 ∧ t.ty.natAbs < 2 ^ 60
  of : ∀ o, s.off = some o → EstOk s.E o.1 o.2 ∧ ∀ t ∈ s.ss, t.Ok s.err o.1 o.2
/-- the frames that end between two places -/
def newS (s : Sn) (e : Nat) : List Snt := s.ss.filter fun t => decide (s.got < t.at_ ∧ t.at_ ≤ e)
theorem newS_fr (s : Sn) (e : Nat) : ((s.ss.map fun t => (t.fr, t.at_)).filter fun a => decide (s.got < a.2 ∧ a.2 ≤ e)).map (·.1) = (newS s e).map Snt.fr := by
  unfold newS
  rw [List.filter_map, List.map_map]
  rfl
/-- both sides of a radar -/
structure One (CS : Addr) (H : Hp) (st p : Addr) (g : Int) (r : RuD) (s : Sn) (a : Sta) : Prop where
  sn : ∃ es sl ml ov, SnA H st es sl ml ov s
  ob : ∃ dx, H p = some (.ins CS dx (stf a))
  RU : RuAt H a.ru r
  RR : RrAt H a.ru s.err
  bo : H a.bo = some (.tup s.E.v)
  re : H a.re = some (.lst ((rm (s.ms.take s.got)).map V.int))
  nt : notes (none, 0) ((rd (s.ms.take s.got)).map (·.c)) = (a.lc, a.ml)
  mh : a.mh = s.held
  ok : SnOk g s
  n1 : a.ru ≠ st
theorem One.ft {CS : Addr} {H H' : Hp} {M TT : List Addr} {st p : Addr} {g : Int} {r : RuD} {s : Sn} {a : Sta} (h : One CS H st p g r s a) (x : FT M TT H H') (t : Tabs TT H) (n : st ∉ M) (m : p ∉ M) (k : a.ru ∉ M) : One CS H' st p g r s a :=
  { h with sn := let ⟨es, sl, ml, ov, y⟩ := h.sn; ⟨es, sl, ml, ov, y.ft x t n⟩, ob := let ⟨dx, y⟩ := h.ob; ⟨dx, x.i t y m⟩, RU := x.ru t h.RU k, RR := x.rr t h.RR k, bo := x.t _ _ h.bo, re := x.l _ _ h.re }
theorem EstOk.sides {E : Est} {ox oy : Int} (ok : EstOk E ox oy) : Sk.sides E := by
  obtain ⟨k1, k2, k3, k4, k5, k6, k7, k8⟩ := ok
  have sx := side_bd (show E.x1 ≤ E.x2 by omega)
  have sy := side_bd (show E.y1 ≤ E.y2 by omega)
  unfold Sk.sides
  omega
/-- what is read of a piece -/
theorem SnOk.piece {g : Int} {s : Sn} (k : SnOk g s) {n : Nat} (h : s.got + n ≤ s.ms.length) :
    rd (rm (s.ms.take s.got) ++ (s.ms.drop s.got).take n) = (newS s (s.got + n)).map Snt.fr ∧ rm (rm (s.ms.take s.got) ++ (s.ms.drop s.got).take n) = rm (s.ms.take (s.got + n)) ∧
    rd (s.ms.take (s.got + n)) = rd (s.ms.take s.got) ++ (newS s (s.got + n)).map Snt.fr := by
  have a := k.W.new (g := s.got) (e := s.got + n) (by omega)
  rw [show s.got + n - s.got = n by omega, newS_fr] at a
  refine ⟨a.1, a.2, ?_⟩
  rw [← a.1, ← rd_app, List.take_add]
theorem SnOk.pbyte {g : Int} {s : Sn} (k : SnOk g s) (n : Nat) : ∀ x ∈ rm (s.ms.take s.got) ++ (s.ms.drop s.got).take n, Byte x := fun x hx => by
  rcases List.mem_append.mp hx with h | h
  · exact rm_sub _ (fun y hy => k.W.byte y (List.mem_of_mem_take hy)) x h
  · exact k.W.byte x (List.mem_of_mem_drop (List.mem_of_mem_take h))
theorem SnOk.plen {g : Int} {s : Sn} (k : SnOk g s) {n : Nat} (h : s.got + n ≤ s.ms.length) : (rm (s.ms.take s.got) ++ (s.ms.drop s.got).take n).length ≤ 500 := by
  have := rm_len (s.ms.take s.got)
  have := k.ml
  rw [List.length_append, List.length_take, List.length_drop]
  omega
theorem map_fr {g : Int} {s : Sn} (k : SnOk g s) (e : Nat) : ((newS s e).map Snt.fr).map (Sk.mv s.E) = (newS s e).map (Snt.mv s.E) := by
  rw [List.map_map]
  refine List.map_congr_left fun t ht => ?_
  exact Snt.fr_mv s.E (k.tz t ((List.mem_filter.mp ht).1))
/-! promises -/
def spCodeL : Sp := fun vs H Q _ => ∃ n : Nat, vs = [nv n] ∧ n < 2 ^ 16 ∧ Q (nv (enc n)) H
def spWalk1 (K : PySem.W.Frag) : Sp := fun vs H Q _ => ∃ (d c ch : Addr) (D : CD), vs = [.ref d, .ref ch] ∧ St1 K H d c ∧ ChartAt H ch D ∧ ch ≠ d ∧ D.fx ≠ d ∧ D.ls ≠ [] ∧
  ∀ (ns : List Str) r H', Route D ns → ns.length = 2 → H r = none → H' r = some (.tup (ns.map V.str)) → St1 K H' d c → Keep d H H' → Q (.ref r) H'
def spStation (K : PySem.W.Frag) : Sp := fun vs H Q _ => ∃ (d c ru : Addr) (g : Int), vs = [.ref d, .ref ru] ∧ St1 K H d c ∧ RrAt H ru g ∧ 0 ≤ g ∧ g ≤ 20 ∧ ru ≠ d ∧
  ∀ st es sl ml ov s H', H st = none → H sl = none → H ml = none → SnA H' st es sl ml ov s → SnOk g s → s.got = 0 → s.held = 0 → s.off ≠ none → St1 K H' d c → Keep d H H' → Q (.ref st) H'
def spDue (TT : List Addr) : Sp := fun vs H Q _ => ∃ (st es sl ml ru : Addr) (ov : V) (s : Sn) (g : Int) (e : Nat), vs = [.ref st, .ref ru, .int e] ∧ SnA H st es sl ml ov s ∧ RrAt H ru g ∧ ru ≠ st ∧ Sk.sides s.E ∧ s.ss.length ≤ 20 ∧ (∀ t ∈ s.ss, t.px.natAbs < 2 ^ 60 ∧ t.py.natAbs < 2 ^ 60 ∧ t.tx.natAbs < 2 ^ 60 ∧ t.ty.natAbs < 2 ^ 60) ∧
  ∀ q H', PasAt H' q s.E (if eR s.err s.E ≤ g then newS s e else []) → SnA H' st es sl ml ov { s with held := s.held + if eR s.err s.E ≤ g then 0 else ((newS s e).length : Int) } → FT [st] TT H H' → Q (.ref q) H'
def spRcvd (K : PySem.W.Frag) (CW CS : Addr) (TT : List Addr) : Sp := fun vs H Q _ => ∃ (D dsl st ru pc p : Addr) (k : Nat) (g : Int) (r : RuD) (Ss : List Addr) (s : Sn) (a : Sta) (n : Nat), vs = [.ref D, .ref st, .ref ru, .int k, .ref pc] ∧ DskAt CW H D dsl g Ss ∧ Ss[k]? = some p ∧ D ≠ p ∧
  One CS H st p g r s a ∧ s.off ≠ none ∧ RrAt H ru g ∧ 0 ≤ g ∧ g ≤ 20 ∧ ru ≠ st ∧ H pc = some (.lst (((s.ms.drop s.got).take n).map V.int)) ∧ s.got + n ≤ s.ms.length ∧ Tabs TT H ∧
  ∀ (h' : Int) (a' : Sta) (H' : Hp), One CS H' st p g r { s with got := s.got + n, held := h' } a' → a'.ru = a.ru → FT [st, p] TT H H' → Q (.bl true) H'
end Sk

set_option Elab.async false
set_option linter.all false
set_option maxRecDepth 100000
set_option maxHeartbeats 4000000
namespace Sk
open PySem PySem.Spec PyProof.Rows L2
/-! all that the law carries -/
def fset {α : Type} (f : Nat → α) (i : Nat) (v : α) : Nat → α := fun j => if j = i then v else f j
theorem fset_at {α : Type} (f : Nat → α) (i : Nat) (v : α) : fset f i v i = v := if_pos rfl
theorem fset_ne {α : Type} {f : Nat → α} {i j : Nat} {v : α} (h : j ≠ i) : fset f i v j = f j := if_neg h
/-- who is who -/
structure Dst48 (d ch fx ru D : Addr) (n : Nat) (S T : Nat → Addr) : Prop where
  nch : ch ≠ d
  nfx : fx ≠ d
  nru : ru ≠ d
  td : ∀ i, i < n → T i ≠ d
  tch : ∀ i, i < n → ch ≠ T i
  tfx : ∀ i, i < n → fx ≠ T i
  tru : ∀ i, i < n → ru ≠ T i
  tt : ∀ i j, i < n → j < n → i ≠ j → T i ≠ T j
  ss : ∀ i j, i < n → j < n → i ≠ j → S i ≠ S j
  ds : ∀ i, i < n → D ≠ S i
structure W48 (K : PySem.W.Frag) (CW CS : Addr) (TT : List Addr) (H : Hp) (d c ch ru D dsl L : Addr) (n : Nat) (S T : Nat → Addr) (X : Nat → Sn) (A : Nat → Sta) (g : Int) (r : RuD) (Dc : CD) : Prop where
  S0 : St1 K H d c
  T0 : Tabs TT H
  C0 : ChartAt H ch Dc
  RU : RuAt H ru r
  RR : RrAt H ru g
  DA : DskAt CW H D dsl g ((List.range n).map S)
  L : H L = some (.lst ((List.range n).map fun i => .ref (T i)))
  one : ∀ i, i < n → One CS H (T i) (S i) g r (X i) (A i)
  at_ : ∀ i j, i < n → j < n → (A i).ru ≠ T j
  ad : ∀ i, i < n → (A i).ru ≠ d
  X_ : Dst48 d ch Dc.fx ru D n S T
  g0 : 0 ≤ g
  g1 : g ≤ 20
  n0 : 1 ≤ n
  n1 : n ≤ 2
section
variable {K : PySem.W.Frag} {CW CS : Addr} {TT M : List Addr} {H H' : Hp} {d c ch ru D dsl L : Addr} {n : Nat} {S T : Nat → Addr} {X : Nat → Sn} {A : Nat → Sta} {g : Int} {r : RuD} {Dc : CD}
theorem dk_ins {a p C dx : Addr} {fs : List (Str × V)} {kvs : List (Key × V)} (h : H a = some (.dK kvs)) (e : H p = some (.ins C dx fs)) : a ≠ p := ne_of h e (by intro z; cases z)
theorem W48.rui (w : W48 K CW CS TT H d c ch ru D dsl L n S T X A g r Dc) {i : Nat} (h : i < n) : ∀ a kvs, H a = some (.dK kvs) → a ≠ S i := fun a kvs e => let ⟨dx, o⟩ := (w.one i h).ob; dk_ins e o
theorem W48.same (w : W48 K CW CS TT H d c ch ru D dsl L n S T X A g r Dc) (s : Same H H') : W48 K CW CS TT H' d c ch ru D dsl L n S T X A g r Dc :=
  { w with S0 := w.S0.same s, T0 := Same.tabs s w.T0, C0 := w.C0.same s, RU := w.RU.same s, RR := w.RR.same s, DA := w.DA.ft (M := []) (TT := TT) (FT.same s) w.T0 (by simp), L := s _ _ w.L, one := fun i h => (w.one i h).ft (M := []) (TT := TT) (FT.same s) w.T0 (by simp) (by simp) (by simp) }
theorem W48.keep (w : W48 K CW CS TT H d c ch ru D dsl L n S T X A g r Dc) (S' : St1 K H' d c) (k : Keep d H H') : W48 K CW CS TT H' d c ch ru D dsl L n S T X A g r Dc := by
  have F : FT [d] TT H H' := FT.keep w.S0 k (by simp)
  obtain ⟨kvs, hd⟩ := w.S0.dk
  obtain ⟨dx, hD⟩ := w.DA.ob
  exact { w with S0 := S', T0 := F.tb w.T0, C0 := w.C0.keep w.S0 k w.X_.nch w.X_.nfx, RU := w.RU.keep k w.X_.nru, RR := w.RR.keep k w.X_.nru, DA := w.DA.ft F w.T0 (by simpa using (dk_ins hd hD).symm), L := k.l w.S0 w.L, one := fun i h => (w.one i h).ft F w.T0 (by simpa using w.X_.td i h) (by simpa using (w.rui h d kvs hd).symm) (by simpa using w.ad i h) }
/-- one of the radars has gone on -/
theorem W48.step (w : W48 K CW CS TT H d c ch ru D dsl L n S T X A g r Dc) {i : Nat} (h : i < n) {s' : Sn} {a' : Sta} (F : FT [T i, S i] TT H H') (o : One CS H' (T i) (S i) g r s' a') (ea : a'.ru = (A i).ru) :
    W48 K CW CS TT H' d c ch ru D dsl L n S T (fset X i s') (fset A i a') g r Dc := by
  obtain ⟨kvs, hd⟩ := w.S0.dk
  obtain ⟨dx, hD⟩ := w.DA.ob
  obtain ⟨es, sl, ml, ov, sA⟩ := (w.one i h).sn
  obtain ⟨k1, e1, _⟩ := w.C0.ch
  obtain ⟨k2, e2, _⟩ := w.RR
  have nd : ∀ a kvs, H a = some (.dK kvs) → a ≠ T i → a ∉ [T i, S i] := fun a kvs e n => by
    simp only [List.mem_cons, List.not_mem_nil, or_false, not_or]
    exact ⟨n, w.rui h a kvs e⟩
  refine { w with S0 := F.s1 w.T0 w.S0 (nd _ _ hd (w.X_.td i h).symm), T0 := F.tb w.T0, C0 := F.ch w.T0 w.C0 (nd _ _ e1 (w.X_.tch i h)) (nd _ _ w.C0.fx (w.X_.tfx i h)), RU := F.ru w.T0 w.RU (nd _ _ e2 (w.X_.tru i h)), RR := F.rr w.T0 w.RR (nd _ _ e2 (w.X_.tru i h)), DA := w.DA.ft F w.T0 ?_, L := F.l _ _ w.L, one := fun j hj => ?_, at_ := fun j k hj hk => ?_, ad := fun j hj => ?_ }
  · simp only [List.mem_cons, List.not_mem_nil, or_false, not_or]
    exact ⟨(dk_ins sA.d hD).symm, w.X_.ds i h⟩
  · by_cases z : j = i
    · rw [z, fset_at, fset_at]; exact o
    · rw [fset_ne z, fset_ne z]
      obtain ⟨es2, sl2, ml2, ov2, sA2⟩ := (w.one j hj).sn
      obtain ⟨dx2, o2⟩ := (w.one j hj).ob
      obtain ⟨k3, e3, _⟩ := (w.one j hj).RR
      refine (w.one j hj).ft F w.T0 (nd _ _ sA2.d (w.X_.tt j i hj h z)) ?_ (nd _ _ e3 (w.at_ j i hj h))
      simp only [List.mem_cons, List.not_mem_nil, or_false, not_or]
      exact ⟨(dk_ins sA.d o2).symm, w.X_.ss j i hj h z⟩
  · by_cases z : j = i
    · rw [z, fset_at, ea]; exact w.at_ i k h hk
    · rw [fset_ne z]; exact w.at_ j k hj hk
  · by_cases z : j = i
    · rw [z, fset_at, ea]; exact w.ad i h
    · rw [fset_ne z]; exact w.ad j hj
theorem W48.stn (w : W48 K CW CS TT H d c ch ru D dsl L n S T X A g r Dc) {i : Nat} (h : i < n) : ((List.range n).map S)[i]? = some (S i) := by rw [List.getElem?_map, List.getElem?_range h]; rfl
theorem W48.lat (w : W48 K CW CS TT H d c ch ru D dsl L n S T X A g r Dc) {i : Nat} (h : i < n) : atI ((List.range n).map fun i => V.ref (T i)) (i : Int) = some (.ref (T i)) := atI_nat (by rw [List.getElem?_map, List.getElem?_range h]; rfl)
end
theorem pcs_le {D : CD} {ns : List Str} {lo hi : Int} {ss : List Seg} (n20 : ns.length ≤ 20) (e : pcs D ns lo hi = ss.map Seg.li) : ss.length ≤ 100 := by
  have h := pcs_len D ns lo hi
  rw [e, List.length_map] at h
  omega
theorem total_pos {D : CD} {ns : List Str} (pos : PosR D ns) (n2 : 2 ≤ ns.length) : 1 ≤ bg D ns (ns.length - 1) := by
  have a := pos.lt (j := 0) (by omega)
  have b := bg_mono D ns (show 0 + 1 ≤ ns.length - 1 by omega)
  have e : bg D ns 0 = 0 := rfl
  omega
theorem One.stay {CS : Addr} {H H' : Hp} {TT : List Addr} {st p dx : Addr} {g : Int} {r : RuD} {s : Sn} {a : Sta} (h : One CS H st p g r s a) (x : FT [p] TT H H') (t : Tabs TT H) (o : H' p = some (.ins CS dx (stf a))) : One CS H' st p g r s a := by
  obtain ⟨dx0, o0⟩ := h.ob
  obtain ⟨es, sl, ml, ov, y⟩ := h.sn
  obtain ⟨kvs, e, _⟩ := id h.RR
  exact { h with sn := ⟨es, sl, ml, ov, y.ft x t (by simpa using dk_ins y.d o0)⟩, ob := ⟨dx, o⟩, RU := x.ru t h.RU (by simpa using dk_ins e o0), RR := x.rr t h.RR (by simpa using dk_ins e o0), bo := x.t _ _ h.bo, re := x.l _ _ h.re }
theorem Est.dp {K : PySem.W.Frag} {H : Hp} {e : Addr} {E : Est} (h : H e = some (.tup E.v)) : Dp K H (.ref e) (pdT [E.x1, E.x2, E.y1, E.y2]) := .tup (.inl (.inl h)) (dpAll_int [E.x1, E.x2, E.y1, E.y2])
def spLearned (K : PySem.W.Frag) (CW CS C : Addr) (TT : List Addr) : Sp := fun vs H Q _ => ∃ (d c ch ru D dsl L : Addr) (n : Nat) (S T : Nat → Addr) (X : Nat → Sn) (A : Nat → Sta) (g : Int) (r : RuD) (Dc : CD), vs = [.ref d, .ref D, .ref L, .ref ru, .ref ch] ∧ W48 K CW CS TT H d c ch ru D dsl L n S T X A g r Dc ∧
  (∀ i, i < n → (X i).off ≠ none) ∧ Dc.ls ≠ [] ∧ (∀ l ∈ Dc.ls, 1 ≤ Dc.len l.s l.e) ∧ ∀ X' A' H', W48 K CW CS TT H' d c ch ru D dsl L n S T X' A' g r Dc → Q (.bl true) H'
def spLaw (K : PySem.W.Frag) (TT : List Addr) : Sp := fun vs H Q _ => ∃ (a : Addr) (ns : List Int), vs = [.ref a] ∧ SqL K H a (ns.map V.int) ∧ ns.length ≤ 63 ∧ Tabs TT H ∧ ∀ H', Q (.bl true) H'
theorem cut_piece {ns : List Int} {g z : Nat} (hg : g ≤ ns.length) : cutV (ns.map V.int) (some (g : Int)) (some ((g : Int) + (z : Int))) = ((ns.drop g).take (min z (ns.length - g))).map V.int := by
  rw [show (g : Int) + (z : Int) = ((g + z : Nat) : Int) by omega]
  unfold cutV
  rw [HT.sIx_nat, HT.sIx_nat, List.length_map, Nat.min_eq_left hg, List.map_take, List.map_drop]
  congr 1
  omega
def lst48 (ss : List Snt) : Nat := ((0 : Nat) :: ss.map (·.at_)).getLast (by simp)
theorem SnOk.rest {g : Int} {s : Sn} (k : SnOk g s) : rm s.ms = s.ms.drop (max (lst48 s.ss) (s.ms.length - 10)) ∧ lst48 s.ss ≤ s.ms.length := by
  have a := k.W.rm
  have e : (((0 : Nat) :: (s.ss.map fun t => (t.fr, t.at_)).map (·.2)).getLast (by simp)) = lst48 s.ss := by
    unfold lst48
    congr 1
    rw [List.map_map]
    rfl
  rw [e] at a
  refine ⟨a, ?_⟩
  obtain ⟨m, n, em, S, _, _⟩ := k.W.ex
  rw [← e, S.last, em, List.length_append]
  omega
theorem ends_last (ss : List Snt) : (V.int 0 :: ss.map fun t => V.int (t.at_ : Int)).getLast? = some (.int (lst48 ss : Int)) := by
  have e : (V.int 0 :: ss.map fun t => V.int (t.at_ : Int)) = ((0 : Nat) :: ss.map (fun t => t.at_)).map (fun n : Nat => V.int (n : Int)) := by
    rw [List.map_cons, List.map_map]
    rfl
  rw [e, List.getLast?_map, List.getLast?_eq_some_getLast (by simp)]
  rfl
theorem range_getD (Ss : List Addr) : (List.range Ss.length).map (fun i => Ss.getD i 0) = Ss := by
  refine List.ext_getElem (by simp) fun i h1 h2 => ?_
  simp [h2]
theorem PathAt.ft48 {C : Addr} {M TT : List Addr} {H H' : Hp} {p r : Addr} {D : CD} {ns : List Str} (P : PathAt C H p D ns r) (x : FT M TT H H') (t : Tabs TT H) (n : p ∉ M) : PathAt C H' p D ns r := by
  obtain ⟨dx, l1, l2, l3, l4, sa, va, P⟩ := P
  exact ⟨dx, l1, l2, l3, l4, sa, va, { P with ob := x.i t P.ob n, rt := x.t _ _ P.rt, lg := x.l _ _ P.lg, st := x.l _ _ P.st, ve := x.l _ _ P.ve, bgn := x.l _ _ P.bgn, sx := fun j h => x.t _ _ (P.sx j h), vx := fun j h => x.t _ _ (P.vx j h) }⟩
end Sk

set_option Elab.async false
set_option linter.all false
set_option maxRecDepth 100000
set_option maxHeartbeats 4000000
namespace Sk
open PySem PySem.Spec PyProof.Rows L2
def top (i : Nat) : Stmt := PySem.Challenge.pw_skyapart_k48_whole_radar_desk.main.body.getD i (.Pass ⟨0, 0, 0, 0⟩)
abbrev s_law_start : Stmt := top 34
abbrev s_law_draw : Stmt := top 35
abbrev s_law_pick : Stmt := top 36
section
variable {P : Program} {w : World} {K : PySem.W.Frag} {mg : Str → Option Value} {base : Heap}
theorem sc_law_start : FnScope ["script", "cell"] ["script"] (defScope s_law_start) := ⟨rfl, rfl, rfl, by decide +kernel, rfl, by decide +kernel, by decide +kernel⟩
theorem ok_law_start {f : Addr} {fd : FuncData} (F : Fun K "_law_start" "_law_start" s_law_start f fd) (T : Txt0 mg) : FnOk P w K mg base CX0 1 f fd ["script"] (spStart K) := by
  refine F.ok sc_law_start (fun vs H Q E h => ?_) (fun cdv A outer s H vs Q E hr h => ?_)
  · obtain ⟨a, ns, rfl, _⟩ := h
    rfl
  · obtain ⟨a, ns, rfl, hS, hl, k⟩ := h
    refine ⟨_, (pss_one (ps_ret (pe_disp (pps_cons pe_str (pe_lc (own := [("cell", 1)]) (g := gName 1) (by rfl) sc_law_start.nd (pi_list (pv 0)) (blkOk_by (own := [("cell", 1)]) (N := ["script", "cell"]) (sc := defScope s_law_start) (by decide +kernel)) (fun _ _ _ _ _ => (pg_name (i := 1) sc_law_start.nd rfl (Or.inl rfl))) (fun _ _ _ _ _ => pts_nil) (fun _ _ _ _ _ => (pe_callB call_abs (by rfl) T.abs boot_abs (pa_cons (pe_callTy call_int1 (by rfl) T.int boot_int (pa_cons (pv 1) pa_nil)) pa_nil)))) (pps_cons pe_str pe_int (pps_cons pe_str pe_int (pps_cons pe_str (pe_op op_add pe_int (pe_callB call_len_seq (by rfl) T.len boot_len (pa_cons (pv 0) pa_nil))) pps_nil)))) (by rfl) (by rfl) (fun z => by cases z) (by decide)))), ?_⟩
    -- the dict
    intro d hd
    have s0 : Same H (upd H d (.dK [])) := same_new hd
    refine ⟨_, rfl, a, rfl, ⟨_, s0.seq hS⟩, fun D hD => ?_⟩
    have nDd : d ≠ D := fun z => by rw [← z, upd_same] at hD; cases hD
    refine lc_list (K := K) (a := a) (xs := ns.map V.int) (fun i H' => ∃ cs : List Int, H' D = some (.lst (cs.map V.int)) ∧ cs.length = i ∧ (∀ x ∈ cs, 0 ≤ x) ∧ Same H H' ∧ H' d = some (.dK []))
      ⟨[], upd_same, rfl, (fun _ h => nomatch h), fun b o e => (same_new hD) b o (s0 b o e), by rw [upd_ne nDd, upd_same]⟩ (fun i H' _ ⟨_, _, _, _, s2, _⟩ => s2.seq hS) ?_ ?_
    · rintro i x H' hx ⟨cs, hc, hi, hn, s2, h2⟩
      obtain ⟨z, rfl⟩ : ∃ z, x = V.int z := by
        rw [List.getElem?_map] at hx
        cases e : ns[i]? with
        | none => rw [e] at hx; cases hx
        | some z => rw [e] at hx; exact ⟨z, (Option.some.inj hx).symm⟩
      have hil : i < (ns.map V.int).length := (List.getElem?_eq_some_iff.mp hx).1
      rw [List.length_map] at hil
      refine ⟨rfl, ?_⟩
      refine ⟨_, rfl, .inl ⟨_, rfl, _, rfl, _, hc, ?_, cs ++ [if z < 0 then -z else z], ?_, ?_, ?_, ?_, ?_⟩⟩
      · rw [List.length_map]; exact small1000 (by omega)
      · rw [upd_same, List.map_append]; rfl
      · rw [List.length_append, hi]; rfl
      · intro y hy
        rcases List.mem_append.mp hy with hy | hy
        · exact hn y hy
        · rw [List.mem_singleton.mp hy]; split <;> omega
      · intro b o e
        rw [upd_ne (ne_of_none e (s0.free hD))]
        exact s2 b o e
      · rw [upd_ne nDd]; exact h2
    · rintro H' ⟨cs, hc, hi, hn, s2, h2⟩
      refine ⟨_, rfl, a, _, rfl, .inl (s2.seq hS), _, _, rfl, rfl, h2, stK D 0 0 (7 + ((ns.map V.int).length : Int)), rfl, (by show 4 ≤ 15; decide), ?_⟩
      rw [merge_st]
      have hDd : D ≠ d := fun z => nDd z.symm
      refine k d D _ hd (s0.free hD) ⟨cs, 0, 0, _, upd_same, (by rw [upd_ne hDd]; exact hc), hn, by omega, by omega, ?_, ?_⟩ fun b o e => ?_
      · omega
      · rw [List.length_map]; omega
      · rw [upd_ne (ne_of_none e hd)]
        exact s2 b o e
theorem sc_law_draw : FnScope ["state", "bound", "cell", "number"] ["state", "bound"] (defScope s_law_draw) := ⟨rfl, rfl, rfl, by decide +kernel, rfl, by decide +kernel, by decide +kernel⟩
theorem ok_law_draw {f : Addr} {fd : FuncData} (F : Fun K "_law_draw" "_law_draw" s_law_draw f fd) (T : Txt0 mg) : FnOk P w K mg base CX0 1 f fd ["state", "bound"] (spDraw K) := by
  refine F.ok sc_law_draw (fun vs H Q E h => ?_) (fun cdv A outer s H vs Q E hr h => ?_)
  · obtain ⟨d, c, b, rfl, _⟩ := h
    rfl
  · obtain ⟨d, c, b, rfl, S1, b0, b1, k⟩ := h
    have hu := hu_of hr
    have hm : ∀ x : Int, 0 ≤ x % b ∧ x % b < b := fun x => ⟨Int.emod_nonneg x (by omega), Int.emod_lt_of_pos x b0⟩
    have hmx : ∀ x : Int, 0 ≤ x % 2147483647 ∧ x % 2147483647 < 2147483648 := fun x => by omega
    refine ⟨_, (pss_cons (ps_if (PW.pt (pw_and (pt_cmpR op_eq (pe_dget hu (pv 0) pe_str (fun _ _ => rfl)) pe_int (nomark _)) (pw_and1 (pt_cmpR op_lt (pe_dget hu (pv 0) pe_str (fun _ _ => rfl)) (pe_callB call_len_seq (by rfl) T.len boot_len (pa_cons (pe_dget hu (pv 0) pe_str (fun _ _ => rfl)) pa_nil)) (nomark _))))) (pss_cons (ps_set (i := 2) sc_law_draw.nd rfl (Or.inl rfl) (pe_ix ix_list (pe_dget hu (pv 0) pe_str (fun _ _ => rfl)) (pe_dget hu (pv 0) pe_str (fun _ _ => rfl)) (fun _ _ => rfl)))
    (pss_cons (ps_dput hu (pv 0) pe_str (pe_op op_add (pe_dget hu (pv 0) pe_str (fun _ _ => rfl)) pe_int) rfl)
    (pss_cons (ps_dput hu (pv 0) pe_str (pe_op op_mod (pe_callTy call_int1 (by rfl) T.int boot_int (pa_cons (pe_op op_add (pe_op op_add (pe_op op_mul (pe_dget hu (pv 0) pe_str (fun _ _ => rfl)) pe_int) (pv 2)) pe_int) pa_nil)) pe_int) rfl)
    (pss_cons (ps_if (pt_cmpR op_lt (pv 2) (pe_op op_pow pe_int pe_int) (nomark _)) (pss_one (ps_ret (pe_op op_mod (pe_callTy call_int1 (by rfl) T.int boot_int (pa_cons (pv 2) pa_nil)) (pv 1))))
      pss_nil)
    (pss_one (ps_dput hu (pv 0) pe_str (pv 2) rfl))))))
      pss_nil)
    (pss_cons (ps_if (pt_cmpR op_gt (pe_dget hu (pv 0) pe_str (fun _ _ => rfl)) pe_int (nomark _)) (pss_cons (ps_set (i := 3) sc_law_draw.nd rfl (Or.inl rfl) (pe_op op_mod (pe_callTy call_int1 (by rfl) T.int boot_int (pa_cons (pe_dget hu (pv 0) pe_str (fun _ _ => rfl)) pa_nil)) (pv 1)))
    (pss_cons (ps_dput hu (pv 0) pe_str (pe_op op_fdivW (pe_dget hu (pv 0) pe_str (fun _ _ => rfl)) (pv 1)) rfl)
    (pss_one (ps_ret (pv 3)))))
      pss_nil)
    (pss_cons (ps_dput hu (pv 0) pe_str (pe_op op_mod (pe_callTy call_int1 (by rfl) T.int boot_int (pa_cons (pe_op op_add (pe_op op_mul (pe_dget hu (pv 0) pe_str (fun _ _ => rfl)) pe_int) pe_int) pa_nil)) pe_int) rfl)
    (pss_one (ps_ret (pe_op op_mod (pe_callTy call_int1 (by rfl) T.int boot_int (pa_cons (pe_op op_mod (pe_callTy call_int1 (by rfl) T.int boot_int (pa_cons (pe_op op_add (pe_op op_mul (pe_dget hu (pv 0) pe_str (fun _ _ => rfl)) pe_int) pe_int) pa_nil)) pe_int) pa_nil)) (pv 1))))))), ?_⟩
    refine cut (fun σ' H' => ∃ v2 v3, σ' = [some (.ref d), some (.int b), v2, v3] ∧ St1 K H' d c ∧ Keep d H H') ?_ (fun rest => ?_)
    · -- the rest: from a number that is left, or from the mix
      rintro σ' H' ⟨v2, v3, rfl, ⟨ns, i, l, m, S⟩, kp⟩
      refine ⟨_, rfl, _, _, rfl, dg_left S.dc, _, _, rfl, rfl, _, rfl, ite2 (fun e => ?_) (fun e => ?_)⟩
      · refine ⟨_, rfl, _, _, rfl, dg_left S.dc, .inl ⟨_, rfl, _, rfl, _, _, rfl, rfl, b0, ?_⟩⟩
        refine ⟨_, rfl, _, _, rfl, dg_left S.dc, _, rfl, _, _, rfl, rfl, log_of b0 b1, _, rfl, _, _, rfl, dp_left S.dc, ?_⟩
        refine ⟨_, rfl, ?_⟩
        exact k _ _ (hm l).1 (hm l).2 ⟨_, _, _, _, S.put S.i0 (Int.ediv_nonneg S.l0 (by omega)) S.m0 S.m1⟩ (kp.trans (Keep.upd _ _ _))
      · refine ⟨_, rfl, _, _, rfl, dg_mix S.dc, _, _, rfl, rfl, .inr ⟨by decide, by decide⟩, _, _, rfl, rfl, .inl ⟨_, rfl, _, _, rfl, rfl, (by show (0:Int) < 2147483647; decide), _, rfl, _, _, rfl, dp_mix S.dc, ?_⟩⟩
        have S2 := S.put (i' := i) (l' := l) S.i0 S.l0 (hmx (m * 48271 + 11)).1 (hmx (m * 48271 + 11)).2
        refine ⟨_, rfl, _, _, rfl, dg_mix S2.dc, _, _, rfl, rfl, .inr ⟨by decide, by decide⟩, _, _, rfl, rfl, .inl ⟨_, rfl, _, _, rfl, rfl, (by show (0:Int) < 2147483629; decide), .inl ⟨_, rfl, _, rfl, _, _, rfl, rfl, b0, ?_⟩⟩⟩
        exact k _ _ (hm _).1 (hm _).2 ⟨_, _, _, _, S2⟩ (kp.trans (Keep.upd _ _ _))
    · -- the first if
      obtain ⟨ns, i, l, m, S⟩ := id S1
      refine ⟨_, rfl, _, _, rfl, dg_left S.dc, rfl, _, rfl, ite2 (fun e => ?_) (fun e => ?_)⟩
      · refine ⟨_, rfl, _, _, rfl, dg_at S.dc, _, rfl, _, _, rfl, dg_cells S.dc, _, _, rfl, .inl (.inl (.inl S.cs)), _, _, rfl, rfl, _, rfl, ite2 (fun e => ?_) (fun e => ?_)⟩
        · have hi : i < (ns.length : Int) := by
            have := of_decide_eq_true e
            rw [List.length_map] at this
            exact this
          obtain ⟨j, rfl⟩ : ∃ j : Nat, i = (j : Int) := ⟨i.toNat, by have := S.i0; omega⟩
          have hj : j < ns.length := by omega
          refine ⟨_, rfl, _, _, rfl, dg_cells S.dc, _, rfl, _, _, rfl, dg_at S.dc, _, _, _, _, rfl, rfl, .inl (.inl S.cs), atI_nat (j := j) (v := .int ns[j]) (by simp [hj]), ?_⟩
          have S2 := S.put (i' := (j : Int) + 1) (l' := l) (m' := m) (by omega) S.l0 S.m0 S.m1
          refine ⟨_, rfl, _, _, rfl, dg_at S.dc, _, _, rfl, rfl, _, rfl, _, _, rfl, dp_at S.dc, ?_⟩
          refine ⟨_, rfl, _, _, rfl, dg_mix S2.dc, _, _, rfl, rfl, .inr ⟨by decide, by decide⟩, _, rfl, _, _, rfl, rfl, _, _, rfl, rfl, .inl ⟨_, rfl, _, _, rfl, rfl, (by show (0:Int) < 2147483647; decide), _, rfl, _, _, rfl, dp_mix S2.dc, ?_⟩⟩
          have S3 := S2.put (i' := (j : Int) + 1) (l' := l) S2.i0 S.l0 (hmx (m * 48271 + ns[j] + 11)).1 (hmx (m * 48271 + ns[j] + 11)).2
          refine ⟨_, rfl, _, _, rfl, rfl, ⟨by decide, by decide, by decide⟩, _, _, rfl, rfl, _, rfl, ite2 (fun e => ?_) (fun e => ?_)⟩
          · refine ⟨_, rfl, .inl ⟨_, rfl, _, rfl, _, _, rfl, rfl, b0, ?_⟩⟩
            exact k _ _ (hm _).1 (hm _).2 ⟨_, _, _, _, S3⟩ ((Keep.upd _ _ _).trans (Keep.upd _ _ _))
          · refine ⟨_, rfl, _, rfl, _, _, rfl, dp_left S3.dc, ?_⟩
            have S4 := S3.put (i' := (j : Int) + 1) (l' := ns[j]) S2.i0 (S.nn _ (List.getElem_mem hj)) S3.m0 S3.m1
            exact rest _ _ ⟨_, _, rfl, ⟨_, _, _, _, S4⟩, ((Keep.upd _ _ _).trans (Keep.upd _ _ _)).trans (Keep.upd _ _ _)⟩
        · exact rest _ _ ⟨_, _, rfl, S1, Keep.refl _ _⟩
      · refine iteF ?_
        exact rest _ _ ⟨_, _, rfl, S1, Keep.refl _ _⟩
theorem sc_law_pick : FnScope ["state", "things"] ["state", "things"] (defScope s_law_pick) := ⟨rfl, rfl, rfl, by decide +kernel, rfl, by decide +kernel, by decide +kernel⟩
theorem ok_law_pick {f : Addr} {fd : FuncData} (F : Fun K "_law_pick" "_law_pick" s_law_pick f fd) (T : Txt0 mg) (D_law_draw : Def P w K mg base 1 "_law_draw" ["state", "bound"] (spDraw K)) : FnOk P w K mg base CX0 2 f fd ["state", "things"] (spPick K) := by
  refine F.ok sc_law_pick (fun vs H Q E h => ?_) (fun cdv A outer s H vs Q E hr h => ?_)
  · obtain ⟨d, c, l, xs, rfl, _⟩ := h
    rfl
  · obtain ⟨d, c, l, xs, rfl, S, hl, hn, hz, k⟩ := h
    refine ⟨_, (pss_one (ps_ret (pe_ix ix_list (pv 1) (pe_def D_law_draw (hr.mono (by decide)) (by rfl) (pa_cons (pv 0) (pa_cons (pe_callB call_len_seq (by rfl) T.len boot_len (pa_cons (pv 1) pa_nil)) pa_nil))) (fun _ _ => rfl)))), ?_⟩
    have hp : 0 < xs.length := List.length_pos_iff.mpr hn
    refine ⟨_, rfl, _, rfl, _, rfl, _, _, rfl, .inl hl, d, c, _, rfl, S, by omega, by omega, fun n H' n0 n1 S' kp => ?_⟩
    obtain ⟨kvs, hd⟩ := S.dk
    obtain ⟨j, rfl⟩ : ∃ j : Nat, n = (j : Int) := ⟨n.toNat, by omega⟩
    have hj : j < xs.length := by omega
    refine ⟨_, _, _, _, rfl, rfl, kp.seq hd hl, atI_nat (j := j) (v := xs[j]) (by simp [hj]), ?_⟩
    exact k _ _ (List.getElem_mem hj) S' kp
end
end Sk

set_option Elab.async false
set_option linter.all false
set_option maxRecDepth 100000
set_option maxHeartbeats 4000000
namespace Sk
open PySem PySem.Spec PyProof.Rows L2
section
variable {P : Program} {w : World} {K : PySem.W.Frag} {mg : Str → Option Value} {base : Heap}
abbrev s_number_of : Stmt := top 22
theorem sc_number_of : FnScope ["numbers", "total", "number"] ["numbers"] (defScope s_number_of) := ⟨rfl, rfl, rfl, by decide +kernel, rfl, by decide +kernel, by decide +kernel⟩
theorem ok_number_of {f : Addr} {fd : FuncData} (F : Fun K "_number_of" "_number_of" s_number_of f fd) (T : TxtA mg) : FnOk P w K mg base CX0 1 f fd ["numbers"] (spNum K) := by
  refine F.ok sc_number_of (fun vs H Q E h => ?_) (fun cdv A outer s H vs Q E hr h => ?_)
  · obtain ⟨a, ns, rfl, _⟩ := h
    rfl
  · obtain ⟨a, ns, rfl, ha, hb, hl, k⟩ := h
    refine ⟨_, (pss_cons (ps_set (i := 1) sc_number_of.nd rfl (Or.inl rfl) pe_int)
    (pss_cons (ps_for PassesOwn.never rfl (pi_list (pv 0)) (pg_name (i := 2) sc_number_of.nd rfl (Or.inl rfl))
      (pss_one (ps_set (i := 1) sc_number_of.nd rfl (Or.inl rfl) (pe_op op_add (pe_op op_mulW (pv 1) pe_int) (pv 2)))))
    (pss_one (ps_ret (pv 1))))), ?_⟩
    refine nm ?_
    dsimp only
    refine ⟨_, rfl, a, rfl, ⟨_, ha⟩, for_list (K := K) (a := a) (xs := ns.map V.int) (fun i σ H' => ∃ v2, σ = [some (.ref a), some (.int (num (ns.take i))), v2] ∧ H' = H) ⟨none, rfl, rfl⟩ (fun i σ H' _ ⟨_, _, e⟩ => e ▸ ha) ?_ ?_⟩
    · rintro i x σ H' hx ⟨v2, rfl, rfl⟩
      obtain ⟨z, rfl, hz, hi, et⟩ := getInt hx
      refine nm ?_
      dsimp only
      have bd := num_bd (ns := ns.take i) (fun n hn => hb n (List.mem_of_mem_take hn)) (by rw [List.length_take]; omega)
      refine ⟨_, rfl, _, _, rfl, rfl, wm (Nat.lt_of_lt_of_le (show (num (ns.take i)).natAbs < 16777216 by omega) (by decide)) (by decide), _, rfl, _, _, rfl, rfl, ?_⟩
      refine ⟨some (.int z), ?_, rfl⟩
      rw [et, num_snoc]
      rfl
    · rintro σ H' ⟨v2, rfl, rfl⟩
      refine ⟨_, rfl, ?_⟩
      rw [List.length_map, List.take_length]
      exact k

abbrev s_is_frame : Stmt := top 20
theorem sc_is_frame : FnScope ["numbers", "at", "last"] ["numbers", "at"] (defScope s_is_frame) := ⟨rfl, rfl, rfl, by decide +kernel, rfl, by decide +kernel, by decide +kernel⟩
theorem ok_is_frame {f : Addr} {fd : FuncData} (F : Fun K "_is_frame" "_is_frame" s_is_frame f fd) (T : TxtA mg) {tSIZE : Tok} (G_SIZE : mg "SIZE" = some (.int 11 tSIZE)) {tMARK : Tok} (G_MARK : mg "MARK" = some (.int 170 tMARK)) {tMODULUS : Tok} (G_MODULUS : mg "MODULUS" = some (.int 251 tMODULUS)) : FnOk P w K mg base CX0 1 f fd ["numbers", "at"] (spIsFr) := by
  refine F.ok sc_is_frame (fun vs H Q E h => ?_) (fun cdv A outer s H vs Q E hr h => ?_)
  · obtain ⟨a, ns, i, rfl, _⟩ := h
    rfl
  · obtain ⟨a, ns, i, rfl, ha, hi, k⟩ := h
    refine ⟨_, (pss_cons (ps_set (i := 2) sc_is_frame.nd rfl (Or.inl rfl) (pe_op op_sub (pe_op op_add (pv 1) (pe_glob (v := .int 11) rfl G_SIZE ⟨_, rfl⟩)) pe_int))
    (pss_one (ps_ret (pe_and (pe_cmpR op_eq (pe_ix (r := rIxL K) ix_list (pv 0) (pv 1) (fun _ _ => rfl)) (pe_glob (v := .int 170) rfl G_MARK ⟨_, rfl⟩) (nomark _)) (pe_one (pe_cmpR op_eq (pe_ix (r := rIxL K) ix_list (pv 0) (pv 2) (fun _ _ => rfl)) (pe_op op_mod (pe_callB (cr_sum rfl) (by rfl) T.sum boot_sum (pa_cons (pe_slice sl_list (pv 0) (po_some (pv 1)) (po_some (pv 2))) pa_nil)) (pe_glob (v := .int 251) rfl G_MODULUS ⟨_, rfl⟩)) (nomark _))))))), ?_⟩
    refine ⟨_, rfl, _, _, rfl, rfl, _, _, rfl, rfl, ?_⟩
    refine nm ?_
    dsimp only
    refine ⟨_, rfl, _, rfl, _, _, _, _, rfl, rfl, .inl (.inl ha), at_drop (i := i) (k := 0) rfl (by omega), rfl, _, rfl, ?_⟩
    rw [dec_v]
    refine ite2 (fun e => ?_) (fun e => ?_)
    · have e := of_decide_eq_true e
      have e11 : (i : Int) + 11 - 1 = ((i + 10 : Nat) : Int) := by omega
      refine ⟨_, rfl, _, rfl, _, _, _, _, rfl, rfl, .inl (.inl ha), at_drop (i := i) (k := 10) e11 (by omega), _, rfl, _, rfl, _, rfl, _, rfl, _, rfl, _, _, rfl, .inl (.inl ha), fun q hq => ?_⟩
      have hc := cut_in (ns := ns) (i := i) (a := 0) (b := 10) (lo := (i : Int)) rfl e11 (by omega) (by omega)
      refine ⟨q, (ns.drop i).take 10, rfl, .inl (.inl (by rw [upd_same, hc]; rfl)), ?_⟩
      refine ⟨_, _, rfl, rfl, (by show (0 : Int) < 251; decide), rfl, ?_⟩
      rw [dec_v]
      have := k _ (same_new (o := .lst (cutV (ns.map V.int) (some (i : Int)) (some ((i : Int) + 11 - 1)))) hq)
      rw [isFr_if e] at this
      exact this
    · have e : ¬ (ns.drop i).getD 0 0 = 170 := fun z => e (decide_eq_true z)
      have := k _ (Same.refl _)
      rw [isFr_no e] at this
      exact this

abbrev s_content_of : Stmt := top 21
theorem sc_content_of : FnScope ["numbers", "at", "x", "y", "z"] ["numbers", "at"] (defScope s_content_of) := ⟨rfl, rfl, rfl, by decide +kernel, rfl, by decide +kernel, by decide +kernel⟩
theorem ok_content_of {f : Addr} {fd : FuncData} (F : Fun K "_content_of" "_content_of" s_content_of f fd) (T : TxtA mg) {tHALF : Tok} (G_HALF : mg "HALF" = some (.int 8388608 tHALF)) {tHALF_HEIGHT : Tok} (G_HALF_HEIGHT : mg "HALF_HEIGHT" = some (.int 32768 tHALF_HEIGHT))
    (D_number_of : Def P w K mg base 1 "_number_of" ["numbers"] (spNum K)) : FnOk P w K mg base CX0 2 f fd ["numbers", "at"] (spCont) := by
  refine F.ok sc_content_of (fun vs H Q E h => ?_) (fun cdv A outer s H vs Q E hr h => ?_)
  · obtain ⟨a, ns, i, rfl, _⟩ := h
    rfl
  · obtain ⟨a, ns, i, rfl, ha, hi, hb, k⟩ := h
    refine ⟨_, (pss_cons (ps_set (i := 2) sc_content_of.nd rfl (Or.inl rfl) (pe_op op_sub (pe_def D_number_of (hr.mono (by decide)) (by rfl) (pa_cons (pe_slice sl_list (pv 0) (po_some (pe_op op_add (pv 1) pe_int)) (po_some (pe_op op_add (pv 1) pe_int))) pa_nil)) (pe_glob (v := .int 8388608) rfl G_HALF ⟨_, rfl⟩)))
    (pss_cons (ps_set (i := 3) sc_content_of.nd rfl (Or.inl rfl) (pe_op op_sub (pe_def D_number_of (hr.mono (by decide)) (by rfl) (pa_cons (pe_slice sl_list (pv 0) (po_some (pe_op op_add (pv 1) pe_int)) (po_some (pe_op op_add (pv 1) pe_int))) pa_nil)) (pe_glob (v := .int 8388608) rfl G_HALF ⟨_, rfl⟩)))
    (pss_cons (ps_set (i := 4) sc_content_of.nd rfl (Or.inl rfl) (pe_op op_sub (pe_def D_number_of (hr.mono (by decide)) (by rfl) (pa_cons (pe_slice sl_list (pv 0) (po_some (pe_op op_add (pv 1) pe_int)) (po_some (pe_op op_add (pv 1) pe_int))) pa_nil)) (pe_glob (v := .int 32768) rfl G_HALF_HEIGHT ⟨_, rfl⟩)))
    (pss_one (ps_ret (pe_tup (pa_cons (pe_tup (pa_cons (pv 2) (pa_cons (pv 3) (pa_cons (pv 4) pa_nil)))) (pa_cons (pe_ix (r := rIxL K) ix_list (pv 0) (pe_op op_add (pv 1) pe_int) (fun _ _ => rfl)) pa_nil)))))))), ?_⟩
    refine ⟨_, rfl, _, rfl, _, _, rfl, rfl, _, rfl, _, rfl, _, _, rfl, rfl, _, rfl, _, _, rfl, .inl (.inl ha), fun qx hqx => ?_⟩
    have hcx := cut_in (ns := ns) (i := i) (a := 1) (b := 4) (lo := (i : Int) + 1) (hi := (i : Int) + 4) rfl rfl (by omega) (by omega)
    refine ⟨qx, ((ns.drop i).drop 1).take 3, rfl, .inl (.inl (by rw [upd_same, hcx])), mem_cut hb, by rw [List.length_take]; omega, ?_⟩
    refine ⟨_, _, rfl, rfl, ?_⟩
    refine nm ?_
    dsimp only
    have sx := same_new (o := .lst (cutV (ns.map V.int) (some ((i : Int) + 1)) (some ((i : Int) + 4)))) hqx
    have hax := sx _ _ ha
    refine ⟨_, rfl, _, rfl, _, _, rfl, rfl, _, rfl, _, rfl, _, _, rfl, rfl, _, rfl, _, _, rfl, .inl (.inl hax), fun qy hqy => ?_⟩
    have hcy := cut_in (ns := ns) (i := i) (a := 4) (b := 7) (lo := (i : Int) + 4) (hi := (i : Int) + 7) rfl rfl (by omega) (by omega)
    refine ⟨qy, ((ns.drop i).drop 4).take 3, rfl, .inl (.inl (by rw [upd_same, hcy])), mem_cut hb, by rw [List.length_take]; omega, ?_⟩
    refine ⟨_, _, rfl, rfl, ?_⟩
    refine nm ?_
    dsimp only
    have sy := sx.trans (same_new (o := .lst (cutV (ns.map V.int) (some ((i : Int) + 4)) (some ((i : Int) + 7)))) hqy)
    have hay := sy _ _ ha
    refine ⟨_, rfl, _, rfl, _, _, rfl, rfl, _, rfl, _, rfl, _, _, rfl, rfl, _, rfl, _, _, rfl, .inl (.inl hay), fun qz hqz => ?_⟩
    have hcz := cut_in (ns := ns) (i := i) (a := 7) (b := 9) (lo := (i : Int) + 7) (hi := (i : Int) + 9) rfl rfl (by omega) (by omega)
    refine ⟨qz, ((ns.drop i).drop 7).take 2, rfl, .inl (.inl (by rw [upd_same, hcz])), mem_cut hb, by rw [List.length_take]; omega, ?_⟩
    refine ⟨_, _, rfl, rfl, ?_⟩
    refine nm ?_
    dsimp only
    have sz := sy.trans (same_new (o := .lst (cutV (ns.map V.int) (some ((i : Int) + 7)) (some ((i : Int) + 9)))) hqz)
    have haz := sz _ _ ha
    refine ⟨_, rfl, _, rfl, _, rfl, szOk rfl, fun q hq => ?_⟩
    have s4 := sz.trans (same_new (o := .tup (frT (cont (ns.drop i)))) hq)
    refine ⟨_, rfl, _, rfl, _, _, rfl, rfl, _, _, _, _, rfl, rfl, .inl (.inl (s4 _ _ ha)), at_drop (i := i) (k := 9) rfl (by omega), szOk rfl, fun p hp => ?_⟩
    exact k p q _ (s4.free hp) (s4.trans (same_new hp)) upd_same (same_new hp _ _ upd_same)

abbrev s_frames_and_rest : Stmt := top 19
theorem sc_frames_and_rest : FnScope ["numbers", "frames", "at"] ["numbers"] (defScope s_frames_and_rest) := ⟨rfl, rfl, rfl, by decide +kernel, rfl, by decide +kernel, by decide +kernel⟩
theorem ok_frames_and_rest {f : Addr} {fd : FuncData} (F : Fun K "frames_and_rest" "frames_and_rest" s_frames_and_rest f fd) (T : TxtA mg) {tSIZE : Tok} (G_SIZE : mg "SIZE" = some (.int 11 tSIZE))
    (D_is_frame : Def P w K mg base 1 "_is_frame" ["numbers", "at"] (spIsFr))
    (D_content_of : Def P w K mg base 2 "_content_of" ["numbers", "at"] (spCont)) : FnOk P w K mg base CX0 3 f fd ["numbers"] (spFramesR) := by
  refine F.ok sc_frames_and_rest (fun vs H Q E h => ?_) (fun cdv A outer s H vs Q E hr h => ?_)
  · obtain ⟨a, ns, rfl, _⟩ := h
    rfl
  · obtain ⟨a, ns, rfl, ha, hl, hb, k⟩ := h
    refine ⟨_, (pss_cons (ps_set (i := 1) sc_frames_and_rest.nd rfl (Or.inl rfl) (pe_lst pa_nil))
    (pss_cons (ps_set (i := 2) sc_frames_and_rest.nd rfl (Or.inl rfl) pe_int)
    (pss_cons (ps_while PassesOwn.never (pt_cmpR op_le (pe_op op_add (pv 2) (pe_glob (v := .int 11) rfl G_SIZE ⟨_, rfl⟩)) (pe_callB (r := rLenK K) call_len_seq (by rfl) T.len boot_len (pa_cons (pv 0) pa_nil)) (nomark _))
      (pss_one (ps_if (pt_val (pe_def D_is_frame (hr.mono (by decide)) (by rfl) (pa_cons (pv 0) (pa_cons (pv 2) pa_nil)))) (pss_cons (ps_expr (pe_bm PySem.F.plainAttrs_list PySem.F.slot_list_append PySem.F.type_list_append mt_append (pv 1) (pa_cons (pe_def D_content_of (hr.mono (by decide)) (by rfl) (pa_cons (pv 0) (pa_cons (pv 2) pa_nil))) pa_nil)))
    (pss_one (ps_aug (i := 2) sc_frames_and_rest.nd rfl (Or.inl rfl) (pe_glob (v := .int 11) rfl G_SIZE ⟨_, rfl⟩) ip_add)))
      (pss_one (ps_aug (i := 2) sc_frames_and_rest.nd rfl (Or.inl rfl) pe_int ip_add)))))
    (pss_one (ps_ret (pe_tup (pa_cons (pv 1) (pa_cons (pe_slice sl_list (pv 0) (po_some (pv 2)) po_none) pa_nil)))))))), ?_⟩
    refine ⟨szOk rfl, fun L hL => ?_⟩
    refine nm ?_
    dsimp only
    refine nm ?_
    dsimp only
    refine while_by (fun σ H' => ∃ (i : Nat) (xs : List V) (fs : List Fr), σ = [some (.ref a), some (.ref L), some (.int i)] ∧ i ≤ ns.length ∧ xs.length ≤ i ∧ H' L = some (.lst xs) ∧ Frs H' xs fs ∧ fs ++ rd (ns.drop i) = rd ns ∧ rm (ns.drop i) = rm ns ∧ Same H H')
      (fun σ _ => match σ with | _ :: _ :: some (.int z) :: _ => ns.length - z.toNat | _ => 0) ⟨0, [], [], rfl, Nat.zero_le _, Nat.le_refl _, upd_same, .nil, rfl, rfl, same_new hL⟩ ?_ (fun σ H Q Q' h => ?_)
    · rintro σ H' ⟨i, xs, fs, rfl, hi, hx, hll, hF, he, hr_, sm⟩
      have ha' := sm _ _ ha
      refine ⟨_, rfl, _, _, rfl, rfl, _, rfl, _, _, rfl, (.inl (.inl (.inl ha'))), _, _, rfl, rfl, _, rfl, ite2 (fun e => ?_) (fun e => ?_)⟩
      · have h11 : i + 11 ≤ ns.length := by
          have := of_decide_eq_true e
          rw [List.length_map] at this
          omega
        have hd : 11 ≤ (ns.drop i).length := by rw [List.length_drop]; omega
        refine ⟨_, rfl, _, rfl, a, ns, i, rfl, ha', h11, fun H1 s1 => ?_⟩
        have hl1 := s1 _ _ hll
        have hF1 := hF.move (tupS s1)
        have sm1 := sm.trans s1
        cases ef : isFr (ns.drop i) with
        | true =>
          refine ⟨_, rfl, iteT ?_⟩
          refine ⟨_, rfl, (.inl ⟨rfl, _, .inl (.inl hl1)⟩), _, rfl, _, rfl, a, ns, i, rfl, sm1 _ _ ha, h11, hb, fun p q H2 hp s2 hpt hqt => ?_⟩
          have hl2 := s2 _ _ hl1
          refine ⟨_, _, _, rfl, rfl, hl2, small1000 (by omega), ?_⟩
          refine ⟨_, rfl, _, _, rfl, rfl, ?_⟩
          refine ⟨⟨i + 11, xs ++ [.ref p], fs ++ [cont (ns.drop i)], rfl, h11, by rw [List.length_append]; show xs.length + 1 ≤ i + 11; omega, upd_same, ((hF1.move (tupS s2)).snoc hpt hqt).move (keepT hl2), ?_, by rw [← hr_, rm_yes hd ef, List.drop_drop], sameU hL (sm1.trans s2)⟩, ?_⟩
          · rw [← he, rd_yes hd ef, List.drop_drop, List.append_assoc]
            rfl
          · show ns.length - ((i : Int) + 11).toNat < ns.length - (i : Int).toNat
            omega
        | false =>
          refine ⟨_, rfl, iteF ?_⟩
          refine ⟨_, rfl, _, _, rfl, rfl, ?_⟩
          refine ⟨⟨i + 1, xs, fs, rfl, by omega, by omega, hl1, hF1, ?_, by rw [← hr_, rm_no hd ef, List.drop_drop], sm1⟩, ?_⟩
          · rw [← he, rd_no hd ef, List.drop_drop]
          · show ns.length - ((i : Int) + 1).toNat < ns.length - (i : Int).toNat
            omega
      · have h11 : ns.length < i + 11 := by
          have : ¬ (i : Int) + 11 ≤ (ns.map V.int).length := fun z => e (decide_eq_true z)
          rw [List.length_map] at this
          omega
        rw [rd_short (by rw [List.length_drop]; omega), List.append_nil] at he
        subst he
        refine ⟨_, rfl, _, rfl, _, rfl, _, rfl, _, _, rfl, .inl (.inl ha'), fun r hr => ?_⟩
        refine ⟨szOk rfl, fun p hp => ?_⟩
        have s2 := sm.trans (same_new (o := .lst (cutV (ns.map V.int) (some (i : Int)) none)) hr)
        have er : cutV (ns.map V.int) (some (i : Int)) none = (rm ns).map V.int := by
          rw [← hr_, rm_short (by rw [List.length_drop]; omega)]
          exact cut_tail hi
        have hr2 := same_new hp (o := .tup [.ref L, .ref r]) _ _ (upd_same (H := H') (a := r) (o := .lst (cutV (ns.map V.int) (some (i : Int)) none)))
        rw [er] at hr2
        exact k p L r xs _ (s2.free hp) hL (sm.free hr) (s2.trans (same_new hp)) upd_same (same_new hp _ _ (same_new hr _ _ hll)) ((hF.move (tupS (same_new hr))).move (tupS (same_new hp))) (by rw [er]; exact hr2)
    · rintro ⟨x, e0, i, j, e1, e2, y, e3, p, ys, e4, e5, i2, j2, e6, e7, kb, e8, q⟩
      exact ⟨x, e0, i, j, e1, e2, y, e3, p, ys, e4, e5, i2, j2, e6, e7, kb, e8, h _ _ q⟩

end
end Sk

set_option Elab.async false
set_option linter.all false
set_option maxRecDepth 100000
set_option maxHeartbeats 4000000
namespace Sk
open PySem PySem.Spec PyProof.Rows L2
section
variable {P : Program} {w : World} {K : PySem.W.Frag} {mg : Str → Option Value} {base : Heap}
abbrev s_law_frame : Stmt := top 52
theorem sc_law_frame : FnScope ["plot", "count", "numbers", "number", "height"] ["plot", "count"] (defScope s_law_frame) := ⟨rfl, rfl, rfl, by decide +kernel, rfl, by decide +kernel, by decide +kernel⟩
theorem ok_law_frame {f : Addr} {fd : FuncData} (F : Fun K "_law_frame" "_law_frame" s_law_frame f fd) (T : TxtA mg) : FnOk P w K mg base CX0 1 f fd ["plot", "count"] (spFrame) := by
  refine F.ok sc_law_frame (fun vs H Q E h => ?_) (fun cdv A outer s H vs Q E hr h => ?_)
  · obtain ⟨a, f, rfl, _⟩ := h
    rfl
  · obtain ⟨a, f, rfl, ha, ok, k⟩ := h
    refine ⟨_, (pss_cons (ps_set (i := 2) sc_law_frame.nd rfl (Or.inl rfl) (pe_lst (pa_cons pe_int pa_nil)))
    (pss_cons (ps_for PassesOwn.never rfl (pi_list (pe_lst (pa_cons (pe_op op_add (pe_ix (r := rIxT K) ix_tup (pv 0) pe_int (fun _ _ => rfl)) pe_int) (pa_cons (pe_op op_add (pe_ix (r := rIxT K) ix_tup (pv 0) pe_int (fun _ _ => rfl)) pe_int) pa_nil)))) (pg_name (i := 3) sc_law_frame.nd rfl (Or.inl rfl))
      (pss_one (ps_expr (pe_bm PySem.F.plainAttrs_list PySem.F.slot_list_extend PySem.F.type_list_extend mt_extend (pv 2) (pa_cons (pe_lst (pa_cons (pe_op op_fdivW (pv 3) pe_int) (pa_cons (pe_op op_mod (pe_callTy call_int1 (by rfl) T.int boot_int (pa_cons (pe_op op_fdivW (pv 3) pe_int) pa_nil)) pe_int) (pa_cons (pe_op op_mod (pe_callTy call_int1 (by rfl) T.int boot_int (pa_cons (pv 3) pa_nil)) pe_int) pa_nil)))) pa_nil)))))
    (pss_cons (ps_set (i := 4) sc_law_frame.nd rfl (Or.inl rfl) (pe_op op_add (pe_ix (r := rIxT K) ix_tup (pv 0) pe_int (fun _ _ => rfl)) pe_int))
    (pss_cons (ps_expr (pe_bm PySem.F.plainAttrs_list PySem.F.slot_list_extend PySem.F.type_list_extend mt_extend (pv 2) (pa_cons (pe_lst (pa_cons (pe_op op_fdivW (pv 4) pe_int) (pa_cons (pe_op op_mod (pe_callTy call_int1 (by rfl) T.int boot_int (pa_cons (pv 4) pa_nil)) pe_int) (pa_cons (pv 1) pa_nil)))) pa_nil)))
    (pss_cons (ps_expr (pe_bm PySem.F.plainAttrs_list PySem.F.slot_list_append PySem.F.type_list_append mt_append (pv 2) (pa_cons (pe_op op_mod (pe_callTy call_int1 (by rfl) T.int boot_int (pa_cons (pe_callB (cr_sum rfl) (by rfl) T.sum boot_sum (pa_cons (pv 2) pa_nil)) pa_nil)) pe_int) pa_nil)))
    (pss_one (ps_ret (pv 2)))))))), ?_⟩
    refine ⟨szOk rfl, fun L hL => ?_⟩
    refine nm ?_
    dsimp only
    have s0 : Same H (upd H L (.lst [V.int 170])) := same_new hL
    have ha0 := s0 _ _ ha
    refine ⟨_, rfl, _, _, _, _, rfl, rfl, .inl (.inl ha0), rfl, _, _, rfl, rfl, _, rfl, _, _, _, _, rfl, rfl, .inl (.inl ha0), rfl, _, _, rfl, rfl, szOk rfl, fun M hM => ?_⟩
    have nLM : L ≠ M := fun z => by rw [← z, upd_same] at hM; cases hM
    refine ⟨M, rfl, ⟨_, .inl (.inl upd_same)⟩, for_list (K := K) (a := M) (xs := [.int (f.x + 8388608), .int (f.y + 8388608)]) (fun i σ H' => ∃ v3, σ = [some (.ref a), some (.int f.c), some (.ref L), v3, none] ∧ Same H H' ∧ H' L = some (.lst ((lead (f.x + 8388608) (f.y + 8388608) i).map V.int)) ∧ H' M = some (.lst [.int (f.x + 8388608), .int (f.y + 8388608)]))
      ⟨none, rfl, s0.trans (same_new hM), same_new hM _ _ upd_same, upd_same⟩ (fun i σ H' _ ⟨_, _, _, _, h⟩ => .inl (.inl h)) ?_ ?_⟩
    · rintro i x σ H' hx ⟨v3, rfl, sm, hl, hm⟩
      obtain ⟨z, rfl, ez, el⟩ := lead_step hx
      refine nm ?_
      dsimp only
      refine ⟨_, rfl, (.inl ⟨rfl, _, .inl (.inl hl)⟩), _, rfl, _, _, rfl, rfl, log_of (by decide) (by decide), _, rfl, _, _, rfl, rfl, log_of (by decide) (by decide), .inl ⟨_, rfl, _, _, rfl, rfl, (by show (0 : Int) < 256; decide), _, rfl, .inl ⟨_, rfl, _, _, rfl, rfl, (by show (0 : Int) < 256; decide), szOk rfl, fun R hR => ?_⟩⟩⟩
      refine ⟨_, _, _, _, rfl, rfl, same_new hR _ _ hl, upd_same, Nat.le_of_lt (small1000 (by rw [List.length_map]; show (lead _ _ i).length + 3 ≤ 1000; omega)), ?_⟩
      refine ⟨some (.int z), rfl, sameU hL (sm.trans (same_new hR)), ?_, ?_⟩
      · rw [upd_same, ez, List.map_append]
        rfl
      · rw [upd_ne nLM.symm]
        exact same_new hR _ _ hm
    rintro σ H' ⟨v3, rfl, sm, hl, hm⟩
    have ha1 := sm _ _ ha
    refine ⟨_, rfl, _, _, _, _, rfl, rfl, .inl (.inl ha1), rfl, _, _, rfl, rfl, ?_⟩
    refine nm ?_
    dsimp only
    refine ⟨_, rfl, (.inl ⟨rfl, _, .inl (.inl hl)⟩), _, rfl, _, _, rfl, rfl, log_of (by decide) (by decide), _, rfl, .inl ⟨_, rfl, _, _, rfl, rfl, (by show (0 : Int) < 256; decide), _, rfl, szOk rfl, fun R hR => ?_⟩⟩
    refine ⟨_, _, _, _, rfl, rfl, same_new hR _ _ hl, upd_same, Nat.le_of_lt (small1000 (by rw [List.length_map]; show 7 + 3 ≤ 1000; decide)), ?_⟩
    have s1 : Same H (upd (upd H' R (.lst [V.int ((f.z + 32768) / 256), V.int ((f.z + 32768) % 256), V.int f.c])) L (.lst ((ten f).map V.int))) := sameU hL (sm.trans (same_new hR))
    refine ⟨_, rfl, (.inl ⟨rfl, _, .inl (.inl upd_same)⟩), _, rfl, L, ten f, rfl, .inl (.inl upd_same), .inl ⟨_, rfl, _, _, rfl, rfl, (by show (0 : Int) < 251; decide), _, _, _, rfl, rfl, upd_same, small1000 (by show 10 ≤ 1000; decide), ?_⟩⟩
    refine ⟨_, rfl, ?_⟩
    refine k L _ hL (sameU hL s1) ?_
    rw [upd_same]
    rfl

abbrev s_law_noise : Stmt := top 53
theorem sc_law_noise : FnScope ["state", "numbers", "k", "byte"] ["state"] (defScope s_law_noise) := ⟨rfl, rfl, rfl, by decide +kernel, rfl, by decide +kernel, by decide +kernel⟩
theorem ok_law_noise {f : Addr} {fd : FuncData} (F : Fun K "_law_noise" "_law_noise" s_law_noise f fd) (T : TxtA mg)
    (D_law_draw : Def P w K mg base 1 "_law_draw" ["state", "bound"] (spDraw K)) : FnOk P w K mg base CX0 2 f fd ["state"] (spNoise K) := by
  refine F.ok sc_law_noise (fun vs H Q E h => ?_) (fun cdv A outer s H vs Q E hr h => ?_)
  · obtain ⟨d, c, rfl, _⟩ := h
    rfl
  · obtain ⟨d, c, rfl, S, k⟩ := h
    refine ⟨_, (pss_cons (ps_set (i := 1) sc_law_noise.nd rfl (Or.inl rfl) (pe_lst pa_nil))
    (pss_cons (ps_for PassesOwn.never rfl (pi_range1 (by rfl) T.range (pa_cons (pe_def D_law_draw (hr.mono (by decide)) (by rfl) (pa_cons (pv 0) (pa_cons pe_int pa_nil))) pa_nil)) (pg_name (i := 2) sc_law_noise.nd rfl (Or.inl rfl))
      (pss_cons (ps_set (i := 3) sc_law_noise.nd rfl (Or.inl rfl) (pe_def D_law_draw (hr.mono (by decide)) (by rfl) (pa_cons (pv 0) (pa_cons pe_int pa_nil))))
    (pss_one (ps_expr (pe_bm PySem.F.plainAttrs_list PySem.F.slot_list_append PySem.F.type_list_append mt_append (pv 1) (pa_cons (pe_ifExp (pt_cmpR op_lt (pv 3) pe_int (nomark _)) (pv 3) (pe_op op_add (pv 3) pe_int)) pa_nil))))))
    (pss_one (ps_ret (pv 1))))), ?_⟩
    refine ⟨szOk rfl, fun p hp => ?_⟩
    refine nm ?_
    dsimp only
    have hpd := S.nd hp
    have hpc := S.nc hp
    refine ⟨_, rfl, d, c, 13, rfl, S.new hp, (by decide), (by decide), fun x1 H1 x1a x1b S1 kp1 => ?_⟩
    refine ⟨x1, rfl, by omega, by omega, for_range (n := x1.toNat) (fun i σ H' => ∃ (ms : List Int) (v2 v3 : Option V), σ = [some (.ref d), some (.ref p), v2, v3] ∧ H' p = some (.lst (ms.map V.int)) ∧ ms.length = i ∧ (∀ n ∈ ms, Byte n) ∧ (∀ n ∈ ms, n ≠ 170) ∧ St1 K H' d c ∧ Keep d H H')
      ⟨[], none, none, rfl, kp1.l (S.new hp) upd_same, rfl, (fun _ h => nomatch h), (fun _ h => nomatch h), S1, (Keep.of (same_new hp)).trans kp1⟩ ?_ ?_⟩
    · rintro i σ H' hi ⟨ms, v2, v3, rfl, hm, hl, hb, hn, S', kp⟩
      refine nm ?_
      dsimp only
      refine ⟨_, rfl, d, c, 255, rfl, S', (by decide), (by decide), fun x2 H2 x2a x2b S2 kp2 => ?_⟩
      refine nm ?_
      dsimp only
      have hm2 := kp2.l S' hm
      have fin : ∀ z : Int, Byte z → z ≠ 170 → ∃ (ns : List Int) (w2 w3 : Option V), [some (V.ref d), some (.ref p), some (.int (0 + (i : Int))), some (.int x2)] = [some (V.ref d), some (.ref p), w2, w3] ∧ (upd H2 p (.lst (ms.map V.int ++ [.int z]))) p = some (.lst (ns.map V.int)) ∧ ns.length = i + 1 ∧ (∀ n ∈ ns, Byte n) ∧ (∀ n ∈ ns, n ≠ 170) ∧ St1 K (upd H2 p (.lst (ms.map V.int ++ [.int z]))) d c ∧ Keep d H (upd H2 p (.lst (ms.map V.int ++ [.int z]))) := fun z hz1 hz2 =>
        ⟨ms ++ [z], _, _, rfl, by rw [upd_same, List.map_append]; rfl, by rw [List.length_append, hl]; rfl,
          fun n h => by rcases List.mem_append.mp h with h | h; exact hb n h; rw [List.mem_singleton.mp h]; exact hz1,
          fun n h => by rcases List.mem_append.mp h with h | h; exact hn n h; rw [List.mem_singleton.mp h]; exact hz2, S2.put hpd hpc, keepU hp (kp.trans kp2)⟩
      refine ⟨_, rfl, (.inl ⟨rfl, _, .inl (.inl hm2)⟩), _, rfl, _, _, rfl, rfl, _, rfl, ite2 (fun e => ?_) (fun e => ?_)⟩
      · have e := of_decide_eq_true e
        refine ⟨_, rfl, _, _, _, rfl, rfl, hm2, small1000 (by rw [List.length_map]; omega), ?_⟩
        exact fin x2 ⟨by omega, by omega⟩ (by omega)
      · have e : ¬ x2 < 170 := fun z => e (decide_eq_true z)
        refine ⟨_, rfl, _, _, rfl, rfl, _, _, _, rfl, rfl, hm2, small1000 (by rw [List.length_map]; omega), ?_⟩
        exact fin (x2 + 1) ⟨by omega, by omega⟩ (by omega)
    · rintro σ H' ⟨ms, v2, v3, rfl, hm, hl, hb, hn, S', kp⟩
      refine ⟨_, rfl, ?_⟩
      exact k p ms H' hp hpd hpc hm (by omega) hb hn S' kp

end
end Sk

set_option Elab.async false
set_option linter.all false
set_option maxRecDepth 200000
set_option maxHeartbeats 4000000
namespace Sk
open PySem PySem.Spec PyProof.Rows L2
section
variable {P : Program} {w : World} {K : PySem.W.Frag} {mg : Str → Option Value} {base : Heap}
abbrev s_law_vector : Stmt := top 51
theorem sc_law_vector : FnScope ["state", "radius", "x", "y", "k"] ["state", "radius"] (defScope s_law_vector) := ⟨rfl, rfl, rfl, by decide +kernel, rfl, by decide +kernel, by decide +kernel⟩
theorem ok_law_vector {f : Addr} {fd : FuncData} (F : Fun K "_law_vector" "_law_vector" s_law_vector f fd) (T : TxtA mg)
    (D_law_draw : Def P w K mg base 1 "_law_draw" ["state", "bound"] (spDraw K)) : FnOk P w K mg base CX0 2 f fd ["state", "radius"] (spVectorR K) := by
  refine F.ok sc_law_vector (fun vs H Q E h => ?_) (fun cdv A outer s H vs Q E hr h => ?_)
  · obtain ⟨_, _, _, rfl, _⟩ := h
    rfl
  · obtain ⟨d, c, r, rfl, S, r0, r1, k⟩ := h
    refine ⟨_, (pss_cons (ps_if (pt_cmpR op_eq (pv 1) pe_int (nomark _)) (pss_one (ps_ret (pe_tup (pa_cons pe_int (pa_cons pe_int pa_nil)))))
      pss_nil)
    (pss_cons (ps_set (i := 2) sc_law_vector.nd rfl (Or.inl rfl) (pe_op op_sub (pe_def D_law_draw (hr.mono (by decide)) (by rfl) (pa_cons (pv 0) (pa_cons (pe_op op_add (pe_op op_mulW pe_int (pv 1)) pe_int) pa_nil))) (pv 1)))
    (pss_cons (ps_set (i := 3) sc_law_vector.nd rfl (Or.inl rfl) pe_int)
    (pss_cons (ps_for PassesOwn.never rfl (pi_range2 (by rfl) T.range (pa_cons pe_int (pa_cons (pe_op op_add (pv 1) pe_int) pa_nil))) (pg_name (i := 4) sc_law_vector.nd rfl (Or.inl rfl))
      (pss_one (ps_if (pt_cmpR op_le (pe_op op_add (pe_op op_mulW (pv 2) (pv 2)) (pe_op op_mulW (pv 4) (pv 4))) (pe_op op_mulW (pv 1) (pv 1)) (nomark _)) (pss_one (ps_set (i := 3) sc_law_vector.nd rfl (Or.inl rfl) (pv 4)))
      pss_nil)))
    (pss_cons (ps_if (pt_cmpR op_eq (pe_def D_law_draw (hr.mono (by decide)) (by rfl) (pa_cons (pv 0) (pa_cons pe_int pa_nil))) pe_int (nomark _)) (pss_one (ps_set (i := 3) sc_law_vector.nd rfl (Or.inl rfl) (pe_def D_law_draw (hr.mono (by decide)) (by rfl) (pa_cons (pv 0) (pa_cons (pe_op op_add (pv 3) pe_int) pa_nil)))))
      pss_nil)
    (pss_cons (ps_if (pt_cmpR op_eq (pe_def D_law_draw (hr.mono (by decide)) (by rfl) (pa_cons (pv 0) (pa_cons pe_int pa_nil))) pe_int (nomark _)) (pss_one (ps_set (i := 3) sc_law_vector.nd rfl (Or.inl rfl) (pe_un un_neg (pv 3))))
      pss_nil)
    (pss_one (ps_ret (pe_tup (pa_cons (pv 2) (pa_cons (pv 3) pa_nil))))))))))), ?_⟩
    rw [show L2.start ["state", "radius", "x", "y", "k"] [V.ref d, V.int r] = [some (V.ref d), some (V.int r), none, none, none] from rfl]
    refine ⟨_, rfl, rfl, _, rfl, ite2 (fun e => ?_) (fun e => ?_)⟩
    · refine ⟨szOk rfl, fun q hq => ?_⟩
      exact k q 0 0 _ hq upd_same (by omega) (by omega) (by omega) (by omega) (by have := sq0 r; omega) (S.new hq) (fun b o e _ => same_new hq _ _ e)
    have rne : r ≠ 0 := fun z => e (decide_eq_true (by rw [z]))
    refine ⟨_, rfl, _, rfl, _, _, rfl, rfl, (wm (by omega) (by omega)), _, _, rfl, rfl, d, c, _, rfl, S, (by omega), (by omega), fun x1 H1 x1a x1b S1 kp1 => ?_⟩
    refine ⟨_, rfl, _, _, rfl, rfl, ?_⟩
    refine nm ?_
    dsimp only [List.set]
    refine nm ?_
    dsimp only [List.set]
    have hx : -2000 ≤ x1 - r ∧ x1 - r ≤ 2000 := by omega
    have hxx : (x1 - r) * (x1 - r) ≤ r * r := sq_le (by omega) (by omega)
    generalize x1 - r = x at hx hxx ⊢
    refine ⟨_, rfl, _, _, rfl, rfl, 1, r + 1, rfl, ⟨by omega, by omega, by omega, by omega⟩, for_range (lo := 1) (n := (r + 1 - 1).toNat) (fun i σ H' => ∃ (y : Int) (v4 : Option V), σ = [some (.ref d), some (.int r), some (.int x), some (.int y), v4] ∧ H' = H1 ∧ 0 ≤ y ∧ y ≤ r ∧ x * x + y * y ≤ r * r) ⟨0, none, rfl, rfl, by omega, by omega, by omega⟩ ?_ ?_⟩
    · rintro i σ H' hi ⟨y, v4, rfl, rfl, y0, y1, yy⟩
      refine nm ?_
      dsimp only [List.set]
      refine ⟨_, rfl, _, rfl, _, _, rfl, rfl, (wm (by omega) (by omega)), _, rfl, _, rfl, _, _, rfl, rfl, (wm (by omega) (by omega)), _, _, rfl, rfl, _, rfl, _, rfl, _, _, rfl, rfl, (wm (by omega) (by omega)), _, _, rfl, rfl, _, rfl, ite2 (fun e => ?_) (fun e => ?_)⟩
      · refine ⟨_, rfl, ?_⟩
        exact ⟨_, _, rfl, rfl, by omega, by omega, of_decide_eq_true e⟩
      · exact ⟨_, _, rfl, rfl, by omega, by omega, yy⟩
    rintro σ H' ⟨y, v4, rfl, rfl, y0, y1, yy⟩
    refine nxq ?_
    dsimp only
    refine cut (t := tIfS _ _ _) (fun σ' H' => ∃ (y : Int), σ' = [some (.ref d), some (.int r), some (.int x), some (.int y), v4] ∧ 0 ≤ y ∧ y ≤ r ∧ x * x + y * y ≤ r * r ∧ St1 K H' d c ∧ Keep d H H') ?_ (fun rest => ?_)
    rotate_left
    · refine ⟨_, rfl, d, c, 3, rfl, S1, (by omega), (by omega), fun x2 H2 x2a x2b S2 kp2 => ?_⟩
      refine ⟨rfl, _, rfl, ite2 (fun e => ?_) (fun e => ?_)⟩
      rotate_left
      · exact rest _ _ ⟨y, rfl, y0, y1, yy, S2, kp1.trans kp2⟩
      refine ⟨_, rfl, _, rfl, _, _, rfl, rfl, d, c, _, rfl, S2, (by omega), (by omega), fun x3 H3 x3a x3b S3 kp3 => ?_⟩
      exact rest _ _ ⟨x3, rfl, x3a, by omega, (by have := Int.mul_le_mul (show x3 ≤ y by omega) (show x3 ≤ y by omega) x3a y0; omega), S3, (kp1.trans kp2).trans kp3⟩
    rintro σ' H3 ⟨y, rfl, y0, y1, yy, S3, kp3⟩
    refine cut (t := tIfS _ _ _) (fun σ' H' => ∃ (y : Int), σ' = [some (.ref d), some (.int r), some (.int x), some (.int y), v4] ∧ -r ≤ y ∧ y ≤ r ∧ x * x + y * y ≤ r * r ∧ St1 K H' d c ∧ Keep d H H') ?_ (fun rest => ?_)
    rotate_left
    · refine ⟨_, rfl, d, c, 2, rfl, S3, (by omega), (by omega), fun x2 H4 x2a x2b S4 kp4 => ?_⟩
      refine ⟨rfl, _, rfl, ite2 (fun e => ?_) (fun e => ?_)⟩
      rotate_left
      · exact rest _ _ ⟨y, rfl, by omega, y1, yy, S4, kp3.trans kp4⟩
      refine ⟨_, rfl, _, rfl, ?_⟩
      exact rest _ _ ⟨-y, rfl, by omega, by omega, (by rw [Int.neg_mul_neg]; exact yy), S4, kp3.trans kp4⟩
    rintro σ' H4 ⟨y, rfl, y0, y1, yy, S4, kp4⟩
    refine ⟨_, rfl, _, rfl, szOk rfl, fun q hq => ?_⟩
    exact k q x y _ (kp4.none (S4.nd hq) hq) upd_same (by omega) (by omega) (by omega) (by omega) yy (S4.new hq) (fun b o e nb => same_new hq _ _ (kp4 b o e nb))

end
end Sk

set_option Elab.async false
set_option linter.all false
set_option maxRecDepth 100000
set_option maxHeartbeats 4000000
namespace Sk
open PySem PySem.Spec PyProof.Rows L2
abbrev s_root_down : Stmt := top 3
abbrev s_root_up : Stmt := top 4
abbrev s_leg_length : Stmt := top 29
abbrev s_leg_between : Stmt := top 30
abbrev s_law_is : Stmt := top 37
abbrev s_law_root_up : Stmt := top 38
abbrev s_law_names : Stmt := top 39
abbrev s_law_legs : Stmt := top 40
abbrev s_law_chart : Stmt := top 41
abbrev s_law_leg : Stmt := top 42
abbrev s_law_lengths : Stmt := top 43
local macro_rules | `(tactic| walk_at "ms") => `(tactic| first | exact .inl ⟨by decide, by decide⟩ | exact .inl ⟨by omega, by omega⟩ | exact .inr ⟨by omega, by omega⟩ | exact wm (by omega) (by omega) | exact log_of (by omega) (by omega) | (show (0:Int) < _; omega) | exact ⟨by decide, by decide, by decide⟩)
/-- the places of a chart, by name -/
def CE (D : CD) : Prop := ∃ ns : List Str, D.fs.map (·.1) = ns.map Sum.inr ∧ ns.Nodup ∧ 2 ≤ ns.length ∧ ns.length ≤ 7 ∧ (∀ n ∈ ns, sOk n ∧ ∃ a x y, D.pt n = some (a, x, y)) ∧ ∀ s ∈ ns, ∀ e ∈ ns, s ≠ e → 1 ≤ D.len s e
def spChartB (K : PySem.W.Frag) : Sp := fun vs H Q _ => ∃ (d c : Addr) (m z : Int), vs = [.ref d, .int m, .int z] ∧ St1 K H d c ∧ 2 ≤ m ∧ m ≤ 7 ∧ 1 ≤ z ∧ z ≤ 9000 ∧
  ∀ (D : CD) ch H', CE D → H D.lg = none → (∀ l ∈ D.ls, 1 ≤ D.len l.s l.e) → ChartAt H' ch D → H ch = none → H D.fx = none → St1 K H' d c → Keep d H H' → Q (.ref ch) H'
theorem keys_put {kvs : List (Key × V)} {ns : List Str} {i : Nat} {v : V} (h : kvs.map (·.1) = (ns.take i).map Sum.inr) (nd : ns.Nodup) (hi : i < ns.length) : (putK kvs (.inr ns[i]) v).map (·.1) = (ns.take i ++ [ns[i]]).map Sum.inr := by
  unfold putK
  rw [if_neg, List.map_append, h, List.map_append]
  · rfl
  · intro w
    obtain ⟨kv, hkv, e⟩ := List.any_eq_true.mp w
    have e := of_decide_eq_true e
    have m : (Sum.inr ns[i] : Key) ∈ kvs.map (·.1) := List.mem_map.mpr ⟨kv, hkv, e⟩
    rw [h] at m
    obtain ⟨n, hn, en⟩ := List.mem_map.mp m
    obtain rfl := Sum.inr.inj en
    obtain ⟨j, hj, ej⟩ := List.getElem_of_mem hn
    rw [List.length_take] at hj
    rw [List.getElem_take] at ej
    exact nodup_ne nd (show j < ns.length by omega) hi (by omega) ej
def spSmall (K : PySem.W.Frag) : Sp := fun vs H Q _ => ∃ (d c : Addr), vs = [.ref d] ∧ St1 K H d c ∧
  ∀ (D : CD) ch H', D.ls ≠ [] → (∀ l ∈ D.ls, 1 ≤ D.len l.s l.e) → ChartAt H' ch D → H ch = none → H D.fx = none → St1 K H' d c → Keep d H H' → Q (.ref ch) H'
section
variable {P : Program} {w : World} {K : PySem.W.Frag} {mg : Str → Option Value} {base : Heap}
theorem sc_root_down : FnScope ["n"] ["n"] (defScope s_root_down) := ⟨rfl, rfl, rfl, by decide +kernel, rfl, by decide +kernel, by decide +kernel⟩
theorem ok_root_down {f : Addr} {fd : FuncData} (F : Fun K "root_down" "root_down" s_root_down f fd) (T : TxtA mg) (Tq : mg "isqrt" = some (.builtin "math.isqrt")) : FnOk P w K mg base CX0 1 f fd ["n"] (spDownR) := by
  refine F.ok sc_root_down (fun vs H Q E h => ?_) (fun cdv A outer s H vs Q E hr h => ?_)
  · obtain ⟨n, rfl, _⟩ := h
    rfl
  · obtain ⟨n, rfl, hn, k⟩ := h
    refine ⟨_, (pss_cons (ps_if (pt_cmpR op_le (pv 0) pe_int (nomark _)) (pss_one (ps_ret pe_int))
      pss_nil)
    (pss_one (ps_ret (pe_callBfun cr_isqrt (by rfl) Tq (pa_cons (pv 0) pa_nil))))), ?_⟩
    refine ⟨_, rfl, _, _, rfl, rfl, _, rfl, ite2 (fun e => ?_) (fun e => ?_)⟩
    · have e := of_decide_eq_true e
      exact k 0 (by omega) (fun _ => rfl) (fun h => by omega)
    · have e : ¬ n ≤ 0 := fun z => e (decide_eq_true z)
      exact ⟨_, rfl, n, rfl, by omega, hn, fun r h0 h1 h2 => k r h0 (fun z => absurd z e) (fun _ => ⟨h1, h2⟩)⟩
theorem sc_root_up : FnScope ["n", "low"] ["n"] (defScope s_root_up) := ⟨rfl, rfl, rfl, by decide +kernel, rfl, by decide +kernel, by decide +kernel⟩
theorem ok_root_up {f : Addr} {fd : FuncData} (F : Fun K "root_up" "root_up" s_root_up f fd) (T : TxtA mg)
    (D_root_down : Def P w K mg base 1 "root_down" ["n"] (spDownR)) : FnOk P w K mg base CX0 2 f fd ["n"] (spUpR) := by
  refine F.ok sc_root_up (fun vs H Q E h => ?_) (fun cdv A outer s H vs Q E hr h => ?_)
  · obtain ⟨n, rfl, _⟩ := h
    rfl
  · obtain ⟨n, rfl, hn0, hn, k⟩ := h
    refine ⟨_, (pss_cons (ps_set (i := 1) sc_root_up.nd rfl (Or.inl rfl) (pe_def D_root_down (hr.mono (by decide)) (by rfl) (pa_cons (pv 0) pa_nil)))
    (pss_cons (ps_if (pt_cmpR op_lt (pe_op op_mulW (pv 1) (pv 1)) (pv 0) (nomark _)) (pss_one (ps_ret (pe_op op_add (pv 1) pe_int)))
      pss_nil)
    (pss_one (ps_ret (pv 1))))), ?_⟩
    refine ⟨_, rfl, n, rfl, by omega, fun r h0 h1 h2 => ?_⟩
    obtain ⟨h3, h4⟩ := h2 hn0
    have hr' : r.natAbs < 2 ^ 249 := by
      rcases ltge r 1 with h3 | h3
      · have : r = 0 := by omega
        subst this; decide
      · have := Int.mul_le_mul_of_nonneg_left h3 h0
        omega
    refine ⟨_, rfl, _, rfl, _, _, rfl, rfl, wm (by omega) (by omega), _, rfl, _, _, rfl, rfl, _, rfl, ite2 (fun e => ?_) (fun e => ?_)⟩
    · have e := of_decide_eq_true e
      have hq : IsRt n (r + 1) := ⟨by omega, by omega, .inr (by rw [show r + 1 - 1 = r by omega]; exact e)⟩
      refine ⟨_, rfl, _, _, rfl, rfl, ?_⟩
      show Q (.int (r + 1)) H
      rw [hq.eq (rt_is hn0)]
      exact k
    · have e : ¬ r * r < n := fun z => e (decide_eq_true z)
      have hq : IsRt n r := by
        refine ⟨h0, by omega, ?_⟩
        rcases ltge 0 r with w | w
        · right
          have : (r - 1) * (r - 1) = r * r - 2 * r + 1 := by
            rw [Int.sub_mul, Int.mul_sub, Int.mul_sub]; omega
          omega
        · left; omega
      refine ⟨_, rfl, ?_⟩
      show Q (.int r) H
      rw [hq.eq (rt_is hn0)]
      exact k
theorem sc_leg_length : FnScope ["chart", "start", "end", "ax", "ay", "bx", "by"] ["chart", "start", "end"] (defScope s_leg_length) := ⟨rfl, rfl, rfl, by decide +kernel, rfl, by decide +kernel, by decide +kernel⟩
theorem ok_leg_length {f : Addr} {fd : FuncData} (F : Fun K "leg_length" "leg_length" s_leg_length f fd) (T : TxtA mg)
    (D_root_up : Def P w K mg base 2 "root_up" ["n"] (spUpR)) : FnOk P w K mg base CX0 3 f fd ["chart", "start", "end"] (spLegLen) := by
  refine F.ok sc_leg_length (fun vs H Q E h => ?_) (fun cdv A outer s H vs Q E hr h => ?_)
  · obtain ⟨_, _, _, _, _, _, _, _, _, _, rfl, _⟩ := h
    rfl
  · obtain ⟨ch, D, s', e', a, b, ax, ay, bx, by', rfl, C, h1, h2, k⟩ := h
    have hu := hu_of hr
    refine ⟨_, (pss_cons (ps_asg (pe_dget hu (pe_dget hu (pv 0) pe_str (fun _ _ => rfl)) (pv 1) (fun _ _ => rfl)) (pg_tup (by rfl) (pgs_cons (pg_name (i := 3) sc_leg_length.nd rfl (Or.inl rfl)) (pgs_cons (pg_name (i := 4) sc_leg_length.nd rfl (Or.inl rfl)) pgs_nil))))
    (pss_cons (ps_asg (pe_dget hu (pe_dget hu (pv 0) pe_str (fun _ _ => rfl)) (pv 2) (fun _ _ => rfl)) (pg_tup (by rfl) (pgs_cons (pg_name (i := 5) sc_leg_length.nd rfl (Or.inl rfl)) (pgs_cons (pg_name (i := 6) sc_leg_length.nd rfl (Or.inl rfl)) pgs_nil))))
    (pss_one (ps_ret (pe_def D_root_up (hr.mono (by decide)) (by rfl) (pa_cons (pe_op op_add (pe_op op_mul (pe_op op_sub (pv 5) (pv 3)) (pe_op op_sub (pv 5) (pv 3))) (pe_op op_mul (pe_op op_sub (pv 6) (pv 4)) (pe_op op_sub (pv 6) (pv 4)))) pa_nil)))))), ?_⟩
    have hz0 : 0 ≤ (bx - ax) * (bx - ax) + (by' - ay) * (by' - ay) := Int.add_nonneg (sq0 _) (sq0 _)
    obtain ⟨p1, p2, p3, p4, p5, p6⟩ := C.pf _ _ _ _ h1
    obtain ⟨q1, q2, q3, q4, q5, q6⟩ := C.pf _ _ _ _ h2
    have hz1 : ((bx - ax) * (bx - ax) + (by' - ay) * (by' - ay)).natAbs < 2 ^ 240 := by
      have e1 := sq_le (show -200000 ≤ bx - ax by omega) (show bx - ax ≤ 200000 by omega)
      have e2 := sq_le (show -200000 ≤ by' - ay by omega) (show by' - ay ≤ 200000 by omega)
      omega
    refine ⟨_, rfl, _, _, rfl, C.gf, _, rfl, _, _, rfl, C.gp h1, _, _, rfl, .inl (.inl p2), rfl, _, _, rfl, _, _, rfl, rfl, ?_⟩
    refine ⟨_, rfl, _, _, rfl, C.gf, _, rfl, _, _, rfl, C.gp h2, _, _, rfl, .inl (.inl q2), rfl, _, _, rfl, _, _, rfl, rfl, ?_⟩
    refine ⟨_, rfl, _, rfl, _, _, rfl, rfl, _, rfl, _, rfl, _, _, rfl, rfl, _, _, rfl, rfl, (by walk_at "ms"), _, rfl, _, rfl, _, _, rfl, rfl, _, rfl, _, rfl, _, _, rfl, rfl, _, _, rfl, rfl, (by walk_at "ms"), _, _, rfl, rfl, _, rfl, hz0, hz1, ?_⟩
    rw [← D.len_eq h1 h2]
    exact k
theorem sc_leg_between : FnScope ["chart", "start", "end", "leg"] ["chart", "start", "end"] (defScope s_leg_between) := ⟨rfl, rfl, rfl, by decide +kernel, rfl, by decide +kernel, by decide +kernel⟩
theorem ok_leg_between {f : Addr} {fd : FuncData} (F : Fun K "leg_between" "leg_between" s_leg_between f fd) (T : TxtA mg) : FnOk P w K mg base CX0 1 f fd ["chart", "start", "end"] (spLegBt) := by
  refine F.ok sc_leg_between (fun vs H Q E h => ?_) (fun cdv A outer s H vs Q E hr h => ?_)
  · obtain ⟨_, _, _, _, rfl, _⟩ := h
    rfl
  · obtain ⟨ch, D, s', e', rfl, C, k⟩ := h
    have hu := hu_of hr
    refine ⟨_, (pss_cons (ps_for PassesOwn.never rfl (pi_list (pe_dget hu (pv 0) pe_str (fun _ _ => rfl))) (pg_name (i := 3) sc_leg_between.nd rfl (Or.inl rfl))
      (pss_one (ps_if (PW.pt (pw_and (pt_cmpR op_eq (pe_ix (r := rIxT K) ix_tup (pv 3) pe_int (fun _ _ => rfl)) (pv 1) (nomark _)) (pw_and1 (pt_cmpR op_eq (pe_ix (r := rIxT K) ix_tup (pv 3) pe_int (fun _ _ => rfl)) (pv 2) (nomark _))))) (pss_one (ps_ret (pv 3)))
      pss_nil)))
    (pss_one (ps_ret pe_non))), ?_⟩
    refine ⟨_, rfl, _, _, rfl, C.gl, _, rfl, ⟨_, .inl (.inl C.lg)⟩, for_list (K := K) (a := D.lg) (xs := D.ls.map fun l => V.ref l.a) (fun i σ H2 => ∃ v, σ = [some (.ref ch), some (.str s'), some (.str e'), v] ∧ H2 = H ∧ (D.ls.take i).find? (fun l => decide (l.s = s') && decide (l.e = e')) = none)
      ⟨none, rfl, rfl, rfl⟩ (fun i σ H2 _ ⟨_, _, e, _⟩ => .inl (.inl (e ▸ C.lg))) ?_ ?_⟩
    · rintro i y σ H2 hi ⟨v, rfl, rfl, hf⟩
      obtain ⟨l, rfl, hl, hil, ht⟩ := getMap hi
      have hq := C.lt l hl
      refine ⟨_, rfl, _, _, _, .str l.s, rfl, rfl, .inl (.inl hq), rfl, _, rfl, rfl, _, rfl, ite2 (fun e1 => ?_) (fun e1 => ?_)⟩
      · have e1 := V.str.inj (of_decide_eq_true e1)
        refine ⟨_, rfl, _, _, _, .str l.e, rfl, rfl, .inl (.inl hq), rfl, _, rfl, rfl, _, rfl, ite2 (fun e2 => ?_) (fun e2 => ?_)⟩
        · have e2 := V.str.inj (of_decide_eq_true e2)
          refine ⟨_, rfl, ?_⟩
          have e3 : D.leg s' e' = some l := by
            unfold CD.leg
            rw [← List.take_append_drop (i + 1) D.ls, List.find?_append, ht, List.find?_append, hf]
            simp [e1, e2]
          rw [e3] at k
          exact k
        · refine ⟨_, rfl, rfl, ?_⟩
          rw [ht, List.find?_append, hf]
          have : ¬ l.e = e' := fun z => e2 (decide_eq_true (congrArg V.str z))
          simp [this]
      · refine iteF ?_
        refine ⟨_, rfl, rfl, ?_⟩
        rw [ht, List.find?_append, hf]
        have : ¬ l.s = s' := fun z => e1 (decide_eq_true (congrArg V.str z))
        simp [this]
    · rintro σ H2 ⟨v, rfl, rfl, hf⟩
      rw [List.length_map, List.take_length] at hf
      have e3 : D.leg s' e' = none := hf
      rw [e3] at k
      exact k
theorem sc_law_is : FnScope ["actual", "due"] ["actual", "due"] (defScope s_law_is) := ⟨rfl, rfl, rfl, by decide +kernel, rfl, by decide +kernel, by decide +kernel⟩
theorem ok_law_is {f : Addr} {fd : FuncData} (F : Fun K "_law_is" "_law_is" s_law_is f fd) (T : TxtA mg) : FnOk P w K mg base CX0 1 f fd ["actual", "due"] (spIs) := by
  refine F.ok sc_law_is (fun vs H Q E h => ?_) (fun cdv A outer s H vs Q E hr h => ?_)
  · obtain ⟨_, _, rfl, _⟩ := h
    rfl
  · obtain ⟨a, b, rfl, k⟩ := h
    refine ⟨_, (pss_one (ps_ret (pe_and (pe_callB call_isi (by rfl) T.isinstance boot_isinstance (pa_cons (pv 0) (pa_cons (pe_bltn (v := .ty "bool") (by rfl) T.bool boot_bool rfl) pa_nil))) (pe_one (pe_cmpR op_eq (pv 0) (pv 1) (nomark _)))))), ?_⟩
    refine ⟨_, rfl, _, _, _, _, true, rfl, ClsV.ty _, .base (.bl a), kit_ty (by decide +kernel), true, rfl, ?_⟩
    refine iteT ?_
    refine ⟨_, rfl, _, rfl, rfl, ?_⟩
    have e : decide (V.bl a = V.bl b) = decide (a = b) := by
      by_cases h : a = b
      · rw [h]; simp
      · rw [decide_eq_false h, decide_eq_false fun z => h (V.bl.inj z)]
    show Q (.bl (decide (V.bl a = V.bl b))) H
    rw [e]
    exact k
theorem sc_law_root_up : FnScope ["n", "low", "high", "k", "middle"] ["n"] (defScope s_law_root_up) := ⟨rfl, rfl, rfl, by decide +kernel, rfl, by decide +kernel, by decide +kernel⟩
theorem ok_law_root_up {f : Addr} {fd : FuncData} (F : Fun K "_law_root_up" "_law_root_up" s_law_root_up f fd) (T : TxtA mg) : FnOk P w K mg base CX0 1 f fd ["n"] (spRootR) := by
  refine F.ok sc_law_root_up (fun vs H Q E h => ?_) (fun cdv A outer s H vs Q E hr h => ?_)
  · obtain ⟨n, rfl, _⟩ := h
    rfl
  · obtain ⟨n, rfl, hn0, hn1, k⟩ := h
    refine ⟨_, (pss_cons (ps_set (i := 1) sc_law_root_up.nd rfl (Or.inl rfl) pe_int)
    (pss_cons (ps_set (i := 2) sc_law_root_up.nd rfl (Or.inl rfl) (pe_op op_pow pe_int pe_int))
    (pss_cons (ps_for PassesOwn.never rfl (pi_range1 (by rfl) T.range (pa_cons pe_int pa_nil)) (pg_name (i := 3) sc_law_root_up.nd rfl (Or.inl rfl))
      (pss_cons (ps_set (i := 4) sc_law_root_up.nd rfl (Or.inl rfl) (pe_op op_fdivW (pe_op op_add (pv 1) (pv 2)) pe_int))
    (pss_one (ps_if (pt_cmpR op_ge (pe_op op_mul (pv 4) (pv 4)) (pv 0) (nomark _)) (pss_one (ps_set (i := 2) sc_law_root_up.nd rfl (Or.inl rfl) (pv 4)))
      (pss_one (ps_set (i := 1) sc_law_root_up.nd rfl (Or.inl rfl) (pe_op op_add (pv 4) pe_int)))))))
    (pss_one (ps_ret (pv 2)))))), ?_⟩
    refine ⟨_, _, rfl, rfl, ⟨by decide, by decide, by decide⟩, ?_⟩
    refine ⟨_, rfl, by decide, by decide, for_range (n := 24) (fun i σ H2 => ∃ lw hg v3 v4, σ = [some (.int n), some (.int lw), some (.int hg), v3, v4] ∧ 0 ≤ lw ∧ lw ≤ hg ∧ hg ≤ 10000000 ∧ hg - lw < pw i ∧ n ≤ hg * hg ∧ (lw = 0 ∨ (lw - 1) * (lw - 1) < n) ∧ H2 = H) ⟨0, 10000000, none, none, rfl, by omega, by omega, by omega, by decide, by omega, .inl rfl, rfl⟩ ?_ ?_⟩
    · rintro i σ H2 hi ⟨lw, hg, v3, v4, rfl, l0, l1, h0, hw, hu', hl', rfl⟩
      have hp := pw_step hi
      refine ⟨_, rfl, _, rfl, _, _, rfl, rfl, _, _, rfl, rfl, log_of (by decide) (by decide), ?_⟩
      refine ⟨_, rfl, _, rfl, _, _, rfl, rfl, .inl ⟨by omega, by omega⟩, _, rfl, _, _, rfl, rfl, _, rfl, ite2 (fun e => ?_) (fun e => ?_)⟩
      · have e := of_decide_eq_true e
        refine ⟨_, rfl, lw, (lw + hg) / 2, _, _, rfl, by omega, by omega, by omega, by omega, e, hl', rfl⟩
      · have e : ¬ n ≤ (lw + hg) / 2 * ((lw + hg) / 2) := fun z => e (decide_eq_true z)
        have hlt : (lw + hg) / 2 < hg := by
          rcases ltge ((lw + hg) / 2) hg with w | w
          · exact w
          · have := mono_sq (show 0 ≤ hg by omega) w
            omega
        refine ⟨_, rfl, _, _, rfl, rfl, (lw + hg) / 2 + 1, hg, _, _, rfl, by omega, by omega, by omega, by omega, hu', .inr ?_, rfl⟩
        rw [show (lw + hg) / 2 + 1 - 1 = (lw + hg) / 2 by omega]
        omega
    · rintro σ H2 ⟨lw, hg, v3, v4, rfl, l0, l1, h0, hw, hu', hl', rfl⟩
      have hp : pw 24 = 1 := by decide
      have hq : IsRt n hg := ⟨by omega, hu', by rw [show hg = lw by omega]; exact hl'⟩
      refine ⟨_, rfl, ?_⟩
      show Q (.int hg) H2
      rw [hq.eq (rt_is hn0)]
      exact k
theorem sc_law_names : FnScope ["state", "many", "shift", "names", "k", "letter"] ["state", "many"] (defScope s_law_names) := ⟨rfl, rfl, rfl, by decide +kernel, rfl, by decide +kernel, by decide +kernel⟩
theorem ok_law_names {f : Addr} {fd : FuncData} (F : Fun K "_law_names" "_law_names" s_law_names f fd) (T : TxtA mg)
    (D_law_draw : Def P w K mg base 1 "_law_draw" ["state", "bound"] (spDraw K))
    (D_law_pick : Def P w K mg base 2 "_law_pick" ["state", "things"] (spPick K)) : FnOk P w K mg base CX0 3 f fd ["state", "many"] (spNames K) := by
  refine F.ok sc_law_names (fun vs H Q E h => ?_) (fun cdv A outer s H vs Q E hr h => ?_)
  · obtain ⟨_, _, _, rfl, _⟩ := h
    rfl
  · obtain ⟨d, c, m, rfl, S, m0, m1, k⟩ := h
    refine ⟨_, (pss_cons (ps_set (i := 2) sc_law_names.nd rfl (Or.inl rfl) (pe_def D_law_draw (hr.mono (by decide)) (by rfl) (pa_cons (pv 0) (pa_cons pe_int pa_nil))))
    (pss_cons (ps_set (i := 3) sc_law_names.nd rfl (Or.inl rfl) (pe_lst pa_nil))
    (pss_cons (ps_for PassesOwn.never rfl (pi_range1 (by rfl) T.range (pa_cons (pv 1) pa_nil)) (pg_name (i := 4) sc_law_names.nd rfl (Or.inl rfl))
      (pss_cons (ps_set (i := 5) sc_law_names.nd rfl (Or.inl rfl) (pe_ix ix_str pe_str (pe_op op_mod (pe_callTy call_int1 (by rfl) T.int boot_int (pa_cons (pe_op op_add (pv 4) (pv 2)) pa_nil)) pe_int) (fun _ _ => rfl)))
    (pss_one (ps_expr (pe_bm PySem.F.plainAttrs_list PySem.F.slot_list_append PySem.F.type_list_append mt_append (pv 3) (pa_cons (pe_op op_add_str (pv 5) (pe_def D_law_pick (hr.mono (by decide)) (by rfl) (pa_cons (pv 0) (pa_cons (pe_lst (pa_cons pe_str (pa_cons pe_str (pa_cons pe_str (pa_cons pe_str (pa_cons pe_str (pa_cons pe_str pa_nil))))))) pa_nil)))) pa_nil))))))
    (pss_one (ps_ret (pv 3)))))), ?_⟩
    refine ⟨_, rfl, d, c, _, rfl, S, (by omega), (by omega), fun x1 H1 x1a x1b S1 kp1 => ?_⟩
    refine ⟨szOk rfl, fun p2 hp2 => ?_⟩
    have npd : p2 ≠ d := S1.nd hp2
    have npc : p2 ≠ c := S1.nc hp2
    refine ⟨_, rfl, _, rfl, by omega, by omega, for_range (n := m.toNat) (fun i σ H2 => ∃ (ns : List Str) (v4 v5 : Option V), σ = [some (.ref d), some (.int m), some (.int x1), some (.ref p2), v4, v5] ∧ St1 K H2 d c ∧ H2 p2 = some (.lst (ns.map V.str)) ∧ ns.length = i ∧ (∀ n ∈ ns, sOk n) ∧ Let1 ns x1 ∧ ∀ b o, H b = some o → b ≠ d → H2 b = some o)
      ⟨[], none, none, rfl, (S1.new hp2), upd_same, rfl, (fun _ h => nomatch h), (fun j h => absurd h (Nat.not_lt_zero j)), fun b o e nb => same_new hp2 _ _ (kp1 b o e nb)⟩ ?_ ?_⟩
    · rintro i σ H2 hi ⟨ns, v4, v5, rfl, S0, hL, hlen, hok, hlet, hk⟩
      have nHp : H p2 = none := by
        cases e : H p2 with
        | none => rfl
        | some o => rw [kp1 _ _ e npd] at hp2; cases hp2
      obtain ⟨c1, hc1, hc2⟩ : ∃ c1, atI ("QXAMBZKCTDRE" : Str).cps.toList ((0 + (i : Int) + x1) % 12) = some c1 ∧ c1 < 1114112 := by
        obtain ⟨j, hj⟩ : ∃ j : Nat, (0 + (i : Int) + x1) % 12 = (j : Int) := ⟨((0 + (i : Int) + x1) % 12).toNat, by omega⟩
        rw [hj]
        have hj2 : j < 12 := by omega
        have hall : ∀ c ∈ ("QXAMBZKCTDRE" : Str).cps.toList, c < 1114112 := by decide +kernel
        exact ⟨_, atI_nat (List.getElem?_eq_getElem (by show j < 12; exact hj2)), hall _ (List.getElem_mem _)⟩
      refine ⟨_, rfl, _, rfl, _, _, rfl, rfl, .inl ⟨_, rfl, _, _, rfl, rfl, (by show (0:Int) < 12; decide), _, _, _, rfl, rfl, (by show 12 ≤ sizeLine; decide), hc1, ?_⟩⟩
      refine ⟨_, rfl, (.inl ⟨rfl, _, .inl (.inl hL)⟩), _, rfl, _, rfl, szOk rfl, fun p3 hp3 => ?_⟩
      refine ⟨d, c, _, _, rfl, (S0.new hp3), .inl (.inl upd_same), (fun z => nomatch z), (by show 6 ≤ 1000; decide), fun v4 H4 hv4 S4 kp4 => ?_⟩
      have hL := kp4.l (S0.new hp3) (same_new hp3 _ _ hL)
      obtain ⟨z4, rfl, hz4, hzk4⟩ : ∃ z : Str, v4 = .str z ∧ z.length ≤ 4 ∧ sOk z := by
        simp only [List.mem_cons, List.not_mem_nil, or_false] at hv4
        rcases hv4 with rfl | rfl | rfl | rfl | rfl | rfl <;> exact ⟨_, rfl, by decide +kernel, by decide +kernel⟩
      refine ⟨_, _, rfl, rfl, Nat.le_trans (Nat.add_le_add (show (1 : Nat) ≤ 1 from Nat.le_refl 1) hz4) (by decide), ?_⟩
      refine ⟨_, _, _, rfl, rfl, hL, (by rw [List.length_map]; exact small1000 (by omega)), ?_⟩
      refine ⟨ns ++ [⟨#[c1]⟩ ++ z4], _, _, rfl, St1.put S4 npd npc, by rw [upd_same, List.map_append]; rfl, by rw [List.length_append, hlen]; rfl, fun n hn => ?_, fun j hj => ?_, fun b o e nb => ?_⟩
      · rcases List.mem_append.mp hn with h | h
        · exact hok n h
        · rw [List.mem_singleton.mp h]
          exact sOk_app (by show PySem.PyData.strOk ⟨#[c1]⟩ = true; simp [PySem.PyData.strOk, hc2]) hzk4
      · rw [List.length_append, List.length_singleton] at hj
        by_cases ej : j < ns.length
        · obtain ⟨c, y1, y2⟩ := hlet j ej
          exact ⟨c, by rw [List.getElem_append_left ej]; exact y1, y2⟩
        · have ej2 : j = i := by omega
          subst ej2
          refine ⟨c1, ?_, by rw [← Int.zero_add (j : Int)]; exact hc1⟩
          rw [List.getElem_append_right (by omega)]
          simp only [hlen, Nat.sub_self, List.getElem_cons_zero]
          show ((#[c1] ++ z4.cps : Array Nat).toList).head? = some c1
          rw [Array.toList_append]
          rfl
      rw [upd_ne (fun z => by rw [z, nHp] at e; cases e)]
      exact kp4 _ _ (same_new hp3 _ _ (hk b o e nb)) nb
    · rintro σ H2 ⟨ns, v4, v5, rfl, S0, hL, hlen, hok, hlet, hk⟩
      have nHp : H p2 = none := by
        cases e : H p2 with
        | none => rfl
        | some o => rw [kp1 _ _ e npd] at hp2; cases hp2
      refine ⟨_, rfl, k ns p2 H2 (by omega) hok (let_nodup hlet (by omega)) nHp hL S0 fun b o e nb => hk b o e nb⟩
theorem sc_law_legs : FnScope ["state", "names", "legs", "many", "k", "j", "other", "levels", "leg"] ["state", "names"] (defScope s_law_legs) := ⟨rfl, rfl, rfl, by decide +kernel, rfl, by decide +kernel, by decide +kernel⟩
theorem ok_law_legs {f : Addr} {fd : FuncData} (F : Fun K "_law_legs" "_law_legs" s_law_legs f fd) (T : TxtA mg)
    (D_law_draw : Def P w K mg base 1 "_law_draw" ["state", "bound"] (spDraw K))
    (D_law_pick : Def P w K mg base 2 "_law_pick" ["state", "things"] (spPick K)) : FnOk P w K mg base CX0 3 f fd ["state", "names"] (spLegs K) := by
  refine F.ok sc_law_legs (fun vs H Q E h => ?_) (fun cdv A outer s H vs Q E hr h => ?_)
  · obtain ⟨_, _, _, _, rfl, _⟩ := h
    rfl
  · obtain ⟨d, c, l, ns, rfl, S, hN, n2, n12, k⟩ := h
    refine ⟨_, (pss_cons (ps_set (i := 2) sc_law_legs.nd rfl (Or.inl rfl) (pe_lst pa_nil))
    (pss_cons (ps_set (i := 3) sc_law_legs.nd rfl (Or.inl rfl) (pe_callB (r := rLenK K) call_len_seq (by rfl) T.len boot_len (pa_cons (pv 1) pa_nil)))
    (pss_cons (ps_for PassesOwn.never rfl (pi_range1 (by rfl) T.range (pa_cons (pv 3) pa_nil)) (pg_name (i := 4) sc_law_legs.nd rfl (Or.inr rfl))
      (pss_one (ps_for PassesOwn.never rfl (pi_range1 (by rfl) T.range (pa_cons (pe_def D_law_pick (hr.mono (by decide)) (by rfl) (pa_cons (pv 0) (pa_cons (pe_lst (pa_cons pe_int (pa_cons pe_int (pa_cons pe_int (pa_cons pe_int (pa_cons pe_int pa_nil)))))) pa_nil))) pa_nil)) (pg_name (i := 5) sc_law_legs.nd rfl (Or.inl rfl))
      (pss_cons (ps_set (i := 6) sc_law_legs.nd rfl (Or.inr rfl) (pe_ix (r := rIxL K) ix_list (pv 1) (pe_op op_mod (pe_callTy call_int1 (by rfl) T.int boot_int (pa_cons (pe_op op_add (pe_op op_add (pv 4) pe_int) (pe_def D_law_draw (hr.mono (by decide)) (by rfl) (pa_cons (pv 0) (pa_cons (pe_op op_sub (pv 3) pe_int) pa_nil)))) pa_nil)) (pv 3)) (fun _ _ => rfl)))
    (pss_one (ps_if (pt_not (pt_val (pe_callB (cr_any rfl) (by rfl) T.any boot_any (pa_cons (pe_lc (own := [("leg", 8)]) (g := gName 8) (by rfl) sc_law_legs.nd (pi_list (pv 2)) (blkOk_by (own := [("leg", 8)]) (N := ["state", "names", "legs", "many", "k", "j", "other", "levels", "leg"]) (sc := defScope s_law_legs) (by decide +kernel)) (fun _ _ _ _ _ => (pg_name (i := 8) sc_law_legs.nd rfl (Or.inl rfl))) (fun _ _ _ _ _ => pts_nil) (fun _ _ _ _ _ => (pe_and (pe_cmpR op_eq (pe_ix (r := rIxT K) ix_tup (pv 8) pe_int (fun _ _ => rfl)) (pe_ix (r := rIxL K) ix_list (pv 1) (pv 4) (fun _ _ => rfl)) (nomark _)) (pe_one (pe_cmpR op_eq (pe_ix (r := rIxT K) ix_tup (pv 8) pe_int (fun _ _ => rfl)) (pv 6) (nomark _)))))) pa_nil)))) (pss_cons (ps_set (i := 7) sc_law_legs.nd rfl (Or.inl rfl) (pe_def D_law_pick (hr.mono (by decide)) (by rfl) (pa_cons (pv 0) (pa_cons (pe_lst (pa_cons (pe_tup (pa_cons pe_int (pa_cons pe_int pa_nil))) (pa_cons (pe_tup (pa_cons pe_int (pa_cons pe_int pa_nil))) (pa_cons (pe_tup (pa_cons pe_int (pa_cons pe_int pa_nil))) (pa_cons (pe_tup (pa_cons pe_int (pa_cons pe_int pa_nil))) (pa_cons (pe_tup (pa_cons pe_int (pa_cons pe_int pa_nil))) pa_nil)))))) pa_nil))))
    (pss_one (ps_expr (pe_bm PySem.F.plainAttrs_list PySem.F.slot_list_append PySem.F.type_list_append mt_append (pv 2) (pa_cons (pe_tup (pa_cons (pe_ix (r := rIxL K) ix_list (pv 1) (pv 4) (fun _ _ => rfl)) (pa_cons (pv 6) (pa_cons (pe_def D_law_pick (hr.mono (by decide)) (by rfl) (pa_cons (pv 0) (pa_cons (pe_lst (pa_cons pe_str (pa_cons pe_str (pa_cons pe_str pa_nil)))) pa_nil))) (pa_cons (pe_ix (r := rIxT K) ix_tup (pv 7) pe_int (fun _ _ => rfl)) (pa_cons (pe_ix (r := rIxT K) ix_tup (pv 7) pe_int (fun _ _ => rfl)) pa_nil)))))) pa_nil)))))
      pss_nil))))))
    (pss_one (ps_ret (pv 2)))))), ?_⟩
    refine ⟨szOk rfl, fun p1 hp1 => ?_⟩
    refine ⟨_, rfl, _, _, rfl, (.inl (.inl (.inl (same_new hp1 _ _ hN)))), ?_⟩
    have npd : p1 ≠ d := S.nd hp1
    have npc : p1 ≠ c := S.nc hp1
    have npl : l ≠ p1 := ne_of_none hN hp1
    have nHp : H p1 = none := hp1
    refine ⟨_, rfl, _, rfl, by rw [List.length_map]; omega, by rw [List.length_map]; omega, for_range (n := ((ns.map V.str).length : Int).toNat) (fun i σ H2 => ∃ (ls : List Lg) (v_k v_j v_other v_levels v_leg : Option V), σ = [some (.ref d), some (.ref l), some (.ref p1), some (.int (ns.length : Int)), v_k, v_j, v_other, v_levels, v_leg] ∧ St1 K H2 d c ∧ H2 l = some (.lst (ns.map V.str)) ∧ LegsAt H2 p1 ns ls ∧ ls.length ≤ 3 * i ∧ Keep d H H2)
      ⟨[], none, none, none, none, none, by rw [List.length_map]; rfl, (S.new hp1), (same_new hp1 _ _ hN), ⟨upd_same, (fun _ h => nomatch h), (fun _ h => nomatch h), (fun _ h => nomatch h), fun _ _ h => nomatch h⟩, Nat.le_refl _, Keep.of (same_new hp1)⟩ ?_ ?_⟩
    · rintro i σ H2 hi ⟨ls, v_k, v_j, v_other, v_levels, v_leg, rfl, S0, hN, hL, hlen, hk⟩
      have hik : i < ns.length := by rw [List.length_map] at hi; omega
      refine ⟨_, rfl, szOk rfl, fun p2 hp2 => ?_⟩
      refine ⟨d, c, _, _, rfl, (S0.new hp2), .inl (.inl upd_same), (fun z => nomatch z), (by show 5 ≤ 1000; decide), fun v3 H3 hv3 S3 kp3 => ?_⟩
      have hN := kp3.l (S0.new hp2) (same_new hp2 _ _ hN)
      have hL := (hL.same (same_new hp2)).keep (S0.new hp2) kp3
      obtain ⟨x3, rfl, x3a, x3b⟩ : ∃ z : Int, v3 = .int z ∧ 0 ≤ z ∧ z ≤ 3 := by
        simp only [List.mem_cons, List.not_mem_nil, or_false] at hv3
        rcases hv3 with rfl | rfl | rfl | rfl | rfl <;> exact ⟨_, rfl, by decide, by decide⟩
      refine ⟨_, rfl, by omega, by omega, for_range (n := x3.toNat) (fun j σ H2 => ∃ (ls : List Lg) (v_j v_other v_levels v_leg : Option V), σ = [some (.ref d), some (.ref l), some (.ref p1), some (.int (ns.length : Int)), some (.int (0 + (i : Int))), v_j, v_other, v_levels, v_leg] ∧ St1 K H2 d c ∧ H2 l = some (.lst (ns.map V.str)) ∧ LegsAt H2 p1 ns ls ∧ ls.length ≤ 3 * i + j ∧ Keep d H H2)
        ⟨ls, _, _, _, _, rfl, S3, hN, hL, by omega, hk.trans ((Keep.of (same_new hp2)).trans kp3)⟩ ?_ ?_⟩
      · rintro j σ H2 hj ⟨ls, v_j, v_other, v_levels, v_leg, rfl, S0, hN, hL, hlen, hk⟩
        refine ⟨_, rfl, _, rfl, _, _, rfl, rfl, _, rfl, _, rfl, _, _, rfl, rfl, d, c, _, rfl, S0, (by omega), (by omega), fun x4 H4 x4a x4b S4 kp4 => ?_⟩
        have hN := kp4.l S0 hN
        have hL := hL.keep S0 kp4
        obtain ⟨oj, hoj, hoe, hat⟩ := at_mod2 (f := V.str) (ns := ns) (z := 0 + (i : Int) + 1 + x4) (m := (ns.length : Int)) rfl (by omega)
        have hone : ns.Nodup → ns[i] ≠ ns[oj] := fun nd => nodup_ne nd hik hoj (mod_ne (by omega) x4a x4b hoe)
        have hoth : ns[oj] ∈ ns := List.getElem_mem hoj
        generalize ns[oj] = oth at hat hone hoth
        refine ⟨_, _, rfl, rfl, .inl ⟨_, rfl, _, rfl, _, _, rfl, rfl, (by show 0 < (ns.length : Int); omega), _, _, _, _, rfl, rfl, .inl (.inl hN), hat, ?_⟩⟩
        refine ⟨_, rfl, p1, rfl, ⟨_, .inl (.inl hL.li)⟩, fun D hD => ?_⟩
        refine lc_list (K := K) (a := p1) (xs := ls.map fun l => V.ref l.a) (fun u H' => ∃ bs : List Bool, H' = upd H4 D (.lst (bs.map V.bl)) ∧ bs.length = u) ⟨[], rfl, rfl⟩ (fun u H' _ ⟨_, e, _⟩ => .inl (.inl (by rw [e, upd_ne (ne_of_none hL.li hD)]; exact hL.li))) ?_ ?_
        · rintro u y H' hu1 ⟨bs, rfl, hbs⟩
          obtain ⟨q, rfl, hq, hul, _⟩ := getMap hu1
          have ht := same_new (o := .lst (bs.map V.bl)) hD _ _ (hL.tu q hq)
          have hN2 := same_new (o := .lst (bs.map V.bl)) hD _ _ hN
          refine ⟨rfl, ?_⟩
          refine ⟨_, rfl, _, _, _, .str q.s, rfl, rfl, .inl (.inl ht), rfl, _, rfl, _, rfl, _, _, _, _, rfl, rfl, .inl (.inl hN2), atI0 (mapAt hik), rfl, _, rfl, ite2 (fun e1 => ?_) (fun e1 => ?_)⟩
          · refine ⟨_, rfl, _, _, _, .str q.e, rfl, rfl, .inl (.inl ht), rfl, _, rfl, rfl, _, upd_same, (by rw [List.length_map]; exact small1000 (by omega)), bs ++ [decide (V.str q.e = V.str oth)], ?_, by rw [List.length_append, hbs]; rfl⟩
            rw [upd_upd, List.map_append]
            rfl
          · refine ⟨_, upd_same, (by rw [List.length_map]; exact small1000 (by omega)), bs ++ [false], ?_, by rw [List.length_append, hbs]; rfl⟩
            rw [upd_upd, List.map_append]
            rfl
        rintro H' ⟨bs, rfl, hbs⟩
        refine ⟨D, bs, rfl, .inl (.inl upd_same), _, rfl, ?_⟩
        have hk1 : Keep d H (upd H4 D (.lst (bs.map V.bl))) := (hk.trans kp4).trans (Keep.of (same_new hD))
        have S1 := S4.new (o := .lst (bs.map V.bl)) hD
        have hN1 := same_new (o := .lst (bs.map V.bl)) hD _ _ hN
        have hL1 := hL.same (same_new (o := .lst (bs.map V.bl)) hD)
        generalize upd H4 D (.lst (bs.map V.bl)) = Hb at hk1 S1 hN1 hL1 ⊢
        cases hb : bs.any id with
        | true => exact ⟨ls, _, _, _, _, rfl, S1, hN1, hL1, by omega, hk1⟩
        | false =>
          refine ⟨_, rfl, szOk rfl, fun p5 hp5 => ?_⟩
          refine ⟨szOk rfl, fun p6 hp6 => ?_⟩
          refine ⟨szOk rfl, fun p7 hp7 => ?_⟩
          refine ⟨szOk rfl, fun p8 hp8 => ?_⟩
          refine ⟨szOk rfl, fun p9 hp9 => ?_⟩
          refine ⟨szOk rfl, fun p10 hp10 => ?_⟩
          refine ⟨d, c, _, _, rfl, ((((((S1.new hp5).new hp6).new hp7).new hp8).new hp9).new hp10), .inl (.inl upd_same), (fun z => nomatch z), (by show 5 ≤ 1000; decide), fun v11 H11 hv11 S11 kp11 => ?_⟩
          obtain ⟨lv, lo', hi', rfl, hlv⟩ : ∃ a lo' hi', v11 = .ref a ∧ H11 a = some (.tup [.int lo', .int hi']) := by
            simp only [List.mem_cons, List.not_mem_nil, or_false] at hv11
            rcases hv11 with rfl | rfl | rfl | rfl | rfl
            · exact ⟨_, _, _, rfl, kp11.t ((((((S1.new hp5).new hp6).new hp7).new hp8).new hp9).new hp10) (same_new hp10 _ _ (same_new hp9 _ _ (same_new hp8 _ _ (same_new hp7 _ _ (same_new hp6 _ _ upd_same)))))⟩
            · exact ⟨_, _, _, rfl, kp11.t ((((((S1.new hp5).new hp6).new hp7).new hp8).new hp9).new hp10) (same_new hp10 _ _ (same_new hp9 _ _ (same_new hp8 _ _ (same_new hp7 _ _ upd_same))))⟩
            · exact ⟨_, _, _, rfl, kp11.t ((((((S1.new hp5).new hp6).new hp7).new hp8).new hp9).new hp10) (same_new hp10 _ _ (same_new hp9 _ _ (same_new hp8 _ _ upd_same)))⟩
            · exact ⟨_, _, _, rfl, kp11.t ((((((S1.new hp5).new hp6).new hp7).new hp8).new hp9).new hp10) (same_new hp10 _ _ (same_new hp9 _ _ upd_same))⟩
            · exact ⟨_, _, _, rfl, kp11.t ((((((S1.new hp5).new hp6).new hp7).new hp8).new hp9).new hp10) (same_new hp10 _ _ upd_same)⟩
          have hN1 := kp11.l ((((((S1.new hp5).new hp6).new hp7).new hp8).new hp9).new hp10) (same_new hp10 _ _ (same_new hp9 _ _ (same_new hp8 _ _ (same_new hp7 _ _ (same_new hp6 _ _ (same_new hp5 _ _ hN1))))))
          have hL1 := ((((((hL1.same (same_new hp5)).same (same_new hp6)).same (same_new hp7)).same (same_new hp8)).same (same_new hp9)).same (same_new hp10)).keep ((((((S1.new hp5).new hp6).new hp7).new hp8).new hp9).new hp10) kp11
          have hk2 : Keep d H H11 := ((((((hk1.trans (Keep.of (same_new hp5))).trans (Keep.of (same_new hp6))).trans (Keep.of (same_new hp7))).trans (Keep.of (same_new hp8))).trans (Keep.of (same_new hp9))).trans (Keep.of (same_new hp10))).trans kp11
          refine ⟨_, rfl, (.inl ⟨rfl, _, .inl (.inl hL1.li)⟩), _, rfl, _, rfl, _, _, _, _, rfl, rfl, (.inl (.inl hN1)), (atI0 (mapAt hik)), _, rfl, _, rfl, szOk rfl, fun p12 hp12 => ?_⟩
          refine ⟨d, c, _, _, rfl, (S11.new hp12), .inl (.inl upd_same), (fun z => nomatch z), (by show 3 ≤ 1000; decide), fun v13 H13 hv13 S13 kp13 => ?_⟩
          have hN1 := kp13.l (S11.new hp12) (same_new hp12 _ _ hN1)
          have hL1 := (hL1.same (same_new hp12)).keep (S11.new hp12) kp13
          have hlv := kp13.t (S11.new hp12) (same_new hp12 _ _ hlv)
          obtain ⟨sec, rfl, hsec⟩ : ∃ z : Str, v13 = .str z ∧ sOk z := by
            simp only [List.mem_cons, List.not_mem_nil, or_false] at hv13
            rcases hv13 with rfl | rfl | rfl <;> exact ⟨_, rfl, by decide +kernel⟩
          refine ⟨_, rfl, _, _, _, _, rfl, rfl, (.inl (.inl hlv)), rfl, _, rfl, _, _, _, _, rfl, rfl, (.inl (.inl hlv)), rfl, szOk rfl, fun p14 hp14 => ?_⟩
          refine ⟨_, _, _, rfl, rfl, (hL1.same (same_new hp14)).li, (by rw [List.length_map]; exact small1000 (by omega)), ?_⟩
          have hk3 : Keep d H (upd H13 p14 (.tup (Lg.v (Lg.mk p14 ns[i] oth sec lo' hi')))) := ((hk2.trans (Keep.of (same_new hp12))).trans kp13).trans (Keep.of (same_new hp14))
          refine ⟨ls ++ [(Lg.mk p14 ns[i] oth sec lo' hi')], _, _, _, _, rfl, St1.put (S13.new hp14) npd npc, by rw [upd_ne npl]; exact (same_new hp14 _ _ hN1), LegsAt.snoc (q := (Lg.mk p14 ns[i] oth sec lo' hi')) (hL1.same (same_new hp14)) upd_same (List.getElem_mem hik) hoth hsec hone, by rw [List.length_append, List.length_singleton]; omega, fun b o e nb => ?_⟩
          rw [upd_ne (fun z => by rw [z, nHp] at e; cases e)]
          exact hk3 b o e nb
      · rintro σ H2 ⟨ls, v_j, v_other, v_levels, v_leg, rfl, S0, hN, hL, hlen, hk⟩
        exact ⟨ls, _, _, _, _, _, rfl, S0, hN, hL, by omega, hk⟩
    · rintro σ H2 ⟨ls, v_k, v_j, v_other, v_levels, v_leg, rfl, S0, hN, hL, hlen, hk⟩
      refine ⟨_, rfl, k ls p1 H2 hL ?_ nHp S0 hk⟩
      have : ((ns.map V.str).length : Int).toNat = ns.length := by rw [List.length_map]; omega
      omega
theorem sc_law_chart : FnScope ["state", "many", "size", "names", "fixes", "k", "legs", "holds", "leg", "back", "runways", "chart", "name", "other"] ["state", "many", "size"] (defScope s_law_chart) := ⟨rfl, rfl, rfl, by decide +kernel, rfl, by decide +kernel, by decide +kernel⟩
theorem ok_law_chart {f : Addr} {fd : FuncData} (F : Fun K "_law_chart" "_law_chart" s_law_chart f fd) (T : TxtA mg)
    (D_law_draw : Def P w K mg base 1 "_law_draw" ["state", "bound"] (spDraw K))
    (D_law_names : Def P w K mg base 3 "_law_names" ["state", "many"] (spNames K))
    (D_law_legs : Def P w K mg base 3 "_law_legs" ["state", "names"] (spLegs K)) : FnOk P w K mg base CX0 4 f fd ["state", "many", "size"] (spChartB K) := by
  refine F.ok sc_law_chart (fun vs H Q E h => ?_) (fun cdv A outer s H vs Q E hr h => ?_)
  · obtain ⟨_, _, _, _, rfl, _⟩ := h
    rfl
  · obtain ⟨d, c, m, z, rfl, S, m0, m1, z0, z1, k⟩ := h
    have hu := hu_of hr
    refine ⟨_, (pss_cons (ps_set (i := 3) sc_law_chart.nd rfl (Or.inl rfl) (pe_def D_law_names (hr.mono (by decide)) (by rfl) (pa_cons (pv 0) (pa_cons (pv 1) pa_nil))))
    (pss_cons (ps_set (i := 4) sc_law_chart.nd rfl (Or.inl rfl) pe_dnewK)
    (pss_cons (ps_for PassesOwn.never rfl (pi_range1 (by rfl) T.range (pa_cons (pv 1) pa_nil)) (pg_name (i := 5) sc_law_chart.nd rfl (Or.inl rfl))
      (pss_one (ps_dput hu (pv 4) (pe_ix (r := rIxL K) ix_list (pv 3) (pv 5) (fun _ _ => rfl)) (pe_tup (pa_cons (pe_op op_sub (pe_def D_law_draw (hr.mono (by decide)) (by rfl) (pa_cons (pv 0) (pa_cons (pe_op op_add (pe_op op_mul pe_int (pv 2)) pe_int) pa_nil))) (pv 2)) (pa_cons (pe_op op_add (pe_op op_mul (pv 1) (pe_op op_sub (pe_def D_law_draw (hr.mono (by decide)) (by rfl) (pa_cons (pv 0) (pa_cons (pe_op op_add (pe_op op_mul pe_int (pv 2)) pe_int) pa_nil))) (pv 2))) (pv 5)) pa_nil))) rfl)))
    (pss_cons (ps_set (i := 6) sc_law_chart.nd rfl (Or.inl rfl) (pe_def D_law_legs (hr.mono (by decide)) (by rfl) (pa_cons (pv 0) (pa_cons (pv 3) pa_nil))))
    (pss_cons (ps_set (i := 7) sc_law_chart.nd rfl (Or.inl rfl) pe_dnewK)
    (pss_cons (ps_for PassesOwn.never rfl (pi_list (pv 6)) (pg_name (i := 8) sc_law_chart.nd rfl (Or.inr rfl))
      (pss_cons (ps_setLc (i := 9) (own := [("other", 13)]) (g := gName 13) (by rfl) sc_law_chart.nd rfl rfl (sw_true rfl rfl rfl (by decide +kernel)) (pi_list (pv 6)) (blkOk_by (own := [("other", 13)]) (N := ["state", "many", "size", "names", "fixes", "k", "legs", "holds", "leg", "back", "runways", "chart", "name", "other"]) (sc := defScope s_law_chart) (by decide +kernel)) (fun _ _ _ _ _ => (pg_name (i := 13) sc_law_chart.nd rfl (Or.inl rfl))) (fun _ _ _ _ _ => pts_one (PW.pt (pw_and (pt_cmpR op_eq (pe_ix (r := rIxT K) ix_tup (pv 13) pe_int (fun _ _ => rfl)) (pe_ix (r := rIxT K) ix_tup (pv 8) pe_int (fun _ _ => rfl)) (nomark _)) (pw_and1 (pt_cmpR op_eq (pe_ix (r := rIxT K) ix_tup (pv 13) pe_int (fun _ _ => rfl)) (pe_ix (r := rIxT K) ix_tup (pv 8) pe_int (fun _ _ => rfl)) (nomark _)))))) (fun _ _ _ _ _ => (pv 13)))
    (pss_one (ps_if (PW.pt (pw_and (pt_cmpR op_gt (pe_callB (r := rLenK K) call_len_seq (by rfl) T.len boot_len (pa_cons (pv 9) pa_nil)) pe_int (nomark _)) (pw_and1 (pt_cmpR op_eq (pe_def D_law_draw (hr.mono (by decide)) (by rfl) (pa_cons (pv 0) (pa_cons pe_int pa_nil))) pe_int (nomark _))))) (pss_one (ps_dput hu (pv 7) (pe_ix (r := rIxT K) ix_tup (pv 8) pe_int (fun _ _ => rfl)) (pe_ix (r := rIxT K) ix_tup (pv 8) pe_int (fun _ _ => rfl)) rfl))
      pss_nil))))
    (pss_cons (ps_setLc (i := 10) (own := [("name", 12)]) (g := gName 12) (by rfl) sc_law_chart.nd rfl rfl (sw_true rfl rfl rfl (by decide +kernel)) (pi_list (pv 3)) (blkOk_by (own := [("name", 12)]) (N := ["state", "many", "size", "names", "fixes", "k", "legs", "holds", "leg", "back", "runways", "chart", "name", "other"]) (sc := defScope s_law_chart) (by decide +kernel)) (fun _ _ _ _ _ => (pg_name (i := 12) sc_law_chart.nd rfl (Or.inl rfl))) (fun _ _ _ _ _ => pts_one (pt_cmpR op_eq (pe_def D_law_draw (hr.mono (by decide)) (by rfl) (pa_cons (pv 0) (pa_cons pe_int pa_nil))) pe_int (nomark _))) (fun _ _ _ _ _ => (pv 12)))
    (pss_cons (ps_set (i := 11) sc_law_chart.nd rfl (Or.inl rfl) (pe_disp (pps_cons pe_str (pv 4) (pps_cons pe_str (pv 6) (pps_cons pe_str (pe_lst pa_nil) (pps_cons pe_str (pe_slice sl_list (pv 10) po_none (po_some pe_int)) (pps_cons pe_str (pv 7) pps_nil))))) (by rfl) (by rfl) (fun z => by cases z) (by decide)))
    (pss_cons (ps_dput hu (pv 11) pe_str (pe_lst pa_nil) rfl)
    (pss_cons (ps_dput hu (pv 11) pe_str pe_dnewK rfl)
    (pss_one (ps_ret (pv 11))))))))))))), ?_⟩
    refine ⟨_, rfl, _, rfl, d, c, m, rfl, S, by omega, by omega, fun ns ln Hn hns hnok hnd hln hN Sn kpn => ?_⟩
    have hnl : ns.length ≤ 7 ∧ 2 ≤ ns.length := by omega
    intro fd hfd
    have nfd : fd ≠ d := Sn.nd hfd
    have nfc : fd ≠ c := Sn.nc hfd
    have nfl : ln ≠ fd := ne_of_none hN hfd
    have nHf : H fd = none := kpn.none nfd hfd
    refine ⟨_, rfl, _, rfl, by omega, by omega, for_range (n := m.toNat) (fun i σ H2 => ∃ (kvs : List (Key × V)) (pt : Str → Option (Addr × Int × Int)) (v_k v_legs v_holds v_leg v_back v_runways v_chart v_name v_other : Option V), σ = [some (.ref d), some (.int m), some (.int z), some (.ref ln), some (.ref fd), v_k, v_legs, v_holds, v_leg, v_back, v_runways, v_chart, v_name, v_other] ∧ St1 K H2 d c ∧ H2 ln = some (.lst (ns.map V.str)) ∧ FixAt H2 fd kvs pt (ns.take i) ∧ kvs.length ≤ i ∧ Keep2 d fd Hn H2 ∧ Sep pt ns m i ∧ kvs.map (·.1) = (ns.take i).map Sum.inr)
      ⟨[], fun _ => none, none, none, none, none, none, none, none, none, none, rfl, (Sn.new hfd), (same_new hfd _ _ hN), ⟨upd_same, (fun _ _ _ _ h => nomatch h), fun _ h => nomatch h⟩, Nat.le_refl _, (Keep2.refl d fd Hn).new hfd, fun j _ h => absurd h (Nat.not_lt_zero j), rfl⟩ ?_ ?_⟩
    · rintro i σ H2 hi ⟨kvs, pt, v_k, v_legs, v_holds, v_leg, v_back, v_runways, v_chart, v_name, v_other, rfl, S0, hN, hF, hlen, hk, hsep, hks⟩
      have hik : i < ns.length := by omega
      have e1 : ns.take (i + 1) = ns.take i ++ [ns[i]] := by rw [List.take_add_one, List.getElem?_eq_getElem hik]; rfl
      refine ⟨_, rfl, _, rfl, _, _, rfl, rfl, (by walk_at "ms"), _, _, rfl, rfl, d, c, _, rfl, S0, (by omega), (by omega), fun x2 H2 x2a x2b S2 kp2 => ?_⟩
      have hF := hF.keep S0 kp2 nfd
      have hN := kp2.l S0 hN
      refine ⟨_, rfl, _, _, rfl, rfl, _, rfl, _, rfl, _, rfl, _, _, rfl, rfl, (by walk_at "ms"), _, _, rfl, rfl, d, c, _, rfl, S2, (by omega), (by omega), fun x3 H3 x3a x3b S3 kp3 => ?_⟩
      have hF := hF.keep S2 kp3 nfd
      have hN := kp3.l S2 hN
      refine ⟨_, rfl, _, _, rfl, rfl, _, _, rfl, rfl, .inl ⟨by omega, by omega⟩, _, rfl, _, _, rfl, rfl, szOk rfl, fun p4 hp4 => ?_⟩
      have hb : -100000 ≤ (x2 - z) ∧ (x2 - z) ≤ 100000 ∧ -100000 ≤ (m * (x3 - z) + (0 + (i : Int))) ∧ (m * (x3 - z) + (0 + (i : Int))) ≤ 100000 := by
        have h1 : m * (x3 - z) ≤ 7 * 9000 := by
          rcases ltge (x3 - z) 0 with w | w
          · have := Int.mul_nonneg (show 0 ≤ m by omega) (show 0 ≤ -(x3 - z) by omega)
            rw [Int.mul_neg] at this
            omega
          · exact Int.mul_le_mul (by omega) (by omega) w (by decide)
        have h2 : m * -(x3 - z) ≤ 7 * 9000 := by
          rcases ltge (-(x3 - z)) 0 with w | w
          · have := Int.mul_nonneg (show 0 ≤ m by omega) (show 0 ≤ (x3 - z) by omega)
            rw [Int.mul_neg]
            omega
          · exact Int.mul_le_mul (by omega) (by omega) w (by decide)
        rw [Int.mul_neg] at h2
        omega
      refine ⟨_, rfl, _, rfl, _, rfl, _, _, _, _, rfl, rfl, .inl (.inl (same_new hp4 _ _ hN)), atI0 (mapAt hik), _, _, rfl, DPut.k (k := .inr ns[i]) (hF.same (same_new hp4)).dc (small1000 (by omega)), ?_⟩
      refine ⟨_, _, _, _, _, _, _, _, _, _, _, rfl, St1.put (S3.new hp4) nfd nfc, by rw [upd_ne nfl]; exact (same_new hp4 _ _ hN), by rw [e1]; exact FixAt.put (hF.same (same_new hp4)) upd_same hb, Nat.le_trans putK_len (by omega), (((hk.k kp2).k kp3).new hp4).put, Sep.put hnd hsep hik (y_mod (by omega) (by omega)), by rw [e1]; exact keys_put hks hnd hik⟩
    rintro σ H2 ⟨kvs, pt, v_k, v_legs, v_holds, v_leg, v_back, v_runways, v_chart, v_name, v_other, rfl, S0, hN, hF, hlen, hk, hsep, hks⟩
    have hm0 : ns.take m.toNat = ns := List.take_of_length_le (by omega)
    rw [hm0] at hF hks
    refine ⟨_, rfl, _, rfl, d, c, ln, ns, rfl, S0, hN, by omega, by omega, fun ls lg Hl hL hls nlg Sl kpl => ?_⟩
    have hF := hF.keep S0 kpl nfd
    have hN := kpl.l S0 hN
    have nlgd : lg ≠ d := let ⟨_, w⟩ := Sl.dk; ne_of hL.li w (by intro w; cases w)
    have nHl : H2 lg = none := nlg
    intro hd hhd
    have nhd : hd ≠ d := Sl.nd hhd
    have nhc : hd ≠ c := Sl.nc hhd
    have nhf : fd ≠ hd := ne_of_none hF.dc hhd
    have Sl0 := Sl
    refine ⟨_, rfl, lg, rfl, ⟨_, .inl (.inl (same_new hhd _ _ hL.li))⟩, for_list (K := K) (a := lg) (xs := ls.map fun l => V.ref l.a) (fun i σ H3 => ∃ (hv : List (Key × V)) (v_k v_leg v_back v_runways v_chart v_name v_other : Option V), σ = [some (.ref d), some (.int m), some (.int z), some (.ref ln), some (.ref fd), v_k, some (.ref lg), some (.ref hd), v_leg, v_back, v_runways, v_chart, v_name, v_other] ∧ St1 K H3 d c ∧ H3 hd = some (.dK hv) ∧ hv.length ≤ i ∧ Keep2 d hd Hl H3)
      ⟨[], _, _, _, _, _, _, _, rfl, Sl.new hhd, upd_same, Nat.le_refl _, (Keep2.refl d hd Hl).new hhd⟩ (fun i σ H3 _ ⟨hv, _, _, _, _, _, _, _, _, _, _, _, hk3⟩ => .inl (.inl (hk3 _ _ hL.li nlgd (ne_of_none hL.li hhd)))) ?_ ?_⟩
    · rintro i y σ H3 hi ⟨hv, v_k, v_leg, v_back, v_runways, v_chart, v_name, v_other, rfl, S3, hH, hvl, hk3⟩
      obtain ⟨q, rfl, hq, hil, _⟩ := getMap hi
      have hL3 : H3 lg = some (.lst (ls.map fun l => V.ref l.a)) := hk3 _ _ hL.li nlgd (ne_of_none hL.li hhd)
      have hT3 : ∀ q ∈ ls, H3 q.a = some (.tup q.v) := fun q hq => hk3 _ _ (hL.tu q hq) (let ⟨_, w⟩ := Sl.dk; ne_of (hL.tu q hq) w (by intro w; cases w)) (ne_of_none (hL.tu q hq) hhd)
      refine ⟨_, rfl, lg, rfl, ⟨_, .inl (.inl hL3)⟩, fun D hD => ?_⟩
      refine lc_list (K := K) (a := lg) (xs := ls.map fun l => V.ref l.a) (fun u H' => ∃ xs : List V, H' = upd H3 D (.lst xs) ∧ xs.length ≤ u) ⟨[], rfl, Nat.le_refl _⟩ (fun u H' _ ⟨_, e, _⟩ => .inl (.inl (by rw [e, upd_ne (ne_of_none hL3 hD)]; exact hL3))) ?_ ?_
      · rintro u y H' hu1 ⟨xs, rfl, hxs⟩
        obtain ⟨o, rfl, ho, hul, _⟩ := getMap hu1
        have ht := same_new (o := .lst xs) hD _ _ (hT3 o ho)
        have htq := same_new (o := .lst xs) hD _ _ (hT3 q hq)
        refine ⟨rfl, ?_⟩
        refine ⟨_, rfl, _, _, _, .str o.s, rfl, rfl, .inl (.inl ht), rfl, _, rfl, _, _, _, .str q.e, rfl, rfl, .inl (.inl htq), rfl, rfl, _, rfl, ite2 (fun e1 => ?_) (fun e1 => ?_)⟩
        · refine ⟨_, rfl, _, _, _, .str o.e, rfl, rfl, .inl (.inl ht), rfl, _, rfl, _, _, _, .str q.s, rfl, rfl, .inl (.inl htq), rfl, rfl, _, rfl, ite2 (fun e2 => ?_) (fun e2 => ?_)⟩
          · refine ⟨_, rfl, _, upd_same, small1000 (by omega), xs ++ [.ref o.a], by rw [upd_upd], by rw [List.length_append, List.length_singleton]; omega⟩
          · exact ⟨xs, rfl, by omega⟩
        · refine iteF ?_
          exact ⟨xs, rfl, by omega⟩
      rintro H' ⟨xs, rfl, hxs⟩
      have S4 := S3.new (o := .lst xs) hD
      have hk4 := hk3.new (o := .lst xs) hD
      have hH4 := same_new (o := .lst xs) hD _ _ hH
      refine ⟨_, rfl, _, _, rfl, .inl (.inl (.inl upd_same)), _, _, rfl, rfl, _, rfl, ite2 (fun e1 => ?_) (fun e1 => ?_)⟩
      · refine ⟨_, rfl, d, c, _, rfl, S4, by decide, by decide, fun x5 H5 _ _ S5 kp5 => ⟨rfl, _, rfl, ite2 (fun e2 => ?_) (fun e2 => ?_)⟩⟩
        · have hT5 := kp5.t S4 (same_new (o := .lst xs) hD _ _ (hT3 q hq))
          have hH5 := kp5 _ _ hH4 nhd
          refine ⟨_, rfl, _, _, _, .str q.e, rfl, rfl, .inl (.inl hT5), rfl, _, rfl, _, rfl, _, _, _, .str q.s, rfl, rfl, .inl (.inl hT5), rfl, _, _, rfl, DPut.k (k := .inr q.s) hH5 (small1000 (by omega)), ?_⟩
          exact ⟨_, _, _, _, _, _, _, _, rfl, S5.put nhd nhc, upd_same, Nat.le_trans putK_len (by omega), (hk4.k kp5).put⟩
        · exact ⟨_, _, _, _, _, _, _, _, rfl, S5, kp5 _ _ hH4 nhd, by omega, hk4.k kp5⟩
      · exact ⟨_, _, _, _, _, _, _, _, rfl, S4, hH4, by omega, hk4⟩
    rintro σ H3 ⟨hv, v_k, v_leg, v_back, v_runways, v_chart, v_name, v_other, rfl, S3, hH, hvl, hk3⟩
    have hN3 : H3 ln = some (.lst (ns.map V.str)) := hk3 _ _ hN (let ⟨_, w⟩ := Sl.dk; ne_of hN w (by intro w; cases w)) (ne_of_none hN hhd)
    refine ⟨_, rfl, ln, rfl, ⟨_, .inl (.inl hN3)⟩, fun D hD => ?_⟩
    have nDd : D ≠ d := S3.nd hD
    have nDc : D ≠ c := S3.nc hD
    have nDl : ln ≠ D := ne_of_none hN3 hD
    have nDh : hd ≠ D := ne_of_none hH hD
    refine lc_list (K := K) (a := ln) (xs := ns.map V.str) (fun u H' => ∃ xs : List V, H' D = some (.lst xs) ∧ xs.length ≤ u ∧ St1 K H' d c ∧ Keep2 d D H3 H') ⟨[], upd_same, Nat.le_refl _, S3.new hD, (Keep2.refl d D H3).new hD⟩
      (fun u H' _ ⟨_, _, _, _, e⟩ => .inl (.inl (e _ _ hN3 (let ⟨_, w⟩ := S3.dk; ne_of hN3 w (by intro w; cases w)) nDl))) ?_ ?_
    · rintro u y H' hu1 ⟨xs, hxs, hxl, S4, hk4⟩
      obtain ⟨o, rfl, ho, hul, _⟩ := getMap hu1
      refine ⟨rfl, ?_⟩
      refine ⟨_, rfl, d, c, _, rfl, S4, by decide, by decide, fun x5 H5 _ _ S5 kp5 => ⟨rfl, _, rfl, ite2 (fun e2 => ?_) (fun e2 => ?_)⟩⟩
      · refine ⟨_, rfl, _, kp5.l S4 hxs, small1000 (by omega), _, upd_same, by rw [List.length_append, List.length_singleton]; omega, S5.put nDd nDc, (hk4.k kp5).put⟩
      · exact ⟨xs, kp5.l S4 hxs, by omega, S5, hk4.k kp5⟩
    rintro H' ⟨xs, hxs, hxl, S4, hk4⟩
    -- the chart
    intro ch hch
    refine ⟨_, rfl, _, rfl, szOk rfl, fun zo hzo => ?_⟩
    refine ⟨_, rfl, _, rfl, D, xs, rfl, .inl (.inl (same_new hzo _ _ (same_new hch _ _ hxs))), fun ru hru => ?_⟩
    refine ⟨_, rfl, same_new hru _ _ (same_new hzo _ _ upd_same), [(.inr "fixes", .ref fd), (.inr "legs", .ref lg), (.inr "zones", .ref zo), (.inr "runways", .ref ru), (.inr "holds", .ref hd)], rfl, (by show 5 ≤ 15; decide), ?_⟩
    have nchd : ch ≠ d := S4.nd hch
    have nchc : ch ≠ c := S4.nc hch
    have hlen5 := ch_len (f := V.ref fd) (l := .ref lg) (z := .ref zo) (r := .ref ru) (h := .ref hd)
    have nHd : H3 hd ≠ none := by rw [hH]; intro w; cases w
    refine ⟨szOk rfl, fun ho hho => ⟨_, rfl, _, _, rfl, DPut.k (k := .inr "hours") (same_new hho _ _ upd_same) (small1000 (Nat.le_trans hlen5 (by decide))), ?_⟩⟩
    intro ca hca
    refine ⟨_, rfl, _, _, rfl, DPut.k (k := .inr "capacities") (same_new hca _ _ upd_same) (small1000 (Nat.le_trans putK_len (by omega))), ?_⟩
    refine ⟨_, rfl, ?_⟩
    have E : ∀ b o, H' b = some o → b ≠ ch → (upd (upd (upd (upd (upd (upd (upd (upd H' ch (.dK [])) zo (.lst [])) ru (.lst (cutV xs none (some 4)))) ch (.dK (mergeK [] [(.inr "fixes", V.ref fd), (.inr "legs", .ref lg), (.inr "zones", .ref zo), (.inr "runways", .ref ru), (.inr "holds", .ref hd)]))) ho (.lst [])) ch (.dK (putK (mergeK [] [(.inr "fixes", V.ref fd), (.inr "legs", .ref lg), (.inr "zones", .ref zo), (.inr "runways", .ref ru), (.inr "holds", .ref hd)]) (.inr "hours") (.ref ho)))) ca (.dK [])) ch (.dK (chK (.ref fd) (.ref lg) (.ref zo) (.ref ru) (.ref hd) (.ref ho) (.ref ca)))) b = some o := fun b o e n => by
      rw [upd_ne n]
      refine same_new hca _ _ ?_
      rw [upd_ne n]
      refine same_new hho _ _ ?_
      rw [upd_ne n]
      exact same_new hru _ _ (same_new hzo _ _ (same_new hch _ _ e))
    have tneD : ∀ (a : Addr) xs0, H3 a = some (.tup xs0) → a ≠ d := fun a xs0 e => let ⟨_, w⟩ := S3.dk; ne_of e w (by intro w; cases w)
    have A : ∀ b o, Hl b = some o → b ≠ d → H' b = some o := fun b o e n => hk4 _ _ (hk3 _ _ e n (ne_of_none e hhd)) n (fun w => by have := hk3 _ _ e n (ne_of_none e hhd); rw [w, hD] at this; cases this)
    have nlc : ∀ b o, Hl b = some o → b ≠ d → b ≠ ch := fun b o e n => ne_of_none (A b o e n) hch
    have tl : ∀ (a : Addr) xs0, Hl a = some (.tup xs0) → a ≠ d := fun a xs0 e => let ⟨_, w⟩ := Sl.dk; ne_of e w (by intro w; cases w)
    have back : ∀ b, b ≠ d → H' b = none → H b = none := fun b n e => by
      cases w : H b with
      | none => rfl
      | some o =>
        exfalso
        have w1 := kpn _ _ w n
        have w2 := hk _ _ w1 n (ne_of_none w1 hfd)
        have w3 := A _ _ (kpl _ _ w2 n) n
        rw [e] at w3
        cases w3
    have hlgH : H lg = none := by
      cases w : H lg with
      | none => rfl
      | some o =>
        exfalso
        have w1 := kpn _ _ w nlgd
        have w2 := hk _ _ w1 nlgd (ne_of_none w1 hfd)
        rw [nHl] at w2
        cases w2
    refine k ⟨fd, lg, kvs, pt, ls⟩ ch _ ⟨ns, hks, hnd, by omega, by omega, fun n hn => ⟨hnok n hn, hF.nm n hn⟩, fun s hs e he n => Sep.len (D := ⟨fd, lg, kvs, pt, ls⟩) (m := m) (by rw [show ns.length = m.toNat by omega]; exact hsep) hnd hs he n⟩ hlgH (fun l hl => Sep.len (D := ⟨fd, lg, kvs, pt, ls⟩) (m := m) (by rw [show ns.length = m.toNat by omega]; exact hsep) hnd (hL.nm l hl).1 (hL.nm l hl).2 (hL.ne hnd l hl)) ⟨⟨_, upd_same, ch_fix, ch_leg⟩, E _ _ (A _ _ hF.dc nfd) (nlc _ _ hF.dc nfd), E _ _ (A _ _ hL.li nlgd) (nlc _ _ hL.li nlgd), (fun l hl => E _ _ (A _ _ (hL.tu l hl) (tl _ _ (hL.tu l hl))) (nlc _ _ (hL.tu l hl) (tl _ _ (hL.tu l hl)))),
      (fun n a x y h => let ⟨h1, h2, h3⟩ := hF.pf n a x y h; ⟨h1, E _ _ (A _ _ h2 (tl _ _ h2)) (nlc _ _ h2 (tl _ _ h2)), h3⟩), (fun l hl => ⟨hF.nm _ (hL.nm l hl).1, hF.nm _ (hL.nm l hl).2⟩), (fun l hl => ⟨hnok _ (hL.nm l hl).1, hnok _ (hL.nm l hl).2, hL.ck l hl⟩), hls⟩ (back ch nchd hch) nHf ?_ ?_
    · obtain ⟨_, w1⟩ := S4.dk
      obtain ⟨_, w2⟩ := S4.cl
      exact S4.of ((E _ _ w1 nchd.symm).trans w1.symm) ((E _ _ w2 nchc.symm).trans w2.symm)
    · intro b o e n
      have w1 := kpn _ _ e n
      have w2 := hk _ _ w1 n (ne_of_none w1 hfd)
      have w3 := A _ _ (kpl _ _ w2 n) n
      exact E _ _ w3 (ne_of_none w3 hch)
theorem sc_law_leg : FnScope ["chart", "start", "end", "found", "leg"] ["chart", "start", "end"] (defScope s_law_leg) := ⟨rfl, rfl, rfl, by decide +kernel, rfl, by decide +kernel, by decide +kernel⟩
theorem ok_law_leg {f : Addr} {fd : FuncData} (F : Fun K "_law_leg" "_law_leg" s_law_leg f fd) (T : TxtA mg) : FnOk P w K mg base CX0 1 f fd ["chart", "start", "end"] (spLegS) := by
  refine F.ok sc_law_leg (fun vs H Q E h => ?_) (fun cdv A outer s H vs Q E hr h => ?_)
  · obtain ⟨_, _, _, _, rfl, _⟩ := h
    rfl
  · obtain ⟨ch, D, s', e', rfl, C, k⟩ := h
    have hu := hu_of hr
    refine ⟨_, (pss_cons (ps_setLc (i := 3) (own := [("leg", 4)]) (g := gName 4) (by rfl) sc_law_leg.nd rfl rfl (sw_true rfl rfl rfl (by decide +kernel)) (pi_list (pe_dget hu (pv 0) pe_str (fun _ _ => rfl))) (blkOk_by (own := [("leg", 4)]) (N := ["chart", "start", "end", "found", "leg"]) (sc := defScope s_law_leg) (by decide +kernel)) (fun _ _ _ _ _ => (pg_name (i := 4) sc_law_leg.nd rfl (Or.inl rfl))) (fun _ _ _ _ _ => pts_one (PW.pt (pw_and (pt_cmpR op_eq (pe_ix (r := rIxT K) ix_tup (pv 4) pe_int (fun _ _ => rfl)) (pv 1) (nomark _)) (pw_and1 (pt_cmpR op_eq (pe_ix (r := rIxT K) ix_tup (pv 4) pe_int (fun _ _ => rfl)) (pv 2) (nomark _)))))) (fun _ _ _ _ _ => (pv 4)))
    (pss_one (ps_ret (pe_ifExp (pt_cmpR op_gt (pe_callB (r := rLenK K) call_len_seq (by rfl) T.len boot_len (pa_cons (pv 3) pa_nil)) pe_int (nomark _)) (pe_ix (r := rIxL K) ix_list (pv 3) pe_int (fun _ _ => rfl)) pe_non)))), ?_⟩
    refine ⟨_, rfl, _, _, rfl, C.gl, _, rfl, ⟨_, .inl (.inl C.lg)⟩, fun B hB => ?_⟩
    refine lc_list (K := K) (a := D.lg) (xs := D.ls.map fun l => V.ref l.a) (fun u H' => H' = upd H B (.lst (((D.ls.take u).filter fun l => decide (l.s = s') && decide (l.e = e')).map fun l => V.ref l.a))) rfl (fun u H' _ e => .inl (.inl (by rw [e, upd_ne (ne_of_none C.lg hB)]; exact C.lg))) ?_ ?_
    · rintro u y H' hu1 rfl
      obtain ⟨q, rfl, hq, hul, ht⟩ := getMap hu1
      have htq := same_new (o := .lst (((D.ls.take u).filter fun l => decide (l.s = s') && decide (l.e = e')).map fun l => V.ref l.a)) hB _ _ (C.lt q hq)
      have hle : (((D.ls.take u).filter fun l => decide (l.s = s') && decide (l.e = e')).map fun l => V.ref l.a).length ≤ 100 := by
        rw [List.length_map]
        have h1 := List.length_filter_le (fun l : Lg => decide (l.s = s') && decide (l.e = e')) (D.ls.take u)
        have h2 := List.length_take_le' u D.ls
        have h3 := C.n
        omega
      refine ⟨rfl, ?_⟩
      refine ⟨_, rfl, _, _, _, .str q.s, rfl, rfl, .inl (.inl htq), rfl, _, rfl, rfl, _, rfl, ite2 (fun e1 => ?_) (fun e1 => ?_)⟩
      · have e1 := V.str.inj (of_decide_eq_true e1)
        refine ⟨_, rfl, _, _, _, .str q.e, rfl, rfl, .inl (.inl htq), rfl, _, rfl, rfl, _, rfl, ite2 (fun e2 => ?_) (fun e2 => ?_)⟩
        · have e2 := V.str.inj (of_decide_eq_true e2)
          refine ⟨_, rfl, _, upd_same, small1000 (by omega), ?_⟩
          rw [upd_upd, ht, List.filter_append, List.map_append]
          simp [e1, e2]
        · have e2 : ¬ q.e = e' := fun z => e2 (decide_eq_true (congrArg V.str z))
          show _ = _
          rw [ht, List.filter_append]
          simp [e2]
      · refine iteF ?_
        have e1 : ¬ q.s = s' := fun z => e1 (decide_eq_true (congrArg V.str z))
        show _ = _
        rw [ht, List.filter_append]
        simp [e1]
    rintro H' rfl
    rw [List.length_map, List.take_length]
    have hfd := head_find (fun l : Lg => decide (l.s = s') && decide (l.e = e')) D.ls
    have hsm := same_new (o := .lst ((D.ls.filter fun l => decide (l.s = s') && decide (l.e = e')).map fun l => V.ref l.a)) hB
    refine ⟨_, rfl, _, _, rfl, .inl (.inl (.inl upd_same)), _, _, rfl, rfl, _, rfl, ite2 (fun e1 => ?_) (fun e1 => ?_)⟩
    · have e1 := of_decide_eq_true e1
      cases hf : D.ls.filter fun l => decide (l.s = s') && decide (l.e = e') with
      | nil => rw [hf] at e1; simp at e1
      | cons l r =>
        rw [hf] at hfd hsm
        have e2 : D.leg s' e' = some l := hfd.symm
        refine ⟨_, rfl, _, _, _, .ref l.a, rfl, rfl, .inl (.inl upd_same), atI_nat (j := 0) rfl, ?_⟩
        have := k _ hsm
        rw [e2] at this
        exact this
    · have e1 : ¬ _ := fun z => e1 (decide_eq_true z)
      cases hf : D.ls.filter fun l => decide (l.s = s') && decide (l.e = e') with
      | cons l r => rw [hf] at e1; simp at e1
      | nil =>
        rw [hf] at hfd hsm
        have e2 : D.leg s' e' = none := hfd.symm
        have := k _ hsm
        rw [e2] at this
        exact this
theorem sc_law_lengths : FnScope ["chart", "lengths", "leg", "a", "b"] ["chart"] (defScope s_law_lengths) := ⟨rfl, rfl, rfl, by decide +kernel, rfl, by decide +kernel, by decide +kernel⟩
theorem ok_law_lengths {f : Addr} {fd : FuncData} (F : Fun K "_law_lengths" "_law_lengths" s_law_lengths f fd) (T : TxtA mg)
    (D_law_root_up : Def P w K mg base 1 "_law_root_up" ["n"] (spRootR)) : FnOk P w K mg base CX0 2 f fd ["chart"] (spLens) := by
  refine F.ok sc_law_lengths (fun vs H Q E h => ?_) (fun cdv A outer s H vs Q E hr h => ?_)
  · obtain ⟨_, _, rfl, _⟩ := h
    rfl
  · obtain ⟨ch, D, rfl, C, k⟩ := h
    have hu := hu_of hr
    refine ⟨_, (pss_cons (ps_set (i := 1) sc_law_lengths.nd rfl (Or.inl rfl) pe_dnewT)
    (pss_cons (ps_for PassesOwn.never rfl (pi_list (pe_dget hu (pv 0) pe_str (fun _ _ => rfl))) (pg_name (i := 2) sc_law_lengths.nd rfl (Or.inl rfl))
      (pss_cons (ps_set (i := 3) sc_law_lengths.nd rfl (Or.inl rfl) (pe_dget hu (pe_dget hu (pv 0) pe_str (fun _ _ => rfl)) (pe_ix (r := rIxT K) ix_tup (pv 2) pe_int (fun _ _ => rfl)) (fun _ _ => rfl)))
    (pss_cons (ps_set (i := 4) sc_law_lengths.nd rfl (Or.inl rfl) (pe_dget hu (pe_dget hu (pv 0) pe_str (fun _ _ => rfl)) (pe_ix (r := rIxT K) ix_tup (pv 2) pe_int (fun _ _ => rfl)) (fun _ _ => rfl)))
    (pss_one (ps_dput hu (pv 1) (pe_tup (pa_cons (pe_ix (r := rIxT K) ix_tup (pv 2) pe_int (fun _ _ => rfl)) (pa_cons (pe_ix (r := rIxT K) ix_tup (pv 2) pe_int (fun _ _ => rfl)) pa_nil))) (pe_def D_law_root_up (hr.mono (by decide)) (by rfl) (pa_cons (pe_op op_add (pe_op op_mul (pe_op op_sub (pe_ix (r := rIxT K) ix_tup (pv 3) pe_int (fun _ _ => rfl)) (pe_ix (r := rIxT K) ix_tup (pv 4) pe_int (fun _ _ => rfl))) (pe_op op_sub (pe_ix (r := rIxT K) ix_tup (pv 3) pe_int (fun _ _ => rfl)) (pe_ix (r := rIxT K) ix_tup (pv 4) pe_int (fun _ _ => rfl)))) (pe_op op_mul (pe_op op_sub (pe_ix (r := rIxT K) ix_tup (pv 3) pe_int (fun _ _ => rfl)) (pe_ix (r := rIxT K) ix_tup (pv 4) pe_int (fun _ _ => rfl))) (pe_op op_sub (pe_ix (r := rIxT K) ix_tup (pv 3) pe_int (fun _ _ => rfl)) (pe_ix (r := rIxT K) ix_tup (pv 4) pe_int (fun _ _ => rfl))))) pa_nil)) rfl)))))
    (pss_one (ps_ret (pv 1))))), ?_⟩
    intro ld hld
    refine ⟨_, rfl, _, _, rfl, (C.same (same_new hld)).gl, _, rfl, ⟨_, .inl (.inl (same_new hld _ _ C.lg))⟩, for_list (K := K) (a := D.lg) (xs := D.ls.map fun l => V.ref l.a) (fun i σ H2 => ∃ (kvs : List (List Key × V)) (v_leg v_a v_b : Option V), σ = [some (.ref ch), some (.ref ld), v_leg, v_a, v_b] ∧ H2 ld = some (.dT kvs) ∧ kvs.length ≤ i ∧ Same H H2 ∧ ∀ l ∈ D.ls.take i, valV kvs [(.inr l.s : Key), .inr l.e] = some (.int (D.len l.s l.e)))
      ⟨[], none, none, none, rfl, upd_same, Nat.le_refl _, same_new hld, fun _ h => nomatch h⟩ (fun i σ H2 _ ⟨_, _, _, _, _, _, _, e, _⟩ => .inl (.inl (e _ _ C.lg))) ?_ ?_⟩
    · rintro i y σ H2 hi ⟨kvs, v_leg, v_a, v_b, rfl, hd, hl, sm, hv⟩
      obtain ⟨q, rfl, hq, hil, ht⟩ := getMap hi
      have C2 := C.same sm
      have htq := C2.lt q hq
      obtain ⟨⟨a1, x1, y1, h1⟩, a2, x2, y2, h2⟩ := C.wf q hq
      obtain ⟨p1, p2, p3, p4, p5, p6⟩ := C2.pf _ _ _ _ h1
      obtain ⟨q1, q2, q3, q4, q5, q6⟩ := C2.pf _ _ _ _ h2
      have b1 := sq_le (show -200000 ≤ x1 - x2 by omega) (show x1 - x2 ≤ 200000 by omega)
      have b2 := sq_le (show -200000 ≤ y1 - y2 by omega) (show y1 - y2 ≤ 200000 by omega)
      refine ⟨_, rfl, _, _, rfl, C2.gf, _, rfl, _, _, _, .str q.s, rfl, rfl, .inl (.inl htq), rfl, _, _, rfl, C2.gp h1, ?_⟩
      refine ⟨_, rfl, _, _, rfl, C2.gf, _, rfl, _, _, _, .str q.e, rfl, rfl, .inl (.inl htq), rfl, _, _, rfl, C2.gp h2, ?_⟩
      refine ⟨_, rfl, _, _, _, _, rfl, rfl, (.inl (.inl p2)), rfl, _, rfl, _, _, _, _, rfl, rfl, (.inl (.inl q2)), rfl, _, _, rfl, rfl, _, rfl, _, _, _, _, rfl, rfl, (.inl (.inl p2)), rfl, _, rfl, _, _, _, _, rfl, rfl, (.inl (.inl q2)), rfl, _, _, rfl, rfl, _, _, rfl, rfl, (by walk_at "ms"), _, rfl, _, _, _, _, rfl, rfl, (.inl (.inl p2)), rfl, _, rfl, _, _, _, _, rfl, rfl, (.inl (.inl q2)), rfl, _, _, rfl, rfl, _, rfl, _, _, _, _, rfl, rfl, (.inl (.inl p2)), rfl, _, rfl, _, _, _, _, rfl, rfl, (.inl (.inl q2)), rfl, _, _, rfl, rfl, _, _, rfl, rfl, (by walk_at "ms"), _, _, rfl, rfl, _, rfl, Int.add_nonneg (sq0 _) (sq0 _), (by omega), ?_⟩
      rw [sq_swap x1, sq_swap y1, ← D.len_eq h1 h2]
      refine ⟨_, rfl, _, rfl, _, _, _, .str q.s, rfl, rfl, .inl (.inl htq), rfl, _, rfl, _, _, _, .str q.e, rfl, rfl, .inl (.inl htq), rfl, szOk rfl, fun p5 hp5 => ?_⟩
      have nld : ld ≠ p5 := ne_of_none hd hp5
      refine ⟨_, _, rfl, DPut.t (k := [(.inr q.s : Key), .inr q.e]) (same_new hp5 _ _ hd) upd_same (small1000 (by have := C.n; omega)), ?_⟩
      refine ⟨_, _, _, _, rfl, upd_same, ?_, fun b o e => ?_, fun l hl' => ?_⟩
      · unfold putK
        split
        · rw [List.length_map]; (try omega)
        · rw [List.length_append, List.length_singleton]; (try omega)
      · rw [upd_ne (ne_of_none e hld)]
        exact same_new hp5 _ _ (sm _ _ e)
      · rw [valV_put]
        by_cases e : [(Sum.inr l.s : Key), Sum.inr l.e] = [Sum.inr q.s, Sum.inr q.e]
        · rw [if_pos e]
          have e1 : l.s = q.s := Sum.inr.inj (List.cons.inj e).1
          have e2 : l.e = q.e := Sum.inr.inj (List.cons.inj (List.cons.inj e).2).1
          rw [e1, e2]
        · rw [if_neg e]
          rw [ht] at hl'
          rcases List.mem_append.mp hl' with h | h
          · exact hv l h
          · rw [List.mem_singleton.mp h] at e
            exact absurd rfl e
    · rintro σ H2 ⟨kvs, v_leg, v_a, v_b, rfl, hd, hl, sm, hv⟩
      rw [List.length_map, List.take_length] at hv
      refine ⟨_, rfl, k ld H2 hld ⟨kvs, hd, fun a b l h => ?_⟩ sm⟩
      obtain ⟨h1, h2, h3⟩ := CD.leg_mem h
      have := hv l h1
      rw [h2, h3] at this
      exact this
end
end Sk

set_option Elab.async false
set_option linter.all false
set_option maxRecDepth 100000
set_option maxHeartbeats 4000000
namespace Sk
open PySem PySem.Spec PyProof.Rows L2
abbrev s_Path_total : Stmt := inClass (top 32) 2
abbrev s_Path_leg_at : Stmt := inClass (top 32) 3
abbrev s_Path_begin : Stmt := inClass (top 32) 4
abbrev s_Path_leg : Stmt := inClass (top 32) 5
abbrev s_Path_route : Stmt := inClass (top 32) 9
abbrev s_Path__point : Stmt := inClass (top 32) 12
abbrev s_Path__segment : Stmt := inClass (top 32) 11
abbrev s_Path__segments : Stmt := inClass (top 32) 10
abbrev s_Path_place : Stmt := inClass (top 32) 7
abbrev s_Path_piece : Stmt := inClass (top 32) 8
abbrev s_Path__join : Stmt := inClass (top 32) 1
abbrev s_Path___init__ : Stmt := inClass (top 32) 0
section
variable {P : Program} {w : World} {K : PySem.W.Frag} {mg : Str → Option Value} {base : Heap}
theorem sc_Path_total : FnScope ["self"] ["self"] (defScope s_Path_total) := ⟨rfl, rfl, rfl, by decide +kernel, rfl, by decide +kernel, by decide +kernel⟩
theorem ok_Path_total {f : Addr} {fd : FuncData} {C : Addr} (F : Fun K "total" "Path.total" s_Path_total f fd) (T : TxtA mg) (Y : PathY K mg C) : FnOk P w K mg base CX0 1 f fd ["self"] (spTotal C) := by
  refine F.ok sc_Path_total (fun vs H Q E h => ?_) (fun cdv A outer s H vs Q E hr h => ?_)
  · obtain ⟨_, _, _, _, _, _, _, _, _, _, rfl, _⟩ := h
    rfl
  · obtain ⟨p, r, dx, l1, l2, l3, l4, D, ns, i, rfl, ho, hb, k⟩ := h
    refine ⟨_, (pss_one (ps_ret (pe_ix (r := rIxL K) ix_list (pe_fld (pv 0) rfl) (pe_un un_neg pe_int) (fun _ _ => rfl)))), ?_⟩
    refine ⟨_, rfl, _, _, _, _, _, rfl, ho, Y.cl, Y.n5, pf5, _, rfl, _, _, _, _, rfl, rfl, .inl (.inl hb), atI_back (v := .int (bg D ns i)) (by simp [List.range_succ]), ?_⟩
    exact k
theorem sc_Path_leg_at : FnScope ["self", "progress", "last", "index"] ["self", "progress"] (defScope s_Path_leg_at) := ⟨rfl, rfl, rfl, by decide +kernel, rfl, by decide +kernel, by decide +kernel⟩
theorem ok_Path_leg_at {f : Addr} {fd : FuncData} {C : Addr} (F : Fun K "leg_at" "Path.leg_at" s_Path_leg_at f fd) (T : TxtA mg) (Y : PathY K mg C) : FnOk P w K mg base CX0 1 f fd ["self", "progress"] (spLegAt C) := by
  refine F.ok sc_Path_leg_at (fun vs H Q E h => ?_) (fun cdv A outer s H vs Q E hr h => ?_)
  · obtain ⟨_, _, _, _, _, rfl, _⟩ := h
    rfl
  · obtain ⟨p, r, D, ns, x, rfl, PA, n2, n20, k⟩ := h
    refine ⟨_, (pss_cons (ps_set (i := 2) sc_Path_leg_at.nd rfl (Or.inl rfl) (pe_op op_sub (pe_callB (r := rLenK K) call_len_seq (by rfl) T.len boot_len (pa_cons (pe_fld (pv 0) rfl) pa_nil)) pe_int))
    (pss_cons (ps_for PassesOwn.never rfl (pi_range1 (by rfl) T.range (pa_cons (pv 2) pa_nil)) (pg_name (i := 3) sc_Path_leg_at.nd rfl (Or.inl rfl))
      (pss_one (ps_if (pt_cmpR op_lt (pv 1) (pe_ix (r := rIxL K) ix_list (pe_fld (pv 0) rfl) (pe_op op_add (pv 3) pe_int) (fun _ _ => rfl)) (nomark _)) (pss_one (ps_ret (pv 3)))
      pss_nil)))
    (pss_one (ps_ret (pv 2))))), ?_⟩
    obtain ⟨dx, l1, l2, l3, l4, sa, va, P⟩ := id PA
    refine ⟨_, rfl, _, _, _, _, _, rfl, P.ob, Y.cl, Y.n2, pf2, _, _, rfl, .inl (.inl (.inl P.lg)), _, _, rfl, rfl, ?_⟩
    refine nm ?_
    dsimp only
    rw [List.length_map, List.length_range]
    have e0 : ((ns.length - 1 : Nat) : Int) - 1 = ((ns.length - 1 - 1 : Nat) : Int) := by omega
    rw [e0]
    generalize hm : ns.length - 1 - 1 = m at k ⊢
    refine ⟨_, rfl, _, rfl, by omega, by omega, for_range (n := ((m : Nat) : Int).toNat) (fun i σ H2 => ∃ v3, σ = [some (.ref p), some (.int x), some (.int (m : Int)), v3] ∧ H2 = H ∧ ∀ j, j < i → bg D ns (j + 1) ≤ x)
      ⟨none, rfl, rfl, fun j hj => by omega⟩ ?_ ?_⟩
    · rintro i σ H2 hi ⟨v3, rfl, rfl, hj⟩
      have hi : i < m := by omega
      refine ⟨_, rfl, _, rfl, _, _, _, _, _, rfl, P.ob, Y.cl, Y.n5, pf5, _, rfl, _, _, rfl, rfl, _, _, _, .int (bg D ns (i + 1)), rfl, rfl, .inl (.inl P.bgn), ?_, _, _, rfl, rfl, _, rfl, ite2 (fun e => ?_) (fun e => ?_)⟩
      · have e1 : 0 + (i : Int) + 1 = ((i + 1 : Nat) : Int) := by omega
        rw [e1]
        refine atI_nat ?_
        rw [List.getElem?_map, List.getElem?_range (by omega)]
        rfl
      · have e := of_decide_eq_true e
        rw [lat_eq (Nat.le_of_lt hi) hj fun _ => e] at k
        refine ⟨_, rfl, ?_⟩
        show Q (.int (0 + (i : Int))) H2
        rw [Int.zero_add]
        exact k
      · have e : ¬ x < bg D ns (i + 1) := fun z => e (decide_eq_true z)
        refine ⟨_, rfl, rfl, fun j h => ?_⟩
        by_cases w : j = i
        · rw [w]; omega
        · exact hj j (by omega)
    · rintro σ H2 ⟨v3, rfl, rfl, hj⟩
      rw [lat_eq (Nat.le_refl m) (fun i hi => hj i (by omega)) fun z => absurd z (Nat.lt_irrefl _)] at k
      exact ⟨_, rfl, k⟩
theorem sc_Path_begin : FnScope ["self", "index"] ["self", "index"] (defScope s_Path_begin) := ⟨rfl, rfl, rfl, by decide +kernel, rfl, by decide +kernel, by decide +kernel⟩
theorem ok_Path_begin {f : Addr} {fd : FuncData} {C : Addr} (F : Fun K "begin" "Path.begin" s_Path_begin f fd) (T : TxtA mg) (Y : PathY K mg C) : FnOk P w K mg base CX0 1 f fd ["self", "index"] (spBegin C) := by
  refine F.ok sc_Path_begin (fun vs H Q E h => ?_) (fun cdv A outer s H vs Q E hr h => ?_)
  · obtain ⟨_, _, _, _, _, _, rfl, _⟩ := h
    rfl
  · obtain ⟨p, r, D, ns, j, z, rfl, rfl, PA, hj, k⟩ := h
    refine ⟨_, (pss_one (ps_ret (pe_ix (r := rIxL K) ix_list (pe_fld (pv 0) rfl) (pv 1) (fun _ _ => rfl)))), ?_⟩
    obtain ⟨dx, l1, l2, l3, l4, sa, va, P⟩ := id PA
    refine ⟨_, rfl, _, _, _, _, _, rfl, P.ob, Y.cl, Y.n5, pf5, _, rfl, _, _, _, .int (bg D ns j), rfl, rfl, .inl (.inl P.bgn), atI_nat (by rw [List.getElem?_map, List.getElem?_range (by omega)]; rfl), ?_⟩
    exact k
theorem sc_Path_leg : FnScope ["self", "index"] ["self", "index"] (defScope s_Path_leg) := ⟨rfl, rfl, rfl, by decide +kernel, rfl, by decide +kernel, by decide +kernel⟩
theorem ok_Path_leg {f : Addr} {fd : FuncData} {C : Addr} (F : Fun K "leg" "Path.leg" s_Path_leg f fd) (T : TxtA mg) (Y : PathY K mg C) : FnOk P w K mg base CX0 1 f fd ["self", "index"] (spLegI C) := by
  refine F.ok sc_Path_leg (fun vs H Q E h => ?_) (fun cdv A outer s H vs Q E hr h => ?_)
  · obtain ⟨_, _, _, _, _, _, rfl, _⟩ := h
    rfl
  · obtain ⟨p, r, D, ns, j, z, rfl, rfl, PA, hj, k⟩ := h
    refine ⟨_, (pss_one (ps_ret (pe_ix (r := rIxL K) ix_list (pe_fld (pv 0) rfl) (pv 1) (fun _ _ => rfl)))), ?_⟩
    obtain ⟨dx, l1, l2, l3, l4, sa, va, P⟩ := id PA
    refine ⟨_, rfl, _, _, _, _, _, rfl, P.ob, Y.cl, Y.n2, pf2, _, rfl, _, _, _, optL (D.leg (rn ns j) (rn ns (j + 1))), rfl, rfl, .inl (.inl P.lg), atI_nat (by rw [List.getElem?_map, List.getElem?_range hj]; rfl), ?_⟩
    exact k
theorem sc_Path_route : FnScope ["self"] ["self"] (defScope s_Path_route) := ⟨rfl, rfl, rfl, by decide +kernel, rfl, by decide +kernel, by decide +kernel⟩
theorem ok_Path_route {f : Addr} {fd : FuncData} {C : Addr} (F : Fun K "route" "Path.route" s_Path_route f fd) (T : TxtA mg) (Y : PathY K mg C) : FnOk P w K mg base CX0 1 f fd ["self"] (spRoute C) := by
  refine F.ok sc_Path_route (fun vs H Q E h => ?_) (fun cdv A outer s H vs Q E hr h => ?_)
  · obtain ⟨_, _, _, _, rfl, _⟩ := h
    rfl
  · obtain ⟨p, r, D, ns, rfl, PA, k⟩ := h
    refine ⟨_, (pss_one (ps_ret (pe_fld (pv 0) rfl))), ?_⟩
    obtain ⟨dx, l1, l2, l3, l4, sa, va, P⟩ := id PA
    refine ⟨_, rfl, _, _, _, _, _, rfl, P.ob, Y.cl, Y.n1, pf1, ?_⟩
    exact k
theorem sc_Path__point : FnScope ["self", "index", "progress", "x", "y", "dx", "dy", "length", "along"] ["self", "index", "progress"] (defScope s_Path__point) := ⟨rfl, rfl, rfl, by decide +kernel, rfl, by decide +kernel, by decide +kernel⟩
theorem ok_Path__point {f : Addr} {fd : FuncData} {C : Addr} (F : Fun K "_point" "Path._point" s_Path__point f fd) (T : TxtA mg) (Y : PathY K mg C) : FnOk P w K mg base CX0 1 f fd ["self", "index", "progress"] (spPoint C) := by
  refine F.ok sc_Path__point (fun vs H Q E h => ?_) (fun cdv A outer s H vs Q E hr h => ?_)
  · obtain ⟨_, _, _, _, _, _, _, rfl, _⟩ := h
    rfl
  · obtain ⟨p, r, D, ns, j, z, x, rfl, rfl, PA, hB, hj, k⟩ := h
    refine ⟨_, (pss_cons (ps_asg (pe_ix (r := rIxL K) ix_list (pe_fld (pv 0) rfl) (pv 1) (fun _ _ => rfl)) (pg_tup (by rfl) (pgs_cons (pg_name (i := 3) sc_Path__point.nd rfl (Or.inl rfl)) (pgs_cons (pg_name (i := 4) sc_Path__point.nd rfl (Or.inl rfl)) pgs_nil))))
    (pss_cons (ps_asg (pe_ix (r := rIxL K) ix_list (pe_fld (pv 0) rfl) (pv 1) (fun _ _ => rfl)) (pg_tup (by rfl) (pgs_cons (pg_name (i := 5) sc_Path__point.nd rfl (Or.inl rfl)) (pgs_cons (pg_name (i := 6) sc_Path__point.nd rfl (Or.inl rfl)) (pgs_cons (pg_name (i := 7) sc_Path__point.nd rfl (Or.inl rfl)) pgs_nil)))))
    (pss_cons (ps_set (i := 8) sc_Path__point.nd rfl (Or.inl rfl) (pe_op op_sub (pv 2) (pe_ix (r := rIxL K) ix_list (pe_fld (pv 0) rfl) (pv 1) (fun _ _ => rfl))))
    (pss_one (ps_ret (pe_tup (pa_cons (pe_op op_add (pe_op op_mul (pv 3) (pv 7)) (pe_op op_mul (pv 5) (pv 8))) (pa_cons (pe_op op_add (pe_op op_mul (pv 4) (pv 7)) (pe_op op_mul (pv 6) (pv 8))) pa_nil)))))))), ?_⟩
    obtain ⟨dx, l1, l2, l3, l4, sa, va, P⟩ := id PA
    have hs : j < sa.length := by rw [P.sl]; exact hj
    have hv : j < va.length := by rw [P.vl]; exact hj
    have b1 := hB (rn ns j)
    have b2 := hB (rn ns (j + 1))
    refine ⟨_, rfl, _, _, _, _, _, rfl, P.ob, Y.cl, Y.n3, pf3, _, rfl, _, _, _, _, rfl, rfl, .inl (.inl P.st), atI_nat (mapAt hs), _, _, rfl, .inl (.inl (P.sx j hs)), rfl, _, _, rfl, _, _, rfl, rfl, ?_⟩
    refine ⟨_, rfl, _, _, _, _, _, rfl, P.ob, Y.cl, Y.n4, pf4, _, rfl, _, _, _, _, rfl, rfl, .inl (.inl P.ve), atI_nat (mapAt hv), _, _, rfl, .inl (.inl (P.vx j hv)), rfl, _, _, rfl, _, _, rfl, _, _, rfl, rfl, ?_⟩
    refine ⟨_, rfl, _, rfl, _, _, _, _, _, rfl, P.ob, Y.cl, Y.n5, pf5, _, rfl, _, _, _, .int (bg D ns j), rfl, rfl, .inl (.inl P.bgn), atI_nat (by rw [List.getElem?_map, List.getElem?_range (by omega)]; rfl), _, _, rfl, rfl, ?_⟩
    refine ⟨_, rfl, _, rfl, _, _, rfl, rfl, .inl ⟨by omega, by omega⟩, _, rfl, _, rfl, _, _, rfl, rfl, .inl ⟨by omega, by omega⟩, _, _, rfl, rfl, _, rfl, _, rfl, _, _, rfl, rfl, .inl ⟨by omega, by omega⟩, _, rfl, _, rfl, _, _, rfl, rfl, .inl ⟨by omega, by omega⟩, _, _, rfl, rfl, szOk rfl, fun q hq => ?_⟩
    exact k q _ hq (same_new hq) upd_same
theorem sc_Path__segment : FnScope ["self", "index", "start", "end"] ["self", "index", "start", "end"] (defScope s_Path__segment) := ⟨rfl, rfl, rfl, by decide +kernel, rfl, by decide +kernel, by decide +kernel⟩
theorem ok_Path__segment {f : Addr} {fd : FuncData} {C : Addr} (F : Fun K "_segment" "Path._segment" s_Path__segment f fd) (T : TxtA mg) (Y : PathY K mg C)
    (M_point : MDef P w K mg base 1 C "_point" ["self", "index", "progress"] (spPoint C)) : FnOk P w K mg base CX0 2 f fd ["self", "index", "start", "end"] (spSeg C) := by
  refine F.ok sc_Path__segment (fun vs H Q E h => ?_) (fun cdv A outer s H vs Q E hr h => ?_)
  · obtain ⟨_, _, _, _, _, _, _, _, rfl, _⟩ := h
    rfl
  · obtain ⟨p, r, D, ns, j, z, s1, e1, rfl, rfl, PA, hB, hj, k⟩ := h
    refine ⟨_, (pss_one (ps_ret (pe_tup (StX.pa_star (pe_mdef M_point Y.cl (hr.mono (by decide)) (pv 0) (pa_cons (pv 1) (pa_cons (pv 2) pa_nil))) (StX.pa_star (pe_mdef M_point Y.cl (hr.mono (by decide)) (pv 0) (pa_cons (pv 1) (pa_cons (pv 3) pa_nil))) (pa_cons (pe_ix (r := rIxT K) ix_tup (pe_ix (r := rIxL K) ix_list (pe_fld (pv 0) rfl) (pv 1) (fun _ _ => rfl)) pe_int (fun _ _ => rfl)) pa_nil)))))), ?_⟩
    obtain ⟨dx, l1, l2, l3, l4, sa, va, P⟩ := id PA
    refine ⟨_, rfl, _, _, _, rfl, P.ob, rfl, _, rfl, _, rfl, p, r, D, ns, j, _, _, rfl, rfl, PA, hB, hj, fun q1 H1 hq1 sm1 ht1 => ?_⟩
    refine ⟨_, _, rfl, .inl (.inl (.inl ht1)), _, rfl, _, _, _, rfl, sm1 _ _ P.ob, rfl, _, rfl, _, rfl, p, r, D, ns, j, _, _, rfl, rfl, PA.same sm1, hB, hj, fun q2 H2 hq2 sm2 ht2 => ?_⟩
    have P2 := (P.same sm1).same sm2
    have hv : j < va.length := by rw [P.vl]; exact hj
    refine ⟨_, _, rfl, .inl (.inl (.inl ht2)), _, rfl, _, _, _, _, _, rfl, P2.ob, Y.cl, Y.n4, pf4, _, rfl, _, _, _, _, rfl, rfl, .inl (.inl P2.ve), atI_nat (mapAt hv), _, _, _, .int (D.len (rn ns j) (rn ns (j + 1))), rfl, rfl, .inl (.inl (P2.vx j hv)), rfl, szOk rfl, fun q hq => ?_⟩
    refine k q _ (sm1.free (sm2.free hq)) (fun b o e => same_new hq _ _ (sm2 _ _ (sm1 _ _ e))) ?_
    exact upd_same
theorem sc_Path__segments : FnScope ["self", "first", "last", "line", "index", "start", "end"] ["self", "first", "last"] (defScope s_Path__segments) := ⟨rfl, rfl, rfl, by decide +kernel, rfl, by decide +kernel, by decide +kernel⟩
theorem ok_Path__segments {f : Addr} {fd : FuncData} {C : Addr} (F : Fun K "_segments" "Path._segments" s_Path__segments f fd) (T : TxtA mg) (Y : PathY K mg C)
    (M_leg_at : MDef P w K mg base 1 C "leg_at" ["self", "progress"] (spLegAt C))
    (M_segment : MDef P w K mg base 2 C "_segment" ["self", "index", "start", "end"] (spSeg C)) : FnOk P w K mg base CX0 3 f fd ["self", "first", "last"] (spSegs C) := by
  refine F.ok sc_Path__segments (fun vs H Q E h => ?_) (fun cdv A outer s H vs Q E hr h => ?_)
  · obtain ⟨_, _, _, _, _, _, rfl, _⟩ := h
    rfl
  · obtain ⟨p, r, D, ns, f1, l, rfl, PA, hB, n2, n20, hfl, k⟩ := h
    refine ⟨_, (pss_cons (ps_set (i := 3) sc_Path__segments.nd rfl (Or.inl rfl) (pe_lst pa_nil))
    (pss_cons (ps_for PassesOwn.never rfl (pi_range2 (by rfl) T.range (pa_cons (pe_mdef M_leg_at Y.cl (hr.mono (by decide)) (pv 0) (pa_cons (pv 1) pa_nil)) (pa_cons (pe_op op_add (pe_mdef M_leg_at Y.cl (hr.mono (by decide)) (pv 0) (pa_cons (pv 2) pa_nil)) pe_int) pa_nil))) (pg_name (i := 4) sc_Path__segments.nd rfl (Or.inl rfl))
      (pss_cons (ps_set (i := 5) sc_Path__segments.nd rfl (Or.inl rfl) (pe_callB (call_max2 rfl) (by rfl) T.max boot_max (pa_cons (pv 1) (pa_cons (pe_ix (r := rIxL K) ix_list (pe_fld (pv 0) rfl) (pv 4) (fun _ _ => rfl)) pa_nil))))
    (pss_cons (ps_set (i := 6) sc_Path__segments.nd rfl (Or.inl rfl) (pe_callB (call_min2 rfl) (by rfl) T.min boot_min (pa_cons (pv 2) (pa_cons (pe_ix (r := rIxL K) ix_list (pe_fld (pv 0) rfl) (pe_op op_add (pv 4) pe_int) (fun _ _ => rfl)) pa_nil))))
    (pss_one (ps_if (pt_cmpR op_lt (pv 5) (pv 6) (nomark _)) (pss_one (ps_expr (pe_bm PySem.F.plainAttrs_list PySem.F.slot_list_append PySem.F.type_list_append mt_append (pv 3) (pa_cons (pe_mdef M_segment Y.cl (hr.mono (by decide)) (pv 0) (pa_cons (pv 4) (pa_cons (pv 5) (pa_cons (pv 6) pa_nil)))) pa_nil))))
      pss_nil)))))
    (pss_one (ps_ret (pv 3))))), ?_⟩
    obtain ⟨dx, l1, l2, l3, l4, sa, va, P⟩ := id PA
    refine ⟨szOk rfl, fun ln hln => ?_⟩
    have sm0 : Same H (upd H ln (.lst [])) := same_new hln
    have P0 := P.same sm0
    refine ⟨_, rfl, _, _, _, rfl, P0.ob, rfl, _, rfl, p, r, D, ns, f1, rfl, PA.same sm0, n2, n20, ?_⟩
    refine ⟨_, rfl, _, _, _, rfl, P0.ob, rfl, _, rfl, p, r, D, ns, l, rfl, PA.same sm0, n2, n20, ?_⟩
    obtain ⟨a1, b1, c1⟩ := lat_cases D ns (ns.length - 1 - 1) f1
    obtain ⟨a2, b2, c2⟩ := lat_cases D ns (ns.length - 1 - 1) l
    have hm := lat_mono D ns (ns.length - 1 - 1) hfl
    have hse := segs_eq (D := D) (ns := ns) (m := ns.length - 1 - 1) hfl hm
    rw [show ns.length - 1 - 1 + 1 = ns.length - 1 by omega] at hse
    rw [hse] at k
    generalize hu : lat D ns (ns.length - 1 - 1) f1 = u at *
    generalize hv : lat D ns (ns.length - 1 - 1) l = v at *
    refine ⟨_, _, rfl, rfl, _, _, rfl, ⟨by omega, by omega, by omega, by omega⟩, for_range (lo := (u : Int)) (n := ((v : Int) + 1 - (u : Int)).toNat) (fun i σ H2 => ∃ v4 v5 v6, σ = [some (.ref p), some (.int f1), some (.int l), some (.ref ln), v4, v5, v6] ∧ Same H H2 ∧ LoT H2 ln (segsOf D ns f1 l ((List.range i).map (u + ·))))
      ⟨none, none, none, rfl, sm0, LoT.nil upd_same⟩ ?_ ?_⟩
    · rintro i σ H2 hi ⟨v4, v5, v6, rfl, sm, hL⟩
      have hi : u + i ≤ v := by omega
      have P2 := P.same sm
      have hsn : segsOf D ns f1 l ((List.range (i + 1)).map (u + ·)) = segsOf D ns f1 l ((List.range i).map (u + ·)) ++ (match segOf D ns f1 l (u + i) with | some x => [x] | none => []) := by
        unfold segsOf
        rw [List.range_succ, List.map_append, List.filterMap_append]
        congr 1
        show List.filterMap (segOf D ns f1 l) [u + i] = _
        cases e : segOf D ns f1 l (u + i) <;> simp [e]
      have eu : (u : Int) + (i : Int) = ((u + i : Nat) : Int) := by omega
      refine ⟨_, rfl, _, rfl, _, _, _, _, _, rfl, P2.ob, Y.cl, Y.n5, pf5, _, rfl, _, _, _, .int (bg D ns (u + i)), rfl, rfl, .inl (.inl P2.bgn), by rw [eu]; exact atI_nat (by rw [List.getElem?_map, List.getElem?_range (by omega)]; rfl), _, _, rfl, ?_⟩
      refine ⟨_, rfl, _, rfl, _, _, _, _, _, rfl, P2.ob, Y.cl, Y.n5, pf5, _, rfl, _, _, rfl, rfl, _, _, _, .int (bg D ns (u + i + 1)), rfl, rfl, .inl (.inl P2.bgn), by rw [eu, show ((u + i : Nat) : Int) + 1 = ((u + i + 1 : Nat) : Int) by omega]; exact atI_nat (by rw [List.getElem?_map, List.getElem?_range (by omega)]; rfl), _, _, rfl, ?_⟩
      refine ⟨_, rfl, _, rfl, _, _, rfl, rfl, _, rfl, ite2 (fun e => ?_) (fun e => ?_)⟩
      · have e := of_decide_eq_true e
        have es : segOf D ns f1 l (u + i) = some (seg D ns (u + i) (if bg D ns (u + i) > f1 then bg D ns (u + i) else f1) (if bg D ns (u + i + 1) < l then bg D ns (u + i + 1) else l)) := by
          unfold segOf
          dsimp only
          rw [if_pos e]
        obtain ⟨ys, hy, hyl⟩ := hL.li
        have hys : ys.length ≤ 100 := by
          rw [hyl]
          have := List.length_filterMap_le (segOf D ns f1 l) ((List.range i).map (u + ·))
          rw [List.length_map, List.length_range] at this
          unfold segsOf
          omega
        refine ⟨_, rfl, .inl ⟨rfl, _, .inl (.inl hy)⟩, _, rfl, _, _, _, rfl, P2.ob, rfl, _, rfl, _, rfl, _, rfl, p, r, D, ns, u + i, _, _, _, rfl, eu, PA.same sm, hB, by omega, fun q H3 hq sm3 ht => ?_⟩
        refine ⟨_, _, _, rfl, rfl, sm3 _ _ hy, small1000 (by omega), ?_⟩
        refine ⟨_, _, _, rfl, fun b o e => ?_, ?_⟩
        · rw [upd_ne (ne_of_none e hln)]
          exact sm3 _ _ (sm _ _ e)
        · rw [hsn, es]
          exact LoT.snoc (hL.same sm3) (sm3 _ _ hy) ht
      · have e : ¬ _ := fun z => e (decide_eq_true z)
        have es : segOf D ns f1 l (u + i) = none := by
          unfold segOf
          dsimp only
          rw [if_neg e]
        refine ⟨_, _, _, rfl, sm, ?_⟩
        rw [hsn, es, List.append_nil]
        exact hL
    · rintro σ H2 ⟨v4, v5, v6, rfl, sm, hL⟩
      refine ⟨_, rfl, k ln H2 hln sm ?_⟩
      rw [show ((v : Int) + 1 - (u : Int)).toNat = v + 1 - u by omega] at hL
      exact hL
theorem sc_Path_place : FnScope ["self", "progress", "index", "x", "y"] ["self", "progress"] (defScope s_Path_place) := ⟨rfl, rfl, rfl, by decide +kernel, rfl, by decide +kernel, by decide +kernel⟩
theorem ok_Path_place {f : Addr} {fd : FuncData} {C : Addr} (F : Fun K "place" "Path.place" s_Path_place f fd) (T : TxtA mg) (Y : PathY K mg C)
    (M_leg_at : MDef P w K mg base 1 C "leg_at" ["self", "progress"] (spLegAt C))
    (M_point : MDef P w K mg base 1 C "_point" ["self", "index", "progress"] (spPoint C)) : FnOk P w K mg base CX0 2 f fd ["self", "progress"] (spPlace C) := by
  refine F.ok sc_Path_place (fun vs H Q E h => ?_) (fun cdv A outer s H vs Q E hr h => ?_)
  · obtain ⟨_, _, _, _, _, rfl, _⟩ := h
    rfl
  · obtain ⟨p, r, D, ns, x, rfl, PA, hB, n2, n20, k⟩ := h
    refine ⟨_, (pss_cons (ps_set (i := 2) sc_Path_place.nd rfl (Or.inl rfl) (pe_mdef M_leg_at Y.cl (hr.mono (by decide)) (pv 0) (pa_cons (pv 1) pa_nil)))
    (pss_cons (ps_asg (pe_mdef M_point Y.cl (hr.mono (by decide)) (pv 0) (pa_cons (pv 2) (pa_cons (pv 1) pa_nil))) (pg_tup (by rfl) (pgs_cons (pg_name (i := 3) sc_Path_place.nd rfl (Or.inl rfl)) (pgs_cons (pg_name (i := 4) sc_Path_place.nd rfl (Or.inl rfl)) pgs_nil))))
    (pss_one (ps_ret (pe_tup (pa_cons (pv 3) (pa_cons (pv 4) (pa_cons (pe_ix (r := rIxT K) ix_tup (pe_ix (r := rIxL K) ix_list (pe_fld (pv 0) rfl) (pv 2) (fun _ _ => rfl)) pe_int (fun _ _ => rfl)) pa_nil)))))))), ?_⟩
    obtain ⟨dx, l1, l2, l3, l4, sa, va, P⟩ := id PA
    obtain ⟨a1, b1, c1⟩ := lat_cases D ns (ns.length - 1 - 1) x
    refine ⟨_, rfl, _, _, _, rfl, P.ob, rfl, _, rfl, p, r, D, ns, x, rfl, PA, n2, n20, ?_⟩
    generalize hu : lat D ns (ns.length - 1 - 1) x = u at *
    refine ⟨_, rfl, _, _, _, rfl, P.ob, rfl, _, rfl, _, rfl, p, r, D, ns, u, _, _, rfl, rfl, PA, hB, by omega, fun q1 H1 hq1 sm1 ht1 => ?_⟩
    have P1 := P.same sm1
    have hv : u < va.length := by rw [P.vl]; omega
    refine ⟨_, _, rfl, .inl (.inl ht1), rfl, _, _, rfl, _, _, rfl, rfl, ?_⟩
    refine ⟨_, rfl, _, rfl, _, rfl, _, _, _, _, _, rfl, P1.ob, Y.cl, Y.n4, pf4, _, rfl, _, _, _, _, rfl, rfl, .inl (.inl P1.ve), atI_nat (mapAt hv), _, _, _, .int (D.len (rn ns u) (rn ns (u + 1))), rfl, rfl, .inl (.inl (P1.vx u hv)), rfl, szOk rfl, fun q hq => ?_⟩
    exact k q _ (sm1.free hq) (fun b o e => same_new hq _ _ (sm1 _ _ e)) upd_same
theorem sc_Path_piece : FnScope ["self", "low", "high", "first", "last", "index"] ["self", "low", "high"] (defScope s_Path_piece) := ⟨rfl, rfl, rfl, by decide +kernel, rfl, by decide +kernel, by decide +kernel⟩
theorem ok_Path_piece {f : Addr} {fd : FuncData} {C : Addr} (F : Fun K "piece" "Path.piece" s_Path_piece f fd) (T : TxtA mg) (Y : PathY K mg C)
    (M_total : MDef P w K mg base 1 C "total" ["self"] (spTotal C))
    (M_leg_at : MDef P w K mg base 1 C "leg_at" ["self", "progress"] (spLegAt C))
    (M_segments : MDef P w K mg base 3 C "_segments" ["self", "first", "last"] (spSegs C))
    (M_segment : MDef P w K mg base 2 C "_segment" ["self", "index", "start", "end"] (spSeg C)) : FnOk P w K mg base CX0 4 f fd ["self", "low", "high"] (spPiece C) := by
  refine F.ok sc_Path_piece (fun vs H Q E h => ?_) (fun cdv A outer s H vs Q E hr h => ?_)
  · obtain ⟨_, _, _, _, _, _, rfl, _⟩ := h
    rfl
  · obtain ⟨p, r, D, ns, lo0, hi0, rfl, PA, hB, n2, n20, hlh, k⟩ := h
    refine ⟨_, (pss_cons (ps_if (PW.pt (pw_or (pt_cmpR op_lt (pv 2) pe_int (nomark _)) (pw_or1 (pt_cmpR op_ge (pv 1) (pe_mdef0 M_total Y.cl (hr.mono (by decide)) (pv 0)) (nomark _))))) (pss_one (ps_ret (pe_lst pa_nil)))
      pss_nil)
    (pss_cons (ps_set (i := 3) sc_Path_piece.nd rfl (Or.inl rfl) (pe_callB (call_max2 rfl) (by rfl) T.max boot_max (pa_cons (pv 1) (pa_cons pe_int pa_nil))))
    (pss_cons (ps_set (i := 4) sc_Path_piece.nd rfl (Or.inl rfl) (pe_callB (call_min2 rfl) (by rfl) T.min boot_min (pa_cons (pv 2) (pa_cons (pe_mdef0 M_total Y.cl (hr.mono (by decide)) (pv 0)) pa_nil))))
    (pss_cons (ps_if (pt_cmpR op_eq (pv 3) (pv 4) (nomark _)) (pss_cons (ps_set (i := 5) sc_Path_piece.nd rfl (Or.inl rfl) (pe_mdef M_leg_at Y.cl (hr.mono (by decide)) (pv 0) (pa_cons (pv 3) pa_nil)))
    (pss_one (ps_ret (pe_lst (pa_cons (pe_mdef M_segment Y.cl (hr.mono (by decide)) (pv 0) (pa_cons (pv 5) (pa_cons (pv 3) (pa_cons (pv 3) pa_nil)))) pa_nil)))))
      pss_nil)
    (pss_one (ps_ret (pe_mdef M_segments Y.cl (hr.mono (by decide)) (pv 0) (pa_cons (pv 3) (pa_cons (pv 4) pa_nil))))))))), ?_⟩
    obtain ⟨dx, l1, l2, l3, l4, sa, va, P⟩ := id PA
    have nl0 : ∀ H' : Hp, ∀ q, H q = none → H' = upd H q (.lst []) → (hi0 < 0 ∨ bg D ns (ns.length - 1) ≤ lo0) → Q (.ref q) H' := fun H' q hq e h => by
      subst e
      refine k q _ hq (same_new hq) ?_
      unfold pcs
      dsimp only
      rw [if_pos h]
      exact LoT.nil upd_same
    refine ⟨_, rfl, _, _, rfl, rfl, _, rfl, ite2 (fun e => ?_) (fun e => ?_)⟩
    · have e := of_decide_eq_true e
      exact ⟨szOk rfl, fun q hq => nl0 _ q hq rfl (.inl e)⟩
    · have e : ¬ hi0 < 0 := fun z => e (decide_eq_true z)
      refine ⟨_, rfl, _, rfl, _, _, _, rfl, P.ob, rfl, p, r, dx, l1, l2, l3, l4, D, ns, _, rfl, P.ob, P.bgn, _, _, rfl, rfl, _, rfl, ite2 (fun e2 => ?_) (fun e2 => ?_)⟩
      · have e2 := of_decide_eq_true e2
        exact ⟨szOk rfl, fun q hq => nl0 _ q hq rfl (.inr e2)⟩
      · have e2 : ¬ bg D ns (ns.length - 1) ≤ lo0 := fun z => e2 (decide_eq_true z)
        have hpc : pcs D ns lo0 hi0 = if (if 0 > lo0 then 0 else lo0) = (if bg D ns (ns.length - 1) < hi0 then bg D ns (ns.length - 1) else hi0) then [seg D ns (lat D ns (ns.length - 1 - 1) (if 0 > lo0 then 0 else lo0)) (if 0 > lo0 then 0 else lo0) (if 0 > lo0 then 0 else lo0)] else segsOf D ns (if 0 > lo0 then 0 else lo0) (if bg D ns (ns.length - 1) < hi0 then bg D ns (ns.length - 1) else hi0) (List.range (ns.length - 1)) := by
          unfold pcs
          dsimp only
          rw [if_neg (by omega)]
        rw [hpc] at k
        refine ⟨_, rfl, _, _, rfl, ?_⟩
        refine ⟨_, rfl, _, rfl, _, _, _, rfl, P.ob, rfl, p, r, dx, l1, l2, l3, l4, D, ns, _, rfl, P.ob, P.bgn, _, _, rfl, ?_⟩
        have hfl : (if 0 > lo0 then 0 else lo0) ≤ (if bg D ns (ns.length - 1) < hi0 then bg D ns (ns.length - 1) else hi0) := by
          have := bg_nn D ns (ns.length - 1)
          split <;> split <;> omega
        refine nm ?_
        dsimp only
        generalize (if 0 > lo0 then 0 else lo0) = f1 at *
        generalize (if bg D ns (ns.length - 1) < hi0 then bg D ns (ns.length - 1) else hi0) = l at *
        obtain ⟨a1, b1, c1⟩ := lat_cases D ns (ns.length - 1 - 1) f1
        refine ⟨_, rfl, _, rfl, rfl, _, rfl, ite2 (fun e3 => ?_) (fun e3 => ?_)⟩
        · have e3 := V.int.inj (of_decide_eq_true e3)
          rw [if_pos e3] at k
          refine ⟨_, rfl, _, _, _, rfl, P.ob, rfl, _, rfl, p, r, D, ns, f1, rfl, PA, n2, n20, ?_⟩
          generalize hu : lat D ns (ns.length - 1 - 1) f1 = u at *
          refine ⟨_, rfl, _, _, _, rfl, P.ob, rfl, _, rfl, _, rfl, _, rfl, p, r, D, ns, u, _, _, _, rfl, rfl, PA, hB, by omega, fun q1 H1 hq1 sm1 ht1 => ?_⟩
          refine ⟨szOk rfl, fun q hq => ?_⟩
          refine k q _ (sm1.free hq) (fun b o e => same_new hq _ _ (sm1 _ _ e)) ?_
          exact ⟨[(q1, _)], upd_same, fun z hz => by rw [List.mem_singleton.mp hz]; exact same_new hq _ _ ht1, rfl⟩
        · have e3 : ¬ f1 = l := fun z => e3 (decide_eq_true (congrArg V.int z))
          rw [if_neg e3] at k
          exact ⟨_, rfl, _, _, _, rfl, P.ob, rfl, _, rfl, _, rfl, p, r, D, ns, f1, l, rfl, PA, hB, n2, n20, hfl, k⟩
theorem sc_Path__join : FnScope ["self", "chart", "start", "end", "ax", "ay", "bx", "by", "length"] ["self", "chart", "start", "end"] (defScope s_Path__join) := ⟨rfl, rfl, rfl, by decide +kernel, rfl, by decide +kernel, by decide +kernel⟩
theorem ok_Path__join {f : Addr} {fd : FuncData} {C : Addr} (F : Fun K "_join" "Path._join" s_Path__join f fd) (T : TxtA mg) (Y : PathY K mg C)
    (D_leg_length : Def P w K mg base 3 "leg_length" ["chart", "start", "end"] (spLegLen))
    (D_leg_between : Def P w K mg base 1 "leg_between" ["chart", "start", "end"] (spLegBt))
    (M_total : MDef P w K mg base 1 C "total" ["self"] (spTotal C)) : FnOk P w K mg base CX0 4 f fd ["self", "chart", "start", "end"] (spJoin C) := by
  refine F.ok sc_Path__join (fun vs H Q E h => ?_) (fun cdv A outer s H vs Q E hr h => ?_)
  · obtain ⟨_, _, _, _, _, _, _, _, _, _, _, _, _, rfl, _⟩ := h
    rfl
  · obtain ⟨p, ch, r, dx, l1, l2, l3, l4, D, ns, i, sa, va, rfl, C0, P, hlg, hi, k⟩ := h
    have hu := hu_of hr
    refine ⟨_, (pss_cons (ps_asg (pe_dget hu (pe_dget hu (pv 1) pe_str (fun _ _ => rfl)) (pv 2) (fun _ _ => rfl)) (pg_tup (by rfl) (pgs_cons (pg_name (i := 4) sc_Path__join.nd rfl (Or.inl rfl)) (pgs_cons (pg_name (i := 5) sc_Path__join.nd rfl (Or.inl rfl)) pgs_nil))))
    (pss_cons (ps_asg (pe_dget hu (pe_dget hu (pv 1) pe_str (fun _ _ => rfl)) (pv 3) (fun _ _ => rfl)) (pg_tup (by rfl) (pgs_cons (pg_name (i := 6) sc_Path__join.nd rfl (Or.inl rfl)) (pgs_cons (pg_name (i := 7) sc_Path__join.nd rfl (Or.inl rfl)) pgs_nil))))
    (pss_cons (ps_set (i := 8) sc_Path__join.nd rfl (Or.inl rfl) (pe_def D_leg_length (hr.mono (by decide)) (by rfl) (pa_cons (pv 1) (pa_cons (pv 2) (pa_cons (pv 3) pa_nil)))))
    (pss_cons (ps_expr (pe_bm PySem.F.plainAttrs_list PySem.F.slot_list_append PySem.F.type_list_append mt_append (pe_fld (pv 0) rfl) (pa_cons (pe_def D_leg_between (hr.mono (by decide)) (by rfl) (pa_cons (pv 1) (pa_cons (pv 2) (pa_cons (pv 3) pa_nil)))) pa_nil)))
    (pss_cons (ps_expr (pe_bm PySem.F.plainAttrs_list PySem.F.slot_list_append PySem.F.type_list_append mt_append (pe_fld (pv 0) rfl) (pa_cons (pe_tup (pa_cons (pv 4) (pa_cons (pv 5) pa_nil))) pa_nil)))
    (pss_cons (ps_expr (pe_bm PySem.F.plainAttrs_list PySem.F.slot_list_append PySem.F.type_list_append mt_append (pe_fld (pv 0) rfl) (pa_cons (pe_tup (pa_cons (pe_op op_sub (pv 6) (pv 4)) (pa_cons (pe_op op_sub (pv 7) (pv 5)) (pa_cons (pv 8) pa_nil)))) pa_nil)))
    (pss_one (ps_expr (pe_bm PySem.F.plainAttrs_list PySem.F.slot_list_append PySem.F.type_list_append mt_append (pe_fld (pv 0) rfl) (pa_cons (pe_op op_add (pe_mdef0 M_total Y.cl (hr.mono (by decide)) (pv 0)) (pv 8)) pa_nil)))))))))), ?_⟩
    obtain ⟨lg, hlg'⟩ := hlg
    obtain ⟨hm, hs, he⟩ := CD.leg_mem hlg'
    obtain ⟨⟨a1, x1, y1, h1⟩, a2, x2, y2, h2⟩ := C0.wf lg hm
    rw [hs] at h1
    rw [he] at h2
    obtain ⟨p1, p2, _⟩ := C0.pf _ _ _ _ h1
    obtain ⟨q1, q2, _⟩ := C0.pf _ _ _ _ h2
    refine ⟨_, rfl, _, _, rfl, C0.gf, _, rfl, _, _, rfl, C0.gp h1, _, _, rfl, .inl (.inl p2), rfl, _, _, rfl, _, _, rfl, rfl, ?_⟩
    refine ⟨_, rfl, _, _, rfl, C0.gf, _, rfl, _, _, rfl, C0.gp h2, _, _, rfl, .inl (.inl q2), rfl, _, _, rfl, _, _, rfl, rfl, ?_⟩
    refine ⟨_, rfl, _, rfl, _, rfl, ch, D, rn ns i, rn ns (i + 1), _, _, _, _, _, _, rfl, C0, h1, h2, ?_⟩
    have npl : ∀ l xs, H l = some (.lst xs) → p ≠ l := fun l xs e => ne_of P.ob e (by intro z; cases z)
    refine ⟨_, rfl, _, _, _, _, _, rfl, P.ob, Y.cl, Y.n2, pf2, .inl ⟨rfl, _, .inl (.inl P.lg)⟩, _, rfl, _, rfl, _, rfl, ch, D, rn ns i, rn ns (i + 1), rfl, C0, ?_⟩
    refine ⟨_, _, _, rfl, rfl, P.lg, small1000 (by rw [List.length_map, List.length_range]; omega), ?_⟩
    -- starts
    have ob1 : ∀ o, (upd H l1 o) p = some (.ins C dx (pfl r l1 l2 l3 l4)) := fun o => by rw [upd_ne (npl _ _ P.lg)]; exact P.ob
    have st1 : ∀ o, (upd H l1 o) l2 = some (.lst (sa.map V.ref)) := fun o => by rw [upd_ne P.d12.symm]; exact P.st
    refine ⟨_, rfl, _, _, _, _, _, rfl, ob1 _, Y.cl, Y.n3, pf3, .inl ⟨rfl, _, .inl (.inl (st1 _))⟩, _, rfl, _, rfl, szOk rfl, fun t1 ht1 => ?_⟩
    have hH1 : ∀ b, (upd H l1 (.lst ((List.range i).map (fun j => optL (D.leg (rn ns j) (rn ns (j + 1)))) ++ [optL (D.leg (rn ns i) (rn ns (i + 1)))]))) b = none → H b = none := fun b e => by
      by_cases w : b = l1
      · rw [w, upd_same] at e; cases e
      · rw [upd_ne w] at e; exact e
    have n1H : H t1 = none := hH1 _ ht1
    refine ⟨_, _, _, rfl, rfl, same_new ht1 _ _ (st1 _), small1000 (by rw [List.length_map, P.sl]; omega), ?_⟩
    generalize hA : upd H l1 (.lst ((List.range i).map (fun j => optL (D.leg (rn ns j) (rn ns (j + 1)))) ++ [optL (D.leg (rn ns i) (rn ns (i + 1)))])) = HA at ht1 ⊢
    generalize hB : upd (upd HA t1 (.tup [.int x1, .int y1])) l2 (.lst (sa.map V.ref ++ [.ref t1])) = HB
    have fB : ∀ b o, H b = some o → b ≠ l1 → b ≠ l2 → HB b = some o := fun b o e m1 m2 => by
      rw [← hB, upd_ne m2]
      refine same_new ht1 _ _ ?_
      rw [← hA, upd_ne m1]
      exact e
    have B1 : HB l1 = some (.lst ((List.range (i + 1)).map fun j => optL (D.leg (rn ns j) (rn ns (j + 1))))) := by
      rw [← hB, upd_ne P.d12]
      refine same_new ht1 _ _ ?_
      rw [← hA, upd_same, List.range_succ, List.map_append]
      rfl
    have B2 : HB l2 = some (.lst ((sa ++ [t1]).map V.ref)) := by rw [← hB, upd_same, List.map_append]; rfl
    have Bt : HB t1 = some (.tup [.int x1, .int y1]) := by
      rw [← hB, upd_ne (fun w => by rw [w, P.st] at n1H; cases n1H), upd_same]
    -- vectors
    have obB := fB _ _ P.ob (npl _ _ P.lg) (npl _ _ P.st)
    have veB := fB _ _ P.ve P.d13.symm P.d23.symm
    have bgB := fB _ _ P.bgn P.d14.symm P.d24.symm
    refine ⟨_, rfl, _, _, _, _, _, rfl, obB, Y.cl, Y.n4, pf4, .inl ⟨rfl, _, .inl (.inl veB)⟩, _, rfl, _, rfl, _, _, rfl, rfl, _, rfl, _, rfl, _, _, rfl, rfl, _, rfl, szOk rfl, fun t2 ht2 => ?_⟩
    refine ⟨_, _, _, rfl, rfl, same_new ht2 _ _ veB, small1000 (by rw [List.length_map, P.vl]; omega), ?_⟩
    generalize hE : upd (upd HB t2 (.tup [.int (x2 - x1), .int (y2 - y1), .int (D.len (rn ns i) (rn ns (i + 1)))])) l3 (.lst (va.map V.ref ++ [.ref t2])) = HE
    have fE : ∀ b o, HB b = some o → b ≠ l3 → HE b = some o := fun b o e m => by
      rw [← hE, upd_ne m]
      exact same_new ht2 _ _ e
    have E3 : HE l3 = some (.lst ((va ++ [t2]).map V.ref)) := by rw [← hE, upd_same, List.map_append]; rfl
    have Et : HE t2 = some (.tup [.int (x2 - x1), .int (y2 - y1), .int (D.len (rn ns i) (rn ns (i + 1)))]) := by
      rw [← hE, upd_ne (fun w => by rw [w, veB] at ht2; cases ht2), upd_same]
    have obE := fE _ _ obB (npl _ _ P.ve)
    have bgE := fE _ _ bgB P.d34.symm
    -- begins
    refine ⟨_, rfl, _, _, _, _, _, rfl, obE, Y.cl, Y.n5, pf5, .inl ⟨rfl, _, .inl (.inl bgE)⟩, _, rfl, _, _, _, rfl, obE, rfl, p, r, dx, l1, l2, l3, l4, D, ns, i, rfl, obE, bgE, _, rfl, _, _, rfl, rfl, ?_⟩
    refine ⟨_, _, _, rfl, rfl, bgE, small1000 (by rw [List.length_map, List.length_range]; omega), ?_⟩
    generalize hG : upd HE l4 (.lst ((List.range (i + 1)).map (fun j => V.int (bg D ns j)) ++ [.int (bg D ns i + D.len (rn ns i) (rn ns (i + 1)))])) = HG
    have fG : ∀ b o, HE b = some o → b ≠ l4 → HG b = some o := fun b o e m => by
      rw [← hG, upd_ne m]
      exact e
    have G4 : HG l4 = some (.lst ((List.range (i + 1 + 1)).map fun j => V.int (bg D ns j))) := by
      rw [← hG, upd_same, List.range_succ (n := i + 1), List.map_append]
      rfl
    have tup3 : ∀ b xs, HB b = some (.tup xs) → HG b = some (.tup xs) := fun b xs e => fG _ _ (fE _ _ e (ne_of e veB (by intro z; cases z))) (ne_of e bgB (by intro z; cases z))
    have tup0 : ∀ b xs, H b = some (.tup xs) → HG b = some (.tup xs) := fun b xs e => tup3 _ _ (fB _ _ e (ne_of e P.lg (by intro z; cases z)) (ne_of e P.st (by intro z; cases z)))
    refine k t1 t2 HG ⟨fG _ _ obE (npl _ _ P.bgn), tup0 _ _ P.rt, fG _ _ (fE _ _ B1 P.d13) P.d14, fG _ _ (fE _ _ B2 P.d23) P.d24, fG _ _ E3 P.d34, G4, by rw [List.length_append, P.sl]; rfl, by rw [List.length_append, P.vl]; rfl, fun j hj => ?_, fun j hj => ?_, P.d12, P.d13, P.d14, P.d23, P.d24, P.d34⟩ fun b o e m1 m2 m3 m4 => fG _ _ (fE _ _ (fB _ _ e m1 m2) m3) m4
    · by_cases w : j < sa.length
      · rw [List.getElem_append_left w]
        exact tup0 _ _ (P.sx j w)
      · rw [List.length_append, List.length_singleton] at hj
        have ej : j = sa.length := by omega
        subst ej
        have e : (sa ++ [t1])[sa.length] = t1 := by simp
        rw [e, P.sl, CD.xy_eq h1]
        exact tup3 _ _ Bt
    · by_cases w : j < va.length
      · rw [List.getElem_append_left w]
        exact tup0 _ _ (P.vx j w)
      · rw [List.length_append, List.length_singleton] at hj
        have ej : j = va.length := by omega
        subst ej
        have e : (va ++ [t2])[va.length] = t2 := by simp
        rw [e, P.vl, CD.xy_eq h1, CD.xy_eq h2]
        exact fG _ _ Et (ne_of Et bgE (by intro z; cases z))
theorem sc_Path___init__ : FnScope ["self", "chart", "route", "index"] ["self", "chart", "route"] (defScope s_Path___init__) := ⟨rfl, rfl, rfl, by decide +kernel, rfl, by decide +kernel, by decide +kernel⟩
theorem ok_Path___init__ {f : Addr} {fd : FuncData} {C : Addr} (F : Fun K "__init__" "Path.__init__" s_Path___init__ f fd) (T : TxtA mg) (Y : PathY K mg C)
    (M_join : MDef P w K mg base 4 C "_join" ["self", "chart", "start", "end"] (spJoin C)) : FnOk P w K mg base CX0 5 f fd ["self", "chart", "route"] (spPInit C) := by
  refine F.ok sc_Path___init__ (fun vs H Q E h => ?_) (fun cdv A outer s H vs Q E hr h => ?_)
  · obtain ⟨_, _, _, _, _, _, rfl, _⟩ := h
    rfl
  · obtain ⟨p, ch, r, dx, D, ns, rfl, hp, C0, hr0, R, k⟩ := h
    refine ⟨_, (pss_cons (ps_fld (pv 0) (pv 2) rfl)
    (pss_cons (ps_fld (pv 0) (pe_lst pa_nil) rfl)
    (pss_cons (ps_fld (pv 0) (pe_lst pa_nil) rfl)
    (pss_cons (ps_fld (pv 0) (pe_lst pa_nil) rfl)
    (pss_cons (ps_fld (pv 0) (pe_lst (pa_cons pe_int pa_nil)) rfl)
    (pss_one (ps_for PassesOwn.never rfl (pi_range1 (by rfl) T.range (pa_cons (pe_op op_sub (pe_callB (r := rLenK K) call_len_seq (by rfl) T.len boot_len (pa_cons (pv 2) pa_nil)) pe_int) pa_nil)) (pg_name (i := 3) sc_Path___init__.nd rfl (Or.inl rfl))
      (pss_one (ps_expr (pe_mdef M_join Y.cl (hr.mono (by decide)) (pv 0) (pa_cons (pv 1) (pa_cons (pe_ix (r := rIxT K) ix_tup (pv 2) (pv 3) (fun _ _ => rfl)) (pa_cons (pe_ix (r := rIxT K) ix_tup (pv 2) (pe_op op_add (pv 3) pe_int) (fun _ _ => rfl)) pa_nil))))))))))))), ?_⟩
    have pr : p ≠ r := ne_of hp hr0 (by intro z; cases z)
    refine ⟨_, rfl, _, rfl, p, C, dx, [], rfl, hp, Y.cl, Y.n1, (by show 0 < 1000; decide), ?_⟩
    refine ⟨szOk rfl, fun l1 hl1 => ⟨_, rfl, p, C, dx, _, rfl, same_new hl1 _ _ upd_same, Y.cl, Y.n2, (by show 1 < 1000; decide), ?_⟩⟩
    refine ⟨szOk rfl, fun l2 hl2 => ⟨_, rfl, p, C, dx, _, rfl, same_new hl2 _ _ upd_same, Y.cl, Y.n3, (by show 2 < 1000; decide), ?_⟩⟩
    refine ⟨szOk rfl, fun l3 hl3 => ⟨_, rfl, p, C, dx, _, rfl, same_new hl3 _ _ upd_same, Y.cl, Y.n4, (by show 3 < 1000; decide), ?_⟩⟩
    refine ⟨szOk rfl, fun l4 hl4 => ⟨_, rfl, p, C, dx, _, rfl, same_new hl4 _ _ upd_same, Y.cl, Y.n5, (by show 4 < 1000; decide), ?_⟩⟩
    have np : ∀ (Hx : Hp) l o, (upd Hx p o) l = none → p ≠ l ∧ Hx l = none := fun Hx l o e => by
      have w : p ≠ l := fun w => by rw [← w, upd_same] at e; cases e
      exact ⟨w, by rw [upd_ne w.symm] at e; exact e⟩
    obtain ⟨m1, e1⟩ := np _ _ _ hl1
    obtain ⟨m2, e2⟩ := np _ _ _ hl2
    obtain ⟨m3, e3⟩ := np _ _ _ hl3
    obtain ⟨m4, e4⟩ := np _ _ _ hl4
    have nn : ∀ (Hx : Hp) l o b, (upd Hx l o) b = none → b ≠ l ∧ Hx b = none := fun Hx l o b e => by
      have w : b ≠ l := fun w => by rw [w, upd_same] at e; cases e
      exact ⟨w, by rw [upd_ne w] at e; exact e⟩
    obtain ⟨d12, e2a⟩ := nn _ _ _ _ e2
    obtain ⟨d23, e3a⟩ := nn _ _ _ _ e3
    obtain ⟨_, e3b⟩ := np _ _ _ e3a
    obtain ⟨d13, e3c⟩ := nn _ _ _ _ e3b
    obtain ⟨d34, e4a⟩ := nn _ _ _ _ e4
    obtain ⟨_, e4b⟩ := np _ _ _ e4a
    obtain ⟨d24, e4c⟩ := nn _ _ _ _ e4b
    obtain ⟨_, e4d⟩ := np _ _ _ e4c
    obtain ⟨d14, e4e⟩ := nn _ _ _ _ e4d
    obtain ⟨_, f2⟩ := np _ _ _ e2a
    obtain ⟨_, f3⟩ := np _ _ _ e3c
    obtain ⟨_, f4⟩ := np _ _ _ e4e
    generalize hG : upd (upd (upd (upd (upd (upd (upd (upd (upd H p _) l1 _) p _) l2 _) p _) l3 _) p _) l4 _) p _ = HG
    have fr : ∀ b o, H b = some o → b ≠ p → HG b = some o := fun b o e n => by
      rw [← hG, upd_ne n, upd_ne (ne_of_none e f4), upd_ne n, upd_ne (ne_of_none e f3), upd_ne n, upd_ne (ne_of_none e f2), upd_ne n, upd_ne (ne_of_none e e1), upd_ne n]
      exact e
    have g1 : HG l1 = some (.lst []) := by rw [← hG, upd_ne m1.symm, upd_ne d14.symm, upd_ne m1.symm, upd_ne d13.symm, upd_ne m1.symm, upd_ne d12.symm, upd_ne m1.symm, upd_same]
    have g2 : HG l2 = some (.lst []) := by rw [← hG, upd_ne m2.symm, upd_ne d24.symm, upd_ne m2.symm, upd_ne d23.symm, upd_ne m2.symm, upd_same]
    have g3 : HG l3 = some (.lst []) := by rw [← hG, upd_ne m3.symm, upd_ne d34.symm, upd_ne m3.symm, upd_same]
    have g4 : HG l4 = some (.lst [.int 0]) := by rw [← hG, upd_ne m4.symm, upd_same]
    have gp : HG p = some (.ins C dx (pfl r l1 l2 l3 l4)) := by rw [← hG, upd_same]; rfl
    have P0 : PathP C HG p D ns r 0 dx l1 l2 l3 l4 [] [] := ⟨gp, fr _ _ hr0 pr.symm, g1, g2, g3, g4, rfl, rfl, (fun j h => by simp at h), (fun j h => by simp at h), d12.symm, d13.symm, d14.symm, d23.symm, d24.symm, d34.symm⟩
    refine ⟨_, rfl, _, _, rfl, .inr (.inl (.inl P0.rt)), _, _, rfl, rfl, ?_⟩
    refine ⟨_, rfl, by rw [List.length_map]; have := R.n2; omega, by rw [List.length_map]; have := R.n20; omega, for_range (n := (((ns.map V.str).length : Int) - 1).toNat) (fun i σ H2 => ∃ sa va v3, σ = [some (.ref p), some (.ref ch), some (.ref r), v3] ∧ PathP C H2 p D ns r i dx l1 l2 l3 l4 sa va ∧ ∀ b o, H b = some o → b ≠ p → H2 b = some o)
      ⟨[], [], none, rfl, P0, fr⟩ ?_ ?_⟩
    · rintro i σ H2 hi ⟨sa, va, v3, rfl, P, hk⟩
      have hi : i + 1 < ns.length := by rw [List.length_map] at hi; omega
      have eu : 0 + (i : Int) + 1 = ((i + 1 : Nat) : Int) := by omega
      refine ⟨_, rfl, _, _, _, rfl, P.ob, rfl, _, rfl, _, rfl, _, rfl, _, _, _, _, rfl, rfl, .inl (.inl P.rt), atI0 (rn_at (by omega)), _, rfl, _, rfl, _, _, rfl, rfl, _, _, _, .str (rn ns (i + 1)), rfl, rfl, .inl (.inl P.rt), by rw [eu]; exact atI_nat (rn_at hi), p, ch, r, dx, l1, l2, l3, l4, D, ns, i, sa, va, rfl, C0.fr hp hk, P, R.ch i hi, by have := R.n20; omega, fun s v H' P' fr' => ?_⟩
      exact ⟨_, _, _, rfl, P', fun b o e n => fr' _ _ (hk _ _ e n) (ne_of_none e e1) (ne_of_none e f2) (ne_of_none e f3) (ne_of_none e f4)⟩
    · rintro σ H2 ⟨sa, va, v3, rfl, P, hk⟩
      rw [List.length_map] at P
      rw [show ((ns.length : Int) - 1).toNat = ns.length - 1 by omega] at P
      exact k H2 ⟨_, _, _, _, _, _, _, P⟩ hk
end
end Sk

set_option Elab.async false
set_option linter.all false
set_option maxRecDepth 100000
set_option maxHeartbeats 4000000
namespace Sk
open PySem PySem.Spec PyProof.Rows L2
local macro_rules | `(tactic| walk_at "ms") => `(tactic| first | exact .inl ⟨by decide, by decide⟩ | exact .inl ⟨by omega, by omega⟩ | exact .inr ⟨by omega, by omega⟩ | exact wm (by omega) (by omega) | exact log_of (by omega) (by omega) | (show (0:Int) < _; omega) | exact ⟨by decide, by decide, by decide⟩)
abbrev s_law_begins : Stmt := top 45
abbrev s_law_leg_at : Stmt := top 46
abbrev s_law_place_on : Stmt := top 47
abbrev s_law_piece : Stmt := top 48
theorem two_at (f : Nat → Addr) {j : Nat} (h : j < 2) : atI [V.ref (f 0), V.ref (f 1)] (j : Int) = some (.ref (f j)) := by
  match j, h with
  | 0, _ => rfl
  | 1, _ => rfl
theorem LoT.off {H : Hp} {l p : Addr} {o : HO} {xss : List (List Int)} {ys : List V} (L : LoT H l xss) (hp : H p = some (.lst ys)) (n : l ≠ p) : LoT (upd H p o) l xss := by
  obtain ⟨qs, h1, h2, h3⟩ := L
  exact ⟨qs, by rw [upd_ne n]; exact h1, fun q hq => by rw [upd_ne (ne_of (h2 q hq) hp (by intro z; cases z))]; exact h2 q hq, h3⟩
theorem PathAt.off {C H p D ns r ch E o} (P : PathAt C H p D ns r) (R : Route D ns) (C0 : ChartAt H ch D) {ps : List Addr} (hE : H E = some (.lst (ps.map V.ref))) (hp : ∀ q ∈ ps, ∃ dx fs, H q = some (.ins C dx fs)) : PathAt C (upd H E o) p D ns r := by
  obtain ⟨dx, l1, l2, l3, l4, sa, va, P⟩ := P
  have n2 := R.n2
  have nt : ∀ q xs, H q = some (.tup xs) → q ∉ ps := fun q xs e hq => by
    obtain ⟨_, _, z⟩ := hp q hq
    rw [z] at e
    cases e
  have hd : ∀ l (ys : List V), H l = some (.lst ys) → (∃ y, y ∈ ys ∧ ∀ q, y = .ref q → ∃ xs, H q = some (.tup xs)) → l ≠ E := fun l ys hl ⟨y, hy, z⟩ w => by
    rw [w, hE] at hl
    cases hl
    obtain ⟨q, hq, rfl⟩ := List.mem_map.mp hy
    obtain ⟨xs, hx⟩ := z q rfl
    exact nt q xs hx hq
  have e1 : l1 ≠ E := hd l1 _ P.lg ⟨_, List.mem_map.mpr ⟨0, List.mem_range.mpr (by omega), rfl⟩, fun q hq => by
    obtain ⟨g, hg⟩ := R.ch 0 (by omega)
    rw [hg] at hq
    cases hq
    exact ⟨_, C0.lt g (CD.leg_mem hg).1⟩⟩
  have e2 : l2 ≠ E := hd l2 _ P.st ⟨V.ref (sa[0]'(by have := P.sl; omega)), List.mem_map.mpr ⟨_, List.getElem_mem _, rfl⟩, fun q hq => by cases hq; exact ⟨_, P.sx 0 (by have := P.sl; omega)⟩⟩
  have e3 : l3 ≠ E := hd l3 _ P.ve ⟨V.ref (va[0]'(by have := P.vl; omega)), List.mem_map.mpr ⟨_, List.getElem_mem _, rfl⟩, fun q hq => by cases hq; exact ⟨_, P.vx 0 (by have := P.vl; omega)⟩⟩
  have e4 : l4 ≠ E := hd l4 _ P.bgn ⟨_, List.mem_map.mpr ⟨0, List.mem_range.mpr (by omega), rfl⟩, fun q hq => by cases hq⟩
  have et : ∀ q xs, H q = some (.tup xs) → upd H E o q = some (.tup xs) := fun q xs e => by
    rw [upd_ne (ne_of e hE (by intro z; cases z))]
    exact e
  exact ⟨dx, l1, l2, l3, l4, sa, va, { P with
    ob := by rw [upd_ne (ne_of P.ob hE (by intro z; cases z))]; exact P.ob
    rt := et _ _ P.rt
    lg := by rw [upd_ne e1]; exact P.lg
    st := by rw [upd_ne e2]; exact P.st
    ve := by rw [upd_ne e3]; exact P.ve
    bgn := by rw [upd_ne e4]; exact P.bgn
    sx := fun j h => et _ _ (P.sx j h)
    vx := fun j h => et _ _ (P.vx j h) }⟩
theorem nx_ {D : Ends} {σ : L2.St} {H : Hp} (h : D.nx σ H) : tNext D σ H := h
theorem same_app {H H1 : Hp} {a : Addr} {o : HO} (h : H a = none) (s : Same H H1) : Same H (upd H1 a o) := fun b x e => by
  rw [upd_ne (ne_of_none e h)]
  exact s _ _ e
section
variable {P : Program} {w : World} {K : PySem.W.Frag} {mg : Str → Option Value} {base : Heap}
theorem sc_law_begins : FnScope ["lengths", "route", "begins", "k"] ["lengths", "route"] (defScope s_law_begins) := ⟨rfl, rfl, rfl, by decide +kernel, rfl, by decide +kernel, by decide +kernel⟩
theorem ok_law_begins {f : Addr} {fd : FuncData} (F : Fun K "_law_begins" "_law_begins" s_law_begins f fd) (T : TxtA mg) : FnOk P w K mg base CX0 1 f fd ["lengths", "route"] (spBegins) := by
  refine F.ok sc_law_begins (fun vs H Q E h => ?_) (fun cdv A outer s H vs Q E hr h => ?_)
  · obtain ⟨_, _, _, _, rfl, _⟩ := h
    rfl
  · obtain ⟨ld, r, D, ns, rfl, L, hr0, R, k⟩ := h
    have hu := hu_of hr
    refine ⟨_, (pss_cons (ps_set (i := 2) sc_law_begins.nd rfl (Or.inl rfl) (pe_lst (pa_cons pe_int pa_nil)))
    (pss_cons (ps_for PassesOwn.never rfl (pi_range1 (by rfl) T.range (pa_cons (pe_op op_sub (pe_callB (r := rLenK K) call_len_seq (by rfl) T.len boot_len (pa_cons (pv 1) pa_nil)) pe_int) pa_nil)) (pg_name (i := 3) sc_law_begins.nd rfl (Or.inl rfl))
      (pss_one (ps_expr (pe_bm PySem.F.plainAttrs_list PySem.F.slot_list_append PySem.F.type_list_append mt_append (pv 2) (pa_cons (pe_op op_add (pe_ix (r := rIxL K) ix_list (pv 2) (pv 3) (fun _ _ => rfl)) (pe_dget hu (pv 0) (pe_tup (pa_cons (pe_ix (r := rIxT K) ix_tup (pv 1) (pv 3) (fun _ _ => rfl)) (pa_cons (pe_ix (r := rIxT K) ix_tup (pv 1) (pe_op op_add (pv 3) pe_int) (fun _ _ => rfl)) pa_nil))) (fun _ _ => rfl))) pa_nil)))))
    (pss_one (ps_ret (pv 2))))), ?_⟩
    refine ⟨szOk rfl, fun b hb => ?_⟩
    have sm0 : Same H (upd H b (.lst [.int 0])) := same_new hb
    have n2 := R.n2
    have n20 := R.n20
    refine ⟨_, rfl, _, _, rfl, .inr (.inl (.inl (sm0 _ _ hr0))), _, _, rfl, rfl, ?_⟩
    refine ⟨_, rfl, by rw [List.length_map]; omega, by rw [List.length_map]; omega, for_range (n := (((ns.map V.str).length : Int) - 1).toNat) (fun i σ H2 => ∃ v3, σ = [some (.ref ld), some (.ref r), some (.ref b), v3] ∧ Same H H2 ∧ H2 b = some (.lst (((List.range (i + 1)).map (bg D ns)).map V.int)))
      ⟨none, rfl, sm0, upd_same⟩ ?_ ?_⟩
    · rintro i σ H2 hi ⟨v3, rfl, sm, hB⟩
      have hi : i + 1 < ns.length := by rw [List.length_map] at hi; omega
      have eu : 0 + (i : Int) + 1 = ((i + 1 : Nat) : Int) := by omega
      have hr2 := sm _ _ hr0
      refine ⟨_, rfl, .inl ⟨rfl, _, .inl (.inl hB)⟩, _, rfl, _, rfl, _, _, _, .int (bg D ns i), rfl, rfl, .inl (.inl hB), atI0 (by rw [List.getElem?_map, List.getElem?_map, List.getElem?_range (by omega)]; rfl), _, rfl, _, rfl, _, rfl, _, _, _, _, rfl, rfl, .inl (.inl hr2), atI0 (rn_at (by omega)), _, rfl, _, rfl, _, _, rfl, rfl, _, _, _, .str (rn ns (i + 1)), rfl, rfl, .inl (.inl hr2), by rw [eu]; exact atI_nat (rn_at hi), szOk rfl, fun q hq => ?_⟩
      have L2' := (L.same sm).same (same_new (o := .tup [.str (rn ns i), .str (rn ns (i + 1))]) hq)
      refine ⟨_, _, rfl, L2'.g (R.ch i hi) upd_same, _, _, rfl, rfl, ?_⟩
      refine ⟨_, _, _, rfl, rfl, same_new hq _ _ hB, small1000 (by rw [List.length_map, List.length_map, List.length_range]; omega), ?_⟩
      refine ⟨_, rfl, fun c o e => ?_, ?_⟩
      · rw [upd_ne (ne_of_none e hb)]
        exact same_new hq _ _ (sm _ _ e)
      · rw [upd_same, List.range_succ (n := i + 1), List.map_append, List.map_append]
        rfl
    · rintro σ H2 ⟨v3, rfl, sm, hB⟩
      rw [List.length_map, show ((ns.length : Int) - 1).toNat + 1 = ns.length by omega] at hB
      exact ⟨_, rfl, k b H2 hb sm hB⟩
theorem sc_law_leg_at : FnScope ["begins", "progress", "found", "k"] ["begins", "progress"] (defScope s_law_leg_at) := ⟨rfl, rfl, rfl, by decide +kernel, rfl, by decide +kernel, by decide +kernel⟩
theorem ok_law_leg_at {f : Addr} {fd : FuncData} (F : Fun K "_law_leg_at" "_law_leg_at" s_law_leg_at f fd) (T : TxtA mg) : FnOk P w K mg base CX0 1 f fd ["begins", "progress"] (spLawLegAt) := by
  refine F.ok sc_law_leg_at (fun vs H Q E h => ?_) (fun cdv A outer s H vs Q E hr h => ?_)
  · obtain ⟨_, _, _, _, rfl, _⟩ := h
    rfl
  · obtain ⟨b, x, D, ns, rfl, hb, n2, n20, k⟩ := h
    refine ⟨_, (pss_cons (ps_set (i := 2) sc_law_leg_at.nd rfl (Or.inl rfl) pe_int)
    (pss_cons (ps_for PassesOwn.never rfl (pi_range2 (by rfl) T.range (pa_cons pe_int (pa_cons (pe_op op_sub (pe_callB (r := rLenK K) call_len_seq (by rfl) T.len boot_len (pa_cons (pv 0) pa_nil)) pe_int) pa_nil))) (pg_name (i := 3) sc_law_leg_at.nd rfl (Or.inl rfl))
      (pss_one (ps_if (pt_cmpR op_le (pe_ix (r := rIxL K) ix_list (pv 0) (pv 3) (fun _ _ => rfl)) (pv 1) (nomark _)) (pss_one (ps_set (i := 2) sc_law_leg_at.nd rfl (Or.inl rfl) (pv 3)))
      pss_nil)))
    (pss_one (ps_ret (pv 2))))), ?_⟩
    refine ⟨_, rfl, _, _, rfl, .inl (.inl (.inl hb)), _, _, rfl, rfl, ?_⟩
    rw [bgs_len]
    refine ⟨_, _, rfl, ⟨by omega, by omega, by omega, by omega⟩, for_range (lo := 1) (n := ((ns.length : Int) - 1 - 1).toNat) (fun i σ H2 => ∃ v3, σ = [some (.ref b), some (.int x), some (.int (lat D ns i x : Nat)), v3] ∧ H2 = H)
      ⟨none, rfl, rfl⟩ ?_ ?_⟩
    · rintro i σ H2 hi ⟨v3, rfl, rfl⟩
      have e1 : (1 : Int) + (i : Int) = ((i + 1 : Nat) : Int) := by omega
      refine ⟨_, rfl, _, rfl, _, _, _, .int (bg D ns (i + 1)), rfl, rfl, .inl (.inl hb), by rw [e1]; exact atI_nat (bgs_at (by omega)), _, rfl, _, _, rfl, rfl, _, rfl, ite2 (fun e => ?_) (fun e => ?_)⟩
      · have e := of_decide_eq_true e
        refine ⟨_, rfl, some (.int (1 + (i : Int))), ?_, rfl⟩
        rw [lat_succ, if_pos e, e1]
        rfl
      · have e : ¬ bg D ns (i + 1) ≤ x := fun z => e (decide_eq_true z)
        refine ⟨some (.int (1 + (i : Int))), ?_, rfl⟩
        rw [lat_succ, if_neg e]
        rfl
    · rintro σ H2 ⟨v3, rfl, rfl⟩
      rw [show ((ns.length : Int) - 1 - 1).toNat = ns.length - 1 - 1 by omega]
      exact ⟨_, rfl, k⟩
theorem sc_law_place_on : FnScope ["chart", "route", "begins", "k", "progress", "a", "b", "length", "way"] ["chart", "route", "begins", "k", "progress"] (defScope s_law_place_on) := ⟨rfl, rfl, rfl, by decide +kernel, rfl, by decide +kernel, by decide +kernel⟩
theorem ok_law_place_on {f : Addr} {fd : FuncData} (F : Fun K "_law_place_on" "_law_place_on" s_law_place_on f fd) (T : TxtA mg) : FnOk P w K mg base CX0 1 f fd ["chart", "route", "begins", "k", "progress"] (spPlaceOn) := by
  refine F.ok sc_law_place_on (fun vs H Q E h => ?_) (fun cdv A outer s H vs Q E hr h => ?_)
  · obtain ⟨_, _, _, _, _, _, _, _, rfl, _⟩ := h
    rfl
  · obtain ⟨ch, r, b, z, x, D, ns, j, rfl, rfl, C0, hr0, hb, R, hj, k⟩ := h
    have hu := hu_of hr
    refine ⟨_, (pss_cons (ps_set (i := 5) sc_law_place_on.nd rfl (Or.inl rfl) (pe_dget hu (pe_dget hu (pv 0) pe_str (fun _ _ => rfl)) (pe_ix (r := rIxT K) ix_tup (pv 1) (pv 3) (fun _ _ => rfl)) (fun _ _ => rfl)))
    (pss_cons (ps_set (i := 6) sc_law_place_on.nd rfl (Or.inl rfl) (pe_dget hu (pe_dget hu (pv 0) pe_str (fun _ _ => rfl)) (pe_ix (r := rIxT K) ix_tup (pv 1) (pe_op op_add (pv 3) pe_int) (fun _ _ => rfl)) (fun _ _ => rfl)))
    (pss_cons (ps_set (i := 7) sc_law_place_on.nd rfl (Or.inl rfl) (pe_op op_sub (pe_ix (r := rIxL K) ix_list (pv 2) (pe_op op_add (pv 3) pe_int) (fun _ _ => rfl)) (pe_ix (r := rIxL K) ix_list (pv 2) (pv 3) (fun _ _ => rfl))))
    (pss_cons (ps_set (i := 8) sc_law_place_on.nd rfl (Or.inl rfl) (pe_op op_sub (pv 4) (pe_ix (r := rIxL K) ix_list (pv 2) (pv 3) (fun _ _ => rfl))))
    (pss_one (ps_ret (pe_tup (pa_cons (pe_op op_add (pe_op op_mul (pe_ix (r := rIxT K) ix_tup (pv 5) pe_int (fun _ _ => rfl)) (pv 7)) (pe_op op_mul (pe_op op_sub (pe_ix (r := rIxT K) ix_tup (pv 6) pe_int (fun _ _ => rfl)) (pe_ix (r := rIxT K) ix_tup (pv 5) pe_int (fun _ _ => rfl))) (pv 8))) (pa_cons (pe_op op_add (pe_op op_mul (pe_ix (r := rIxT K) ix_tup (pv 5) pe_int (fun _ _ => rfl)) (pv 7)) (pe_op op_mul (pe_op op_sub (pe_ix (r := rIxT K) ix_tup (pv 6) pe_int (fun _ _ => rfl)) (pe_ix (r := rIxT K) ix_tup (pv 5) pe_int (fun _ _ => rfl))) (pv 8))) (pa_cons (pv 7) pa_nil)))))))))), ?_⟩
    obtain ⟨⟨a1, x1, y1, h1⟩, a2, x2, y2, h2⟩ := R.pt C0 hj
    obtain ⟨p1, p2, p3, p4, p5, p6⟩ := C0.pf _ _ _ _ h1
    obtain ⟨q1, q2, q3, q4, q5, q6⟩ := C0.pf _ _ _ _ h2
    have eu : (j : Int) + 1 = ((j + 1 : Nat) : Int) := by omega
    refine ⟨_, rfl, _, _, rfl, C0.gf, _, rfl, _, rfl, _, _, _, _, rfl, rfl, .inl (.inl hr0), atI_nat (rn_at (by omega)), _, _, rfl, C0.gp h1, ?_⟩
    refine ⟨_, rfl, _, _, rfl, C0.gf, _, rfl, _, rfl, _, _, rfl, rfl, _, _, _, .str (rn ns (j + 1)), rfl, rfl, .inl (.inl hr0), by rw [eu]; exact atI_nat (rn_at hj), _, _, rfl, C0.gp h2, ?_⟩
    refine ⟨_, rfl, _, rfl, _, _, rfl, rfl, _, _, _, .int (bg D ns (j + 1)), rfl, rfl, .inl (.inl hb), by rw [eu]; exact atI_nat (bgs_at hj), _, rfl, _, rfl, _, _, _, .int (bg D ns j), rfl, rfl, .inl (.inl hb), atI_nat (bgs_at (by omega)), _, _, rfl, rfl, ?_⟩
    refine ⟨_, rfl, _, rfl, _, rfl, _, _, _, .int (bg D ns j), rfl, rfl, .inl (.inl hb), atI_nat (bgs_at (by omega)), _, _, rfl, rfl, ?_⟩
    refine nm ?_
    dsimp only
    have el : bg D ns (j + 1) - bg D ns j = D.len (rn ns j) (rn ns (j + 1)) := by
      show bg D ns j + D.len (rn ns j) (rn ns (j + 1)) - bg D ns j = _
      omega
    rw [el]
    refine ⟨_, rfl, _, _, _, _, rfl, rfl, (.inl (.inl p2)), rfl, _, rfl, _, _, rfl, rfl, (by walk_at "ms"), _, rfl, _, _, _, _, rfl, rfl, (.inl (.inl q2)), rfl, _, rfl, _, _, _, _, rfl, rfl, (.inl (.inl p2)), rfl, _, _, rfl, rfl, _, rfl, _, _, rfl, rfl, (by walk_at "ms"), _, _, rfl, rfl, _, rfl, _, _, _, _, rfl, rfl, (.inl (.inl p2)), rfl, _, rfl, _, _, rfl, rfl, (by walk_at "ms"), _, rfl, _, _, _, _, rfl, rfl, (.inl (.inl q2)), rfl, _, rfl, _, _, _, _, rfl, rfl, (.inl (.inl p2)), rfl, _, _, rfl, rfl, _, rfl, _, _, rfl, rfl, (by walk_at "ms"), _, _, rfl, rfl, _, rfl, ?_⟩
    refine ⟨szOk rfl, fun q hq => k q _ hq (same_new hq) ?_⟩
    rw [upd_same]
    unfold plc
    rw [CD.xy_eq h1, CD.xy_eq h2]
    rfl
theorem sc_law_piece : FnScope ["chart", "route", "begins", "low", "high", "total", "first", "last", "place", "line", "k", "start", "end", "a", "b"] ["chart", "route", "begins", "low", "high"] (defScope s_law_piece) := ⟨rfl, rfl, rfl, by decide +kernel, rfl, by decide +kernel, by decide +kernel⟩
theorem ok_law_piece {f : Addr} {fd : FuncData} (F : Fun K "_law_piece" "_law_piece" s_law_piece f fd) (T : TxtA mg)
    (D_law_place_on : Def P w K mg base 1 "_law_place_on" ["chart", "route", "begins", "k", "progress"] (spPlaceOn))
    (D_law_leg_at : Def P w K mg base 1 "_law_leg_at" ["begins", "progress"] (spLawLegAt)) : FnOk P w K mg base CX0 2 f fd ["chart", "route", "begins", "low", "high"] (spLawPiece) := by
  refine F.ok sc_law_piece (fun vs H Q E h => ?_) (fun cdv A outer s H vs Q E hr h => ?_)
  · obtain ⟨_, _, _, _, _, _, _, rfl, _⟩ := h
    rfl
  · obtain ⟨ch, r, b, lo0, hi0, D, ns, rfl, C0, hr0, hb, R, hlh, k⟩ := h
    refine ⟨_, (pss_cons (ps_set (i := 5) sc_law_piece.nd rfl (Or.inl rfl) (pe_ix (r := rIxL K) ix_list (pv 2) (pe_op op_sub (pe_callB (r := rLenK K) call_len_seq (by rfl) T.len boot_len (pa_cons (pv 2) pa_nil)) pe_int) (fun _ _ => rfl)))
    (pss_cons (ps_if (PW.pt (pw_or (pt_cmpR op_lt (pv 4) pe_int (nomark _)) (pw_or1 (pt_cmpR op_ge (pv 3) (pv 5) (nomark _))))) (pss_one (ps_ret (pe_lst pa_nil)))
      pss_nil)
    (pss_cons (ps_set (i := 6) sc_law_piece.nd rfl (Or.inl rfl) (pe_callB (call_max2 rfl) (by rfl) T.max boot_max (pa_cons (pv 3) (pa_cons pe_int pa_nil))))
    (pss_cons (ps_set (i := 7) sc_law_piece.nd rfl (Or.inl rfl) (pe_callB (call_min2 rfl) (by rfl) T.min boot_min (pa_cons (pv 4) (pa_cons (pv 5) pa_nil))))
    (pss_cons (ps_if (pt_cmpR op_eq (pv 6) (pv 7) (nomark _)) (pss_cons (ps_set (i := 8) sc_law_piece.nd rfl (Or.inl rfl) (pe_def D_law_place_on (hr.mono (by decide)) (by rfl) (pa_cons (pv 0) (pa_cons (pv 1) (pa_cons (pv 2) (pa_cons (pe_def D_law_leg_at (hr.mono (by decide)) (by rfl) (pa_cons (pv 2) (pa_cons (pv 6) pa_nil))) (pa_cons (pv 6) pa_nil)))))))
    (pss_one (ps_ret (pe_lst (pa_cons (pe_tup (pa_cons (pe_ix (r := rIxT K) ix_tup (pv 8) pe_int (fun _ _ => rfl)) (pa_cons (pe_ix (r := rIxT K) ix_tup (pv 8) pe_int (fun _ _ => rfl)) (pa_cons (pe_ix (r := rIxT K) ix_tup (pv 8) pe_int (fun _ _ => rfl)) (pa_cons (pe_ix (r := rIxT K) ix_tup (pv 8) pe_int (fun _ _ => rfl)) (pa_cons (pe_ix (r := rIxT K) ix_tup (pv 8) pe_int (fun _ _ => rfl)) pa_nil)))))) pa_nil)))))
      pss_nil)
    (pss_cons (ps_set (i := 9) sc_law_piece.nd rfl (Or.inl rfl) (pe_lst pa_nil))
    (pss_cons (ps_for PassesOwn.never rfl (pi_range1 (by rfl) T.range (pa_cons (pe_op op_sub (pe_callB (r := rLenK K) call_len_seq (by rfl) T.len boot_len (pa_cons (pv 1) pa_nil)) pe_int) pa_nil)) (pg_name (i := 10) sc_law_piece.nd rfl (Or.inl rfl))
      (pss_cons (ps_set (i := 11) sc_law_piece.nd rfl (Or.inl rfl) (pe_callB (call_max2 rfl) (by rfl) T.max boot_max (pa_cons (pv 6) (pa_cons (pe_ix (r := rIxL K) ix_list (pv 2) (pv 10) (fun _ _ => rfl)) pa_nil))))
    (pss_cons (ps_set (i := 12) sc_law_piece.nd rfl (Or.inl rfl) (pe_callB (call_min2 rfl) (by rfl) T.min boot_min (pa_cons (pv 7) (pa_cons (pe_ix (r := rIxL K) ix_list (pv 2) (pe_op op_add (pv 10) pe_int) (fun _ _ => rfl)) pa_nil))))
    (pss_one (ps_if (pt_cmpR op_lt (pv 11) (pv 12) (nomark _)) (pss_cons (ps_set (i := 13) sc_law_piece.nd rfl (Or.inl rfl) (pe_def D_law_place_on (hr.mono (by decide)) (by rfl) (pa_cons (pv 0) (pa_cons (pv 1) (pa_cons (pv 2) (pa_cons (pv 10) (pa_cons (pv 11) pa_nil)))))))
    (pss_cons (ps_set (i := 14) sc_law_piece.nd rfl (Or.inl rfl) (pe_def D_law_place_on (hr.mono (by decide)) (by rfl) (pa_cons (pv 0) (pa_cons (pv 1) (pa_cons (pv 2) (pa_cons (pv 10) (pa_cons (pv 12) pa_nil)))))))
    (pss_one (ps_expr (pe_bm PySem.F.plainAttrs_list PySem.F.slot_list_append PySem.F.type_list_append mt_append (pv 9) (pa_cons (pe_tup (pa_cons (pe_ix (r := rIxT K) ix_tup (pv 13) pe_int (fun _ _ => rfl)) (pa_cons (pe_ix (r := rIxT K) ix_tup (pv 13) pe_int (fun _ _ => rfl)) (pa_cons (pe_ix (r := rIxT K) ix_tup (pv 14) pe_int (fun _ _ => rfl)) (pa_cons (pe_ix (r := rIxT K) ix_tup (pv 14) pe_int (fun _ _ => rfl)) (pa_cons (pe_ix (r := rIxT K) ix_tup (pv 13) pe_int (fun _ _ => rfl)) pa_nil)))))) pa_nil))))))
      pss_nil)))))
    (pss_one (ps_ret (pv 9)))))))))), ?_⟩
    have n2 := R.n2
    have n20 := R.n20
    refine ⟨_, rfl, _, rfl, _, _, rfl, .inl (.inl (.inl hb)), _, _, rfl, rfl, _, _, _, .int (bg D ns (ns.length - 1)), rfl, rfl, .inl (.inl hb), atI_lastn rfl (bgs_last (by omega)), ?_⟩
    have nl0 : ∀ H' : Hp, ∀ q, H q = none → H' = upd H q (.lst []) → (hi0 < 0 ∨ bg D ns (ns.length - 1) ≤ lo0) → Q (.ref q) H' := fun H' q hq e h => by
      subst e
      refine k q _ hq (same_new hq) ?_
      unfold pcs
      dsimp only
      rw [if_pos h]
      exact LoT.nil upd_same
    refine ⟨_, rfl, _, _, rfl, rfl, _, rfl, ite2 (fun e => ?_) (fun e => ?_)⟩
    · have e := of_decide_eq_true e
      exact ⟨szOk rfl, fun q hq => nl0 _ q hq rfl (.inl e)⟩
    have e : ¬ hi0 < 0 := fun z => e (decide_eq_true z)
    refine ⟨_, rfl, _, rfl, _, _, rfl, rfl, _, rfl, ite2 (fun e2 => ?_) (fun e2 => ?_)⟩
    · have e2 := of_decide_eq_true e2
      exact ⟨szOk rfl, fun q hq => nl0 _ q hq rfl (.inr e2)⟩
    have e2 : ¬ bg D ns (ns.length - 1) ≤ lo0 := fun z => e2 (decide_eq_true z)
    have hpc : pcs D ns lo0 hi0 = if (if 0 > lo0 then 0 else lo0) = (if bg D ns (ns.length - 1) < hi0 then bg D ns (ns.length - 1) else hi0) then [seg D ns (lat D ns (ns.length - 1 - 1) (if 0 > lo0 then 0 else lo0)) (if 0 > lo0 then 0 else lo0) (if 0 > lo0 then 0 else lo0)] else segsOf D ns (if 0 > lo0 then 0 else lo0) (if bg D ns (ns.length - 1) < hi0 then bg D ns (ns.length - 1) else hi0) (List.range (ns.length - 1)) := by
      unfold pcs
      dsimp only
      rw [if_neg (by omega)]
    rw [hpc] at k
    refine ⟨_, rfl, _, _, rfl, ?_⟩
    refine ⟨_, rfl, _, rfl, _, _, rfl, ?_⟩
    refine nm ?_
    dsimp only
    generalize (if 0 > lo0 then 0 else lo0) = f1 at *
    generalize (if bg D ns (ns.length - 1) < hi0 then bg D ns (ns.length - 1) else hi0) = l at *
    refine ⟨_, rfl, _, rfl, rfl, _, rfl, ite2 (fun e3 => ?_) (fun e3 => ?_)⟩
    · have e3 := V.int.inj (of_decide_eq_true e3)
      rw [if_pos e3] at k
      obtain ⟨a1, b1, c1⟩ := lat_cases D ns (ns.length - 1 - 1) f1
      refine ⟨_, rfl, _, rfl, _, rfl, _, rfl, _, rfl, b, f1, D, ns, rfl, hb, n2, n20, ?_⟩
      refine ⟨_, rfl, ch, r, b, _, f1, D, ns, lat D ns (ns.length - 1 - 1) f1, rfl, rfl, C0, hr0, hb, R, by omega, fun q1 H1 hq1 sm1 ht1 => ?_⟩
      refine ⟨_, rfl, _, _, _, _, rfl, rfl, .inl (.inl ht1), rfl, _, rfl, _, _, _, _, rfl, rfl, .inl (.inl ht1), rfl, _, rfl, _, _, _, _, rfl, rfl, .inl (.inl ht1), rfl, _, rfl, _, _, _, _, rfl, rfl, .inl (.inl ht1), rfl, _, rfl, _, _, _, _, rfl, rfl, .inl (.inl ht1), rfl, szOk rfl, fun q2 hq2 => ⟨szOk rfl, fun q hq => ?_⟩⟩
      refine k q _ (sm1.free ((same_new hq2).free hq)) (fun b o e => same_new hq _ _ (same_new hq2 _ _ (sm1 _ _ e))) ?_
      exact ⟨[(q2, _)], upd_same, fun z hz => by rw [List.mem_singleton.mp hz]; exact same_new hq _ _ upd_same, rfl⟩
    have e3 : ¬ f1 = l := fun z => e3 (decide_eq_true (congrArg V.int z))
    rw [if_neg e3] at k
    refine ⟨szOk rfl, fun ln hln => ?_⟩
    have sm0 : Same H (upd H ln (.lst [])) := same_new hln
    refine ⟨_, rfl, _, _, rfl, .inr (.inl (.inl (sm0 _ _ hr0))), _, _, rfl, rfl, ?_⟩
    refine ⟨_, rfl, by rw [List.length_map]; omega, by rw [List.length_map]; omega, for_range (n := (((ns.map V.str).length : Int) - 1).toNat) (fun i σ H2 => ∃ v8 v10 v11 v12 v13 v14, σ = [some (.ref ch), some (.ref r), some (.ref b), some (.int lo0), some (.int hi0), some (.int (bg D ns (ns.length - 1))), some (.int f1), some (.int l), v8, some (.ref ln), v10, v11, v12, v13, v14] ∧ Same H H2 ∧ LoT H2 ln (segsOf D ns f1 l (List.range i)))
      ⟨none, none, none, none, none, none, rfl, sm0, LoT.nil upd_same⟩ ?_ ?_⟩
    · rintro i σ H2 hi ⟨v8, v10, v11, v12, v13, v14, rfl, sm, hL⟩
      have hi : i + 1 < ns.length := by rw [List.length_map] at hi; omega
      have eu : 0 + (i : Int) + 1 = ((i + 1 : Nat) : Int) := by omega
      have hb2 := sm _ _ hb
      have hsn : segsOf D ns f1 l (List.range (i + 1)) = segsOf D ns f1 l (List.range i) ++ (match segOf D ns f1 l i with | some x => [x] | none => []) := by
        unfold segsOf
        rw [List.range_succ, List.filterMap_append]
        congr 1
        show List.filterMap (segOf D ns f1 l) [i] = _
        cases e : segOf D ns f1 l i <;> simp [e]
      refine ⟨_, rfl, _, rfl, _, rfl, _, _, _, .int (bg D ns i), rfl, rfl, .inl (.inl hb2), atI0 (bgs_at (by omega)), _, _, rfl, ?_⟩
      refine ⟨_, rfl, _, rfl, _, rfl, _, _, rfl, rfl, _, _, _, .int (bg D ns (i + 1)), rfl, rfl, .inl (.inl hb2), by rw [eu]; exact atI_nat (bgs_at hi), _, _, rfl, ?_⟩
      refine ⟨_, rfl, _, rfl, _, _, rfl, rfl, _, rfl, ite2 (fun e => ?_) (fun e => ?_)⟩
      · have e := of_decide_eq_true e
        have es : segOf D ns f1 l i = some (seg D ns i (if bg D ns i > f1 then bg D ns i else f1) (if bg D ns (i + 1) < l then bg D ns (i + 1) else l)) := by
          unfold segOf
          dsimp only
          rw [if_pos e]
        obtain ⟨ys, hy, hyl⟩ := hL.li
        have hys : ys.length ≤ 100 := by
          rw [hyl]
          have := segsOf_len D ns f1 l (List.range i)
          rw [List.length_range] at this
          omega
        refine ⟨_, rfl, _, rfl, _, rfl, _, rfl, _, rfl, ch, r, b, _, _, D, ns, i, rfl, Int.zero_add _, C0.same sm, sm _ _ hr0, hb2, R, hi, fun q1 H3 hq1 sm1 ht1 => ?_⟩
        have sm3 : Same H H3 := fun b o e => sm1 _ _ (sm _ _ e)
        refine ⟨_, rfl, _, rfl, _, rfl, _, rfl, _, rfl, ch, r, b, _, _, D, ns, i, rfl, Int.zero_add _, C0.same sm3, sm3 _ _ hr0, sm1 _ _ hb2, R, hi, fun q2 H4 hq2 sm2 ht2 => ?_⟩
        have ht1' := sm2 _ _ ht1
        have hy4 := sm2 _ _ (sm1 _ _ hy)
        refine ⟨_, rfl, .inl ⟨rfl, _, .inl (.inl hy4)⟩, _, rfl, _, _, _, _, rfl, rfl, .inl (.inl ht1'), rfl, _, rfl, _, _, _, _, rfl, rfl, .inl (.inl ht1'), rfl, _, rfl, _, _, _, _, rfl, rfl, .inl (.inl ht2), rfl, _, rfl, _, _, _, _, rfl, rfl, .inl (.inl ht2), rfl, _, rfl, _, _, _, _, rfl, rfl, .inl (.inl ht1'), rfl, szOk rfl, fun q3 hq3 => ?_⟩
        refine ⟨_, _, _, rfl, rfl, same_new hq3 _ _ hy4, small1000 (by omega), ?_⟩
        refine ⟨_, _, _, _, _, _, rfl, fun b o e => ?_, ?_⟩
        · rw [upd_ne (ne_of_none e hln)]
          exact same_new hq3 _ _ (sm2 _ _ (sm3 _ _ e))
        · rw [hsn, es]
          exact LoT.snoc (((hL.same sm1).same sm2).same (same_new hq3)) (same_new hq3 _ _ hy4) upd_same
      · have e : ¬ _ := fun z => e (decide_eq_true z)
        have es : segOf D ns f1 l i = none := by
          unfold segOf
          dsimp only
          rw [if_neg e]
        refine ⟨_, _, _, _, _, _, rfl, sm, ?_⟩
        rw [hsn, es, List.append_nil]
        exact hL
    · rintro σ H2 ⟨v8, v10, v11, v12, v13, v14, rfl, sm, hL⟩
      refine ⟨_, rfl, k ln H2 hln sm ?_⟩
      rw [List.length_map, show ((ns.length : Int) - 1).toNat = ns.length - 1 by omega] at hL
      exact hL
end
end Sk

set_option Elab.async false
set_option linter.all false
set_option maxRecDepth 100000
set_option maxHeartbeats 4000000
namespace Sk
open PySem PySem.Spec PyProof.Rows L2
section
variable {P : Program} {w : World} {K : PySem.W.Frag} {mg : Str → Option Value} {base : Heap}
abbrev s_law_code : Stmt := top 54
theorem sc_law_code : FnScope ["number", "code", "weight", "k", "bit", "next_bit"] ["number"] (defScope s_law_code) := ⟨rfl, rfl, rfl, by decide +kernel, rfl, by decide +kernel, by decide +kernel⟩
theorem ok_law_code {f : Addr} {fd : FuncData}  (F : Fun K "_law_code" "_law_code" s_law_code f fd) (T : TxtA mg) : FnOk P w K mg base CX0 1 f fd ["number"] (spCodeL) := by
  refine F.ok sc_law_code (fun vs H Q E h => ?_) (fun cdv A outer s H vs Q E hr h => ?_)
  · obtain ⟨_, rfl, _⟩ := h
    rfl
  · obtain ⟨n, rfl, hn, k⟩ := h
    have hu := hu_of hr
    refine ⟨_, (pss_cons (ps_set (i := 1) sc_law_code.nd rfl (Or.inl rfl) pe_int)
    (pss_cons (ps_set (i := 2) sc_law_code.nd rfl (Or.inl rfl) pe_int)
    (pss_cons (ps_for PassesOwn.never rfl (pi_range1 (by rfl) T.range (pa_cons pe_int pa_nil)) (pg_name (i := 3) sc_law_code.nd rfl (Or.inl rfl))
      (pss_cons (ps_set (i := 4) sc_law_code.nd rfl (Or.inl rfl) (pe_op op_mod (pe_callTy call_int1 (by rfl) T.int boot_int (pa_cons (pe_op op_fdivW (pv 0) (pv 2)) pa_nil)) pe_int))
    (pss_cons (ps_set (i := 5) sc_law_code.nd rfl (Or.inl rfl) (pe_op op_mod (pe_callTy call_int1 (by rfl) T.int boot_int (pa_cons (pe_op op_fdivW (pv 0) (pe_op op_mulW pe_int (pv 2))) pa_nil)) pe_int))
    (pss_cons (ps_set (i := 1) sc_law_code.nd rfl (Or.inl rfl) (pe_op op_add (pv 1) (pe_op op_mulW (pv 2) (pe_callTy call_int1 (by rfl) T.int boot_int (pa_cons (pe_cmpR op_ne (pv 4) (pv 5) (nomark _)) pa_nil)))))
    (pss_one (ps_set (i := 2) sc_law_code.nd rfl (Or.inl rfl) (pe_op op_mulW pe_int (pv 2))))))))
    (pss_one (ps_ret (pv 1)))))), ?_⟩
    rw [show L2.start ["number", "code", "weight", "k", "bit", "next_bit"] [nv n] = [some (nv n), none, none, none, none, none] from rfl]
    refine nm ?_
    dsimp only [List.set]
    refine nm ?_
    dsimp only [List.set]
    refine ⟨16, rfl, by decide, by decide, for_range (n := 16) (fun i σ H' => ∃ v3 v4 v5, σ = [some (nv n), some (nv (enc n % 2 ^ i)), some (nv (2 ^ i)), v3, v4, v5] ∧ H' = H) ⟨none, none, none, by rw [Nat.pow_zero, Nat.mod_one]; rfl, rfl⟩ ?_ ?_⟩
    · rintro i σ H' hi ⟨v3, v4, v5, rfl, rfl⟩
      refine nm ?_
      dsimp only [List.set]
      have bw : ((2 ^ i : Nat) : Int).natAbs < 2 ^ 250 := by
        rw [Int.natAbs_natCast]
        exact Nat.pow_lt_pow_right (by decide) (by omega)
      have pw : (0 : Int) < ((2 ^ i : Nat) : Int) := by
        have := Nat.pow_pos (n := i) (show 0 < 2 by decide)
        omega
      have b2 : (2 * ((2 ^ i : Nat) : Int)).natAbs < 2 ^ 250 := by
        rw [pow_step, Int.natAbs_natCast]
        exact Nat.pow_lt_pow_right (by decide) (by omega)
      refine ⟨_, rfl, _, rfl, _, _, rfl, rfl, wide_div (b := 250) pw bw (by decide) (by decide), .inl ⟨_, rfl, _, _, rfl, rfl, (by show (0 : Int) < 2; decide), ?_⟩⟩
      refine nm ?_
      dsimp only [List.set]
      refine ⟨_, rfl, _, rfl, _, _, rfl, rfl, wm (by decide) bw, _, _, rfl, rfl, wide_div (b := 250) (by omega) b2 (by decide) (by decide), .inl ⟨_, rfl, _, _, rfl, rfl, (by show (0 : Int) < 2; decide), ?_⟩⟩
      refine nm ?_
      dsimp only [List.set]
      have d1 : ((n : Nat) : Int) / ((2 ^ i : Nat) : Int) % 2 = ((n / 2 ^ i % 2 : Nat) : Int) := by simp
      have d2 : ((n : Nat) : Int) / (2 * ((2 ^ i : Nat) : Int)) % 2 = ((n / 2 ^ (i + 1) % 2 : Nat) : Int) := by rw [pow_step]; simp
      refine ⟨_, rfl, _, rfl, _, rfl, _, rfl, rfl, .inr ⟨_, rfl, _, _, rfl, rfl, wm bw (by split <;> decide), _, _, rfl, rfl, ?_⟩⟩
      refine nm ?_
      dsimp only [List.set]
      refine ⟨_, rfl, _, _, rfl, rfl, wm (by decide) bw, ?_⟩
      refine ⟨some (.int (0 + (i : Int))), some (.int (((n : Nat) : Int) / ((2 ^ i : Nat) : Int) % 2)), some (.int (((n : Nat) : Int) / (2 * ((2 ^ i : Nat) : Int)) % 2)), ?_, rfl⟩
      rw [d1, d2]
      show [some (nv n), some (V.int (((enc n % 2 ^ i : Nat) : Int) + ((2 ^ i : Nat) : Int) * (if (!decide (nv (n / 2 ^ i % 2) = nv (n / 2 ^ (i + 1) % 2))) = true then 1 else 0))), some (V.int (2 * ((2 ^ i : Nat) : Int))), _, _, _] = _
      rw [nv_ne, code_step, pow_step]
      rfl
    · rintro σ H' ⟨v3, v4, v5, rfl, rfl⟩
      refine ⟨_, rfl, ?_⟩
      have e : enc n % 2 ^ 16 = enc n := Nat.mod_eq_of_lt (enc_lt hn)
      rw [e]
      exact k

abbrev s_law_walk_one : Stmt := top 60
theorem sc_law_walk_one : FnScope ["state", "chart", "leg"] ["state", "chart"] (defScope s_law_walk_one) := ⟨rfl, rfl, rfl, by decide +kernel, rfl, by decide +kernel, by decide +kernel⟩
theorem ok_law_walk_one {f : Addr} {fd : FuncData}  (F : Fun K "_law_walk_one" "_law_walk_one" s_law_walk_one f fd) (T : TxtA mg)
    (D_law_pick : Def P w K mg base 2 "_law_pick" ["state", "things"] (spPick K)) : FnOk P w K mg base CX0 3 f fd ["state", "chart"] (spWalk1 K) := by
  refine F.ok sc_law_walk_one (fun vs H Q E h => ?_) (fun cdv A outer s H vs Q E hr h => ?_)
  · obtain ⟨_, _, _, _, rfl, _⟩ := h
    rfl
  · obtain ⟨d, c, ch, D, rfl, S, C0, n1, n2, ne, k⟩ := h
    have hu := hu_of hr
    refine ⟨_, (pss_cons (ps_set (i := 2) sc_law_walk_one.nd rfl (Or.inl rfl) (pe_def D_law_pick (hr.mono (by decide)) (by rfl) (pa_cons (pv 0) (pa_cons (pe_dget hu (pv 1) pe_str (fun _ _ => rfl)) pa_nil))))
    (pss_one (ps_ret (pe_tup (pa_cons (pe_ix (r := rIxT K) ix_tup (pv 2) pe_int (fun _ _ => rfl)) (pa_cons (pe_ix (r := rIxT K) ix_tup (pv 2) pe_int (fun _ _ => rfl)) pa_nil)))))), ?_⟩
    rw [show L2.start ["state", "chart", "leg"] [V.ref d, V.ref ch] = [some (V.ref d), some (V.ref ch), none] from rfl]
    refine ⟨_, rfl, _, rfl, _, _, rfl, C0.gl, d, c, _, _, rfl, S, .inl (.inl C0.lg), (fun z => ne (List.map_eq_nil_iff.mp z)), (by rw [List.length_map]; exact Nat.le_trans C0.n (by decide)), fun v H1 hv S1 kp1 => ?_⟩
    obtain ⟨l, hl, rfl⟩ := List.mem_map.mp hv
    refine nm ?_
    dsimp only [List.set]
    have ht := kp1.t S (C0.lt l hl)
    refine ⟨_, rfl, _, _, _, _, rfl, rfl, .inl (.inl ht), rfl, _, rfl, _, _, _, _, rfl, rfl, .inl (.inl ht), rfl, szOk rfl, fun q hq => ?_⟩
    refine k [l.s, l.e] q _ ⟨Nat.le_refl 2, (by show 2 ≤ 20; decide), ?_⟩ rfl (kp1.none (S1.nd hq) hq) upd_same (S1.new hq) (kp1.trans (Keep.of (same_new hq)))
    intro j hj
    obtain rfl : j = 0 := by simp at hj; omega
    exact CD.leg_some hl

abbrev s_law_station : Stmt := top 56
theorem sc_law_station : FnScope ["state", "rules", "wide", "error", "low_x", "low_y", "estimate", "station", "count", "k", "true", "move", "plot", "gone", "frame"] ["state", "rules"] (defScope s_law_station) := ⟨rfl, rfl, rfl, by decide +kernel, rfl, by decide +kernel, by decide +kernel⟩
theorem ok_law_station {f : Addr} {fd : FuncData}  (F : Fun K "_law_station" "_law_station" s_law_station f fd) (T : TxtA mg)
    (D_law_draw : Def P w K mg base 1 "_law_draw" ["state", "bound"] (spDraw K))
    (D_law_pick : Def P w K mg base 2 "_law_pick" ["state", "things"] (spPick K))
    (D_law_vector : Def P w K mg base 2 "_law_vector" ["state", "radius"] (spVectorR K))
    (D_law_frame : Def P w K mg base 1 "_law_frame" ["plot", "count"] (spFrame))
    (D_law_noise : Def P w K mg base 2 "_law_noise" ["state"] (spNoise K))
    (D_law_code : Def P w K mg base 1 "_law_code" ["number"] (spCodeL)) : FnOk P w K mg base CX0 3 f fd ["state", "rules"] (spStation K) := by
  refine F.ok sc_law_station (fun vs H Q E h => ?_) (fun cdv A outer s H vs Q E hr h => ?_)
  · obtain ⟨_, _, _, _, rfl, _⟩ := h
    rfl
  · obtain ⟨d, c, ru, g, rfl, S, RR, g0, g1, nru, k⟩ := h
    have hu := hu_of hr
    refine ⟨_, (pss_cons (ps_set (i := 2) sc_law_station.nd rfl (Or.inl rfl) (pe_def D_law_pick (hr.mono (by decide)) (by rfl) (pa_cons (pv 0) (pa_cons (pe_lst (pa_cons pe_int (pa_cons pe_int (pa_cons pe_int (pa_cons pe_int pa_nil))))) pa_nil))))
    (pss_cons (ps_set (i := 3) sc_law_station.nd rfl (Or.inl rfl) (pe_def D_law_draw (hr.mono (by decide)) (by rfl) (pa_cons (pv 0) (pa_cons (pe_op op_add (pe_dget hu (pv 1) pe_str (fun _ _ => rfl)) pe_int) pa_nil))))
    (pss_cons (ps_set (i := 4) sc_law_station.nd rfl (Or.inl rfl) (pe_op op_sub (pe_def D_law_draw (hr.mono (by decide)) (by rfl) (pa_cons (pv 0) (pa_cons pe_int pa_nil))) pe_int))
    (pss_cons (ps_set (i := 5) sc_law_station.nd rfl (Or.inl rfl) (pe_op op_sub (pe_def D_law_draw (hr.mono (by decide)) (by rfl) (pa_cons (pv 0) (pa_cons pe_int pa_nil))) pe_int))
    (pss_cons (ps_set (i := 6) sc_law_station.nd rfl (Or.inl rfl) (pe_tup (pa_cons (pv 4) (pa_cons (pe_op op_add (pv 4) (pe_def D_law_draw (hr.mono (by decide)) (by rfl) (pa_cons (pv 0) (pa_cons (pv 2) pa_nil)))) (pa_cons (pv 5) (pa_cons (pe_op op_add (pv 5) (pe_def D_law_draw (hr.mono (by decide)) (by rfl) (pa_cons (pv 0) (pa_cons (pv 2) pa_nil)))) pa_nil))))))
    (pss_cons (ps_set (i := 7) sc_law_station.nd rfl (Or.inl rfl) (pe_disp (pps_cons pe_str (pv 3) (pps_cons pe_str (pv 6) (pps_cons pe_str (pe_lst pa_nil) (pps_cons pe_str (pe_lst pa_nil) (pps_cons pe_str pe_int (pps_cons pe_str pe_int (pps_cons pe_str pe_int pps_nil))))))) (by rfl) (by rfl) (fun z => by cases z) (by decide)))
    (pss_cons (ps_dput hu (pv 7) pe_str (pe_tup (pa_cons (pe_op op_add (pv 4) (pe_def D_law_draw (hr.mono (by decide)) (by rfl) (pa_cons (pv 0) (pa_cons (pe_op op_add (pe_op op_sub (pe_ix (r := rIxT K) ix_tup (pv 6) pe_int (fun _ _ => rfl)) (pv 4)) pe_int) pa_nil)))) (pa_cons (pe_op op_add (pv 5) (pe_def D_law_draw (hr.mono (by decide)) (by rfl) (pa_cons (pv 0) (pa_cons (pe_op op_add (pe_op op_sub (pe_ix (r := rIxT K) ix_tup (pv 6) pe_int (fun _ _ => rfl)) (pv 5)) pe_int) pa_nil)))) pa_nil))) rfl)
    (pss_cons (ps_set (i := 8) sc_law_station.nd rfl (Or.inl rfl) (pe_def D_law_draw (hr.mono (by decide)) (by rfl) (pa_cons (pv 0) (pa_cons pe_int pa_nil))))
    (pss_cons (ps_for PassesOwn.never rfl (pi_range1 (by rfl) T.range (pa_cons (pe_def D_law_draw (hr.mono (by decide)) (by rfl) (pa_cons (pv 0) (pa_cons pe_int pa_nil))) pa_nil)) (pg_name (i := 9) sc_law_station.nd rfl (Or.inl rfl))
      (pss_cons (ps_set (i := 10) sc_law_station.nd rfl (Or.inl rfl) (pe_tup (pa_cons (pe_op op_sub (pe_def D_law_draw (hr.mono (by decide)) (by rfl) (pa_cons (pv 0) (pa_cons pe_int pa_nil))) pe_int) (pa_cons (pe_op op_sub (pe_def D_law_draw (hr.mono (by decide)) (by rfl) (pa_cons (pv 0) (pa_cons pe_int pa_nil))) pe_int) (pa_cons (pe_op op_sub (pe_def D_law_draw (hr.mono (by decide)) (by rfl) (pa_cons (pv 0) (pa_cons pe_int pa_nil))) pe_int) pa_nil)))))
    (pss_cons (ps_set (i := 11) sc_law_station.nd rfl (Or.inl rfl) (pe_def D_law_vector (hr.mono (by decide)) (by rfl) (pa_cons (pv 0) (pa_cons (pv 3) pa_nil))))
    (pss_cons (ps_set (i := 12) sc_law_station.nd rfl (Or.inl rfl) (pe_tup (pa_cons (pe_op op_add (pe_op op_add (pe_ix (r := rIxT K) ix_tup (pv 10) pe_int (fun _ _ => rfl)) (pe_ix (r := rIxT K) ix_tup (pv 11) pe_int (fun _ _ => rfl))) (pe_ix (r := rIxT K) ix_tup (pe_dget hu (pv 7) pe_str (fun _ _ => rfl)) pe_int (fun _ _ => rfl))) (pa_cons (pe_op op_add (pe_op op_add (pe_ix (r := rIxT K) ix_tup (pv 10) pe_int (fun _ _ => rfl)) (pe_ix (r := rIxT K) ix_tup (pv 11) pe_int (fun _ _ => rfl))) (pe_ix (r := rIxT K) ix_tup (pe_dget hu (pv 7) pe_str (fun _ _ => rfl)) pe_int (fun _ _ => rfl))) pa_nil))))
    (pss_cons (ps_set (i := 13) sc_law_station.nd rfl (Or.inl rfl) (pe_def D_law_pick (hr.mono (by decide)) (by rfl) (pa_cons (pv 0) (pa_cons (pe_lst (pa_cons pe_int (pa_cons pe_int (pa_cons pe_int (pa_cons pe_int (pa_cons pe_int (pa_cons pe_int pa_nil))))))) pa_nil))))
    (pss_cons (ps_if (pt_cmpR op_gt (pv 9) pe_int (nomark _)) (pss_one (ps_dput hu (pv 7) pe_str (pe_op op_add (pe_dget hu (pv 7) pe_str (fun _ _ => rfl)) (pv 13)) rfl))
      pss_nil)
    (pss_cons (ps_set (i := 8) sc_law_station.nd rfl (Or.inl rfl) (pe_op op_mod (pe_callTy call_int1 (by rfl) T.int boot_int (pa_cons (pe_op op_add (pe_op op_add (pv 8) pe_int) (pv 13)) pa_nil)) pe_int))
    (pss_cons (ps_set (i := 14) sc_law_station.nd rfl (Or.inl rfl) (pe_def D_law_frame (hr.mono (by decide)) (by rfl) (pa_cons (pe_tup (pa_cons (pe_ix (r := rIxT K) ix_tup (pv 12) pe_int (fun _ _ => rfl)) (pa_cons (pe_ix (r := rIxT K) ix_tup (pv 12) pe_int (fun _ _ => rfl)) (pa_cons (pe_op op_sub (pe_def D_law_code (hr.mono (by decide)) (by rfl) (pa_cons (pe_op op_add (pe_ix (r := rIxT K) ix_tup (pv 10) pe_int (fun _ _ => rfl)) pe_int) pa_nil)) pe_int) pa_nil)))) (pa_cons (pv 8) pa_nil))))
    (pss_cons (ps_dput hu (pv 7) pe_str (pe_op op_cat (pe_op op_cat (pe_dget hu (pv 7) pe_str (fun _ _ => rfl)) (pe_def D_law_noise (hr.mono (by decide)) (by rfl) (pa_cons (pv 0) pa_nil))) (pv 14)) rfl)
    (pss_one (ps_expr (pe_bm PySem.F.plainAttrs_list PySem.F.slot_list_append PySem.F.type_list_append mt_append (pe_dget hu (pv 7) pe_str (fun _ _ => rfl)) (pa_cons (pe_tup (pa_cons (pv 10) (pa_cons (pv 12) (pa_cons (pe_callB (r := rLenK K) call_len_seq (by rfl) T.len boot_len (pa_cons (pe_dget hu (pv 7) pe_str (fun _ _ => rfl)) pa_nil)) pa_nil)))) pa_nil)))))))))))))
    (pss_cons (ps_dput hu (pv 7) pe_str (pe_op op_cat (pe_dget hu (pv 7) pe_str (fun _ _ => rfl)) (pe_def D_law_noise (hr.mono (by decide)) (by rfl) (pa_cons (pv 0) pa_nil))) rfl)
    (pss_one (ps_ret (pv 7))))))))))))), ?_⟩
    rw [show L2.start ["state", "rules", "wide", "error", "low_x", "low_y", "estimate", "station", "count", "k", "true", "move", "plot", "gone", "frame"] [V.ref d, V.ref ru] = [some (V.ref d), some (V.ref ru), none, none, none, none, none, none, none, none, none, none, none, none, none] from rfl]
    refine ⟨_, rfl, szOk rfl, fun t1 ht1 => ?_⟩
    refine ⟨d, c, _, _, rfl, S.new ht1, .inl (.inl upd_same), (fun z => nomatch z), (by show 4 ≤ 1000; decide), fun v1 H1 hv1 S1 kp1 => ?_⟩
    obtain ⟨wd, rfl, wda, wdb⟩ : ∃ z : Int, v1 = .int z ∧ 1 ≤ z ∧ z ≤ 200 := by
      simp only [List.mem_cons, List.not_mem_nil, or_false] at hv1
      rcases hv1 with rfl | rfl | rfl | rfl <;> exact ⟨_, rfl, by decide, by decide⟩
    have K1 : Keep d H H1 := (Keep.of (same_new ht1)).trans kp1
    refine nm ?_
    dsimp only [List.set]
    have RR1 := RR.keep K1 nru
    refine ⟨_, rfl, _, rfl, _, _, rfl, RR1.g, _, _, rfl, rfl, d, c, g + 1, rfl, S1, (by omega), (by omega), fun x2 H2 x2a x2b S2 kp2 => ?_⟩
    have K2 := K1.trans kp2
    refine nm ?_
    dsimp only [List.set]
    refine ⟨_, rfl, d, c, 400, rfl, S2, (by omega), (by omega), fun x3 H3 x3a x3b S3 kp3 => ?_⟩
    have K3 := K2.trans kp3
    refine ⟨_, _, rfl, rfl, ?_⟩
    refine nm ?_
    dsimp only [List.set]
    refine ⟨_, rfl, d, c, 400, rfl, S3, (by omega), (by omega), fun x4 H4 x4a x4b S4 kp4 => ?_⟩
    have K4 := K3.trans kp4
    refine ⟨_, _, rfl, rfl, ?_⟩
    refine nm ?_
    dsimp only [List.set]
    have lx0 : -200 ≤ x3 - 200 ∧ x3 - 200 ≤ 200 := by omega
    have ly0 : -200 ≤ x4 - 200 ∧ x4 - 200 ≤ 200 := by omega
    generalize x3 - 200 = lx at lx0 ⊢
    generalize x4 - 200 = ly at ly0 ⊢
    refine ⟨_, rfl, _, rfl, _, rfl, _, rfl, d, c, wd, rfl, S4, (by omega), (by omega), fun x5 H5 x5a x5b S5 kp5 => ?_⟩
    have K5 := K4.trans kp5
    refine ⟨_, _, rfl, rfl, _, rfl, _, rfl, _, rfl, _, rfl, d, c, wd, rfl, S5, (by omega), (by omega), fun x6 H6 x6a x6b S6 kp6 => ?_⟩
    have K6 := K5.trans kp6
    refine ⟨_, _, rfl, rfl, szOk rfl, fun es hes => ?_⟩
    have K7 := K6.trans (Keep.of (same_new (o := .tup [.int lx, .int (lx + x5), .int ly, .int (ly + x6)]) hes))
    have S7 := S6.new hes (o := .tup [.int lx, .int (lx + x5), .int ly, .int (ly + x6)])
    have he7 : (upd H6 es (.tup [.int lx, .int (lx + x5), .int ly, .int (ly + x6)])) es = some (.tup [.int lx, .int (lx + x5), .int ly, .int (ly + x6)]) := upd_same
    generalize upd H6 es (.tup [.int lx, .int (lx + x5), .int ly, .int (ly + x6)]) = H7 at K7 S7 he7 ⊢
    refine nm ?_
    dsimp only [List.set]
    refine fun st hst => ?_
    refine ⟨_, rfl, _, rfl, szOk rfl, fun sl hsl => ?_⟩
    refine ⟨szOk rfl, fun ml hml => ?_⟩
    have nss : st ≠ sl := fun z => by rw [← z, upd_same] at hsl; cases hsl
    have nsm : st ≠ ml := fun z => by rw [← z, upd_ne nss, upd_same] at hml; cases hml
    have nms : ml ≠ sl := fun z => by rw [z, upd_same] at hml; cases hml
    refine ⟨by rw [upd_ne nsm, upd_ne nss, upd_same], [(.inr "error", .int x2), (.inr "estimate", .ref es), (.inr "sent", .ref sl), (.inr "stream", .ref ml), (.inr "got", .int 0), (.inr "held", .int 0), (.inr "lost", .int 0)], rfl, (by show 7 ≤ 15; decide), ?_⟩
    have hsl7 : H7 sl = none := by rw [upd_ne nss.symm] at hsl; exact hsl
    have hml7 : H7 ml = none := by rw [upd_ne nms, upd_ne nsm.symm] at hml; exact hml
    have std := S7.nd hst
    have stc := S7.nc hst
    have st0 := K7.none std hst
    have sl0 := K7.none (S7.nd hsl7) hsl7
    have sld := S7.nd hsl7
    have slc := S7.nc hsl7
    have ml0 := K7.none (S7.nd hml7) hml7
    let s0 : Sn := ⟨x2, ⟨lx, lx + x5, ly, ly + x6⟩, [], [], 0, 0, 0, none⟩
    have S8 : St1 K (upd (upd (upd (upd H7 st (.dK [])) sl (.lst [])) ml (.lst [])) st (.dK (skv7 s0 es sl ml))) d c := (((S7.new hst).new hsl).new hml).put std stc
    have K8 : Keep d H (upd (upd (upd (upd H7 st (.dK [])) sl (.lst [])) ml (.lst [])) st (.dK (skv7 s0 es sl ml))) := keepU st0 (keepU ml0 (keepU sl0 (keepU st0 K7)))
    have hd8 : (upd (upd (upd (upd H7 st (.dK [])) sl (.lst [])) ml (.lst [])) st (.dK (skv7 s0 es sl ml))) st = some (.dK (skv7 s0 es sl ml)) := upd_same
    have hs8 : (upd (upd (upd (upd H7 st (.dK [])) sl (.lst [])) ml (.lst [])) st (.dK (skv7 s0 es sl ml))) sl = some (.lst []) := by rw [upd_ne nss.symm, upd_ne nms.symm, upd_same]
    have hm8 : (upd (upd (upd (upd H7 st (.dK [])) sl (.lst [])) ml (.lst [])) st (.dK (skv7 s0 es sl ml))) ml = some (.lst []) := by rw [upd_ne nsm.symm, upd_same]
    have he8 : (upd (upd (upd (upd H7 st (.dK [])) sl (.lst [])) ml (.lst [])) st (.dK (skv7 s0 es sl ml))) es = some (.tup s0.E.v) := by
      rw [upd_ne (ne_of_none he7 hst), upd_ne (ne_of_none he7 hml7), upd_ne (ne_of_none he7 hsl7), upd_ne (ne_of_none he7 hst)]; exact he7
    rw [show mergeK [] [((.inr "error" : Key), V.int x2), (.inr "estimate", .ref es), (.inr "sent", .ref sl), (.inr "stream", .ref ml), (.inr "got", .int 0), (.inr "held", .int 0), (.inr "lost", .int 0)] = skv7 s0 es sl ml from rfl]
    generalize upd (upd (upd (upd H7 st (.dK [])) sl (.lst [])) ml (.lst [])) st (.dK (skv7 s0 es sl ml)) = H8 at S8 K8 hd8 hs8 hm8 he8 ⊢
    refine nm ?_
    dsimp only [List.set]
    refine ⟨_, rfl, _, rfl, _, rfl, _, _, _, _, rfl, rfl, .inl (.inl he8), rfl, _, rfl, _, _, rfl, rfl, _, _, rfl, rfl, d, c, lx + x5 - lx + 1, rfl, S8, (by omega), (by omega), fun x9 H9 x9a x9b S9 kp9 => ?_⟩
    have K9 := K8.trans kp9
    have he9 := kp9.t S8 he8
    refine ⟨_, _, rfl, rfl, _, rfl, _, rfl, _, rfl, _, _, _, _, rfl, rfl, .inl (.inl he9), rfl, _, rfl, _, _, rfl, rfl, _, _, rfl, rfl, d, c, ly + x6 - ly + 1, rfl, S9, (by omega), (by omega), fun x10 H10 x10a x10b S10 kp10 => ?_⟩
    have K10 := K9.trans kp10
    have he10 := kp10.t S9 he9
    have hd10 := kp10 _ _ (kp9 _ _ hd8 std) std
    have hs10 := kp10.l S9 (kp9.l S8 hs8)
    have hm10 := kp10.l S9 (kp9.l S8 hm8)
    refine ⟨_, _, rfl, rfl, szOk rfl, fun of hof => ?_⟩
    dsimp only at hof ⊢
    have hox : lx ≤ lx + x9 ∧ lx + x9 ≤ lx + x5 := by omega
    have hoy : ly ≤ ly + x10 ∧ ly + x10 ≤ ly + x6 := by omega
    generalize lx + x9 = ox at hof hox ⊢
    generalize ly + x10 = oy at hof hoy ⊢
    have so := same_new (o := .tup [.int ox, .int oy]) hof
    refine ⟨_, rfl, _, _, rfl, p7_offset (so _ _ hd10) (.ref of), ?_⟩
    have S11 : St1 K (upd (upd H10 of (.tup [.int ox, .int oy])) st (.dK (skv s0 es sl ml (.ref of)))) d c := (S10.new hof).put std stc
    have K11 : Keep d H (upd (upd H10 of (.tup [.int ox, .int oy])) st (.dK (skv s0 es sl ml (.ref of)))) := keepU st0 (K10.trans (Keep.of so))
    have A11 : SnA (upd (upd H10 of (.tup [.int ox, .int oy])) st (.dK (skv s0 es sl ml (.ref of)))) st es sl ml (.ref of) { s0 with off := some (ox, oy) } := by
      have hso := so _ _ hd10
      have kt : ∀ a u, (upd H10 of (.tup [.int ox, .int oy])) a = some (.tup u) → (upd (upd H10 of (.tup [.int ox, .int oy])) st (.dK (skv s0 es sl ml (.ref of)))) a = some (.tup u) := fun a u e => by rw [upd_ne (ne_of e hso (by intro z; cases z))]; exact e
      have kl : ∀ a u, (upd H10 of (.tup [.int ox, .int oy])) a = some (.lst u) → (upd (upd H10 of (.tup [.int ox, .int oy])) st (.dK (skv s0 es sl ml (.ref of)))) a = some (.lst u) := fun a u e => by rw [upd_ne (ne_of e hso (by intro z; cases z))]; exact e
      exact ⟨upd_same, kt _ _ (so _ _ he10), SentAt.nil (kl _ _ (so _ _ hs10)), kl _ _ (so _ _ hm10), of, rfl, kt _ _ upd_same⟩
    have okE : EstOk ⟨lx, lx + x5, ly, ly + x6⟩ ox oy := ⟨hox.1, hox.2, hoy.1, hoy.2, by dsimp only; omega, by dsimp only; omega, by dsimp only; omega, by dsimp only; omega⟩
    generalize upd (upd H10 of (.tup [.int ox, .int oy])) st (.dK (skv s0 es sl ml (.ref of))) = H11 at S11 K11 A11 ⊢
    clear hd10 hs10 hm10 he10 he9 hd8 hs8 hm8 he8 he7 K1 K2 K3 K4 K5 K6 K7 K8 K9 K10 so
    have A11 : SnA H11 st es sl ml (.ref of) ⟨x2, ⟨lx, lx + x5, ly, ly + x6⟩, [], [], 0, 0, 0, some (ox, oy)⟩ := A11
    generalize Est.mk lx (lx + x5) ly (ly + x6) = E0 at A11 okE
    refine ⟨_, rfl, d, c, 256, rfl, S11, (by omega), (by omega), fun x12 H12 x12a x12b S12 kp12 => ?_⟩
    refine nm ?_
    dsimp only [List.set]
    have A12 := A11.keep S11 kp12 std
    have K12 := K11.trans kp12
    refine ⟨_, rfl, d, c, 11, rfl, S12, (by omega), (by omega), fun x13 H13 x13a x13b S13 kp13 => ?_⟩
    have A13 := A12.keep S12 kp13 std
    have K13 := K12.trans kp13
    refine ⟨x13, rfl, by omega, by omega, for_range (n := x13.toNat) (fun i σ G => ∃ (ts : List Snt) (ms : List Int) (ml : Addr) (cnt lost : Int) (v9 v10 v11 v12 v13 v14 : Option V), σ = [some (.ref d), some (.ref ru), some (.int wd), some (.int x2), some (.int lx), some (.int ly), some (.ref es), some (.ref st), some (.int cnt), v9, v10, v11, v12, v13, v14] ∧
      SnA G st es sl ml (.ref of) ⟨x2, E0, ts, ms, 0, 0, lost, some (ox, oy)⟩ ∧ ml ≠ sl ∧ Strm ms (ts.map fun t => (t.fr, t.at_)) ∧ ms.length ≤ 23 * i ∧ ts.length = i ∧ (∀ t ∈ ts, t.Ok x2 ox oy) ∧ (∀ t ∈ ts, t.px.natAbs < 2 ^ 60 ∧ t.py.natAbs < 2 ^ 60 ∧ t.tx.natAbs < 2 ^ 60 ∧ t.ty.natAbs < 2 ^ 60) ∧ 0 ≤ cnt ∧ cnt < 256 ∧
      notes (none, 0) (ts.map (·.c)) = (if i = 0 then none else some cnt, lost) ∧ St1 K G d c ∧ Keep d H G)
      ⟨[], [], ml, x12, 0, none, none, none, none, none, none, rfl, A13, nms, Strm.nil, Nat.le_refl _, rfl, (fun _ h => nomatch h), (fun _ h => nomatch h), x12a, x12b, rfl, S13, K13⟩ ?_ ?_⟩
    rotate_left
    · rintro σ G ⟨ts, ms, ml2, cnt, lost, v9, v10, v11, v12, v13, v14, rfl, A, nm2, SS, hml2, hts, hok, hbd, c0, c1, hnt, SG, KG⟩
      have hlen := x13b
      refine ⟨_, rfl, _, _, rfl, A.g_stream, _, rfl, d, c, rfl, SG, fun p ns G1 hp npd npc hpn hnl hnb hn170 SG1 kpG1 => ?_⟩
      have A1 := A.keep SG kpG1 std
      refine ⟨_, _, _, _, rfl, rfl, A1.m, hpn, Nat.le_of_lt (small1000 (by rw [List.length_map, List.length_map]; dsimp only; omega)), fun q hq => ?_⟩
      have sq := same_new (o := .lst ((ms.map V.int) ++ ns.map V.int)) hq
      have A2 := A1.same sq
      refine ⟨_, rfl, _, _, rfl, SnA.p_stream A2.d q, ?_⟩
      refine ⟨_, rfl, ?_⟩
      have hqm : (upd G1 q (.lst ((ms.map V.int) ++ ns.map V.int))) q = some (.lst ((ms ++ ns).map V.int)) := by rw [upd_same, List.map_append]
      have A3 := A2.strm hqm
      refine k st es sl q (.ref of) _ _ st0 sl0 ((KG.trans kpG1).none (SG1.nd hq) hq) A3 ⟨⟨ms, ns, rfl, SS, hnb, hn170⟩, ?_, Nat.zero_le _, x2a, by dsimp only; omega, by dsimp only; omega, by dsimp only; rw [hnt], fun t ht => (hok t ht).z, hbd, fun o e => by cases e; exact ⟨okE, hok⟩⟩ rfl rfl (fun z => nomatch z) ((SG1.new hq).put std stc) (keepU st0 ((KG.trans kpG1).trans (Keep.of sq)))
      dsimp only
      rw [List.length_append]
      omega
    rintro i σ G hi ⟨ts, ms, ml2, cnt, lost, v9, v10, v11, v12, v13, v14, rfl, A, nm2, SS, hml2, hts, hok, hbd, c0, c1, hnt, SG, KG⟩
    refine nm ?_
    dsimp only [List.set]
    refine ⟨_, rfl, d, c, 10001, rfl, SG, (by omega), (by omega), fun x1 G1 x1a x1b S1 kp1 => ?_⟩
    refine ⟨_, _, rfl, rfl, _, rfl, d, c, 10001, rfl, S1, (by omega), (by omega), fun x2_ G2 x2_a x2_b S2 kp2 => ?_⟩
    refine ⟨_, _, rfl, rfl, _, rfl, d, c, 61000, rfl, S2, (by omega), (by omega), fun x3 G3 x3a x3b S3 kp3 => ?_⟩
    refine ⟨_, _, rfl, rfl, szOk rfl, fun tr htr => ?_⟩
    dsimp only at htr ⊢
    have hx : -5000 ≤ x1 - 5000 ∧ x1 - 5000 ≤ 5000 := by omega
    have hy : -5000 ≤ x2_ - 5000 ∧ x2_ - 5000 ≤ 5000 := by omega
    have hz : -1000 ≤ x3 - 1000 ∧ x3 - 1000 ≤ 59999 := by omega
    generalize x1 - 5000 = tx at htr hx ⊢
    generalize x2_ - 5000 = ty at htr hy ⊢
    generalize x3 - 1000 = tz at htr hz ⊢
    have A3 := ((A.keep SG kp1 std).keep S1 kp2 std).keep S2 kp3 std
    have K3 := ((KG.trans kp1).trans kp2).trans kp3
    have s4 := same_new (o := .tup [.int tx, .int ty, .int tz]) htr
    have A4 := A3.same s4
    have S4 := S3.new htr (o := .tup [.int tx, .int ty, .int tz])
    have K4 := K3.trans (Keep.of s4)
    have htr4 : (upd G3 tr (.tup [.int tx, .int ty, .int tz])) tr = some (.tup [.int tx, .int ty, .int tz]) := upd_same
    generalize upd G3 tr (.tup [.int tx, .int ty, .int tz]) = G4 at A4 S4 K4 htr4 ⊢
    refine nm ?_
    dsimp only [List.set]
    refine ⟨_, rfl, _, rfl, d, c, x2, rfl, S4, x2a, by omega, fun mvv mx my G5 hmv0 hmv mx0 mx1 my0 my1 mm S5 kp5 => ?_⟩
    have A5 := A4.keep S4 kp5 std
    have K5 := K4.trans kp5
    have htr5 := kp5.t S4 htr4
    refine nm ?_
    dsimp only [List.set]
    obtain ⟨q5, eq5, hof5⟩ := id A5.o
    cases eq5
    refine ⟨_, rfl, _, _, _, _, rfl, rfl, .inl (.inl htr5), rfl, _, rfl, _, _, _, _, rfl, rfl, .inl (.inl hmv), rfl, _, _, rfl, rfl, _, rfl, _, _, rfl, A5.g_offset, _, _, _, _, rfl, rfl, .inl (.inl hof5), rfl, _, _, rfl, rfl, _, rfl, _, _, _, _, rfl, rfl, .inl (.inl htr5), rfl, _, rfl, _, _, _, _, rfl, rfl, .inl (.inl hmv), rfl, _, _, rfl, rfl, _, rfl, _, _, rfl, A5.g_offset, _, _, _, _, rfl, rfl, .inl (.inl hof5), rfl, _, _, rfl, rfl, szOk rfl, fun pl hpl => ?_⟩
    dsimp only at hpl ⊢
    obtain ⟨px, epx⟩ : ∃ px, tx + mx + ox = px := ⟨_, rfl⟩
    obtain ⟨py, epy⟩ : ∃ py, ty + my + oy = py := ⟨_, rfl⟩
    rw [epx, epy]
    have okx := okE.x0
    have okx1 := okE.x1
    have oky := okE.y0
    have oky1 := okE.y1
    have ok1 := okE.bx0
    have ok2 := okE.bx1
    have ok3 := okE.by0
    have ok4 := okE.by1
    have s6 := same_new (o := .tup [.int px, .int py]) hpl
    have A6 := A5.same s6
    have S6 := S5.new hpl (o := .tup [.int px, .int py])
    have K6 := K5.trans (Keep.of s6)
    have htr6 := s6 _ _ htr5
    have hpl6 : (upd G5 pl (.tup [.int px, .int py])) pl = some (.tup [.int px, .int py]) := upd_same
    generalize upd G5 pl (.tup [.int px, .int py]) = G6 at A6 S6 K6 htr6 hpl6 ⊢
    refine nm ?_
    dsimp only [List.set]
    refine ⟨_, rfl, szOk rfl, fun t2 ht2 => ?_⟩
    refine ⟨d, c, _, _, rfl, S6.new ht2, .inl (.inl upd_same), (fun z => nomatch z), (by show 6 ≤ 1000; decide), fun v7 G7 hv7 S7 kp7 => ?_⟩
    obtain ⟨go, rfl, goa, gob⟩ : ∃ z : Int, v7 = .int z ∧ 0 ≤ z ∧ z ≤ 255 := by
      simp only [List.mem_cons, List.not_mem_nil, or_false] at hv7
      rcases hv7 with rfl | rfl | rfl | rfl | rfl | rfl <;> exact ⟨_, rfl, by decide, by decide⟩
    have s67 := same_new (o := .lst [.int 0, .int 0, .int 0, .int 1, .int 7, .int 255]) ht2
    have A7 := (A6.same s67).keep (S6.new ht2) kp7 std
    have K7 := (K6.trans (Keep.of s67)).trans kp7
    have htr7 := kp7.t (S6.new ht2) (s67 _ _ htr6)
    have hpl7 := kp7.t (S6.new ht2) (s67 _ _ hpl6)
    refine nm ?_
    dsimp only [List.set]
    refine cut (t := tIfS _ _ _) (fun σ' G' => ∃ lost', σ' = [some (.ref d), some (.ref ru), some (.int wd), some (.int x2), some (.int lx), some (.int ly), some (.ref es), some (.ref st), some (.int cnt), some (.int (0 + (i : Int))), some (.ref tr), some (.ref mvv), some (.ref pl), some (.int go), v14] ∧ (lost' = if i = 0 then lost else lost + go) ∧
      SnA G' st es sl ml2 (.ref of) ⟨x2, E0, ts, ms, 0, 0, lost', some (ox, oy)⟩ ∧ St1 K G' d c ∧ Keep d H G' ∧ G' tr = some (.tup [.int tx, .int ty, .int tz]) ∧ G' pl = some (.tup [.int px, .int py])) ?_ (fun rest => ?_)
    rotate_left
    · refine ⟨_, rfl, _, _, rfl, rfl, _, rfl, ite2 (fun e => ?_) (fun e => ?_)⟩
      · have e := of_decide_eq_true e
        refine ⟨_, rfl, _, _, rfl, A7.g_lost, _, rfl, _, _, rfl, rfl, _, rfl, _, _, rfl, SnA.p_lost A7.d (lost + go), ?_⟩
        exact rest _ _ ⟨lost + go, rfl, by rw [if_neg (by omega)], A7.put rfl rfl rfl rfl, S7.put std stc, keepU st0 K7, by rw [upd_ne (ne_of htr7 A7.d (by intro z; cases z))]; exact htr7, by rw [upd_ne (ne_of hpl7 A7.d (by intro z; cases z))]; exact hpl7⟩
      · have e : ¬ (0 : Int) < 0 + (i : Int) := fun z => e (decide_eq_true z)
        exact rest _ _ ⟨lost, rfl, by rw [if_pos (by omega)], A7, S7, K7, htr7, hpl7⟩
    clear A3 A4 A5 A6 A7 K3 K4 K5 K6 K7 htr4 htr5 htr6 htr7 hpl6 hpl7 S1 S2 S3 S4 S5 S6 S7 hof5
    rintro σ' G7 ⟨lost', rfl, elost, A7, S7, K7, htr7, hpl7⟩
    refine ⟨_, rfl, _, _, rfl, rfl, _, rfl, _, _, rfl, rfl, .inl ⟨_, rfl, _, _, rfl, rfl, (by show (0 : Int) < 256; decide), ?_⟩⟩
    refine nm ?_
    dsimp only [List.set]
    have hcn0 : 0 ≤ (cnt + 1 + go) % 256 := Int.emod_nonneg _ (by decide)
    have hcn1 : (cnt + 1 + go) % 256 < 256 := Int.emod_lt_of_pos _ (by decide)
    have hcn2 : ((cnt + 1 + go) % 256 - cnt - 1) % 256 = go := by omega
    generalize (cnt + 1 + go) % 256 = cn at hcn0 hcn1 hcn2 ⊢
    obtain ⟨m, em⟩ : ∃ m : Nat, (tz + 1000).toNat = m := ⟨_, rfl⟩
    have em2 : tz + 1000 = (m : Int) := by omega
    have hm16 : m < 2 ^ 16 := by
      show m < 65536
      omega
    have he16 := enc_lt hm16
    have he16' : enc m < 65536 := he16
    refine ⟨_, rfl, _, _, _, _, rfl, rfl, .inl (.inl hpl7), rfl, _, rfl, _, _, _, _, rfl, rfl, .inl (.inl hpl7), rfl, _, rfl, _, _, _, _, rfl, rfl, .inl (.inl htr7), rfl, _, _, rfl, rfl, m, ?_, hm16, ?_⟩
    · show [V.int (tz + 1000)] = [V.int (m : Int)]
      rw [em2]
    refine ⟨_, _, rfl, rfl, szOk rfl, fun fp hfp => ?_⟩
    have s8 := same_new (o := .tup [.int px, .int py, .int ((enc m : Int) - 32768)]) hfp
    obtain ⟨t, et⟩ : ∃ t : Snt, t = ⟨tx, ty, tz, px, py, 0, cn⟩ := ⟨_, rfl⟩
    have efr : t.fr = ⟨px, py, (enc m : Int) - 32768, cn⟩ := by
      rw [et]
      unfold Snt.fr
      dsimp only
      rw [em]
    have fok : t.fr.Ok := by
      rw [efr]
      exact ⟨by dsimp only; omega, by dsimp only; omega, by dsimp only; omega, by dsimp only; omega, by dsimp only; omega, by dsimp only; omega, hcn0, hcn1⟩
    refine ⟨_, rfl, fp, t.fr, by rw [efr]; rfl, by rw [efr]; exact upd_same, fok, fun fl G8 hfl s9 hfl8 => ?_⟩
    have s89 := s8.trans s9
    have A8 := A7.same s89
    have S8 := S7.same s89
    have K8 := K7.trans (Keep.of s89)
    have htr8 := s89 _ _ htr7
    have hpl8 := s89 _ _ hpl7
    refine nm ?_
    dsimp only [List.set]
    refine ⟨_, rfl, _, _, rfl, A8.g_stream, _, rfl, d, c, rfl, S8, fun p ns G9 hp npd npc hpn hnl hnb hn170 S9 kp9 => ?_⟩
    have A9 := A8.keep S8 kp9 std
    have K9 := K8.trans kp9
    have hfl9 := kp9.l S8 hfl8
    refine ⟨_, _, _, _, rfl, rfl, A9.m, hpn, Nat.le_of_lt (small1000 (by rw [List.length_map, List.length_map]; dsimp only; omega)), fun q1 hq1 => ?_⟩
    have sq1 := same_new (o := .lst (ms.map V.int ++ ns.map V.int)) hq1
    refine ⟨_, rfl, _, _, _, _, rfl, rfl, upd_same, sq1 _ _ hfl9, Nat.le_of_lt (small1000 (by rw [List.length_append, List.length_map, List.length_map, List.length_map, fr_len]; dsimp only; omega)), fun q2 hq2 => ?_⟩
    have sq2 := same_new (o := .lst ((ms.map V.int ++ ns.map V.int) ++ (fr t.fr).map V.int)) hq2
    have sqq := sq1.trans sq2
    have A10 := A9.same sqq
    have S10 := S9.same sqq
    have K10 := K9.trans (Keep.of sqq)
    have htr10 := sqq _ _ (kp9.t S8 htr8)
    have hpl10 := sqq _ _ (kp9.t S8 hpl8)
    have hq2m : (upd (upd G9 q1 (.lst (ms.map V.int ++ ns.map V.int))) q2 (.lst ((ms.map V.int ++ ns.map V.int) ++ (fr t.fr).map V.int))) q2 = some (.lst ((ms ++ ns ++ fr t.fr).map V.int)) := by rw [upd_same, List.map_append, List.map_append]
    have nq2 : q2 ≠ sl := by
      obtain ⟨ys, hy, _⟩ := A9.sn.li
      exact (ne_of_none (sq1 _ _ hy) hq2).symm
    dsimp only
    generalize upd (upd G9 q1 (.lst (ms.map V.int ++ ns.map V.int))) q2 (.lst ((ms.map V.int ++ ns.map V.int) ++ (fr t.fr).map V.int)) = G10 at A10 S10 K10 htr10 hpl10 hq2m ⊢
    refine ⟨_, rfl, _, _, rfl, SnA.p_stream A10.d q2, ?_⟩
    have A11' := A10.strm hq2m
    have S11' := S10.put std stc (o := .dK (skv ⟨x2, E0, ts, ms, 0, 0, lost', some (ox, oy)⟩ es sl q2 (.ref of)))
    have K11' := keepU (o := .dK (skv ⟨x2, E0, ts, ms, 0, 0, lost', some (ox, oy)⟩ es sl q2 (.ref of))) st0 K10
    have htr11 : (upd G10 st (.dK (skv ⟨x2, E0, ts, ms, 0, 0, lost', some (ox, oy)⟩ es sl q2 (.ref of)))) tr = some (.tup [.int tx, .int ty, .int tz]) := by rw [upd_ne (ne_of htr10 A10.d (by intro z; cases z))]; exact htr10
    have hpl11 : (upd G10 st (.dK (skv ⟨x2, E0, ts, ms, 0, 0, lost', some (ox, oy)⟩ es sl q2 (.ref of)))) pl = some (.tup [.int px, .int py]) := by rw [upd_ne (ne_of hpl10 A10.d (by intro z; cases z))]; exact hpl10
    generalize upd G10 st (.dK (skv ⟨x2, E0, ts, ms, 0, 0, lost', some (ox, oy)⟩ es sl q2 (.ref of))) = G11 at A11' S11' K11' htr11 hpl11 ⊢
    obtain ⟨ys, hy, hyl⟩ := A11'.sn.li
    dsimp only at hyl
    refine ⟨_, rfl, _, _, rfl, A11'.g_sent, (.inl ⟨rfl, _, .inl (.inl hy)⟩), _, rfl, _, rfl, _, rfl, _, _, rfl, A11'.g_stream, _, _, rfl, (.inl (.inl (.inl A11'.m))), szOk rfl, fun u hu => ?_⟩
    have su := same_new (o := .tup [.ref tr, .ref pl, .int (((ms ++ ns ++ fr t.fr).map V.int).length : Int)]) hu
    refine ⟨_, _, _, rfl, rfl, su _ _ hy, small1000 (by rw [hyl]; omega), ?_⟩
    let t' : Snt := { t with at_ := (ms ++ ns ++ fr t.fr).length }
    have A12' := (A11'.same su).sent (p := u) (a := tr) (b := pl) (t := t') nq2 (su _ _ hy) (by rw [upd_same, List.length_map]) (by rw [show t'.tv = [.int tx, .int ty, .int tz] by show [V.int t.tx, .int t.ty, .int t.tz] = _; rw [et]]; exact su _ _ htr11) (by rw [show t'.pv = [.int px, .int py] by show [V.int t.px, .int t.py] = _; rw [et]]; exact su _ _ hpl11)
    have tok : t'.Ok x2 ox oy := ⟨⟨mx, my, by show t.px = t.tx + mx + ox; rw [et]; exact epx.symm, by show t.py = t.ty + my + oy; rw [et]; exact epy.symm, mm⟩, by show -1000 ≤ t.tz; rw [et]; exact hz.1⟩
    have tbd : t'.px.natAbs < 2 ^ 60 ∧ t'.py.natAbs < 2 ^ 60 ∧ t'.tx.natAbs < 2 ^ 60 ∧ t'.ty.natAbs < 2 ^ 60 := by
      show t.px.natAbs < 1152921504606846976 ∧ t.py.natAbs < 1152921504606846976 ∧ t.tx.natAbs < 1152921504606846976 ∧ t.ty.natAbs < 1152921504606846976
      rw [et]
      dsimp only
      omega
    have tc : t'.c = cn := by show t.c = cn; rw [et]
    refine ⟨ts ++ [t'], ms ++ ns ++ fr t.fr, q2, cn, lost', _, _, _, _, _, _, rfl, A12', nq2, ?_, ?_, by rw [List.length_append, hts]; rfl, ?_, ?_, hcn0, hcn1, ?_, (S11'.new hu).put sld slc, keepU sl0 (K11'.trans (Keep.of su))⟩
    · rw [List.map_append]
      exact SS.snoc hnb hn170 fok
    · rw [List.length_append, List.length_append, fr_len]
      omega
    · intro z hz
      rcases List.mem_append.mp hz with hz | hz
      · exact hok z hz
      · rw [List.mem_singleton.mp hz]; exact tok
    · intro z hz
      rcases List.mem_append.mp hz with hz | hz
      · exact hbd z hz
      · rw [List.mem_singleton.mp hz]; exact tbd
    · rw [List.map_append, notes_app, hnt, if_neg (Nat.succ_ne_zero i)]
      show noteS (if i = 0 then none else some cnt, lost) t'.c = _
      rw [tc, elost]
      by_cases z : i = 0
      · rw [if_pos z, if_pos z]
        show (some cn, lost + 0) = _
        rw [Int.add_zero]
      · rw [if_neg z, if_neg z]
        show (some cn, lost + (cn - cnt - 1) % 256) = _
        rw [hcn2]

end
end Sk

set_option Elab.async false
set_option linter.all false
set_option maxRecDepth 100000
set_option maxHeartbeats 4000000
namespace Sk
open PySem PySem.Spec PyProof.Rows L2
section
variable {P : Program} {w : World} {K : PySem.W.Frag} {mg : Str → Option Value} {base : Heap}
abbrev s_decode : Stmt := top 12
theorem sc_decode : FnScope ["code", "number"] ["code"] (defScope s_decode) := ⟨rfl, rfl, rfl, by decide +kernel, rfl, by decide +kernel, by decide +kernel⟩
theorem ok_decode {f : Addr} {fd : FuncData} (F : Fun K "decode" "decode" s_decode f fd) (T : TxtA mg) : FnOk P w K mg base CX0 1 f fd ["code"] (spDec) := by
  refine F.ok sc_decode (fun vs H Q E h => ?_) (fun cdv A outer s H vs Q E hr h => ?_)
  · obtain ⟨n, rfl, _⟩ := h
    rfl
  · obtain ⟨n, rfl, k⟩ := h
    refine ⟨_, (pss_cons (ps_set (i := 1) sc_decode.nd rfl (Or.inl rfl) pe_int)
    (pss_cons (ps_while PassesOwn.never (pt_cmpR op_gt (pv 0) pe_int (nomark _))
      (pss_cons (ps_aug (i := 1) sc_decode.nd rfl (Or.inl rfl) (pv 0) iop_xor)
    (pss_one (ps_aug (i := 0) sc_decode.nd rfl (Or.inl rfl) pe_int iop_fdivW))))
    (pss_one (ps_ret (pv 1))))), ?_⟩
    refine nm ?_
    dsimp only
    refine while_by (fun σ H' => ∃ c m : Nat, σ = [some (nv c), some (nv m)] ∧ H' = H ∧ m ^^^ dec c = dec n) (fun σ _ => match σ with | some (.int z) :: _ => z.toNat | _ => 0) ⟨n, 0, rfl, rfl, Nat.zero_xor _⟩ ?_ (fun σ H Q Q' h => ?_)
    · rintro σ H' ⟨c, m, rfl, rfl, e⟩
      refine ⟨_, rfl, _, _, rfl, rfl, _, rfl, ite2 (fun e1 => ?_) (fun e1 => ?_)⟩
      · have e1 := of_decide_eq_true e1
        have hc : 0 < c := by omega
        refine ⟨_, rfl, _, rfl, _, _, rfl, rfl, ?_⟩
        refine ⟨_, rfl, _, _, rfl, rfl, two _, ?_⟩
        refine ⟨⟨c / 2, m ^^^ c, ?_, rfl, ?_⟩, ?_⟩
        · show [some (V.int (((c : Nat) : Int) / 2)), some (V.int (Builtin.bitXor ((m : Nat) : Int) ((c : Nat) : Int)))] = _
          rw [xor_cast, half_cast]
          rfl
        · rw [Nat.xor_assoc, ← dec_step]
          exact e
        · show ((c : Int) / 2).toNat < ((c : Int)).toNat
          omega
      · have hc : c = 0 := by
          have : ¬ (0 : Int) < (c : Int) := fun z => e1 (decide_eq_true z)
          omega
        subst hc
        refine ⟨_, rfl, ?_⟩
        rw [dec_zero, Nat.xor_zero] at e
        subst e
        exact k
    · rintro ⟨x, e0, i, j, e1, e2, kb, e3, q⟩
      exact ⟨x, e0, i, j, e1, e2, kb, e3, h _ _ q⟩

end
end Sk

set_option Elab.async false
set_option linter.all false
set_option maxRecDepth 100000
set_option maxHeartbeats 4000000
namespace Sk
open PySem PySem.Spec PyProof.Rows L2
section
variable {P : Program} {w : World} {K : PySem.W.Frag} {mg : Str → Option Value} {base : Heap}
abbrev s_firsts : Stmt := top 8
theorem sc_firsts : FnScope ["line", "ax", "_", "d", "bx"] ["line"] (defScope s_firsts) := ⟨rfl, rfl, rfl, by decide +kernel, rfl, by decide +kernel, by decide +kernel⟩
theorem ok_firsts {f : Addr} {fd : FuncData} (F : Fun K "_firsts" "_firsts" s_firsts f fd) (T : TxtA mg) : FnOk P w K mg base CX0 1 f fd ["line"] (spEnds 0) := by
  refine F.ok sc_firsts (fun vs H Q E h => ?_) (fun cdv A outer s H vs Q E hr h => ?_)
  · obtain ⟨l, ss, rfl, _⟩ := h
    rfl
  · obtain ⟨l, ss, rfl, L, hl, k⟩ := h
    refine ⟨_, (pss_one (ps_ret (pe_op op_cat (pe_lc (own := [("ax", 1), ("_", 2), ("d", 3)]) (g := (gTup K 5 (gCons (gName 1) (gCons (gName 2) (gCons (gName 2) (gCons (gName 2) (gCons (gName 3) gNil))))))) (by rfl) sc_firsts.nd (pi_list (pv 0)) (blkOk_by (own := [("ax", 1), ("_", 2), ("d", 3)]) (N := ["line", "ax", "_", "d", "bx"]) (sc := defScope s_firsts) (by decide +kernel)) (fun _ _ _ _ _ => (pg_tup (by rfl) (pgs_cons (pg_name (i := 1) sc_firsts.nd rfl (Or.inl rfl)) (pgs_cons (pg_name (i := 2) sc_firsts.nd rfl (Or.inl rfl)) (pgs_cons (pg_name (i := 2) sc_firsts.nd rfl (Or.inl rfl)) (pgs_cons (pg_name (i := 2) sc_firsts.nd rfl (Or.inl rfl)) (pgs_cons (pg_name (i := 3) sc_firsts.nd rfl (Or.inl rfl)) pgs_nil))))))) (fun _ _ _ _ _ => pts_nil) (fun _ _ _ _ _ => (pe_tup (pa_cons (pv 1) (pa_cons (pv 3) pa_nil))))) (pe_lc (own := [("_", 2), ("bx", 4), ("d", 3)]) (g := (gTup K 5 (gCons (gName 2) (gCons (gName 2) (gCons (gName 4) (gCons (gName 2) (gCons (gName 3) gNil))))))) (by rfl) sc_firsts.nd (pi_list (pv 0)) (blkOk_by (own := [("_", 2), ("bx", 4), ("d", 3)]) (N := ["line", "ax", "_", "d", "bx"]) (sc := defScope s_firsts) (by decide +kernel)) (fun _ _ _ _ _ => (pg_tup (by rfl) (pgs_cons (pg_name (i := 2) sc_firsts.nd rfl (Or.inl rfl)) (pgs_cons (pg_name (i := 2) sc_firsts.nd rfl (Or.inl rfl)) (pgs_cons (pg_name (i := 4) sc_firsts.nd rfl (Or.inl rfl)) (pgs_cons (pg_name (i := 2) sc_firsts.nd rfl (Or.inl rfl)) (pgs_cons (pg_name (i := 3) sc_firsts.nd rfl (Or.inl rfl)) pgs_nil))))))) (fun _ _ _ _ _ => pts_nil) (fun _ _ _ _ _ => (pe_tup (pa_cons (pv 4) (pa_cons (pv 3) pa_nil)))))))), ?_⟩
    obtain ⟨ps, hps, hpl, hat⟩ := L.at
    refine ⟨_, rfl, l, rfl, ⟨_, .inl (.inl hps)⟩, fun A1 hA1 => ?_⟩
    refine lc_list (K := K) (a := l) (xs := ps.map V.ref) (fun i H' => Same H H' ∧ PrAt H' A1 ((ss.take i).map fun s => (c0 0 s, s.d))) ⟨same_new hA1, .nil upd_same⟩ (fun i H' _ h => .inl (.inl (h.1 _ _ hps))) ?_ ?_
    · rintro n v H' hv ⟨sm, L'⟩
      obtain ⟨q, s, rfl, es, hq⟩ := hat n v hv
      obtain ⟨ys, hy, hyl⟩ := L'.len
      have hn := (List.getElem?_eq_some_iff.mp es).1
      refine ⟨_, _, rfl, .inl (.inl (sm _ _ (id hq))), rfl, _, _, rfl, _, _, rfl, _, _, rfl, _, _, rfl, _, _, rfl, rfl, ?_⟩
      refine ⟨rfl, ?_⟩
      refine ⟨_, rfl, _, rfl, szOk rfl, fun t ht => ?_⟩
      refine ⟨ys, same_new ht _ _ hy, small1000 (by rw [hyl, List.length_map, List.length_take]; omega), sameU hA1 (sm.trans (same_new ht)), ?_⟩
      rw [List.take_add_one, es, List.map_append]
      exact (L'.same (same_new ht)).snoc (same_new ht _ _ hy) upd_same
    rintro H1 ⟨sm1, L1⟩
    rw [List.length_map, hpl, List.take_length] at L1
    refine ⟨_, rfl, l, rfl, ⟨_, .inl (.inl (sm1 _ _ hps))⟩, fun B1 hB1 => ?_⟩
    refine lc_list (K := K) (a := l) (xs := ps.map V.ref) (fun i H' => Same H1 H' ∧ PrAt H' B1 ((ss.take i).map fun s => (c1 0 s, s.d))) ⟨same_new hB1, .nil upd_same⟩ (fun i H' _ h => .inl (.inl (h.1 _ _ (sm1 _ _ hps)))) ?_ ?_
    · rintro n v H' hv ⟨sm, L'⟩
      obtain ⟨q, s, rfl, es, hq⟩ := hat n v hv
      obtain ⟨ys, hy, hyl⟩ := L'.len
      have hn := (List.getElem?_eq_some_iff.mp es).1
      refine ⟨_, _, rfl, .inl (.inl (sm _ _ (sm1 _ _ hq))), rfl, _, _, rfl, _, _, rfl, _, _, rfl, _, _, rfl, _, _, rfl, rfl, ?_⟩
      refine ⟨rfl, ?_⟩
      refine ⟨_, rfl, _, rfl, szOk rfl, fun t ht => ?_⟩
      refine ⟨ys, same_new ht _ _ hy, small1000 (by rw [hyl, List.length_map, List.length_take]; omega), sameU hB1 (sm.trans (same_new ht)), ?_⟩
      rw [List.take_add_one, es, List.map_append]
      exact (L'.same (same_new ht)).snoc (same_new ht _ _ hy) upd_same
    rintro H2 ⟨sm2, L2⟩
    rw [List.length_map, hpl, List.take_length] at L2
    have L1 := L1.same sm2
    obtain ⟨xs, hx, hxl⟩ := L1.len
    obtain ⟨ys, hy, hyl⟩ := L2.len
    rw [List.length_map] at hxl hyl
    refine ⟨_, _, _, _, rfl, rfl, hx, hy, Nat.le_of_lt (small1000 (by omega)), fun p hp => ?_⟩
    exact k p _ ((sm1.trans sm2).trans (same_new hp)) (L1.cat L2 hx hy hp)

abbrev s_seconds : Stmt := top 9
theorem sc_seconds : FnScope ["line", "_", "ay", "d", "by"] ["line"] (defScope s_seconds) := ⟨rfl, rfl, rfl, by decide +kernel, rfl, by decide +kernel, by decide +kernel⟩
theorem ok_seconds {f : Addr} {fd : FuncData} (F : Fun K "_seconds" "_seconds" s_seconds f fd) (T : TxtA mg) : FnOk P w K mg base CX0 1 f fd ["line"] (spEnds 1) := by
  refine F.ok sc_seconds (fun vs H Q E h => ?_) (fun cdv A outer s H vs Q E hr h => ?_)
  · obtain ⟨l, ss, rfl, _⟩ := h
    rfl
  · obtain ⟨l, ss, rfl, L, hl, k⟩ := h
    refine ⟨_, (pss_one (ps_ret (pe_op op_cat (pe_lc (own := [("_", 1), ("ay", 2), ("d", 3)]) (g := (gTup K 5 (gCons (gName 1) (gCons (gName 2) (gCons (gName 1) (gCons (gName 1) (gCons (gName 3) gNil))))))) (by rfl) sc_seconds.nd (pi_list (pv 0)) (blkOk_by (own := [("_", 1), ("ay", 2), ("d", 3)]) (N := ["line", "_", "ay", "d", "by"]) (sc := defScope s_seconds) (by decide +kernel)) (fun _ _ _ _ _ => (pg_tup (by rfl) (pgs_cons (pg_name (i := 1) sc_seconds.nd rfl (Or.inl rfl)) (pgs_cons (pg_name (i := 2) sc_seconds.nd rfl (Or.inl rfl)) (pgs_cons (pg_name (i := 1) sc_seconds.nd rfl (Or.inl rfl)) (pgs_cons (pg_name (i := 1) sc_seconds.nd rfl (Or.inl rfl)) (pgs_cons (pg_name (i := 3) sc_seconds.nd rfl (Or.inl rfl)) pgs_nil))))))) (fun _ _ _ _ _ => pts_nil) (fun _ _ _ _ _ => (pe_tup (pa_cons (pv 2) (pa_cons (pv 3) pa_nil))))) (pe_lc (own := [("_", 1), ("by", 4), ("d", 3)]) (g := (gTup K 5 (gCons (gName 1) (gCons (gName 1) (gCons (gName 1) (gCons (gName 4) (gCons (gName 3) gNil))))))) (by rfl) sc_seconds.nd (pi_list (pv 0)) (blkOk_by (own := [("_", 1), ("by", 4), ("d", 3)]) (N := ["line", "_", "ay", "d", "by"]) (sc := defScope s_seconds) (by decide +kernel)) (fun _ _ _ _ _ => (pg_tup (by rfl) (pgs_cons (pg_name (i := 1) sc_seconds.nd rfl (Or.inl rfl)) (pgs_cons (pg_name (i := 1) sc_seconds.nd rfl (Or.inl rfl)) (pgs_cons (pg_name (i := 1) sc_seconds.nd rfl (Or.inl rfl)) (pgs_cons (pg_name (i := 4) sc_seconds.nd rfl (Or.inl rfl)) (pgs_cons (pg_name (i := 3) sc_seconds.nd rfl (Or.inl rfl)) pgs_nil))))))) (fun _ _ _ _ _ => pts_nil) (fun _ _ _ _ _ => (pe_tup (pa_cons (pv 4) (pa_cons (pv 3) pa_nil)))))))), ?_⟩
    obtain ⟨ps, hps, hpl, hat⟩ := L.at
    refine ⟨_, rfl, l, rfl, ⟨_, .inl (.inl hps)⟩, fun A1 hA1 => ?_⟩
    refine lc_list (K := K) (a := l) (xs := ps.map V.ref) (fun i H' => Same H H' ∧ PrAt H' A1 ((ss.take i).map fun s => (c0 1 s, s.d))) ⟨same_new hA1, .nil upd_same⟩ (fun i H' _ h => .inl (.inl (h.1 _ _ hps))) ?_ ?_
    · rintro n v H' hv ⟨sm, L'⟩
      obtain ⟨q, s, rfl, es, hq⟩ := hat n v hv
      obtain ⟨ys, hy, hyl⟩ := L'.len
      have hn := (List.getElem?_eq_some_iff.mp es).1
      refine ⟨_, _, rfl, .inl (.inl (sm _ _ (id hq))), rfl, _, _, rfl, _, _, rfl, _, _, rfl, _, _, rfl, _, _, rfl, rfl, ?_⟩
      refine ⟨rfl, ?_⟩
      refine ⟨_, rfl, _, rfl, szOk rfl, fun t ht => ?_⟩
      refine ⟨ys, same_new ht _ _ hy, small1000 (by rw [hyl, List.length_map, List.length_take]; omega), sameU hA1 (sm.trans (same_new ht)), ?_⟩
      rw [List.take_add_one, es, List.map_append]
      exact (L'.same (same_new ht)).snoc (same_new ht _ _ hy) upd_same
    rintro H1 ⟨sm1, L1⟩
    rw [List.length_map, hpl, List.take_length] at L1
    refine ⟨_, rfl, l, rfl, ⟨_, .inl (.inl (sm1 _ _ hps))⟩, fun B1 hB1 => ?_⟩
    refine lc_list (K := K) (a := l) (xs := ps.map V.ref) (fun i H' => Same H1 H' ∧ PrAt H' B1 ((ss.take i).map fun s => (c1 1 s, s.d))) ⟨same_new hB1, .nil upd_same⟩ (fun i H' _ h => .inl (.inl (h.1 _ _ (sm1 _ _ hps)))) ?_ ?_
    · rintro n v H' hv ⟨sm, L'⟩
      obtain ⟨q, s, rfl, es, hq⟩ := hat n v hv
      obtain ⟨ys, hy, hyl⟩ := L'.len
      have hn := (List.getElem?_eq_some_iff.mp es).1
      refine ⟨_, _, rfl, .inl (.inl (sm _ _ (sm1 _ _ hq))), rfl, _, _, rfl, _, _, rfl, _, _, rfl, _, _, rfl, _, _, rfl, rfl, ?_⟩
      refine ⟨rfl, ?_⟩
      refine ⟨_, rfl, _, rfl, szOk rfl, fun t ht => ?_⟩
      refine ⟨ys, same_new ht _ _ hy, small1000 (by rw [hyl, List.length_map, List.length_take]; omega), sameU hB1 (sm.trans (same_new ht)), ?_⟩
      rw [List.take_add_one, es, List.map_append]
      exact (L'.same (same_new ht)).snoc (same_new ht _ _ hy) upd_same
    rintro H2 ⟨sm2, L2⟩
    rw [List.length_map, hpl, List.take_length] at L2
    have L1 := L1.same sm2
    obtain ⟨xs, hx, hxl⟩ := L1.len
    obtain ⟨ys, hy, hyl⟩ := L2.len
    rw [List.length_map] at hxl hyl
    refine ⟨_, _, _, _, rfl, rfl, hx, hy, Nat.le_of_lt (small1000 (by omega)), fun p hp => ?_⟩
    exact k p _ ((sm1.trans sm2).trans (same_new hp)) (L1.cat L2 hx hy hp)

abbrev s_narrowed_range : Stmt := top 10
theorem sc_narrowed_range : FnScope ["low", "high", "told", "reach", "ends", "greatest", "least", "top", "bottom"] ["low", "high", "told", "reach", "ends"] (defScope s_narrowed_range) := ⟨rfl, rfl, rfl, by decide +kernel, rfl, by decide +kernel, by decide +kernel⟩
theorem ok_narrowed_range {f tc tp : Addr} {fd : FuncData} {TT : List Addr} (F : Fun K "_narrowed_range" "_narrowed_range" s_narrowed_range f fd) (T : TxtA mg) (hc : fd.code = .ref tc) (TB : LamX.TabB base mg tc tp) (hP : tp ∈ TT) : FnOk P w K mg base CX0 3 f fd ["low", "high", "told", "reach", "ends"] (spRange TT) := by
  refine okT F hc sc_narrowed_range (fun vs H Q E h => ?_) (fun A outer s H vs Q E hr h => ?_)
  · obtain ⟨lo, hi, told, m, l, es, rfl, _⟩ := h
    rfl
  · obtain ⟨lo, hi, told, m, l, es, rfl, L, ne, hl, hb, hT, k⟩ := h
    refine ⟨_, (pss_cons (ps_set (i := 5) sc_narrowed_range.nd rfl (Or.inl rfl) (pe_maxG (k := 0) (own := [("top", 7), ("bottom", 8)]) (g := (gTup K 2 (gCons (gName 7) (gCons (gName 8) gNil)))) (hr.mono (by decide)) sc_narrowed_range.nd (by rfl) T.max TB rfl (gscp_by (by decide +kernel)) (blkOk_by (own := [("top", 7), ("bottom", 8)]) (N := ["low", "high", "told", "reach", "ends", "greatest", "least", "top", "bottom"]) (sc := defScope s_narrowed_range) (by decide +kernel)) (pi_list (pv 4)) (fun _ _ _ _ _ _ _ r => (pg_tup (by rfl) (pgs_cons (pg_name (i := 7) sc_narrowed_range.nd rfl (Or.inl rfl)) (pgs_cons (pg_name (i := 8) sc_narrowed_range.nd rfl (Or.inl rfl)) pgs_nil)))) (fun _ _ _ _ _ _ _ r => pts_nil) (fun _ _ _ _ _ _ _ r => (pe_op op_fdivW (pv 7) (pv 8)))))
    (pss_cons (ps_set (i := 6) sc_narrowed_range.nd rfl (Or.inl rfl) (pe_minG (k := 0) (own := [("top", 7), ("bottom", 8)]) (g := (gTup K 2 (gCons (gName 7) (gCons (gName 8) gNil)))) (hr.mono (by decide)) sc_narrowed_range.nd (by rfl) T.min TB rfl (gscp_by (by decide +kernel)) (blkOk_by (own := [("top", 7), ("bottom", 8)]) (N := ["low", "high", "told", "reach", "ends", "greatest", "least", "top", "bottom"]) (sc := defScope s_narrowed_range) (by decide +kernel)) (pi_list (pv 4)) (fun _ _ _ _ _ _ _ r => (pg_tup (by rfl) (pgs_cons (pg_name (i := 7) sc_narrowed_range.nd rfl (Or.inl rfl)) (pgs_cons (pg_name (i := 8) sc_narrowed_range.nd rfl (Or.inl rfl)) pgs_nil)))) (fun _ _ _ _ _ _ _ r => pts_nil) (fun _ _ _ _ _ _ _ r => (pe_un un_neg (pe_op op_fdivW (pe_un un_neg (pv 7)) (pv 8))))))
    (pss_one (ps_ret (pe_tup (pa_cons (pe_callB (call_max2 rfl) (by rfl) T.max boot_max (pa_cons (pv 0) (pa_cons (pe_op op_sub (pe_op op_sub (pv 2) (pv 3)) (pv 5)) pa_nil))) (pa_cons (pe_callB (call_min2 rfl) (by rfl) T.min boot_min (pa_cons (pv 1) (pa_cons (pe_op op_sub (pe_op op_add (pv 2) (pv 3)) (pv 6)) pa_nil))) pa_nil))))))), ?_⟩
    obtain ⟨ps, hps, hpl, hat⟩ := L.at
    refine ⟨_, rfl, _, rfl, ⟨_, .inl (.inl hps)⟩, hT tp hP, fun G1 tbG1 => ?_⟩
    have sG1 : SameT TT H G1 := SameT.tabbed hP tbG1
    have lG1 := sG1.l hT hps
    refine gen_listR (K := K) (a := l) (xs := ps.map V.ref) (fun i zs H' => H' = G1 ∧ zs = (es.take i).map (fun e => e.1 / e.2)) ⟨rfl, rfl⟩ (fun i zs H' _ h => by rw [h.1]; exact .inl (.inl lG1)) (fun i zs x H' hx h => ?_) (fun zs H' h => ?_)
    · obtain ⟨rfl, rfl⟩ := h
      obtain ⟨q, e, rfl, ee, hq⟩ := hat i x hx
      obtain ⟨b1, b2, b3⟩ := hb e (List.mem_of_getElem? ee)
      refine ⟨_, _, rfl, .inl (.inl (sG1.t hT hq)), rfl, _, _, rfl, _, _, rfl, rfl, ?_⟩
      refine ⟨rfl, yes_if ?_⟩
      refine ⟨_, rfl, _, rfl, _, _, rfl, rfl, wide_div (b := 300) b3 (Nat.lt_of_le_of_lt b2 (Nat.pow_lt_pow_right (by decide) (by decide))) (by decide) (by decide), MN.of ⟨rfl, ?_⟩⟩
      rw [List.take_add_one, ee, List.map_append]
      rfl
    obtain ⟨h1, rfl⟩ := h
    have h1 := h1.symm
    subst h1
    rw [List.length_map, hpl, List.take_length]
    refine ⟨fun z => ne (List.map_eq_nil_iff.mp z), ?_⟩
    refine nm ?_
    dsimp only
    have hT1 := sG1.tabs hT
    have L1 := L.st sG1 hT
    obtain ⟨ps2, hps2, hpl2, hat2⟩ := L1.at
    rw [lG1] at hps2
    obtain rfl : ps = ps2 := by
      cases hps2' : (some (HO.lst (ps.map V.ref))) with
      | none => cases hps2'
      | some o =>
        have := HO.lst.inj (Option.some.inj hps2)
        exact (List.map_inj_right (fun a b e => V.ref.inj e)).mp this
    refine ⟨_, rfl, _, rfl, ⟨_, .inl (.inl lG1)⟩, hT1 tp hP, fun G2 tbG2 => ?_⟩
    have sG2 : SameT TT G1 G2 := SameT.tabbed hP tbG2
    have lG2 := sG2.l hT1 lG1
    refine gen_listR (K := K) (a := l) (xs := ps.map V.ref) (fun i zs H' => H' = G2 ∧ zs = (es.take i).map (fun e => -(-e.1 / e.2))) ⟨rfl, rfl⟩ (fun i zs H' _ h => by rw [h.1]; exact .inl (.inl lG2)) (fun i zs x H' hx h => ?_) (fun zs H' h => ?_)
    · obtain ⟨rfl, rfl⟩ := h
      obtain ⟨q, e, rfl, ee, hq⟩ := hat2 i x hx
      obtain ⟨b1, b2, b3⟩ := hb e (List.mem_of_getElem? ee)
      refine ⟨_, _, rfl, .inl (.inl (sG2.t hT1 hq)), rfl, _, _, rfl, _, _, rfl, rfl, ?_⟩
      refine ⟨rfl, yes_if ?_⟩
      refine ⟨_, rfl, _, rfl, _, rfl, _, _, rfl, rfl, wide_div (b := 300) b3 (Nat.lt_of_le_of_lt b2 (Nat.pow_lt_pow_right (by decide) (by decide))) (by decide) (by decide), _, rfl, MN.of ⟨rfl, ?_⟩⟩
      rw [List.take_add_one, ee, List.map_append]
      rfl
    obtain ⟨h1, rfl⟩ := h
    have h1 := h1.symm
    subst h1
    rw [List.length_map, hpl, List.take_length]
    refine ⟨fun z => ne (List.map_eq_nil_iff.mp z), ?_⟩
    refine nm ?_
    dsimp only
    refine ⟨_, rfl, _, rfl, _, rfl, _, _, rfl, rfl, _, rfl, _, _, rfl, rfl, _, _, rfl, _, rfl, _, rfl, _, rfl, _, _, rfl, rfl, _, rfl, _, _, rfl, rfl, _, _, rfl, szOk rfl, fun q hq => ?_⟩
    exact k q _ ((sG1.trans sG2).trans (SameT.of (same_new hq))) upd_same

abbrev s_corrected : Stmt := top 7
theorem sc_corrected : FnScope ["rules", "estimate", "plot", "x1", "x2", "y1", "y2", "x", "y", "z", "cx", "cy", "dx", "dy"] ["rules", "estimate", "plot"] (defScope s_corrected) := ⟨rfl, rfl, rfl, by decide +kernel, rfl, by decide +kernel, by decide +kernel⟩
theorem ok_corrected {f : Addr} {fd : FuncData} (F : Fun K "corrected" "corrected" s_corrected f fd) (T : TxtA mg)
    (D_root_up : Def P w K mg base 2 "root_up" ["n"] (spUpR)) : FnOk P w K mg base CX0 4 f fd ["rules", "estimate", "plot"] (spCor) := by
  refine F.ok sc_corrected (fun vs H Q E h => ?_) (fun cdv A outer s H vs Q E hr h => ?_)
  · obtain ⟨_, _, _, _, _, _, _, _, rfl, _⟩ := h
    rfl
  · obtain ⟨ru, e, q, rd, E, px, py, pz, rfl, RR, he, hq, x0, x1, y0, y1, k⟩ := h
    have hu := hu_of hr
    refine ⟨_, (pss_cons (ps_asg (pv 1) (pg_tup (by rfl) (pgs_cons (pg_name (i := 3) sc_corrected.nd rfl (Or.inl rfl)) (pgs_cons (pg_name (i := 4) sc_corrected.nd rfl (Or.inl rfl)) (pgs_cons (pg_name (i := 5) sc_corrected.nd rfl (Or.inl rfl)) (pgs_cons (pg_name (i := 6) sc_corrected.nd rfl (Or.inl rfl)) pgs_nil))))))
    (pss_cons (ps_asg (pv 2) (pg_tup (by rfl) (pgs_cons (pg_name (i := 7) sc_corrected.nd rfl (Or.inl rfl)) (pgs_cons (pg_name (i := 8) sc_corrected.nd rfl (Or.inl rfl)) (pgs_cons (pg_name (i := 9) sc_corrected.nd rfl (Or.inl rfl)) pgs_nil)))))
    (pss_cons (ps_set (i := 10) sc_corrected.nd rfl (Or.inl rfl) (pe_op op_fdivW (pe_op op_add (pv 3) (pv 4)) pe_int))
    (pss_cons (ps_set (i := 11) sc_corrected.nd rfl (Or.inl rfl) (pe_op op_fdivW (pe_op op_add (pv 5) (pv 6)) pe_int))
    (pss_cons (ps_set (i := 12) sc_corrected.nd rfl (Or.inl rfl) (pe_callB (call_max2 rfl) (by rfl) T.max boot_max (pa_cons (pe_op op_sub (pv 4) (pv 10)) (pa_cons (pe_op op_sub (pv 10) (pv 3)) pa_nil))))
    (pss_cons (ps_set (i := 13) sc_corrected.nd rfl (Or.inl rfl) (pe_callB (call_max2 rfl) (by rfl) T.max boot_max (pa_cons (pe_op op_sub (pv 6) (pv 11)) (pa_cons (pe_op op_sub (pv 11) (pv 5)) pa_nil))))
    (pss_one (ps_ret (pe_tup (pa_cons (pe_tup (pa_cons (pe_op op_sub (pv 7) (pv 10)) (pa_cons (pe_op op_sub (pv 8) (pv 11)) (pa_cons (pv 9) pa_nil)))) (pa_cons (pe_op op_add (pe_dget hu (pv 0) pe_str (fun _ _ => rfl)) (pe_def D_root_up (hr.mono (by decide)) (by rfl) (pa_cons (pe_op op_add (pe_op op_mulW (pv 12) (pv 12)) (pe_op op_mulW (pv 13) (pv 13))) pa_nil))) pa_nil))))))))))), ?_⟩
    rw [show L2.start ["rules", "estimate", "plot", "x1", "x2", "y1", "y2", "x", "y", "z", "cx", "cy", "dx", "dy"] [V.ref ru, .ref e, .ref q] = [some (V.ref ru), some (.ref e), some (.ref q), none, none, none, none, none, none, none, none, none, none, none] from rfl]
    refine ⟨_, rfl, _, _, rfl, .inl (.inl he), rfl, _, _, rfl, _, _, rfl, _, _, rfl, _, _, rfl, rfl, ?_⟩
    dsimp only [List.set]
    refine ⟨_, rfl, _, _, rfl, .inl (.inl hq), rfl, _, _, rfl, _, _, rfl, _, _, rfl, rfl, ?_⟩
    dsimp only [List.set]
    refine ⟨_, rfl, _, rfl, _, _, rfl, rfl, _, _, rfl, rfl, log_of (by decide) (by decide), ?_⟩
    refine nm ?_
    dsimp only [List.set]
    refine ⟨_, rfl, _, rfl, _, _, rfl, rfl, _, _, rfl, rfl, log_of (by decide) (by decide), ?_⟩
    refine nm ?_
    dsimp only [List.set]
    refine ⟨_, rfl, _, rfl, _, _, rfl, rfl, _, rfl, _, rfl, _, _, rfl, rfl, _, _, rfl, ?_⟩
    refine nm ?_
    dsimp only [List.set]
    refine ⟨_, rfl, _, rfl, _, _, rfl, rfl, _, rfl, _, rfl, _, _, rfl, rfl, _, _, rfl, ?_⟩
    refine nm ?_
    dsimp only [List.set]
    refine ⟨_, rfl, _, rfl, _, _, rfl, rfl, _, rfl, _, rfl, _, _, rfl, rfl, _, rfl, szOk rfl, fun v hv => ?_⟩
    have bx : side E.x1 E.x2 * side E.x1 E.x2 ≤ 1000000 * 1000000 := Int.mul_le_mul x1 x1 x0 (by decide)
    have by' : side E.y1 E.y2 * side E.y1 E.y2 ≤ 1000000 * 1000000 := Int.mul_le_mul y1 y1 y0 (by decide)
    have nx := Int.mul_nonneg x0 x0
    have ny := Int.mul_nonneg y0 y0
    refine ⟨_, rfl, _, _, rfl, (RR.same (same_new hv)).g, _, rfl, _, rfl, _, _, rfl, rfl, (show CMulW (side E.x1 E.x2) (side E.x1 E.x2) from wm (by omega) (by omega)), _, rfl, _, rfl, _, _, rfl, rfl, (show CMulW (side E.y1 E.y2) (side E.y1 E.y2) from wm (by omega) (by omega)), _, _, rfl, rfl, side E.x1 E.x2 * side E.x1 E.x2 + side E.y1 E.y2 * side E.y1 E.y2, rfl, by omega, by omega, ?_⟩
    refine ⟨_, _, rfl, rfl, szOk rfl, fun u hu => ?_⟩
    exact k u v _ ((same_new hv).trans (same_new hu)) upd_same (same_new hu _ _ upd_same)

end
end Sk

set_option Elab.async false
set_option linter.all false
set_option maxRecDepth 100000
set_option maxHeartbeats 4000000
namespace Sk
open PySem PySem.Spec PyProof.Rows L2
section
variable {P : Program} {w : World} {K : PySem.W.Frag} {mg : Str → Option Value} {base : Heap}
abbrev s_narrowed : Stmt := top 6
theorem sc_narrowed : FnScope ["rules", "estimate", "path", "box", "plot", "x1", "x2", "y1", "y2", "x", "y", "_", "line", "reach"] ["rules", "estimate", "path", "box", "plot"] (defScope s_narrowed) := ⟨rfl, rfl, rfl, by decide +kernel, rfl, by decide +kernel, by decide +kernel⟩
theorem ok_narrowed {f : Addr} {fd : FuncData} {TT : List Addr} {C : Addr} (F : Fun K "narrowed" "narrowed" s_narrowed f fd) (T : TxtA mg) (Y : PathY K mg C)
    (D_narrowed_range : Def P w K mg base 3 "_narrowed_range" ["low", "high", "told", "reach", "ends"] (spRange TT))
    (D_firsts : Def P w K mg base 1 "_firsts" ["line"] (spEnds 0))
    (D_seconds : Def P w K mg base 1 "_seconds" ["line"] (spEnds 1))
    (M_piece : MDef P w K mg base 4 C "piece" ["self", "low", "high"] (spPiece C)) : FnOk P w K mg base CX0 6 f fd ["rules", "estimate", "path", "box", "plot"] (spNar C TT) := by
  refine F.ok sc_narrowed (fun vs H Q E h => ?_) (fun cdv A outer s H vs Q E hr h => ?_)
  · obtain ⟨_, _, _, _, _, _, _, _, _, _, _, _, _, _, _, _, rfl, _⟩ := h
    rfl
  · obtain ⟨ru, e, p, b, q, r1, r, rd, E, D, ns, x, px, py, pz, ss, rfl, R, RR, he, hb, lx, hq, PA, bd, n2, n20, eP, hss, sne, hsl, hT, k⟩ := h
    have hu := hu_of hr
    refine ⟨_, (pss_cons (ps_asg (pv 1) (pg_tup (by rfl) (pgs_cons (pg_name (i := 5) sc_narrowed.nd rfl (Or.inl rfl)) (pgs_cons (pg_name (i := 6) sc_narrowed.nd rfl (Or.inl rfl)) (pgs_cons (pg_name (i := 7) sc_narrowed.nd rfl (Or.inl rfl)) (pgs_cons (pg_name (i := 8) sc_narrowed.nd rfl (Or.inl rfl)) pgs_nil))))))
    (pss_cons (ps_asg (pv 4) (pg_tup (by rfl) (pgs_cons (pg_name (i := 9) sc_narrowed.nd rfl (Or.inl rfl)) (pgs_cons (pg_name (i := 10) sc_narrowed.nd rfl (Or.inl rfl)) (pgs_cons (pg_name (i := 11) sc_narrowed.nd rfl (Or.inl rfl)) pgs_nil)))))
    (pss_cons (ps_set (i := 12) sc_narrowed.nd rfl (Or.inl rfl) (pe_mdef M_piece Y.cl (hr.mono (by decide)) (pv 2) (pa_cons (pe_ix (r := rIxT K) ix_tup (pv 3) pe_int (fun _ _ => rfl)) (pa_cons (pe_ix (r := rIxT K) ix_tup (pv 3) pe_int (fun _ _ => rfl)) pa_nil))))
    (pss_cons (ps_set (i := 13) sc_narrowed.nd rfl (Or.inl rfl) (pe_op op_add (pe_dget hu (pv 0) pe_str (fun _ _ => rfl)) (pe_dget hu (pv 0) pe_str (fun _ _ => rfl))))
    (pss_cons (ps_asg (pe_def D_narrowed_range (hr.mono (by decide)) (by rfl) (pa_cons (pv 5) (pa_cons (pv 6) (pa_cons (pv 9) (pa_cons (pv 13) (pa_cons (pe_def D_firsts (hr.mono (by decide)) (by rfl) (pa_cons (pv 12) pa_nil)) pa_nil)))))) (pg_tup (by rfl) (pgs_cons (pg_name (i := 5) sc_narrowed.nd rfl (Or.inl rfl)) (pgs_cons (pg_name (i := 6) sc_narrowed.nd rfl (Or.inl rfl)) pgs_nil))))
    (pss_cons (ps_asg (pe_def D_narrowed_range (hr.mono (by decide)) (by rfl) (pa_cons (pv 7) (pa_cons (pv 8) (pa_cons (pv 10) (pa_cons (pv 13) (pa_cons (pe_def D_seconds (hr.mono (by decide)) (by rfl) (pa_cons (pv 12) pa_nil)) pa_nil)))))) (pg_tup (by rfl) (pgs_cons (pg_name (i := 7) sc_narrowed.nd rfl (Or.inl rfl)) (pgs_cons (pg_name (i := 8) sc_narrowed.nd rfl (Or.inl rfl)) pgs_nil))))
    (pss_cons (ps_if (PW.pt (pw_or (pt_cmpR op_gt (pv 5) (pv 6) (nomark _)) (pw_or1 (pt_cmpR op_gt (pv 7) (pv 8) (nomark _))))) (pss_one (ps_ret pe_non))
      pss_nil)
    (pss_one (ps_ret (pe_tup (pa_cons (pv 5) (pa_cons (pv 6) (pa_cons (pv 7) (pa_cons (pv 8) pa_nil)))))))))))))), ?_⟩
    rw [show L2.start ["rules", "estimate", "path", "box", "plot", "x1", "x2", "y1", "y2", "x", "y", "_", "line", "reach"] [V.ref ru, .ref e, .ref p, .ref b, .ref q] = [some (V.ref ru), some (.ref e), some (.ref p), some (.ref b), some (.ref q), none, none, none, none, none, none, none, none, none] from rfl]
    obtain ⟨dx, l1, l2, l3, l4, sa, va, O1⟩ := id PA
    refine ⟨_, rfl, _, _, rfl, .inl (.inl he), rfl, _, _, rfl, _, _, rfl, _, _, rfl, _, _, rfl, rfl, ?_⟩
    dsimp only [List.set]
    refine ⟨_, rfl, _, _, rfl, .inl (.inl hq), rfl, _, _, rfl, _, _, rfl, _, _, rfl, rfl, ?_⟩
    dsimp only [List.set]
    refine ⟨_, rfl, _, _, _, rfl, O1.ob, rfl, _, rfl, _, _, _, _, rfl, rfl, (.inl (.inl hb)), rfl, _, rfl, _, _, _, _, rfl, rfl, (.inl (.inl hb)), rfl, p, r1, D, ns, x.lo, x.hi, rfl, PA, bd, n2, n20, lx, fun q1 Ha hq1 sa L1 => ?_⟩
    rw [eP] at L1
    have Ra := R.same sa
    have RRa := RR.same sa
    have T1 := Same.tabs sa hT
    refine nm ?_
    dsimp only [List.set]
    refine ⟨_, rfl, _, _, rfl, RRa.g, _, rfl, _, _, rfl, Ra.gra, _, _, rfl, rfl, ?_⟩
    refine nm ?_
    dsimp only [List.set]
    refine ⟨_, rfl, _, rfl, _, rfl, _, rfl, _, rfl, q1, ss, rfl, L1, hsl, fun e0 I0 si0 M0 => ?_⟩
    have t0 := Same.tabs si0 T1
    refine ⟨_, _, _, _, _, _, rfl, M0, ends_ne sne, by unfold ends; rw [List.length_append, List.length_map, List.length_map]; omega, ends_bd hss, t0, fun u0 J0 sj0 hu0 => ?_⟩
    rw [rlo_eq sne, rhi_eq sne] at hu0
    refine ⟨_, _, rfl, .inl (.inl hu0), rfl, _, _, rfl, _, _, rfl, rfl, ?_⟩
    dsimp only [List.set]
    have sJ0 := (SameT.of si0).trans sj0
    have L2 : LoT J0 q1 (ss.map Seg.li) := by
      obtain ⟨qs, g1, g2, g3⟩ := L1
      exact ⟨qs, sJ0.l T1 g1, fun q h => sJ0.t T1 (g2 q h), g3⟩
    have T2 := sJ0.tabs T1
    refine ⟨_, rfl, _, rfl, _, rfl, _, rfl, _, rfl, q1, ss, rfl, L2, hsl, fun e1 I1 si1 M1 => ?_⟩
    have t1 := Same.tabs si1 T2
    refine ⟨_, _, _, _, _, _, rfl, M1, ends_ne sne, by unfold ends; rw [List.length_append, List.length_map, List.length_map]; omega, ends_bd hss, t1, fun u1 J1 sj1 hu1 => ?_⟩
    rw [rlo_eq sne, rhi_eq sne] at hu1
    refine ⟨_, _, rfl, .inl (.inl hu1), rfl, _, _, rfl, _, _, rfl, rfl, ?_⟩
    dsimp only [List.set]
    have sJ1 := (SameT.of si1).trans sj1
    have sA := ((SameT.of sa).trans sJ0).trans sJ1
    generalize ea : nlo E.x1 px (rd + r.ra) 0 ss = a1
    generalize eb : nhi E.x2 px (rd + r.ra) 0 ss = a2
    generalize ec : nlo E.y1 py (rd + r.ra) 1 ss = b1
    generalize ed : nhi E.y2 py (rd + r.ra) 1 ss = b2
    have en : nar E (rd + r.ra) px py ss = if a1 > a2 ∨ b1 > b2 then none else some ⟨a1, a2, b1, b2⟩ := by
      unfold nar
      rw [ea, eb, ec, ed]
    refine ⟨_, rfl, _, rfl, _, _, rfl, rfl, _, rfl, ite2 (fun c => ?_) (fun c => ?_)⟩
    · have c := of_decide_eq_true c
      refine k _ _ sA ?_
      rw [en, if_pos (.inl (by omega))]
      rfl
    refine ⟨_, rfl, _, rfl, _, _, rfl, rfl, _, rfl, ite2 (fun c' => ?_) (fun c' => ?_)⟩
    · have c' := of_decide_eq_true c'
      refine k _ _ sA ?_
      rw [en, if_pos (.inr (by omega))]
      rfl
    have c : ¬ a2 < a1 := fun z => c (decide_eq_true z)
    have c' : ¬ b2 < b1 := fun z => c' (decide_eq_true z)
    refine ⟨_, rfl, _, rfl, _, rfl, _, rfl, szOk rfl, fun z hz => ?_⟩
    refine k _ _ (sA.trans (SameT.of (same_new hz))) ?_
    rw [en, if_neg (by omega)]
    exact ⟨z, rfl, upd_same⟩

end
end Sk

set_option Elab.async false
set_option linter.all false
set_option maxRecDepth 100000
set_option maxHeartbeats 4000000
namespace Sk
open PySem PySem.Spec PyProof.Rows L2
section
variable {P : Program} {w : World} {K : PySem.W.Frag} {mg : Str → Option Value} {base : Heap}
abbrev s_Station___init__ : Stmt := inClass (top 26) 0
theorem sc_Station___init__ : FnScope ["self", "rules", "bounds"] ["self", "rules", "bounds"] (defScope s_Station___init__) := ⟨rfl, rfl, rfl, by decide +kernel, rfl, by decide +kernel, by decide +kernel⟩
theorem ok_Station___init__ {f : Addr} {fd : FuncData} {CS : Addr} {TT : List Addr} (F : Fun K "__init__" "Station.__init__" s_Station___init__ f fd) (T : TxtA mg) (YS : StaY K mg CS) : FnOk P w K mg base CX0 1 f fd ["self", "rules", "bounds"] (spSta CS TT) := by
  refine F.ok sc_Station___init__ (fun vs H Q E h => ?_) (fun cdv A outer s H vs Q E hr h => ?_)
  · obtain ⟨_, _, _, _, rfl, _⟩ := h
    rfl
  · obtain ⟨p, dx, ru, bo, rfl, hp, k⟩ := h
    have hu := hu_of hr
    refine ⟨_, (pss_cons (ps_fld (pv 0) (pv 1) rfl)
    (pss_cons (ps_fld (pv 0) (pv 2) rfl)
    (pss_cons (ps_fld (pv 0) (pe_lst pa_nil) rfl)
    (pss_cons (ps_fld (pv 0) pe_non rfl)
    (pss_cons (ps_fld (pv 0) pe_int rfl)
    (pss_one (ps_fld (pv 0) pe_int rfl))))))), ?_⟩
    rw [show L2.start ["self", "rules", "bounds"] [V.ref p, V.ref ru, V.ref bo] = [some (V.ref p), some (V.ref ru), some (V.ref bo)] from rfl]
    refine ⟨_, rfl, _, rfl, p, CS, dx, _, rfl, hp, YS.cl, YS.n1, (by show 0 < 1000; decide), ?_⟩
    refine ⟨_, rfl, _, rfl, p, CS, dx, _, rfl, upd_same, YS.cl, YS.n2, (by show 1 < 1000; decide), ?_⟩
    refine ⟨szOk rfl, fun re hre => ?_⟩
    have tp : re ≠ p := fun w => by rw [w, upd_same] at hre; cases hre
    refine ⟨_, rfl, p, CS, dx, _, rfl, (same_new hre _ _ upd_same), YS.cl, YS.n3, (by show 2 < 1000; decide), ?_⟩
    refine ⟨_, rfl, p, CS, dx, _, rfl, upd_same, YS.cl, YS.n4, (by show 3 < 1000; decide), ?_⟩
    refine ⟨_, rfl, p, CS, dx, _, rfl, upd_same, YS.cl, YS.n5, (by show 4 < 1000; decide), ?_⟩
    refine ⟨_, rfl, p, CS, dx, _, rfl, upd_same, YS.cl, YS.n6, (by show 5 < 1000; decide), ?_⟩
    have htH : H re = none := by
      rw [upd_ne tp, upd_ne tp] at hre
      exact hre
    have f1 := FT.ins (TT := TT) (M := [p]) (o' := .ins CS dx (putF "rules" (V.ref ru) [])) hp (by simp)
    have f2 := FT.ins (TT := TT) (M := [p]) (o' := .ins CS dx (putF "bounds" (V.ref bo) (putF "rules" (V.ref ru) []))) upd_same (by simp) (H := upd H p (.ins CS dx (putF "rules" (V.ref ru) [])))
    have f3 := (f1.trans f2).trans (FT.same (same_new (o := .lst []) hre))
    refine k re _ htH tp upd_same ?_ ?_
    · rw [upd_ne tp, upd_ne tp, upd_ne tp, upd_ne tp, upd_same]
    · exact (((f3.trans (FT.ins (same_new hre _ _ upd_same) (by simp))).trans (FT.ins upd_same (by simp))).trans (FT.ins upd_same (by simp))).trans (FT.ins upd_same (by simp))

abbrev s_Station__note : Stmt := inClass (top 26) 2
theorem sc_Station__note : FnScope ["self", "count"] ["self", "count"] (defScope s_Station__note) := ⟨rfl, rfl, rfl, by decide +kernel, rfl, by decide +kernel, by decide +kernel⟩
theorem ok_Station__note {f : Addr} {fd : FuncData} {CS : Addr} {TT : List Addr} (F : Fun K "_note" "Station._note" s_Station__note f fd) (T : TxtA mg) (YS : StaY K mg CS) {tCOUNTS : Tok} (G_COUNTS : mg "COUNTS" = some (.int (256) tCOUNTS)) : FnOk P w K mg base CX0 1 f fd ["self", "count"] (spNote CS TT) := by
  refine F.ok sc_Station__note (fun vs H Q E h => ?_) (fun cdv A outer s H vs Q E hr h => ?_)
  · obtain ⟨_, _, _, _, rfl, _⟩ := h
    rfl
  · obtain ⟨p, dx, s, c, rfl, ho, k⟩ := h
    have hu := hu_of hr
    refine ⟨_, (pss_cons (ps_if (pt_cmpR op_notN (pe_fld (pv 0) rfl) pe_non (nomark _)) (pss_one (ps_fldaug (pv 0) (pe_op op_mod (pe_op op_sub (pe_op op_sub (pv 1) (pe_fld (pv 0) rfl)) pe_int) (pe_glob (v := .int 256) rfl G_COUNTS ⟨_, rfl⟩)) in_add))
      pss_nil)
    (pss_one (ps_fld (pv 0) (pv 1) rfl))), ?_⟩
    rw [show L2.start ["self", "count"] [V.ref p, V.int c] = [some (V.ref p), some (V.int c)] from rfl]
    obtain ⟨ru, bo, re, lc, ml, mh⟩ := s
    refine cut (t := tIfS _ _ _) (fun σ' G => σ' = [some (.ref p), some (.int c)] ∧ G p = some (.ins CS dx (stf ⟨ru, bo, re, lc, (noteS (lc, ml) c).2, mh⟩)) ∧ FT [p] TT H G) ?_ (fun rest => ?_)
    rotate_left
    · refine ⟨_, rfl, _, _, _, _, _, rfl, ho, YS.cl, YS.n4, rfl, rfl, _, rfl, ?_⟩
      cases lc with
      | none =>
        refine iNY rfl ?_
        exact rest _ _ ⟨rfl, by show _ = some (HO.ins CS dx (stf ⟨ru, bo, re, none, ml + 0, mh⟩)); rw [Int.add_zero]; exact ho, FT.refl⟩
      | some lc =>
        refine iNN (fun z => nomatch z) ?_
        refine ⟨_, rfl, p, CS, dx, _, _, rfl, ho, YS.cl, YS.n5, rfl, _, rfl, _, rfl, _, _, _, _, _, rfl, ho, YS.cl, YS.n4, rfl, _, _, rfl, rfl, _, _, rfl, rfl, _, _, rfl, rfl, (by show (0 : Int) < 256; decide), _, _, rfl, rfl, dx, _, ho, (by show 6 < 1000; decide), ?_⟩
        exact rest _ _ ⟨rfl, upd_same, FT.ins ho (by simp)⟩
    rintro σ' G ⟨rfl, hg, F⟩
    refine ⟨_, rfl, _, rfl, p, CS, dx, _, rfl, hg, YS.cl, YS.n4, (by show 6 < 1000; decide), ?_⟩
    exact k _ upd_same (F.trans (FT.ins hg (by simp)))

abbrev s_Station_read : Stmt := inClass (top 26) 1
theorem sc_Station_read : FnScope ["self", "numbers", "frames", "plots", "x", "y", "z", "count"] ["self", "numbers"] (defScope s_Station_read) := ⟨rfl, rfl, rfl, by decide +kernel, rfl, by decide +kernel, by decide +kernel⟩
theorem ok_Station_read {f : Addr} {fd : FuncData} {CS : Addr} {TT : List Addr} (F : Fun K "read" "Station.read" s_Station_read f fd) (T : TxtA mg) (YS : StaY K mg CS) {tHALF_HEIGHT : Tok} (G_HALF_HEIGHT : mg "HALF_HEIGHT" = some (.int (32768) tHALF_HEIGHT)) {tLOWEST_HEIGHT : Tok} (G_LOWEST_HEIGHT : mg "LOWEST_HEIGHT" = some (.int (-1000) tLOWEST_HEIGHT))
    (D_frames_and_rest : Def P w K mg base 3 "frames_and_rest" ["numbers"] (spFramesR))
    (D_decode : Def P w K mg base 1 "decode" ["code"] (spDec))
    (M_note : MDef P w K mg base 1 CS "_note" ["self", "count"] (spNote CS TT)) : FnOk P w K mg base CX0 4 f fd ["self", "numbers"] (spReadS CS TT) := by
  refine F.ok sc_Station_read (fun vs H Q E h => ?_) (fun cdv A outer s H vs Q E hr h => ?_)
  · obtain ⟨_, _, _, _, _, _, rfl, _⟩ := h
    rfl
  · obtain ⟨p, dx, l, s, rs, ns, rfl, ho, hre, hl, hb, hlen, hT, k⟩ := h
    have hu := hu_of hr
    refine ⟨_, (pss_cons (ps_asg (pe_def D_frames_and_rest (hr.mono (by decide)) (by rfl) (pa_cons (pe_op op_cat (pe_fld (pv 0) rfl) (pv 1)) pa_nil)) (pg_tup (by rfl) (pgs_cons (pg_name (i := 2) sc_Station_read.nd rfl (Or.inl rfl)) (pgs_cons (pg_fld (pv 0)) pgs_nil))))
    (pss_cons (ps_set (i := 3) sc_Station_read.nd rfl (Or.inl rfl) (pe_lst pa_nil))
    (pss_cons (ps_for PassesOwn.never rfl (pi_list (pv 2)) (pg_tup (by rfl) (pgs_cons (pg_tup (by rfl) (pgs_cons (pg_name (i := 4) sc_Station_read.nd rfl (Or.inl rfl)) (pgs_cons (pg_name (i := 5) sc_Station_read.nd rfl (Or.inl rfl)) (pgs_cons (pg_name (i := 6) sc_Station_read.nd rfl (Or.inl rfl)) pgs_nil)))) (pgs_cons (pg_name (i := 7) sc_Station_read.nd rfl (Or.inl rfl)) pgs_nil)))
      (pss_cons (ps_expr (pe_mdef M_note YS.cl (hr.mono (by decide)) (pv 0) (pa_cons (pv 7) pa_nil)))
    (pss_one (ps_expr (pe_bm PySem.F.plainAttrs_list PySem.F.slot_list_append PySem.F.type_list_append mt_append (pv 3) (pa_cons (pe_tup (pa_cons (pv 4) (pa_cons (pv 5) (pa_cons (pe_op op_add (pe_def D_decode (hr.mono (by decide)) (by rfl) (pa_cons (pe_op op_add (pv 6) (pe_glob (v := .int 32768) rfl G_HALF_HEIGHT ⟨_, rfl⟩)) pa_nil)) (pe_glob (v := .int (-1000)) rfl G_LOWEST_HEIGHT ⟨_, rfl⟩)) pa_nil)))) pa_nil))))))
    (pss_one (ps_ret (pv 3)))))), ?_⟩
    rw [show L2.start ["self", "numbers", "frames", "plots", "x", "y", "z", "count"] [V.ref p, V.ref l] = [some (V.ref p), some (V.ref l), none, none, none, none, none, none] from rfl]
    obtain ⟨ru, bo, re, lc, ml, mh⟩ := s
    dsimp only at hre k
    refine ⟨_, rfl, _, _, _, _, _, rfl, ho, YS.cl, YS.n3, rfl, _, rfl, _, _, _, _, rfl, rfl, hre, hl, Nat.le_of_lt (small1000 (by rw [List.length_append] at hlen; rw [List.length_map, List.length_map]; omega)), fun q0 hq0 => ?_⟩
    refine ⟨q0, rs ++ ns, rfl, by rw [upd_same, List.map_append], hlen, hb, fun pp L r xs H1 hp0 hL0 hr0 sm hpt hlx hF hr => ?_⟩
    have F1 : FT [p] TT H H1 := FT.same ((same_new hq0).trans sm)
    have ho1 := sm _ _ (same_new hq0 (o := .lst (rs.map V.int ++ ns.map V.int)) _ _ ho)
    refine ⟨_, _, rfl, .inl (.inl hpt), rfl, _, _, rfl, _, _, rfl, _, rfl, p, CS, dx, _, rfl, ho1, YS.cl, YS.n3, (by show 6 < 1000; decide), rfl, ?_⟩
    dsimp only [List.set]
    have F2 := F1.trans (FT.ins (o' := .ins CS dx (stf ⟨ru, bo, r, lc, ml, mh⟩)) ho1 (by simp))
    have tupI : ∀ (a : Addr) (u : List V), H1 a = some (.tup u) → (upd H1 p (.ins CS dx (stf ⟨ru, bo, r, lc, ml, mh⟩))) a = some (.tup u) := fun a u e => by rw [upd_ne (ne_of e ho1 (by intro z; cases z))]; exact e
    have hlx2 : (upd H1 p (.ins CS dx (stf ⟨ru, bo, r, lc, ml, mh⟩))) L = some (.lst xs) := by rw [upd_ne (ne_of hlx ho1 (by intro z; cases z))]; exact hlx
    have hr2 : (upd H1 p (.ins CS dx (stf ⟨ru, bo, r, lc, ml, mh⟩))) r = some (.lst ((rm (rs ++ ns)).map V.int)) := by rw [upd_ne (ne_of hr ho1 (by intro z; cases z))]; exact hr
    have hF2 := hF.move tupI
    have ho2 : (upd H1 p (.ins CS dx (stf ⟨ru, bo, r, lc, ml, mh⟩))) p = some (.ins CS dx (stf ⟨ru, bo, r, lc, ml, mh⟩)) := upd_same
    rw [show putF "rest" (V.ref r) (stf ⟨ru, bo, re, lc, ml, mh⟩) = stf ⟨ru, bo, r, lc, ml, mh⟩ from rfl]
    generalize upd H1 p (.ins CS dx (stf ⟨ru, bo, r, lc, ml, mh⟩)) = G at F2 hlx2 hr2 hF2 ho2 ⊢
    refine ⟨szOk rfl, fun A hA => ?_⟩
    refine nm ?_
    dsimp only [List.set]
    have lA : L ≠ A := fun z => by rw [z, hA] at hlx2; cases hlx2
    have rA : r ≠ A := fun z => by rw [z, hA] at hr2; cases hr2
    have hlen2 := rd_len (rs ++ ns)
    have hxl := hF.len
    have hzz := rd_z _ hb
    have hA0 : H A = none := F2.none (F2.tb hT) (fun b hb e => by rw [List.mem_singleton.mp hb, ho2] at e; cases e) hA
    refine ⟨_, rfl, _, rfl, ⟨_, .inl (.inl (same_new hA _ _ hlx2))⟩, for_list (K := K) (a := L) (xs := xs) (fun i σ H' => ∃ v4 v5 v6 v7, σ = [some (.ref p), some (.ref l), some (.ref L), some (.ref A), v4, v5, v6, v7] ∧ H' p = some (.ins CS dx (stf ⟨ru, bo, r, (notes (lc, ml) (((rd (rs ++ ns)).take i).map (·.c))).1, (notes (lc, ml) (((rd (rs ++ ns)).take i).map (·.c))).2, mh⟩)) ∧
      H' L = some (.lst xs) ∧ H' r = some (.lst ((rm (rs ++ ns)).map V.int)) ∧ Frs H' xs (rd (rs ++ ns)) ∧ LoT H' A (((rd (rs ++ ns)).take i).map pT) ∧ FT [p] TT H H') ⟨none, none, none, none, rfl, same_new hA _ _ ho2, same_new hA _ _ hlx2, same_new hA _ _ hr2, hF2.move (tupS (same_new (o := .lst []) hA)), LoT.nil upd_same, F2.trans (FT.same (same_new (o := .lst []) hA))⟩ (fun i σ H' _ ⟨_, _, _, _, _, _, h, _⟩ => .inl (.inl h)) ?_ ?_⟩
    · rintro i x σ H' hx ⟨v4, v5, v6, v7, rfl, hp', hL', hr', hF', hA', F'⟩
      obtain ⟨q, t, f, rfl, ef, hq, ht⟩ := hF'.at i x hx
      refine ⟨_, _, rfl, .inl (.inl hq), rfl, _, _, rfl, _, _, rfl, .inl (.inl ht), rfl, _, _, rfl, _, _, rfl, _, _, rfl, rfl, _, _, rfl, rfl, ?_⟩
      dsimp only [List.set]
      refine ⟨_, rfl, _, _, _, rfl, hp', rfl, _, rfl, p, dx, _, f.c, rfl, hp', fun G2 hp2 FN => ?_⟩
      dsimp only at hp2
      have hL2 := FN.l _ _ hL'
      have hr2 := FN.l _ _ hr'
      have hF2 := hF'.move FN.t
      have hA2 := FN.lot hA'
      obtain ⟨ys, hy, hyl⟩ := hA2.li
      have fz := hzz f (List.mem_of_getElem? ef)
      have ilt := (List.getElem?_eq_some_iff.mp ef).1
      refine ⟨_, rfl, (.inl ⟨rfl, _, .inl (.inl hy)⟩), _, rfl, _, rfl, _, rfl, _, _, rfl, rfl, (f.z + 32768).toNat, ?_, ?_⟩
      · show [V.int (f.z + 32768)] = [V.int ((f.z + 32768).toNat : Int)]
        rw [Int.toNat_of_nonneg fz.1]
      refine ⟨_, _, rfl, rfl, szOk rfl, fun u hu => ?_⟩
      refine ⟨_, _, _, rfl, rfl, same_new hu _ _ hy, small1000 (by rw [hyl, List.length_map, List.length_take]; omega), ?_⟩
      have sU : Same G2 _ := same_new (o := .tup ((pT f).map V.int)) hu
      have hA3 := hA2.same sU
      have hA4 := hA3.snoc (same_new hu _ _ hy) (xs := pT f) upd_same
      have nI : ∀ (o : HO), (upd (upd G2 u (.tup ((pT f).map V.int))) A o) p = some (.ins CS dx (stf ⟨ru, bo, r, (noteS ((notes (lc, ml) (((rd (rs ++ ns)).take i).map (·.c))).1, (notes (lc, ml) (((rd (rs ++ ns)).take i).map (·.c))).2) f.c).1, (noteS ((notes (lc, ml) (((rd (rs ++ ns)).take i).map (·.c))).1, (notes (lc, ml) (((rd (rs ++ ns)).take i).map (·.c))).2) f.c).2, mh⟩)) := fun o => by
        rw [upd_ne (ne_of (sU _ _ hp2) (sU _ _ hy) (by intro z; cases z))]
        exact sU _ _ hp2
      refine ⟨_, _, _, _, rfl, ?_, by rw [upd_ne lA]; exact same_new hu _ _ hL2, by rw [upd_ne rA]; exact same_new hu _ _ hr2, (hF2.move (tupS sU)).move (keepT (same_new hu _ _ hy)), ?_, (F'.trans (FN.trans (FT.same sU))).newL hA0 (same_new hu _ _ hy)⟩
      · have e1 : notes (lc, ml) (((rd (rs ++ ns)).take (i + 1)).map (·.c)) = noteS (notes (lc, ml) (((rd (rs ++ ns)).take i).map (·.c))) f.c := by
          rw [List.take_add_one, ef, List.map_append, notes_app]
          rfl
        rw [e1]
        exact nI _
      · rw [List.take_add_one, ef, List.map_append]
        exact hA4
    rintro σ H' ⟨v4, v5, v6, v7, rfl, hp', hL', hr', hF', hA', F'⟩
    rw [hxl, List.take_length] at hp' hA'
    refine ⟨_, rfl, ?_⟩
    exact k A r _ hA0 ((same_new hq0).free hr0) hp' hr' hA' F'

abbrev s_Desk_estimate : Stmt := inClass (top 27) 3
theorem sc_Desk_estimate : FnScope ["self", "radar"] ["self", "radar"] (defScope s_Desk_estimate) := ⟨rfl, rfl, rfl, by decide +kernel, rfl, by decide +kernel, by decide +kernel⟩
theorem ok_Desk_estimate {f : Addr} {fd : FuncData} {CS CW : Addr}  (F : Fun K "estimate" "Desk.estimate" s_Desk_estimate f fd) (T : TxtA mg) (YD : DskY K mg CW) (YS : StaY K mg CS) : FnOk P w K mg base CX0 1 f fd ["self", "radar"] (spEst CW CS) := by
  refine F.ok sc_Desk_estimate (fun vs H Q E h => ?_) (fun cdv A outer s H vs Q E hr h => ?_)
  · obtain ⟨_, _, _, _, _, _, _, _, rfl, _⟩ := h
    rfl
  · obtain ⟨D, sl, p, dx, k, g, Ss, s, rfl, DA, hk, ho, kk⟩ := h
    have hu := hu_of hr
    refine ⟨_, (pss_one (ps_ret (pe_fld (pe_ix (r := rIxL K) ix_list (pe_fld (pv 0) rfl) (pv 1) (fun _ _ => rfl)) rfl))), ?_⟩
    rw [show L2.start ["self", "radar"] [V.ref D, V.int k] = [some (V.ref D), some (V.int k)] from rfl]
    obtain ⟨⟨dd, hd⟩, hss⟩ := id DA
    have at_ : atI (Ss.map V.ref) ((k : Nat) : Int) = some (.ref p) := atI_nat (by rw [List.getElem?_map, hk]; rfl)
    exact ⟨_, rfl, _, _, _, _, _, rfl, hd, YD.cl, YD.n2, rfl, _, rfl, _, _, _, _, rfl, rfl, .inl (.inl hss), at_, _, _, _, _, _, rfl, ho, YS.cl, YS.n2, rfl, kk⟩

abbrev s_Desk_lost : Stmt := inClass (top 27) 5
theorem sc_Desk_lost : FnScope ["self", "radar"] ["self", "radar"] (defScope s_Desk_lost) := ⟨rfl, rfl, rfl, by decide +kernel, rfl, by decide +kernel, by decide +kernel⟩
theorem ok_Desk_lost {f : Addr} {fd : FuncData} {CS CW : Addr}  (F : Fun K "lost" "Desk.lost" s_Desk_lost f fd) (T : TxtA mg) (YD : DskY K mg CW) (YS : StaY K mg CS) : FnOk P w K mg base CX0 1 f fd ["self", "radar"] (spLost CW CS) := by
  refine F.ok sc_Desk_lost (fun vs H Q E h => ?_) (fun cdv A outer s H vs Q E hr h => ?_)
  · obtain ⟨_, _, _, _, _, _, _, _, rfl, _⟩ := h
    rfl
  · obtain ⟨D, sl, p, dx, k, g, Ss, s, rfl, DA, hk, ho, kk⟩ := h
    have hu := hu_of hr
    refine ⟨_, (pss_one (ps_ret (pe_fld (pe_ix (r := rIxL K) ix_list (pe_fld (pv 0) rfl) (pv 1) (fun _ _ => rfl)) rfl))), ?_⟩
    rw [show L2.start ["self", "radar"] [V.ref D, V.int k] = [some (V.ref D), some (V.int k)] from rfl]
    obtain ⟨⟨dd, hd⟩, hss⟩ := id DA
    have at_ : atI (Ss.map V.ref) ((k : Nat) : Int) = some (.ref p) := atI_nat (by rw [List.getElem?_map, hk]; rfl)
    exact ⟨_, rfl, _, _, _, _, _, rfl, hd, YD.cl, YD.n2, rfl, _, rfl, _, _, _, _, rfl, rfl, .inl (.inl hss), at_, _, _, _, _, _, rfl, ho, YS.cl, YS.n5, rfl, kk⟩

abbrev s_Desk_held_back : Stmt := inClass (top 27) 6
theorem sc_Desk_held_back : FnScope ["self", "radar"] ["self", "radar"] (defScope s_Desk_held_back) := ⟨rfl, rfl, rfl, by decide +kernel, rfl, by decide +kernel, by decide +kernel⟩
theorem ok_Desk_held_back {f : Addr} {fd : FuncData} {CS CW : Addr}  (F : Fun K "held_back" "Desk.held_back" s_Desk_held_back f fd) (T : TxtA mg) (YD : DskY K mg CW) (YS : StaY K mg CS) : FnOk P w K mg base CX0 1 f fd ["self", "radar"] (spHeld CW CS) := by
  refine F.ok sc_Desk_held_back (fun vs H Q E h => ?_) (fun cdv A outer s H vs Q E hr h => ?_)
  · obtain ⟨_, _, _, _, _, _, _, _, rfl, _⟩ := h
    rfl
  · obtain ⟨D, sl, p, dx, k, g, Ss, s, rfl, DA, hk, ho, kk⟩ := h
    have hu := hu_of hr
    refine ⟨_, (pss_one (ps_ret (pe_fld (pe_ix (r := rIxL K) ix_list (pe_fld (pv 0) rfl) (pv 1) (fun _ _ => rfl)) rfl))), ?_⟩
    rw [show L2.start ["self", "radar"] [V.ref D, V.int k] = [some (V.ref D), some (V.int k)] from rfl]
    obtain ⟨⟨dd, hd⟩, hss⟩ := id DA
    have at_ : atI (Ss.map V.ref) ((k : Nat) : Int) = some (.ref p) := atI_nat (by rw [List.getElem?_map, hk]; rfl)
    exact ⟨_, rfl, _, _, _, _, _, rfl, hd, YD.cl, YD.n2, rfl, _, rfl, _, _, _, _, rfl, rfl, .inl (.inl hss), at_, _, _, _, _, _, rfl, ho, YS.cl, YS.n6, rfl, kk⟩

abbrev s_Desk_left : Stmt := inClass (top 27) 4
theorem sc_Desk_left : FnScope ["self", "radar"] ["self", "radar"] (defScope s_Desk_left) := ⟨rfl, rfl, rfl, by decide +kernel, rfl, by decide +kernel, by decide +kernel⟩
theorem ok_Desk_left {f : Addr} {fd : FuncData} {CS CW : Addr}  (F : Fun K "left" "Desk.left" s_Desk_left f fd) (T : TxtA mg) (YD : DskY K mg CW) (YS : StaY K mg CS) : FnOk P w K mg base CX0 1 f fd ["self", "radar"] (spLeft CW CS) := by
  refine F.ok sc_Desk_left (fun vs H Q E h => ?_) (fun cdv A outer s H vs Q E hr h => ?_)
  · obtain ⟨_, _, _, _, _, _, _, _, _, rfl, _⟩ := h
    rfl
  · obtain ⟨D, sl, p, dx, k, g, Ss, s, rs, rfl, DA, hk, ho, hre, kk⟩ := h
    have hu := hu_of hr
    refine ⟨_, (pss_one (ps_ret (pe_callTy call_list_of (by rfl) T.list boot_list (pa_cons (pe_fld (pe_ix (r := rIxL K) ix_list (pe_fld (pv 0) rfl) (pv 1) (fun _ _ => rfl)) rfl) pa_nil)))), ?_⟩
    rw [show L2.start ["self", "radar"] [V.ref D, V.int k] = [some (V.ref D), some (V.int k)] from rfl]
    obtain ⟨⟨dd, hd⟩, hss⟩ := id DA
    have at_ : atI (Ss.map V.ref) ((k : Nat) : Int) = some (.ref p) := atI_nat (by rw [List.getElem?_map, hk]; rfl)
    refine ⟨_, rfl, _, _, _, _, _, rfl, hd, YD.cl, YD.n2, rfl, _, rfl, _, _, _, _, rfl, rfl, .inl (.inl hss), at_, _, _, _, _, _, rfl, ho, YS.cl, YS.n3, rfl, ?_⟩
    refine ⟨_, _, rfl, .inl (.inl (.inl hre)), fun q hq => ?_⟩
    exact kk q _ hq upd_same (same_new hq)

abbrev s_Desk_learn : Stmt := inClass (top 27) 2
theorem sc_Desk_learn : FnScope ["self", "radar", "path", "box", "plot", "station", "bounds"] ["self", "radar", "path", "box", "plot"] (defScope s_Desk_learn) := ⟨rfl, rfl, rfl, by decide +kernel, rfl, by decide +kernel, by decide +kernel⟩
theorem ok_Desk_learn {f : Addr} {fd : FuncData} {C CS CW : Addr} {TT : List Addr} (F : Fun K "learn" "Desk.learn" s_Desk_learn f fd) (T : TxtA mg) (YD : DskY K mg CW) (YS : StaY K mg CS)
    (D_narrowed : Def P w K mg base 6 "narrowed" ["rules", "estimate", "path", "box", "plot"] (spNar C TT)) : FnOk P w K mg base CX0 7 f fd ["self", "radar", "path", "box", "plot"] (spLearn CW CS C TT) := by
  refine F.ok sc_Desk_learn (fun vs H Q E h => ?_) (fun cdv A outer s H vs Q E hr h => ?_)
  · obtain ⟨_, _, _, _, _, _, _, _, _, _, _, _, _, _, _, _, _, _, _, _, _, _, rfl, _⟩ := h
    rfl
  · obtain ⟨D, sl, pa, b, q, r1, p, dx, k, g, Ss, s, r, rd, E, Dc, ns, x, px, py, pz, ss, rfl, DA, hk, nD, ho, RU, RR, hbo, hb, lx, hq, PA, bd, n2, n20, eP, hss0, sne, hsl, hT, kn, ks⟩ := h
    have hu := hu_of hr
    refine ⟨_, (pss_cons (ps_set (i := 5) sc_Desk_learn.nd rfl (Or.inl rfl) (pe_ix (r := rIxL K) ix_list (pe_fld (pv 0) rfl) (pv 1) (fun _ _ => rfl)))
    (pss_cons (ps_set (i := 6) sc_Desk_learn.nd rfl (Or.inl rfl) (pe_def D_narrowed (hr.mono (by decide)) (by rfl) (pa_cons (pe_fld (pv 5) rfl) (pa_cons (pe_fld (pv 5) rfl) (pa_cons (pv 2) (pa_cons (pv 3) (pa_cons (pv 4) pa_nil)))))))
    (pss_cons (ps_if (pt_cmpR op_isN (pv 6) pe_non (nomark _)) (pss_one (ps_ret pe_bl))
      pss_nil)
    (pss_cons (ps_fld (pv 5) (pv 6) rfl)
    (pss_one (ps_ret pe_bl)))))), ?_⟩
    rw [show L2.start ["self", "radar", "path", "box", "plot", "station", "bounds"] [V.ref D, V.int k, V.ref pa, V.ref b, V.ref q] = [some (V.ref D), some (V.int k), some (V.ref pa), some (V.ref b), some (V.ref q), none, none] from rfl]
    obtain ⟨⟨dd, hd⟩, hss⟩ := id DA
    have at_ : atI (Ss.map V.ref) ((k : Nat) : Int) = some (.ref p) := atI_nat (by rw [List.getElem?_map, hk]; rfl)
    refine ⟨_, rfl, _, _, _, _, _, rfl, hd, YD.cl, YD.n2, rfl, _, rfl, _, _, _, _, rfl, rfl, .inl (.inl hss), at_, ?_⟩
    refine nm ?_
    dsimp only [List.set]
    refine ⟨_, rfl, _, _, _, _, _, rfl, ho, YS.cl, YS.n1, rfl, _, rfl, _, _, _, _, _, rfl, ho, YS.cl, YS.n2, rfl, _, rfl, _, rfl, _, rfl, s.ru, s.bo, pa, b, q, r1, r, rd, E, Dc, ns, x, px, py, pz, ss, rfl, RU, RR, hbo, hb, lx, hq, PA, bd, n2, n20, eP, hss0, sne, hsl, hT, fun v H1 st1 hv => ?_⟩
    refine nm ?_
    dsimp only [List.set]
    have ho1 := st1.i hT ho
    have F1 : FT [p] TT H H1 := FT.st st1 hT
    cases en : nar E (rd + r.ra) px py ss with
    | none =>
      rw [en] at hv
      cases hv
      refine ⟨_, rfl, rfl, _, rfl, ifY rfl ?_⟩
      exact kn en H1 F1 ho1
    | some E2 =>
      rw [en] at hv
      obtain ⟨e2, rfl, he2⟩ := hv
      refine ⟨_, rfl, rfl, _, rfl, ifN (fun z => nomatch z) ?_⟩
      refine nxq ?_
      refine ⟨_, rfl, _, rfl, p, CS, dx, _, rfl, ho1, YS.cl, YS.n2, (by show 6 < 1000; decide), ?_⟩
      exact ks E2 en e2 _ (F1.trans (FT.ins ho1 (by simp))) upd_same (by rw [upd_ne (ne_of he2 ho1 (by intro z; cases z))]; exact he2)

abbrev s_Desk_receive : Stmt := inClass (top 27) 1
theorem sc_Desk_receive : FnScope ["self", "radar", "numbers", "station", "passed", "plot", "better", "error"] ["self", "radar", "numbers"] (defScope s_Desk_receive) := ⟨rfl, rfl, rfl, by decide +kernel, rfl, by decide +kernel, by decide +kernel⟩
theorem ok_Desk_receive {f : Addr} {fd : FuncData} {CS CW : Addr} {TT : List Addr} (F : Fun K "receive" "Desk.receive" s_Desk_receive f fd) (T : TxtA mg) (YD : DskY K mg CW) (YS : StaY K mg CS)
    (M_read : MDef P w K mg base 4 CS "read" ["self", "numbers"] (spReadS CS TT))
    (D_corrected : Def P w K mg base 4 "corrected" ["rules", "estimate", "plot"] (spCor)) : FnOk P w K mg base CX0 5 f fd ["self", "radar", "numbers"] (spRecv CW CS TT) := by
  refine F.ok sc_Desk_receive (fun vs H Q E h => ?_) (fun cdv A outer s H vs Q E hr h => ?_)
  · obtain ⟨_, _, _, _, _, _, _, _, _, _, _, _, _, rfl, _⟩ := h
    rfl
  · obtain ⟨D, sl, l, p, dx, k, g, err, Ss, s, rs, ns, E, rfl, DA, hk, nD, ho, hre, hl, hb, hlen, RR, hbo, sd, hT, kk⟩ := h
    have hu := hu_of hr
    refine ⟨_, (pss_cons (ps_set (i := 3) sc_Desk_receive.nd rfl (Or.inl rfl) (pe_ix (r := rIxL K) ix_list (pe_fld (pv 0) rfl) (pv 1) (fun _ _ => rfl)))
    (pss_cons (ps_set (i := 4) sc_Desk_receive.nd rfl (Or.inl rfl) (pe_lst pa_nil))
    (pss_cons (ps_for PassesOwn.never rfl (pi_list (pe_mdef M_read YS.cl (hr.mono (by decide)) (pv 3) (pa_cons (pv 2) pa_nil))) (pg_name (i := 5) sc_Desk_receive.nd rfl (Or.inl rfl))
      (pss_cons (ps_asg (pe_def D_corrected (hr.mono (by decide)) (by rfl) (pa_cons (pe_fld (pv 3) rfl) (pa_cons (pe_fld (pv 3) rfl) (pa_cons (pv 5) pa_nil)))) (pg_tup (by rfl) (pgs_cons (pg_name (i := 6) sc_Desk_receive.nd rfl (Or.inl rfl)) (pgs_cons (pg_name (i := 7) sc_Desk_receive.nd rfl (Or.inl rfl)) pgs_nil))))
    (pss_one (ps_if (pt_cmpR op_le (pv 7) (pe_fld (pv 0) rfl) (nomark _)) (pss_one (ps_expr (pe_bm PySem.F.plainAttrs_list PySem.F.slot_list_append PySem.F.type_list_append mt_append (pv 4) (pa_cons (pv 6) pa_nil))))
      (pss_one (ps_fldaug (pv 3) pe_int in_add))))))
    (pss_one (ps_ret (pv 4)))))), ?_⟩
    rw [show L2.start ["self", "radar", "numbers", "station", "passed", "plot", "better", "error"] [V.ref D, V.int k, V.ref l] = [some (V.ref D), some (V.int k), some (V.ref l), none, none, none, none, none] from rfl]
    obtain ⟨⟨dd, hd⟩, hss⟩ := id DA
    have at_ : atI (Ss.map V.ref) ((k : Nat) : Int) = some (.ref p) := atI_nat (by rw [List.getElem?_map, hk]; rfl)
    obtain ⟨ru, bo, re, lc, ml, mh⟩ := s
    dsimp only at hre RR hbo kk
    obtain ⟨sx0, sx1, sy0, sy1⟩ := id sd
    refine ⟨_, rfl, _, _, _, _, _, rfl, hd, YD.cl, YD.n2, rfl, _, rfl, _, _, _, _, rfl, rfl, .inl (.inl hss), at_, ?_⟩
    refine nm ?_
    dsimp only [List.set]
    refine ⟨szOk rfl, fun A hA => ?_⟩
    refine nm ?_
    dsimp only [List.set]
    have sA : Same H _ := same_new (o := .lst []) hA
    refine ⟨_, rfl, _, _, _, rfl, sA _ _ ho, rfl, _, rfl, p, dx, l, _, rs, ns, rfl, sA _ _ ho, sA _ _ hre, sA _ _ hl, hb, hlen, Same.tabs sA hT, fun q r2 H1 hq1 hr20 hp1 hr1 L1 F1 => ?_⟩
    have qA : q ≠ A := fun z => by rw [z, upd_same] at hq1; cases hq1
    have hA1 := F1.l _ _ (upd_same (H := H) (a := A) (o := .lst []))
    have T1 := F1.tb (Same.tabs sA hT)
    have F01 : FT [p] TT H H1 := (FT.same sA).trans F1
    have RR1 := F01.rr hT RR (by simpa using (ne_of RR.choose_spec.1 ho (by intro z; cases z)))
    have hbo1 := F01.t _ _ hbo
    have DA1 := DA.ft F01 hT (by simpa using nD)
    have hlen2 := rd_len (rs ++ ns)
    generalize hfs : rd (rs ++ ns) = fs at hp1 L1 hlen2 kk
    dsimp only at hp1
    generalize (notes (lc, ml) (fs.map (·.c))).1 = lc2 at hp1 kk
    generalize (notes (lc, ml) (fs.map (·.c))).2 = ml2 at hp1 kk
    obtain ⟨ps, hps, hpl, hat⟩ := L1.row2
    rw [List.length_map] at hpl
    have r2A : r2 ≠ A := fun z => by rw [z, upd_same] at hr20; cases hr20
    refine ⟨_, rfl, ⟨_, .inl (.inl hps)⟩, for_list (K := K) (a := q) (xs := ps.map V.ref) (fun i σ H' => ∃ v5 v6 v7, σ = [some (.ref D), some (.int k), some (.ref l), some (.ref p), some (.ref A), v5, v6, v7] ∧
      H' p = some (.ins CS dx (stf ⟨ru, bo, r2, lc2, ml2, mh + if eR err E ≤ g then 0 else (i : Int)⟩)) ∧ H' r2 = some (.lst ((rm (rs ++ ns)).map V.int)) ∧ H' q = some (.lst (ps.map V.ref)) ∧ (∀ a xs, H1 a = some (.tup xs) → H' a = some (.tup xs)) ∧
      LoT H' A (if eR err E ≤ g then (fs.take i).map (mv E) else []) ∧ RrAt H' ru err ∧ (∃ dd, H' D = some (.ins CW dd (dsf g sl))) ∧ FT [p] TT H H') ⟨none, none, none, rfl, by simpa using hp1, hr1, hps, fun _ _ e => e, by simpa using LoT.nil hA1, RR1, DA1.ob, F01⟩ (fun i σ H' _ ⟨_, _, _, _, _, _, h, _⟩ => .inl (.inl h)) ?_ ?_⟩
    · rintro i x σ H' hx ⟨v5, v6, v7, rfl, hp', hr', hq', ht', hA', RR', ⟨dd', hD'⟩, F'⟩
      obtain ⟨z, e, rfl, ez, hz⟩ := hat i x hx
      rw [List.getElem?_map] at ez
      obtain ⟨f, ef, rfl⟩ : ∃ f, fs[i]? = some f ∧ pT f = e := by
        cases h : fs[i]? with
        | none => rw [h] at ez; cases ez
        | some f => rw [h] at ez; exact ⟨f, rfl, Option.some.inj ez⟩
      have ilt := (List.getElem?_eq_some_iff.mp ef).1
      refine nm ?_
      dsimp only [List.set]
      refine ⟨_, rfl, _, _, _, _, _, rfl, hp', YS.cl, YS.n1, rfl, _, rfl, _, _, _, _, _, rfl, hp', YS.cl, YS.n2, rfl, _, rfl, ru, bo, z, err, E, f.x, f.y, (dec (f.z + 32768).toNat : Int) + -1000, rfl, RR', F'.t _ _ hbo, ht' _ _ hz, sx0, sx1, sy0, sy1, fun u v G sm hu hv => ?_⟩
      refine ⟨_, _, rfl, .inl (.inl hu), rfl, _, _, rfl, _, _, rfl, rfl, ?_⟩
      dsimp only [List.set]
      have hpG := sm _ _ hp'
      obtain ⟨ys, hy, hyl⟩ := (hA'.same sm).li
      refine ⟨_, rfl, _, rfl, _, _, _, _, _, rfl, (sm _ _ hD'), YD.cl, YD.n1, rfl, _, _, rfl, rfl, _, rfl, ?_⟩
      by_cases c : eR err E ≤ g
      · refine ifY c ?_
        rw [if_pos c] at hyl hA' hpG
        refine ⟨_, rfl, (.inl ⟨rfl, _, .inl (.inl hy)⟩), _, rfl, _, _, _, rfl, rfl, hy, small1000 (by rw [hyl, List.length_map, List.length_take]; omega), ?_⟩
        have hA2 := (hA'.same sm).snoc hy (xs := mv E f) hv
        refine ⟨_, _, _, rfl, ?_, ?_, ?_, ?_, ?_, ?_, ⟨dd', ?_⟩, (F'.trans (FT.same sm)).newL hA hy⟩
        · rw [if_pos c, upd_ne (ne_of hpG hy (by intro z; cases z))]; exact hpG
        · rw [upd_ne r2A]; exact sm _ _ hr'
        · rw [upd_ne qA]; exact sm _ _ hq'
        · intro a xs e
          rw [upd_ne (ne_of (sm _ _ (ht' _ _ e)) hy (by intro z; cases z))]; exact sm _ _ (ht' _ _ e)
        · rw [if_pos c, List.take_add_one, ef, List.map_append]
          exact hA2
        · obtain ⟨kvs, e1, e2⟩ := RR'
          exact ⟨kvs, by rw [upd_ne (ne_of (sm _ _ e1) hy (by intro z; cases z))]; exact sm _ _ e1, e2⟩
        · rw [upd_ne (ne_of (sm _ _ hD') hy (by intro z; cases z))]; exact sm _ _ hD'
      · refine ifN c ?_
        rw [if_neg c] at hyl hA' hpG
        refine ⟨_, rfl, p, CS, dx, _, _, rfl, hpG, YS.cl, YS.n6, rfl, _, _, rfl, rfl, dx, _, hpG, (by show 6 < 1000; decide), ?_⟩
        refine ⟨_, _, _, rfl, ?_, ?_, ?_, ?_, ?_, ?_, ⟨dd', ?_⟩, (F'.trans (FT.same sm)).trans (FT.ins hpG (by simp))⟩
        · rw [upd_same, if_neg c, show mh + ((i + 1 : Nat) : Int) = mh + (i : Int) + 1 by omega]
          rfl
        · rw [upd_ne (ne_of (sm _ _ hr') hpG (by intro z; cases z))]; exact sm _ _ hr'
        · rw [upd_ne (ne_of (sm _ _ hq') hpG (by intro z; cases z))]; exact sm _ _ hq'
        · intro a xs e
          rw [upd_ne (ne_of (sm _ _ (ht' _ _ e)) hpG (by intro z; cases z))]; exact sm _ _ (ht' _ _ e)
        · rw [if_neg c]
          exact (hA'.same sm).offI hpG
        · obtain ⟨kvs, e1, e2⟩ := RR'
          exact ⟨kvs, by rw [upd_ne (ne_of (sm _ _ e1) hpG (by intro z; cases z))]; exact sm _ _ e1, e2⟩
        · rw [upd_ne nD]; exact sm _ _ hD'
    rintro σ H' ⟨v5, v6, v7, rfl, hp', hr', hq', ht', hA', RR', ⟨dd', hD'⟩, F'⟩
    rw [List.length_map, hpl] at hp' hA'
    rw [List.take_length] at hA'
    refine ⟨_, rfl, ?_⟩
    exact kk A r2 H' hp' hr' hA' F'

abbrev s_Desk___init__ : Stmt := inClass (top 27) 0
theorem sc_Desk___init__ : FnScope ["self", "rules", "errors", "estimates", "error", "bounds"] ["self", "rules", "errors", "estimates"] (defScope s_Desk___init__) := ⟨rfl, rfl, rfl, by decide +kernel, rfl, by decide +kernel, by decide +kernel⟩
theorem ok_Desk___init__ {f : Addr} {fd : FuncData} {CS CW : Addr} {TT : List Addr} (F : Fun K "__init__" "Desk.__init__" s_Desk___init__ f fd) (T : TxtA mg) (YD : DskY K mg CW) (YS : StaY K mg CS) (Tz : mg "zip" = none)
    (D_Station : CDef P w K mg base 1 CS "Station" ["self", "rules", "bounds"] (spSta CS TT)) : FnOk P w K mg base CX0 3 f fd ["self", "rules", "errors", "estimates"] (spDesk CW CS TT) := by
  refine F.ok sc_Desk___init__ (fun vs H Q E h => ?_) (fun cdv A outer s H vs Q E hr h => ?_)
  · obtain ⟨_, _, _, _, _, _, _, _, _, rfl, _⟩ := h
    rfl
  · obtain ⟨D, dx, ru, le, lb, r, g, es, bs, rfl, hD, RU, RR, hle, hlb, len, es1, hT, kk⟩ := h
    have hu := hu_of hr
    refine ⟨_, (pss_cons (ps_fld (pv 0) (pe_dget hu (pv 1) pe_str (fun _ _ => rfl)) rfl)
    (pss_cons (ps_fld (pv 0) (pe_lst pa_nil) rfl)
    (pss_one (ps_for PassesOwn.never rfl (pi_zip (by rfl) Tz (pa_cons (pv 2) (pa_cons (pv 3) pa_nil))) (pg_tup (by rfl) (pgs_cons (pg_name (i := 4) sc_Desk___init__.nd rfl (Or.inl rfl)) (pgs_cons (pg_name (i := 5) sc_Desk___init__.nd rfl (Or.inl rfl)) pgs_nil)))
      (pss_one (ps_expr (pe_bm PySem.F.plainAttrs_list PySem.F.slot_list_append PySem.F.type_list_append mt_append (pe_fld (pv 0) rfl) (pa_cons (pe_cdef D_Station (hr.mono (by decide)) (by rfl) (pa_cons (pe_dstar (pv 1) pe_str (pv 4)) (pa_cons (pv 5) pa_nil))) pa_nil)))))))), ?_⟩
    rw [show L2.start ["self", "rules", "errors", "estimates", "error", "bounds"] [V.ref D, V.ref ru, V.ref le, V.ref lb] = [some (V.ref D), some (V.ref ru), some (V.ref le), some (V.ref lb), none, none] from rfl]
    refine ⟨_, rfl, _, _, rfl, RR.g, _, rfl, D, CW, dx, _, rfl, hD, YD.cl, YD.n1, (by show 0 < 1000; decide), ?_⟩
    refine ⟨szOk rfl, fun sl hsl => ?_⟩
    have nD : sl ≠ D := fun w => by rw [w, upd_same] at hsl; cases hsl
    refine ⟨_, rfl, D, CW, dx, _, rfl, (same_new hsl _ _ upd_same), YD.cl, YD.n2, (by show 1 < 1000; decide), ?_⟩
    have hsl0 : H sl = none := by rw [upd_ne nD] at hsl; exact hsl
    have F0 : FT [D] TT H _ := ((FT.ins (o' := .ins CW dx (putF "_greatest_error" (V.int g) [])) hD (by simp)).trans (FT.same (same_new (o := .lst []) hsl))).trans (FT.ins (o' := .ins CW dx (dsf g sl)) (same_new hsl _ _ upd_same) (by simp))
    rw [show putF "_stations" (V.ref sl) (putF "_greatest_error" (V.int g) []) = dsf g sl from rfl]
    have hD0 : (upd (upd (upd H D (.ins CW dx (putF "_greatest_error" (V.int g) []))) sl (.lst [])) D (.ins CW dx (dsf g sl))) D = some (.ins CW dx (dsf g sl)) := upd_same
    have hs0 : (upd (upd (upd H D (.ins CW dx (putF "_greatest_error" (V.int g) []))) sl (.lst [])) D (.ins CW dx (dsf g sl))) sl = some (.lst []) := by rw [upd_ne nD, upd_same]
    generalize upd (upd (upd H D (.ins CW dx (putF "_greatest_error" (V.int g) []))) sl (.lst [])) D (.ins CW dx (dsf g sl)) = G0 at F0 hD0 hs0 ⊢
    have nru : ru ∉ [D] := by
      obtain ⟨kvs, e, _⟩ := RU.ex
      simpa using (ne_of e hD (by intro z; cases z))
    refine ⟨_, rfl, _, rfl, le, lb, es.map V.int, bs.map V.ref, rfl, .inl (.inl (F0.l _ _ hle)), .inl (.inl (F0.l _ _ hlb)), RZ.for_zipL (K := K) (xs := es.map V.int) (ys := bs.map V.ref) (by rw [List.length_map, List.length_map]; exact len)
      (fun i σ H' => ∃ Ss v4 v5, σ = [some (.ref D), some (.ref ru), some (.ref le), some (.ref lb), v4, v5] ∧ DskAt CW H' D sl g Ss ∧ Ss.length = i ∧ Ss.Nodup ∧ (∀ p ∈ Ss, H p = none) ∧ D ∉ Ss ∧
        (∀ (j : Nat) (p : Addr) (e : Int) (b : Addr), Ss[j]? = some p → es[j]? = some e → bs[j]? = some b → NewS CS H H' D sl r p e b) ∧ (∀ p ∈ Ss, ∃ dx fs, H' p = some (.ins CS dx fs)) ∧ FT [D] TT H H')
      ⟨[], none, none, rfl, ⟨⟨dx, hD0⟩, hs0⟩, rfl, List.nodup_nil, (fun _ h => nomatch h), (fun h => nomatch h), (fun j p e b h => by simp at h), (fun _ h => nomatch h), F0⟩ (fun i σ H' ⟨_, _, _, _, _, _, _, _, _, _, _, F'⟩ => ⟨.inl (.inl (F'.l _ _ hle)), .inl (.inl (F'.l _ _ hlb))⟩) ?_ ?_⟩
    · rintro i x y tz σ H' hx hy ⟨Ss, v4, v5, rfl, ⟨⟨dd, hd⟩, hss⟩, sl_, snd, sn, sD, sN, sI, F'⟩ htz
      obtain ⟨e, rfl, he⟩ : ∃ e : Int, x = .int e ∧ es[i]? = some e := by
        rw [List.getElem?_map] at hx
        cases h : es[i]? with
        | none => rw [h] at hx; cases hx
        | some e => rw [h] at hx; exact ⟨e, (Option.some.inj hx).symm, rfl⟩
      obtain ⟨b, rfl, hb⟩ : ∃ b : Addr, y = .ref b ∧ bs[i]? = some b := by
        rw [List.getElem?_map] at hy
        cases h : bs[i]? with
        | none => rw [h] at hy; cases hy
        | some b => rw [h] at hy; exact ⟨b, (Option.some.inj hy).symm, rfl⟩
      have ilt := (List.getElem?_eq_some_iff.mp he).1
      refine ⟨_, _, rfl, .inl (.inl upd_same), rfl, _, _, rfl, _, _, rfl, rfl, ?_⟩
      dsimp only [List.set]
      have s1 : Same H' _ := same_new (o := .tup [.int e, .ref b]) htz
      generalize upd H' tz (.tup [.int e, .ref b]) = H1 at s1 ⊢
      have hd1 := s1 _ _ hd
      have hss1 := s1 _ _ hss
      have F1 : FT [D] TT H H1 := F'.trans (FT.same s1)
      have RU1 := F1.ru hT RU nru
      have RR1 := F1.rr hT RR nru
      have T1 := F1.tb hT
      refine ⟨_, rfl, _, _, _, _, _, rfl, hd1, YD.cl, YD.n2, rfl, (.inl ⟨rfl, _, .inl (.inl hss1)⟩), fun pd hpd => ?_⟩
      obtain ⟨kvs, hkv, hrad⟩ := id RR1
      have npd : pd ≠ ru := fun z => by rw [z, hkv] at hpd; cases hpd
      have npD : pd ≠ D := fun z => by rw [z, hd1] at hpd; cases hpd
      refine ⟨_, rfl, ru, kvs, rfl, by rw [upd_ne npd.symm]; exact hkv, upd_same, npd, fun q hq => ?_⟩
      have nqp : pd ≠ q := fun z => by rw [← z, upd_same] at hq; cases hq
      rw [upd_ne nqp.symm, upd_ne nqp.symm] at hq
      refine ⟨_, rfl, .inr "radar", .int e, rfl, by rw [hrad]; rfl, nqp, by rw [upd_ne nqp, upd_same], upd_same, ?_⟩
      have s2 : Same H1 (upd (upd (upd (upd (upd H1 pd (.dK [])) pd (.dK kvs)) q (.dK [])) q (.dK [(.inr "radar", V.int e)])) pd (.dK (putK kvs (.inr "radar") (V.int e)))) := fun a o h => by
        rw [upd_ne (ne_of_none h hpd), upd_ne (ne_of_none h hq), upd_ne (ne_of_none h hq), upd_ne (ne_of_none h hpd), upd_ne (ne_of_none h hpd)]; exact h
      have hpd2 : (upd (upd (upd (upd (upd H1 pd (.dK [])) pd (.dK kvs)) q (.dK [])) q (.dK [(.inr "radar", V.int e)])) pd (.dK (putK kvs (.inr "radar") (V.int e)))) pd = some (.dK (putK kvs (.inr "radar") (V.int e))) := upd_same
      generalize upd (upd (upd (upd (upd H1 pd (.dK [])) pd (.dK kvs)) q (.dK [])) q (.dK [(.inr "radar", V.int e)])) pd (.dK (putK kvs (.inr "radar") (V.int e))) = H2 at s2 hpd2 ⊢
      have RU2 : RuAt H2 pd r := RU1.put hkv hpd2
      have RR2 : RrAt H2 pd e := RrAt.put hpd2
      refine ⟨_, rfl, fun x dx2 hx2 hdx2 nx2 => ?_⟩
      have s3 : Same H2 (upd (upd H2 dx2 (.own x)) x (.ins CS dx2 [])) := fun a o h => by
        rw [upd_ne (ne_of_none h hx2), upd_ne (ne_of_none h hdx2)]; exact h
      refine ⟨x, dx2, pd, b, rfl, upd_same, fun re H4 hre nre hob hre4 F4 => ⟨rfl, ?_⟩⟩
      have F24 : FT [x] TT H2 H4 := (FT.same s3).trans F4
      have F14 : FT [x] TT H1 H4 := (FT.same s2).trans F24
      have hx1 : H1 x = none := by
        cases h : H1 x with
        | none => rfl
        | some o => rw [s2 _ _ h] at hx2; cases hx2
      have nxD : D ≠ x := fun z => by rw [← z, hd1] at hx1; cases hx1
      have hss4 := F14.l _ _ hss1
      have hd4 := F14.i T1 hd1 (by simpa using nxD)
      have T4 := F14.tb T1
      have hxn : H x = none := F1.none T1 (fun b hb z => by rw [List.mem_singleton.mp hb, hd1] at z; cases z) hx1
      have hpdn : H pd = none := F1.none T1 (fun b hb z => by rw [List.mem_singleton.mp hb, hd1] at z; cases z) hpd
      have Fall : FT [D] TT H H4 := ⟨fun a o h na nt => F14.k _ _ (F1.k _ _ h na nt) (fun z => by rw [List.mem_singleton.mp z, hxn] at h; cases h) nt, fun a xs h => F14.t _ _ (F1.t _ _ h), fun a xs h => F14.l _ _ (F1.l _ _ h), fun t => F14.tb (F1.tb t)⟩
      refine ⟨_, _, _, rfl, rfl, hss4, small1000 (by rw [List.length_map, sl_]; omega), ?_⟩
      have pdx : pd ≠ x := fun z => by rw [z, hx2] at hpd2; cases hpd2
      have xs_ : ∀ p ∈ Ss, p ≠ x := fun p hp z => by
        obtain ⟨_, _, h⟩ := sI p hp
        rw [← z, s1 _ _ h] at hx1; cases hx1
      have resl : re ≠ sl := fun z => by
        have := s3 _ _ (s2 _ _ hss1)
        rw [← z, hre] at this; cases this
      have newOne : NewS CS H H4 D sl r x e b := ⟨dx2, pd, re, hpdn, npD, hob, hre4, resl, F24.ru (Same.tabs s2 T1) RU2 (by simpa using pdx), F24.rr (Same.tabs s2 T1) RR2 (by simpa using pdx)⟩
      refine ⟨Ss ++ [x], _, _, rfl, ⟨⟨dd, by rw [upd_ne (ne_of hd4 hss4 (by intro z; cases z))]; exact hd4⟩, by rw [upd_same, List.map_append]; rfl⟩, by rw [List.length_append, sl_]; rfl, ?_, ?_, ?_, ?_, ?_, Fall.newL hsl0 hss4⟩
      · rw [List.nodup_append]
        exact ⟨snd, by simp, fun a ha c hc => by rw [List.mem_singleton.mp hc]; exact xs_ a ha⟩
      · intro p hp
        rcases List.mem_append.mp hp with hp | hp
        · exact sn p hp
        · rw [List.mem_singleton.mp hp]; exact hxn
      · intro h
        rcases List.mem_append.mp h with h | h
        · exact sD h
        · exact nxD (List.mem_singleton.mp h)
      · intro j p e' b' hp he' hb'
        rcases Nat.lt_or_ge j Ss.length with z | z
        · rw [List.getElem?_append_left z] at hp
          have n1 := sN j p e' b' hp he' hb'
          have n2 : NewS CS H H1 D sl r p e' b' := n1.ft (M := []) (FT.same s1) (F'.tb hT) (by simp) (by simp)
          have n3 := n2.ft F14 T1 (by simpa using xs_ p (List.mem_of_getElem? hp)) (fun c hc kv h => by rw [List.mem_singleton.mp hc, hx1] at h; cases h)
          exact n3.offL hss4
        · obtain rfl : j = i := by
            have := (List.getElem?_eq_some_iff.mp hp).1
            rw [List.length_append, List.length_singleton] at this
            omega
          rw [List.getElem?_append_right z, sl_, Nat.sub_self] at hp
          cases hp
          rw [he] at he'
          rw [hb] at hb'
          cases he'
          cases hb'
          exact newOne.offL hss4
      · intro p hp
        rcases List.mem_append.mp hp with hp | hp
        · obtain ⟨dx3, fs, h⟩ := sI p hp
          have h4 := F14.i T1 (s1 _ _ h) (by simpa using xs_ p hp)
          exact ⟨dx3, fs, by rw [upd_ne (ne_of h4 hss4 (by intro z; cases z))]; exact h4⟩
        · rw [List.mem_singleton.mp hp]
          exact ⟨dx2, _, by rw [upd_ne (ne_of hob hss4 (by intro z; cases z))]; exact hob⟩
    rintro σ H' ⟨Ss, v4, v5, rfl, DA, sl_, snd, sn, sD, sN, sI, F'⟩
    rw [List.length_map] at sl_
    exact kk sl Ss H' DA sl_ snd sn sD sN F'

end
end Sk

set_option Elab.async false
set_option linter.all false
set_option maxRecDepth 100000
set_option maxHeartbeats 4000000
namespace Sk
open PySem PySem.Spec PyProof.Rows L2
section
variable {P : Program} {w : World} {K : PySem.W.Frag} {mg : Str → Option Value} {base : Heap}
abbrev s_law_due : Stmt := top 57
theorem sc_law_due : FnScope ["station", "rules", "end", "passed", "e", "middle", "x", "y", "error", "true", "plot", "at", "better"] ["station", "rules", "end"] (defScope s_law_due) := ⟨rfl, rfl, rfl, by decide +kernel, rfl, by decide +kernel, by decide +kernel⟩
theorem ok_law_due {f : Addr} {fd : FuncData} {TT : List Addr} (F : Fun K "_law_due" "_law_due" s_law_due f fd) (T : TxtA mg)
    (D_law_root_up : Def P w K mg base 1 "_law_root_up" ["n"] (spRootR)) : FnOk P w K mg base CX0 2 f fd ["station", "rules", "end"] (spDue TT) := by
  refine F.ok sc_law_due (fun vs H Q E h => ?_) (fun cdv A outer s H vs Q E hr h => ?_)
  · obtain ⟨_, _, _, _, _, _, _, _, _, rfl, _⟩ := h
    rfl
  · obtain ⟨st, es, sl, ml, ru, ov, s, g, e, rfl, A, RR, nru, sd, hss, hbd, k⟩ := h
    have hu := hu_of hr
    refine ⟨_, (pss_cons (ps_set (i := 3) sc_law_due.nd rfl (Or.inl rfl) (pe_lst pa_nil))
    (pss_cons (ps_set (i := 4) sc_law_due.nd rfl (Or.inl rfl) (pe_dget hu (pv 0) pe_str (fun _ _ => rfl)))
    (pss_cons (ps_set (i := 5) sc_law_due.nd rfl (Or.inl rfl) (pe_tup (pa_cons (pe_op op_fdivW (pe_op op_add (pe_ix (r := rIxT K) ix_tup (pv 4) pe_int (fun _ _ => rfl)) (pe_ix (r := rIxT K) ix_tup (pv 4) pe_int (fun _ _ => rfl))) pe_int) (pa_cons (pe_op op_fdivW (pe_op op_add (pe_ix (r := rIxT K) ix_tup (pv 4) pe_int (fun _ _ => rfl)) (pe_ix (r := rIxT K) ix_tup (pv 4) pe_int (fun _ _ => rfl))) pe_int) pa_nil))))
    (pss_cons (ps_set (i := 6) sc_law_due.nd rfl (Or.inl rfl) (pe_callB (call_max2 rfl) (by rfl) T.max boot_max (pa_cons (pe_op op_sub (pe_ix (r := rIxT K) ix_tup (pv 4) pe_int (fun _ _ => rfl)) (pe_ix (r := rIxT K) ix_tup (pv 5) pe_int (fun _ _ => rfl))) (pa_cons (pe_op op_sub (pe_ix (r := rIxT K) ix_tup (pv 5) pe_int (fun _ _ => rfl)) (pe_ix (r := rIxT K) ix_tup (pv 4) pe_int (fun _ _ => rfl))) pa_nil))))
    (pss_cons (ps_set (i := 7) sc_law_due.nd rfl (Or.inl rfl) (pe_callB (call_max2 rfl) (by rfl) T.max boot_max (pa_cons (pe_op op_sub (pe_ix (r := rIxT K) ix_tup (pv 4) pe_int (fun _ _ => rfl)) (pe_ix (r := rIxT K) ix_tup (pv 5) pe_int (fun _ _ => rfl))) (pa_cons (pe_op op_sub (pe_ix (r := rIxT K) ix_tup (pv 5) pe_int (fun _ _ => rfl)) (pe_ix (r := rIxT K) ix_tup (pv 4) pe_int (fun _ _ => rfl))) pa_nil))))
    (pss_cons (ps_set (i := 8) sc_law_due.nd rfl (Or.inl rfl) (pe_op op_add (pe_dget hu (pv 0) pe_str (fun _ _ => rfl)) (pe_def D_law_root_up (hr.mono (by decide)) (by rfl) (pa_cons (pe_op op_add (pe_op op_mulW (pv 6) (pv 6)) (pe_op op_mulW (pv 7) (pv 7))) pa_nil))))
    (pss_cons (ps_for PassesOwn.never rfl (pi_list (pe_dget hu (pv 0) pe_str (fun _ _ => rfl))) (pg_tup (by rfl) (pgs_cons (pg_name (i := 9) sc_law_due.nd rfl (Or.inl rfl)) (pgs_cons (pg_name (i := 10) sc_law_due.nd rfl (Or.inl rfl)) (pgs_cons (pg_name (i := 11) sc_law_due.nd rfl (Or.inl rfl)) pgs_nil))))
      (pss_one (ps_if (pt_chain op_lt op_le (pe_dget hu (pv 0) pe_str (fun _ _ => rfl)) (pv 11) (pv 2)) (pss_cons (ps_set (i := 12) sc_law_due.nd rfl (Or.inl rfl) (pe_tup (pa_cons (pe_op op_sub (pe_ix (r := rIxT K) ix_tup (pv 10) pe_int (fun _ _ => rfl)) (pe_ix (r := rIxT K) ix_tup (pv 5) pe_int (fun _ _ => rfl))) (pa_cons (pe_op op_sub (pe_ix (r := rIxT K) ix_tup (pv 10) pe_int (fun _ _ => rfl)) (pe_ix (r := rIxT K) ix_tup (pv 5) pe_int (fun _ _ => rfl))) (pa_cons (pe_ix (r := rIxT K) ix_tup (pv 9) pe_int (fun _ _ => rfl)) pa_nil)))))
    (pss_one (ps_if (pt_cmpR op_le (pv 8) (pe_dget hu (pv 1) pe_str (fun _ _ => rfl)) (nomark _)) (pss_one (ps_expr (pe_bm PySem.F.plainAttrs_list PySem.F.slot_list_append PySem.F.type_list_append mt_append (pv 3) (pa_cons (pe_tup (pa_cons (pv 12) (pa_cons (pv 9) pa_nil))) pa_nil))))
      (pss_one (ps_dput hu (pv 0) pe_str (pe_op op_add (pe_dget hu (pv 0) pe_str (fun _ _ => rfl)) pe_int) rfl)))))
      pss_nil)))
    (pss_one (ps_ret (pv 3)))))))))), ?_⟩
    rw [show L2.start ["station", "rules", "end", "passed", "e", "middle", "x", "y", "error", "true", "plot", "at", "better"] [V.ref st, V.ref ru, V.int e] = [some (V.ref st), some (V.ref ru), some (V.int e), none, none, none, none, none, none, none, none, none, none] from rfl]
    obtain ⟨sx0, sx1, sy0, sy1⟩ := id sd
    refine ⟨szOk rfl, fun q hq => ?_⟩
    refine nm ?_
    dsimp only [List.set]
    have s1 := same_new (o := .lst []) hq
    have A1 := A.same s1
    have RR1 := RR.same s1
    have hq1 : (upd H q (.lst [])) q = some (.lst []) := upd_same
    generalize upd H q (.lst []) = H1 at s1 A1 RR1 hq1 ⊢
    refine ⟨_, rfl, _, _, rfl, A1.g_estimate, ?_⟩
    refine nm ?_
    dsimp only [List.set]
    refine ⟨_, rfl, _, _, _, _, rfl, rfl, .inl (.inl A1.e), rfl, _, rfl, _, _, _, _, rfl, rfl, .inl (.inl A1.e), rfl, _, _, rfl, rfl, _, _, rfl, rfl, log_of (by decide) (by decide), _, rfl, _, _, _, _, rfl, rfl, .inl (.inl A1.e), rfl, _, rfl, _, _, _, _, rfl, rfl, .inl (.inl A1.e), rfl, _, _, rfl, rfl, _, _, rfl, rfl, log_of (by decide) (by decide), szOk rfl, fun mm hmm => ?_⟩
    dsimp only at hmm ⊢
    have s2 := same_new (o := .tup [.int ((s.E.x1 + s.E.x2) / 2), .int ((s.E.y1 + s.E.y2) / 2)]) hmm
    have A2 := A1.same s2
    have RR2 := RR1.same s2
    have hq2 := s2 _ _ hq1
    have hm2 : (upd H1 mm (.tup [.int ((s.E.x1 + s.E.x2) / 2), .int ((s.E.y1 + s.E.y2) / 2)])) mm = some (.tup [.int (mid s.E.x1 s.E.x2), .int (mid s.E.y1 s.E.y2)]) := upd_same
    have F2 : FT [st] TT H _ := FT.same (s1.trans s2)
    generalize upd H1 mm (.tup [.int ((s.E.x1 + s.E.x2) / 2), .int ((s.E.y1 + s.E.y2) / 2)]) = H2 at s2 A2 RR2 hq2 hm2 F2 ⊢
    refine nm ?_
    dsimp only [List.set]
    refine ⟨_, rfl, _, _, _, _, rfl, rfl, .inl (.inl A2.e), rfl, _, rfl, _, _, _, _, rfl, rfl, .inl (.inl hm2), rfl, _, _, rfl, rfl, _, rfl, _, _, _, _, rfl, rfl, .inl (.inl hm2), rfl, _, rfl, _, _, _, _, rfl, rfl, .inl (.inl A2.e), rfl, _, _, rfl, rfl, _, _, rfl, ?_⟩
    refine nm ?_
    dsimp only [List.set]
    refine ⟨_, rfl, _, _, _, _, rfl, rfl, .inl (.inl A2.e), rfl, _, rfl, _, _, _, _, rfl, rfl, .inl (.inl hm2), rfl, _, _, rfl, rfl, _, rfl, _, _, _, _, rfl, rfl, .inl (.inl hm2), rfl, _, rfl, _, _, _, _, rfl, rfl, .inl (.inl A2.e), rfl, _, _, rfl, rfl, _, _, rfl, ?_⟩
    refine nm ?_
    dsimp only [List.set]
    have bx : side s.E.x1 s.E.x2 * side s.E.x1 s.E.x2 ≤ 1000000 * 1000000 := Int.mul_le_mul sx1 sx1 sx0 (by decide)
    have by' : side s.E.y1 s.E.y2 * side s.E.y1 s.E.y2 ≤ 1000000 * 1000000 := Int.mul_le_mul sy1 sy1 sy0 (by decide)
    have nx := Int.mul_nonneg sx0 sx0
    have ny := Int.mul_nonneg sy0 sy0
    refine ⟨_, rfl, _, _, rfl, A2.g_error, _, rfl, _, rfl, _, _, rfl, rfl, (show CMulW (side s.E.x1 s.E.x2) (side s.E.x1 s.E.x2) from wm (by omega) (by omega)), _, rfl, _, rfl, _, _, rfl, rfl, (show CMulW (side s.E.y1 s.E.y2) (side s.E.y1 s.E.y2) from wm (by omega) (by omega)), _, _, rfl, rfl, side s.E.x1 s.E.x2 * side s.E.x1 s.E.x2 + side s.E.y1 s.E.y2 * side s.E.y1 s.E.y2, rfl, by omega, by omega, ?_⟩
    refine ⟨_, _, rfl, rfl, ?_⟩
    refine nm ?_
    dsimp only [List.set]
    obtain ⟨X, hX⟩ : ∃ X : V, X = .int (side s.E.x1 s.E.x2) := ⟨_, rfl⟩
    obtain ⟨Y, hY⟩ : ∃ Y : V, Y = .int (side s.E.y1 s.E.y2) := ⟨_, rfl⟩
    obtain ⟨er, her⟩ : ∃ er, eR s.err s.E = er := ⟨_, rfl⟩
    obtain ⟨ps, hps, hpl, hat⟩ := A2.sn.at
    have nqs : q ≠ sl := by
      obtain ⟨ys, hy, _⟩ := A.sn.li
      exact (ne_of_none hy hq).symm
    have nqm : q ≠ ml := (ne_of_none A.m hq).symm
    rw [her] at k
    let pq : Snt → Bool := fun t => decide (s.got < t.at_ ∧ t.at_ ≤ e)
    refine ⟨_, rfl, _, _, rfl, A2.g_sent, _, rfl, ⟨_, .inl (.inl hps)⟩, for_list (K := K) (a := sl) (xs := ps.map V.ref) (fun i σ G => ∃ v9 v10 v11 v12, σ = [some (.ref st), some (.ref ru), some (.int e), some (.ref q), some (.ref es), some (.ref mm), some (.int (side s.E.x1 s.E.x2)), some (.int (side s.E.y1 s.E.y2)), some (.int (eR s.err s.E)), v9, v10, v11, v12] ∧
      SnA G st es sl ml ov { s with held := s.held + if er ≤ g then 0 else (((s.ss.take i).filter pq).length : Int) } ∧ PasAt G q s.E (if er ≤ g then (s.ss.take i).filter pq else []) ∧ G sl = some (.lst (ps.map V.ref)) ∧ (∀ a u, H2 a = some (.tup u) → G a = some (.tup u)) ∧ RrAt G ru g ∧ FT [st] TT H G)
      ⟨none, none, none, none, rfl, by simpa using A2, by simpa using PasAt.nil hq2, hps, fun _ _ e => e, RR2, F2⟩ (fun i σ G _ ⟨_, _, _, _, _, _, _, h, _⟩ => .inl (.inl h)) ?_ ?_⟩
    rotate_left
    · rintro σ G ⟨v9, v10, v11, v12, rfl, AG, PG, _, _, _, FG⟩
      rw [List.length_map, hpl, List.take_length] at AG PG
      exact ⟨_, rfl, k q G PG AG FG⟩
    rintro i x σ G hx ⟨v9, v10, v11, v12, rfl, AG, PG, hslG, htG, RG, FG⟩
    obtain ⟨p, a, b, t, rfl, et, hp, ha, hb⟩ := hat i x hx
    have tin := List.mem_of_getElem? et
    have ilt := (List.getElem?_eq_some_iff.mp et).1
    have hpG := htG _ _ hp
    have haG := htG _ _ ha
    have hbG := htG _ _ hb
    have hmG := htG _ _ hm2
    have etk : (s.ss.take (i + 1)).filter pq = (s.ss.take i).filter pq ++ [t].filter pq := by rw [List.take_add_one, et, List.filter_append]; rfl
    refine ⟨_, _, rfl, .inl (.inl hpG), rfl, _, _, rfl, _, _, rfl, _, _, rfl, rfl, ?_⟩
    dsimp only [List.set]
    refine ⟨_, rfl, _, _, rfl, AG.g_got, _, rfl, _, _, rfl, rfl, _, rfl, ?_⟩
    refine ite2 (fun c1 => ?_) (fun c1 => ?_)
    rotate_left
    · have c1 : ¬ ((s.got : Int) < (t.at_ : Int)) := fun z => c1 (decide_eq_true z)
      have ep : pq t = false := decide_eq_false (fun z => c1 (by omega))
      refine ⟨_, rfl, iteF ?_⟩
      refine nxq ?_
      exact ⟨_, _, _, _, rfl, by rw [etk, List.filter_cons, ep]; simpa using AG, by rw [etk, List.filter_cons, ep]; simpa using PG, hslG, htG, RG, FG⟩
    have c1 : (s.got : Int) < (t.at_ : Int) := of_decide_eq_true c1
    refine ⟨_, rfl, _, _, rfl, rfl, _, rfl, ite2 (fun c2 => ?_) (fun c2 => ?_)⟩
    rotate_left
    · have c2 : ¬ ((t.at_ : Int) ≤ (e : Int)) := fun z => c2 (decide_eq_true z)
      have ep : pq t = false := decide_eq_false (fun z => c2 (by omega))
      refine nxq ?_
      exact ⟨_, _, _, _, rfl, by rw [etk, List.filter_cons, ep]; simpa using AG, by rw [etk, List.filter_cons, ep]; simpa using PG, hslG, htG, RG, FG⟩
    have c2 : (t.at_ : Int) ≤ (e : Int) := of_decide_eq_true c2
    have ep : pq t = true := decide_eq_true (by omega)
    refine ⟨_, rfl, _, _, _, _, rfl, rfl, .inl (.inl hbG), rfl, _, rfl, _, _, _, _, rfl, rfl, .inl (.inl hmG), rfl, _, _, rfl, rfl, _, rfl, _, _, _, _, rfl, rfl, .inl (.inl hbG), rfl, _, rfl, _, _, _, _, rfl, rfl, .inl (.inl hmG), rfl, _, _, rfl, rfl, _, rfl, _, _, _, _, rfl, rfl, .inl (.inl haG), rfl, szOk rfl, fun be hbe => ?_⟩
    dsimp only at hbe ⊢
    have s3 := same_new (o := .tup [.int (t.px - mid s.E.x1 s.E.x2), .int (t.py - mid s.E.y1 s.E.y2), .int t.tz]) hbe
    have A3 := AG.same s3
    have P3 := PG.move (H' := upd G be (.tup [.int (t.px - mid s.E.x1 s.E.x2), .int (t.py - mid s.E.y1 s.E.y2), .int t.tz])) (fun xs e => s3 _ _ e) (fun a u e => s3 _ _ e)
    have hbe3 : (upd G be (.tup [.int (t.px - mid s.E.x1 s.E.x2), .int (t.py - mid s.E.y1 s.E.y2), .int t.tz])) be = some (.tup ((t.mv s.E).map V.int)) := upd_same
    have ha3 := s3 _ _ haG
    have R3 := RG.same s3
    have F3 := FG.trans (FT.same s3)
    have hsl3 := s3 _ _ hslG
    have ht3 : ∀ a u, H2 a = some (.tup u) → _ := fun a u e => s3 _ _ (htG a u e)
    generalize upd G be (.tup [.int (t.px - mid s.E.x1 s.E.x2), .int (t.py - mid s.E.y1 s.E.y2), .int t.tz]) = G3 at A3 P3 hbe3 ha3 R3 F3 hsl3 ht3 ⊢
    refine nm ?_
    dsimp only [List.set]
    rw [her]
    refine ⟨_, rfl, _, rfl, _, _, rfl, R3.g, _, _, rfl, rfl, _, rfl, ?_⟩
    by_cases c : er ≤ g
    · refine ifY c ?_
      rw [if_pos c] at A3 P3
      obtain ⟨ys, hy, hyl⟩ := P3.li
      refine ⟨_, rfl, (.inl ⟨rfl, _, .inl (.inl hy)⟩), _, rfl, _, rfl, szOk rfl, fun pr hpr => ?_⟩
      have s4 := same_new (o := .tup [.ref be, .ref a]) hpr
      have hy4 := s4 _ _ hy
      have P4 := (P3.move (H' := upd G3 pr (.tup [.ref be, .ref a])) (fun xs e => s4 _ _ e) (fun a u e => s4 _ _ e)).snoc hy4 (p := pr) (a := be) (b := a) (t := t) upd_same (s4 _ _ hbe3) (s4 _ _ ha3)
      have A4 := A3.same s4
      have lenf : ((s.ss.take i).filter pq).length ≤ i := Nat.le_trans (List.length_filter_le ..) (by rw [List.length_take]; omega)
      refine ⟨_, _, _, rfl, rfl, hy4, small1000 (by rw [hyl]; omega), ?_⟩
      have out : ∀ x o, (upd G3 pr (.tup [.ref be, .ref a])) x = some o → (∀ xs, o ≠ .lst xs) → (upd (upd G3 pr (.tup [.ref be, .ref a])) q (.lst (ys ++ [.ref pr]))) x = some o := fun x o e n => by
        rw [upd_ne (ne_of e hy4 (n ys))]; exact e
      refine ⟨_, _, _, _, by rw [← her], ⟨?_, ?_, ?_, ?_, ?_⟩, ?_, ?_, ?_, ?_, (F3.trans (FT.same s4)).newL hq hy4⟩
      · rw [if_pos c]
        exact out _ _ A4.d (fun _ z => nomatch z)
      · exact out _ _ A4.e (fun _ z => nomatch z)
      · exact A4.sn.move (fun xs e => by rw [upd_ne nqs.symm]; exact e) (fun a u e => out _ _ e (fun _ z => nomatch z))
      · rw [upd_ne nqm.symm]; exact A4.m
      · exact A4.o.move (fun a u e => out _ _ e (fun _ z => nomatch z))
      · rw [if_pos c, etk, List.filter_cons, ep]
        exact P4
      · rw [upd_ne nqs.symm]; exact s4 _ _ hsl3
      · exact fun a u e => out _ _ (s4 _ _ (ht3 a u e)) (fun _ z => nomatch z)
      · obtain ⟨kvs, e1, e2⟩ := R3
        exact ⟨kvs, out _ _ (s4 _ _ e1) (fun _ z => nomatch z), e2⟩
    · refine ifN c ?_
      rw [if_neg c] at A3 P3
      refine ⟨_, rfl, _, _, rfl, A3.g_held, _, _, rfl, rfl, _, rfl, _, _, rfl, SnA.p_held A3.d _, ?_⟩
      have out : ∀ x o, G3 x = some o → (∀ xs, o ≠ .dK xs) → ∀ o', (upd G3 st o') x = some o := fun x o e n o' => by
        rw [upd_ne (ne_of e A3.d (n _))]; exact e
      refine ⟨_, _, _, _, by rw [← her], ?_, ?_, ?_, ?_, ?_, F3.trans (FT.dk A3.d (by simp))⟩
      · have := A3.put (s' := { s with held := s.held + (((s.ss.take (i + 1)).filter pq).length : Int) }) rfl rfl rfl rfl
        rw [if_neg c]
        have e5 : s.held + (((s.ss.take i).filter pq).length : Int) + 1 = s.held + (((s.ss.take (i + 1)).filter pq).length : Int) := by
          rw [etk, List.filter_cons, ep]
          simp
          omega
        dsimp only
        rw [e5]
        exact this
      · rw [if_neg c]
        exact P3.move (fun xs e => out _ _ e (fun _ z => nomatch z) _) (fun a u e => out _ _ e (fun _ z => nomatch z) _)
      · exact out _ _ hsl3 (fun _ z => nomatch z) _
      · exact fun a u e => out _ _ (ht3 a u e) (fun _ z => nomatch z) _
      · obtain ⟨kvs, e1, e2⟩ := R3
        exact ⟨kvs, by rw [upd_ne nru]; exact e1, e2⟩

abbrev s_law_received : Stmt := top 58
theorem sc_law_received : FnScope ["desk", "station", "rules", "radar", "piece", "end", "due", "found", "better", "true", "across", "up", "pair"] ["desk", "station", "rules", "radar", "piece"] (defScope s_law_received) := ⟨rfl, rfl, rfl, by decide +kernel, rfl, by decide +kernel, by decide +kernel⟩
theorem ok_law_received {f : Addr} {fd : FuncData} {CS CW : Addr} {TT : List Addr} (F : Fun K "_law_received" "_law_received" s_law_received f fd) (T : TxtA mg) (YD : DskY K mg CW)
    (D_law_due : Def P w K mg base 2 "_law_due" ["station", "rules", "end"] (spDue TT))
    (M_receive : MDef P w K mg base 5 CW "receive" ["self", "radar", "numbers"] (spRecv CW CS TT))
    (M_held_back : MDef P w K mg base 1 CW "held_back" ["self", "radar"] (spHeld CW CS)) : FnOk P w K mg base CX0 6 f fd ["desk", "station", "rules", "radar", "piece"] (spRcvd K CW CS TT) := by
  refine F.ok sc_law_received (fun vs H Q E h => ?_) (fun cdv A outer s H vs Q E hr h => ?_)
  · obtain ⟨_, _, _, _, _, _, _, _, _, _, _, _, _, rfl, _⟩ := h
    rfl
  · obtain ⟨D, dsl, st, ru, pc, p, k, g, r, Ss, s, a, n, rfl, DA, hk, nD, O, off, RR, g0, g1, nru, hpc, hn, hT, kk⟩ := h
    have hu := hu_of hr
    refine ⟨_, (pss_cons (ps_set (i := 5) sc_law_received.nd rfl (Or.inl rfl) (pe_op op_add (pe_dget hu (pv 1) pe_str (fun _ _ => rfl)) (pe_callB (r := rLenK K) call_len_seq (by rfl) T.len boot_len (pa_cons (pv 4) pa_nil))))
    (pss_cons (ps_set (i := 6) sc_law_received.nd rfl (Or.inl rfl) (pe_def D_law_due (hr.mono (by decide)) (by rfl) (pa_cons (pv 1) (pa_cons (pv 2) (pa_cons (pv 5) pa_nil)))))
    (pss_cons (ps_set (i := 7) sc_law_received.nd rfl (Or.inl rfl) (pe_mdef M_receive YD.cl (hr.mono (by decide)) (pv 0) (pa_cons (pv 3) (pa_cons (pe_callTy call_list_of (by rfl) T.list boot_list (pa_cons (pv 4) pa_nil)) pa_nil))))
    (pss_cons (ps_if (PW.pt (pw_or (pt_not (pt_val (pe_callB call_isi (by rfl) T.isinstance boot_isinstance (pa_cons (pv 7) (pa_cons (pe_bltn (v := .ty "list") (by rfl) T.list boot_list rfl) pa_nil))))) (pw_or1 (pt_cmpR (op_neD hr.units) (pv 7) (pe_lc (own := [("pair", 12)]) (g := gName 12) (by rfl) sc_law_received.nd (pi_list (pv 6)) (blkOk_by (own := [("pair", 12)]) (N := ["desk", "station", "rules", "radar", "piece", "end", "due", "found", "better", "true", "across", "up", "pair"]) (sc := defScope s_law_received) (by decide +kernel)) (fun _ _ _ _ _ => (pg_name (i := 12) sc_law_received.nd rfl (Or.inl rfl))) (fun _ _ _ _ _ => pts_nil) (fun _ _ _ _ _ => (pe_ix (r := rIxT K) ix_tup (pv 12) pe_int (fun _ _ => rfl)))) (nomark _))))) (pss_one (ps_ret pe_bl))
      pss_nil)
    (pss_cons (ps_for PassesOwn.never rfl (pi_list (pv 6)) (pg_tup (by rfl) (pgs_cons (pg_name (i := 8) sc_law_received.nd rfl (Or.inl rfl)) (pgs_cons (pg_name (i := 9) sc_law_received.nd rfl (Or.inl rfl)) pgs_nil)))
      (pss_cons (ps_set (i := 10) sc_law_received.nd rfl (Or.inl rfl) (pe_op op_sub (pe_ix (r := rIxT K) ix_tup (pv 8) pe_int (fun _ _ => rfl)) (pe_ix (r := rIxT K) ix_tup (pv 9) pe_int (fun _ _ => rfl))))
    (pss_cons (ps_set (i := 11) sc_law_received.nd rfl (Or.inl rfl) (pe_op op_sub (pe_ix (r := rIxT K) ix_tup (pv 8) pe_int (fun _ _ => rfl)) (pe_ix (r := rIxT K) ix_tup (pv 9) pe_int (fun _ _ => rfl))))
    (pss_one (ps_if (pt_cmpR op_gt (pe_op op_add (pe_op op_mulW (pv 10) (pv 10)) (pe_op op_mulW (pv 11) (pv 11))) (pe_op op_mulW (pe_dget hu (pv 2) pe_str (fun _ _ => rfl)) (pe_dget hu (pv 2) pe_str (fun _ _ => rfl))) (nomark _)) (pss_one (ps_ret pe_bl))
      pss_nil)))))
    (pss_cons (ps_dput hu (pv 1) pe_str (pv 5) rfl)
    (pss_one (ps_ret (pe_cmpR op_eq (pe_mdef M_held_back YD.cl (hr.mono (by decide)) (pv 0) (pa_cons (pv 3) pa_nil)) (pe_dget hu (pv 1) pe_str (fun _ _ => rfl)) (nomark _)))))))))), ?_⟩
    rw [show L2.start ["desk", "station", "rules", "radar", "piece", "end", "due", "found", "better", "true", "across", "up", "pair"] [V.ref D, V.ref st, V.ref ru, V.int k, V.ref pc] = [some (V.ref D), some (V.ref st), some (V.ref ru), some (V.int k), some (V.ref pc), none, none, none, none, none, none, none, none] from rfl]
    obtain ⟨⟨es, sl, ml, ov, A⟩, ⟨dx, ho⟩, RU, RRa, hbo, hre, hnt, hmh, ok, nst⟩ := id O
    obtain ⟨o, eo⟩ : ∃ o, s.off = some o := by
      cases h : s.off with
      | none => exact absurd h off
      | some o => exact ⟨o, rfl⟩
    obtain ⟨okE, okT⟩ := ok.of o eo
    have sd := okE.sides
    obtain ⟨pe1, pe2, pe3⟩ := ok.piece hn
    have pby := ok.pbyte n
    have plen := ok.plen hn
    have eln : ((((s.ms.drop s.got).take n).map V.int).length) = n := by
      rw [List.length_map, List.length_take, List.length_drop]
      omega
    have mst : ∀ o, H st = some o → (∀ xs, o ≠ .dK xs) → False := fun o e z => by rw [A.d] at e; exact z _ (Option.some.inj e).symm
    refine ⟨_, rfl, _, _, rfl, A.g_got, _, rfl, _, _, rfl, (.inl (.inl (.inl hpc))), _, _, rfl, rfl, ?_⟩
    refine nm ?_
    dsimp only [List.set]
    rw [eln, show (s.got : Int) + (n : Int) = ((s.got + n : Nat) : Int) by omega]
    refine ⟨_, rfl, _, rfl, _, rfl, st, es, sl, ml, ru, ov, s, g, s.got + n, rfl, A, RR, nru, sd, ok.ts, ok.bd, fun q G1 P1 A1 F1 => ?_⟩
    refine nm ?_
    dsimp only [List.set]
    have T1 := F1.tb hT
    have pst : p ≠ st := ne_of ho A.d (by intro z; cases z)
    have ho1 := F1.i hT ho (by simpa using pst)
    have RR1 := F1.rr hT RR (by simpa using nru)
    have RRa1 := F1.rr hT RRa (by simpa using nst)
    have hbo1 := F1.t _ _ hbo
    have hre1 := F1.l _ _ hre
    have hpc1 := F1.l _ _ hpc
    obtain ⟨dd, hd⟩ := DA.ob
    have Dst : D ≠ st := ne_of hd A.d (by intro z; cases z)
    have DA1 := DA.ft F1 hT (by simpa using Dst)
    obtain ⟨dd1, hd1⟩ := DA1.ob
    refine ⟨_, rfl, _, _, _, rfl, hd1, rfl, _, rfl, _, rfl, _, _, rfl, .inl (.inl (.inl hpc1)), fun l hl => ?_⟩
    have s2 := same_new (o := .lst (((s.ms.drop s.got).take n).map V.int)) hl
    refine ⟨D, dsl, l, p, dx, k, g, s.err, Ss, a, rm (s.ms.take s.got), (s.ms.drop s.got).take n, s.E, rfl, ⟨⟨dd1, s2 _ _ hd1⟩, s2 _ _ DA1.ss⟩, hk, nD, s2 _ _ ho1, s2 _ _ hre1, upd_same, pby, plen, RRa1.same s2, s2 _ _ hbo1, sd, Same.tabs s2 T1, fun q2 re G3 hp3 hre3 L3 F3 => ?_⟩
    rw [pe1] at hp3 L3
    rw [pe2] at hre3
    rw [map_fr ok] at L3
    have F23 : FT [p] TT G1 G3 := (FT.same s2).trans F3
    have T3 := F23.tb T1
    have A3 := A1.ft F23 T1 (by simpa using pst.symm)
    have P3 := P1.move (fun xs e => F23.l _ _ e) F23.t
    have RR3 := F23.rr T1 RR1 (by
      obtain ⟨kvs, e, _⟩ := RR1
      simpa using (ne_of e ho1 (by intro z; cases z)))
    have RRa3 := F23.rr T1 RRa1 (by
      obtain ⟨kvs, e, _⟩ := RRa1
      simpa using (ne_of e ho1 (by intro z; cases z)))
    have DA3 := DA1.ft F23 T1 (by simpa using nD)
    have hbo3 := F23.t _ _ hbo1
    refine nm ?_
    dsimp only [List.set]
    obtain ⟨ts, ets⟩ : ∃ ts, (if eR s.err s.E ≤ g then newS s (s.got + n) else []) = ts := ⟨_, rfl⟩
    have L3 : LoT G3 q2 (ts.map (Snt.mv s.E)) := by
      rw [← ets]
      by_cases c : eR s.err s.E ≤ g
      · rw [if_pos c] at L3 ⊢; exact L3
      · rw [if_neg c] at L3 ⊢; exact L3
    have hts : ∀ t ∈ ts, t ∈ s.ss ∧ eR s.err s.E ≤ g := fun t ht => by
      rw [← ets] at ht
      by_cases c : eR s.err s.E ≤ g
      · rw [if_pos c] at ht; exact ⟨(List.mem_filter.mp ht).1, c⟩
      · rw [if_neg c] at ht; cases ht
    have hlt : ts.length ≤ 20 := by
      rw [← ets]
      split
      · exact Nat.le_trans (List.length_filter_le ..) ok.ts
      · exact Nat.zero_le _
    rw [ets] at P3
    obtain ⟨ps, hps, hpl, hat⟩ := P3.at
    obtain ⟨ys2, hy2, _⟩ := L3.li
    refine ⟨_, rfl, _, _, _, _, true, rfl, ClsV.ty "list", TyX.base (TyOf.lst hy2), kit_ty (by decide +kernel), ?_⟩
    refine ⟨_, rfl, iteF ?_⟩
    refine ⟨_, rfl, _, rfl, q, rfl, ⟨_, .inl (.inl hps)⟩, fun B hB => ?_⟩
    refine lc_list (K := K) (a := q) (xs := ps.map V.ref) (fun i G => Same G3 G ∧ LoT G B ((ts.take i).map (Snt.mv s.E))) ⟨same_new hB, LoT.nil upd_same⟩ (fun i G _ h => .inl (.inl (h.1 _ _ hps))) ?_ ?_
    · rintro i v G hv ⟨sm, LB⟩
      obtain ⟨pp, be, tr, t, rfl, et, hpp, hbe, htr⟩ := hat i v hv
      obtain ⟨ys, hy, hyl⟩ := LB.li
      refine ⟨rfl, ?_⟩
      refine ⟨_, rfl, _, _, _, _, rfl, rfl, .inl (.inl (sm _ _ hpp)), rfl, ?_⟩
      refine ⟨ys, hy, small1000 (by rw [hyl, List.length_map, List.length_take]; omega), sameU hB sm, ?_⟩
      rw [List.take_add_one, et, List.map_append]
      exact LB.snoc hy (sm _ _ hbe)
    rintro G4 ⟨sm4, LB⟩
    rw [List.length_map, hpl, List.take_length] at LB
    refine ⟨_, _, (L3.same sm4).dp, LB.dp, sh_pds _, sh_pds _, _, rfl, eqvN (can_pds _) ?_⟩
    refine nxq ?_
    have hps4 := sm4 _ _ hps
    have T4 := Same.tabs sm4 T3
    refine ⟨_, rfl, q, rfl, ⟨_, .inl (.inl hps4)⟩, for_list (K := K) (a := q) (xs := ps.map V.ref) (fun i σ G => ∃ v8 v9 v10 v11, σ = [some (.ref D), some (.ref st), some (.ref ru), some (.int k), some (.ref pc), some (.int ((s.got + n : Nat) : Int)), some (.ref q), some (.ref q2), v8, v9, v10, v11, none] ∧ G = G4) ⟨none, none, none, none, rfl, rfl⟩ (fun i σ G _ ⟨_, _, _, _, _, e⟩ => by rw [e]; exact .inl (.inl hps4)) ?_ ?_⟩
    · rintro i v σ G hv ⟨v8, v9, v10, v11, rfl, rfl⟩
      obtain ⟨pp, be, tr, t, rfl, et, hpp, hbe, htr⟩ := hat i v hv
      obtain ⟨tin, tc⟩ := hts t (List.mem_of_getElem? et)
      have hpp := sm4 _ _ hpp
      have hbe := sm4 _ _ hbe
      have htr := sm4 _ _ htr
      obtain ⟨b1, b2, b3, b4⟩ := ok.bd t tin
      have b1 : t.px.natAbs < 1152921504606846976 := b1
      have b2 : t.py.natAbs < 1152921504606846976 := b2
      have b3 : t.tx.natAbs < 1152921504606846976 := b3
      have b4 : t.ty.natAbs < 1152921504606846976 := b4
      have near := (okT t tin).near ok.e0 okE tc
      have mx : -20000 ≤ mid s.E.x1 s.E.x2 ∧ mid s.E.x1 s.E.x2 ≤ 20000 := by
        have := okE.x0; have := okE.x1; have := okE.bx0; have := okE.bx1
        unfold mid
        omega
      have my : -20000 ≤ mid s.E.y1 s.E.y2 ∧ mid s.E.y1 s.E.y2 ≤ 20000 := by
        have := okE.y0; have := okE.y1; have := okE.by0; have := okE.by1
        unfold mid
        omega
      refine ⟨_, _, rfl, .inl (.inl hpp), rfl, _, _, rfl, _, _, rfl, rfl, ?_⟩
      dsimp only [List.set]
      refine ⟨_, rfl, _, _, _, _, rfl, rfl, .inl (.inl hbe), rfl, _, rfl, _, _, _, _, rfl, rfl, .inl (.inl htr), rfl, _, _, rfl, rfl, ?_⟩
      refine nm ?_
      dsimp only [List.set]
      refine ⟨_, rfl, _, _, _, _, rfl, rfl, .inl (.inl hbe), rfl, _, rfl, _, _, _, _, rfl, rfl, .inl (.inl htr), rfl, _, _, rfl, rfl, ?_⟩
      refine nm ?_
      dsimp only [List.set]
      have c1 : (t.px - mid s.E.x1 s.E.x2 - t.tx).natAbs < 2 ^ 250 := Nat.lt_of_lt_of_le (show _ < 2 ^ 63 by show _ < 9223372036854775808; omega) (Nat.pow_le_pow_right (by decide) (by decide))
      have c2 : (t.py - mid s.E.y1 s.E.y2 - t.ty).natAbs < 2 ^ 250 := Nat.lt_of_lt_of_le (show _ < 2 ^ 63 by show _ < 9223372036854775808; omega) (Nat.pow_le_pow_right (by decide) (by decide))
      generalize t.px - mid s.E.x1 s.E.x2 - t.tx = ax at c1 near ⊢
      generalize t.py - mid s.E.y1 s.E.y2 - t.ty = ay at c2 near ⊢
      have RR4 := RR3.same sm4
      have gg : g.natAbs < 2 ^ 250 := Nat.lt_of_lt_of_le (show _ < 2 ^ 63 by show _ < 9223372036854775808; omega) (Nat.pow_le_pow_right (by decide) (by decide))
      refine ⟨_, rfl, _, rfl, _, _, rfl, rfl, wm c1 c1, _, rfl, _, rfl, _, _, rfl, rfl, wm c2 c2, _, _, rfl, rfl, _, rfl, _, _, rfl, RR4.g, _, rfl, _, _, rfl, RR4.g, _, _, rfl, rfl, wm gg gg, _, _, rfl, rfl, _, rfl, ifN (by omega) ?_⟩
      exact ⟨_, _, _, _, rfl, rfl⟩
    rintro σ G ⟨v8, v9, v10, v11, rfl, rfl⟩
    have A4 := A3.same sm4
    have hp4 := sm4 _ _ hp3
    have sput := SnA.p_got A4.d (s.got + n)
    refine ⟨_, rfl, _, rfl, _, _, rfl, sput, ?_⟩
    have A5 := A4.put (s' := { s with got := s.got + n, held := s.held + if eR s.err s.E ≤ g then 0 else ((newS s (s.got + n)).length : Int) }) rfl rfl rfl rfl
    have F5 : FT [st] TT G _ := FT.dk (o' := .dK (skv { s with got := s.got + n, held := s.held + if eR s.err s.E ≤ g then 0 else ((newS s (s.got + n)).length : Int) } es sl ml ov)) A4.d (by simp)
    dsimp only at A5 F5 ⊢
    generalize upd G st (.dK (skv { s with got := s.got + n, held := s.held + if eR s.err s.E ≤ g then 0 else ((newS s (s.got + n)).length : Int) } es sl ml ov)) = G5 at A5 F5 ⊢
    have hp5 := F5.i T4 hp4 (by simpa using pst)
    have DA4 := DA3.ft (M := [st]) (FT.same sm4) T3 (by simpa using Dst)
    have DA5 := DA4.ft F5 T4 (by simpa using Dst)
    obtain ⟨dd5, hd5⟩ := DA5.ob
    refine ⟨_, rfl, _, _, _, rfl, hd5, rfl, _, rfl, D, dsl, p, dx, k, g, Ss, _, rfl, DA5, hk, hp5, ?_⟩
    refine ⟨_, rfl, _, _, rfl, A5.g_held, rfl, ?_⟩
    rw [hmh, List.length_map]
    rw [decide_eq_true rfl]
    have Fall : FT [st, p] TT H G5 := ((F1.sub (by simp)).trans (F23.sub (by simp))).trans ((FT.same sm4).trans (F5.sub (by simp)))
    refine kk _ _ G5 ⟨⟨es, sl, ml, ov, A5⟩, ⟨dx, hp5⟩, ?_, ?_, ?_, ?_, ?_, ?_, ?_, nst⟩ rfl Fall
    · exact Fall.ru hT RU (by
        obtain ⟨kvs, e, _⟩ := RRa
        simpa using ⟨nst, ne_of e ho (by intro z; cases z)⟩)
    · exact Fall.rr hT RRa (by
        obtain ⟨kvs, e, _⟩ := RRa
        simpa using ⟨nst, ne_of e ho (by intro z; cases z)⟩)
    · exact Fall.t _ _ hbo
    · exact F5.l _ _ (sm4 _ _ hre3)
    · dsimp only
      rw [pe3, List.map_append, notes_app, hnt]
    · dsimp only
      rw [hmh, List.length_map]
    · exact { ok with got := hn }

end
end Sk

set_option Elab.async false
set_option linter.all false
set_option maxRecDepth 100000
set_option maxHeartbeats 4000000
namespace Sk
open PySem PySem.Spec PyProof.Rows L2
section
variable {P : Program} {w : World} {K : PySem.W.Frag} {mg : Str → Option Value} {base : Heap}
abbrev s_law_narrowed : Stmt := top 55
theorem sc_law_narrowed : FnScope ["estimate", "margin", "plot", "piece", "result", "axis", "low", "high", "ups", "downs", "segment", "number"] ["estimate", "margin", "plot", "piece"] (defScope s_law_narrowed) := ⟨rfl, rfl, rfl, by decide +kernel, rfl, by decide +kernel, by decide +kernel⟩
theorem ok_law_narrowed {f : Addr} {fd : FuncData} (F : Fun K "_law_narrowed" "_law_narrowed" s_law_narrowed f fd) (T : TxtA mg) : FnOk P w K mg base CX0 1 f fd ["estimate", "margin", "plot", "piece"] (spLNar) := by
  refine F.ok sc_law_narrowed (fun vs H Q E h => ?_) (fun cdv A outer s H vs Q E hr h => ?_)
  · obtain ⟨e, q, l, m, E, px, py, pz, ss, rfl, _⟩ := h
    rfl
  · obtain ⟨e, q, l, m, E, px, py, pz, ss, rfl, he, hq, L, hss, sne, hsl, k⟩ := h
    refine ⟨_, (pss_cons (ps_set (i := 4) sc_law_narrowed.nd rfl (Or.inl rfl) (pe_lst pa_nil))
    (pss_cons (ps_for PassesOwn.never rfl (pi_range1 (by rfl) T.range (pa_cons pe_int pa_nil)) (pg_name (i := 5) sc_law_narrowed.nd rfl (Or.inl rfl))
      (pss_cons (ps_set (i := 6) sc_law_narrowed.nd rfl (Or.inl rfl) (pe_ix (r := rIxT K) ix_tup (pv 0) (pe_op op_mulW pe_int (pv 5)) (fun _ _ => rfl)))
    (pss_cons (ps_set (i := 7) sc_law_narrowed.nd rfl (Or.inl rfl) (pe_ix (r := rIxT K) ix_tup (pv 0) (pe_op op_add (pe_op op_mulW pe_int (pv 5)) pe_int) (fun _ _ => rfl)))
    (pss_cons (ps_set (i := 8) sc_law_narrowed.nd rfl (Or.inl rfl) (pe_lst pa_nil))
    (pss_cons (ps_set (i := 9) sc_law_narrowed.nd rfl (Or.inl rfl) (pe_lst pa_nil))
    (pss_cons (ps_for PassesOwn.never rfl (pi_list (pv 3)) (pg_name (i := 10) sc_law_narrowed.nd rfl (Or.inl rfl))
      (pss_one (ps_for PassesOwn.never rfl (pi_list (pe_lst (pa_cons (pe_ix (r := rIxT K) ix_tup (pv 10) (pv 5) (fun _ _ => rfl)) (pa_cons (pe_ix (r := rIxT K) ix_tup (pv 10) (pe_op op_add (pv 5) pe_int) (fun _ _ => rfl)) pa_nil)))) (pg_name (i := 11) sc_law_narrowed.nd rfl (Or.inl rfl))
      (pss_cons (ps_expr (pe_bm PySem.F.plainAttrs_list PySem.F.slot_list_append PySem.F.type_list_append mt_append (pv 9) (pa_cons (pe_op op_fdivW (pv 11) (pe_ix (r := rIxT K) ix_tup (pv 10) pe_int (fun _ _ => rfl))) pa_nil)))
    (pss_one (ps_expr (pe_bm PySem.F.plainAttrs_list PySem.F.slot_list_append PySem.F.type_list_append mt_append (pv 8) (pa_cons (pe_un un_neg (pe_op op_fdivW (pe_un un_neg (pv 11)) (pe_ix (r := rIxT K) ix_tup (pv 10) pe_int (fun _ _ => rfl)))) pa_nil))))))))
    (pss_cons (ps_set (i := 6) sc_law_narrowed.nd rfl (Or.inl rfl) (pe_callB (call_max2 rfl) (by rfl) T.max boot_max (pa_cons (pv 6) (pa_cons (pe_op op_sub (pe_op op_sub (pe_ix (r := rIxT K) ix_tup (pv 2) (pv 5) (fun _ _ => rfl)) (pv 1)) (pe_callB (cr_max rfl) (by rfl) T.max boot_max (pa_cons (pv 9) pa_nil))) pa_nil))))
    (pss_cons (ps_set (i := 7) sc_law_narrowed.nd rfl (Or.inl rfl) (pe_callB (call_min2 rfl) (by rfl) T.min boot_min (pa_cons (pv 7) (pa_cons (pe_op op_sub (pe_op op_add (pe_ix (r := rIxT K) ix_tup (pv 2) (pv 5) (fun _ _ => rfl)) (pv 1)) (pe_callB (cr_min rfl) (by rfl) T.min boot_min (pa_cons (pv 8) pa_nil))) pa_nil))))
    (pss_cons (ps_if (pt_cmpR op_gt (pv 6) (pv 7) (nomark _)) (pss_one (ps_ret pe_non))
      pss_nil)
    (pss_one (ps_expr (pe_bm PySem.F.plainAttrs_list PySem.F.slot_list_extend PySem.F.type_list_extend mt_extend (pv 4) (pa_cons (pe_lst (pa_cons (pv 6) (pa_cons (pv 7) pa_nil))) pa_nil)))))))))))))
    (pss_one (ps_ret (pe_callTy call_tuple_of (by rfl) T.tuple boot_tuple (pa_cons (pv 4) pa_nil)))))), ?_⟩
    rw [show L2.start ["estimate", "margin", "plot", "piece", "result", "axis", "low", "high", "ups", "downs", "segment", "number"] [V.ref e, V.int m, V.ref q, V.ref l] = [some (V.ref e), some (V.int m), some (V.ref q), some (V.ref l), none, none, none, none, none, none, none, none] from rfl]
    obtain ⟨ps, hps, hpl, hat⟩ := L.at
    refine ⟨szOk rfl, fun R hR => ?_⟩
    refine nm ?_
    dsimp only [List.set]
    have s0 : Same H (upd H R (.lst [])) := same_new hR
    refine ⟨2, rfl, by decide, by decide, for_range (n := 2) (fun i σ H' => ∃ (v5 v6 v7 v8 v9 v10 v11 : Option V), σ = [some (.ref e), some (.int m), some (.ref q), some (.ref l), some (.ref R), v5, v6, v7, v8, v9, v10, v11] ∧ Same H H' ∧ H' R = some (.lst ((axs E m px py ss i).map V.int)) ∧ (∀ j, j < i → axLo E m px py ss j ≤ axHi E m px py ss j)) ⟨none, none, none, none, none, none, none, rfl, s0, upd_same, fun j h => absurd h (Nat.not_lt_zero j)⟩ ?_ ?_⟩
    · rintro i σ G hi ⟨v5, v6, v7, v8, v9, v10, v11, rfl, sm, hRG, hle⟩
      have hi : i < 2 := hi
      refine nm ?_
      dsimp only [List.set]
      refine ⟨_, rfl, _, rfl, _, _, rfl, rfl, wm (by omega) (by omega), _, _, _, _, rfl, rfl, .inl (.inl (sm _ _ he)), est_lo E hi, ?_⟩
      refine nm ?_
      dsimp only [List.set]
      refine ⟨_, rfl, _, rfl, _, _, rfl, rfl, wm (by omega) (by omega), _, _, rfl, rfl, _, _, _, _, rfl, rfl, .inl (.inl (sm _ _ he)), est_hi E hi, ?_⟩
      refine nm ?_
      dsimp only [List.set]
      refine ⟨szOk rfl, fun U hU => ?_⟩
      refine nm ?_
      dsimp only [List.set]
      refine ⟨szOk rfl, fun N hN => ?_⟩
      refine nm ?_
      dsimp only [List.set]
      have sU : Same G (upd (upd G U (.lst [])) N (.lst [])) := (same_new hU).trans (same_new hN)
      have hUN : U ≠ N := fun z => by rw [← z, upd_same] at hN; cases hN
      have hNG : G N = none := (same_new (o := .lst []) hU).free hN
      refine ⟨_, rfl, l, rfl, ⟨_, .inl (.inl (sU _ _ (sm _ _ hps)))⟩, for_list (K := K) (a := l) (xs := ps.map V.ref) (fun j σ H' => ∃ (v10 v11 : Option V), σ = [some (.ref e), some (.int m), some (.ref q), some (.ref l), some (.ref R), some (.int (0 + (i : Int))), some (.int (aLo E i)), some (.int (aHi E i)), some (.ref U), some (.ref N), v10, v11] ∧ Same G H' ∧ H' U = some (.lst ((up i (ss.take j)).map V.int)) ∧ H' N = some (.lst ((dn i (ss.take j)).map V.int)))
        ⟨v10, v11, rfl, sU, same_new hN _ _ upd_same, upd_same⟩ (fun j σ H' _ ⟨_, _, _, s', _⟩ => .inl (.inl (s' _ _ (sm _ _ hps)))) ?_ ?_⟩
      · rintro j x σ H' hx ⟨v10, v11, rfl, sj, hUj, hNj⟩
        obtain ⟨q1, s, rfl, es, hq1⟩ := hat j x hx
        obtain ⟨sb, sd⟩ := hss s (List.mem_of_getElem? es)
        have hj := (List.getElem?_eq_some_iff.mp es).1
        have hs1 := sj _ _ (sm _ _ hq1)
        refine nm ?_
        dsimp only [List.set]
        refine ⟨_, rfl, _, rfl, _, _, _, _, rfl, rfl, .inl (.inl hs1), seg_at0 s hi, _, rfl, _, rfl, _, _, rfl, rfl, _, _, _, _, rfl, rfl, .inl (.inl hs1), seg_at1 s hi, szOk rfl, fun M hM => ?_⟩
        have nUM : U ≠ M := ne_of_none hUj hM
        have nNM : N ≠ M := ne_of_none hNj hM
        refine ⟨M, rfl, ⟨_, .inl (.inl upd_same)⟩, for_list (K := K) (a := M) (xs := [.int (c0 i s), .int (c1 i s)]) (fun n σ H2 => ∃ (v11 : Option V), σ = [some (.ref e), some (.int m), some (.ref q), some (.ref l), some (.ref R), some (.int (0 + (i : Int))), some (.int (aLo E i)), some (.int (aHi E i)), some (.ref U), some (.ref N), some (.ref q1), v11] ∧ Same G H2 ∧ H2 U = some (.lst ((up i (ss.take j) ++ [-(-c0 i s / s.d), -(-c1 i s / s.d)].take n).map V.int)) ∧ H2 N = some (.lst ((dn i (ss.take j) ++ [c0 i s / s.d, c1 i s / s.d].take n).map V.int)) ∧ H2 M = some (.lst [.int (c0 i s), .int (c1 i s)]))
          ⟨v11, rfl, sj.trans (same_new hM), by rw [List.take_zero, List.append_nil]; exact same_new hM _ _ hUj, by rw [List.take_zero, List.append_nil]; exact same_new hM _ _ hNj, upd_same⟩ (fun n σ H2 _ ⟨_, _, _, _, _, h⟩ => .inl (.inl h)) ?_ ?_⟩
        · rintro n x σ H2 hx2 ⟨v11, rfl, sn, hUn, hNn, hMn⟩
          obtain ⟨z, rfl, ez, zz⟩ := two_step (f := fun t => t / s.d) hx2
          obtain ⟨z', ez', ew, _⟩ := two_step (f := fun t => -(-t / s.d)) hx2
          obtain rfl := V.int.inj ez'
          have hs2 := sn _ _ (sm _ _ hq1)
          refine nm ?_
          dsimp only [List.set]
          have ln : (([c0 i s / s.d, c1 i s / s.d].take n).length) ≤ 2 := by rw [List.length_take]; exact Nat.min_le_right _ _
          have lu : (([-(-c0 i s / s.d), -(-c1 i s / s.d)].take n).length) ≤ 2 := by rw [List.length_take]; exact Nat.min_le_right _ _
          refine ⟨_, rfl, (.inl ⟨rfl, _, .inl (.inl hNn)⟩), _, rfl, _, rfl, _, _, _, _, rfl, rfl, .inl (.inl hs2), rfl, _, _, rfl, rfl, wide_div (b := 300) sd (Nat.lt_of_le_of_lt sb.d (Nat.pow_lt_pow_right (by decide) (by decide))) (by decide) (by decide), _, _, _, rfl, rfl, hNn, small1000 (by rw [List.length_map, List.length_append, dn_len, List.length_take]; omega), ?_⟩
          have hU3 : (upd H2 N (.lst (((dn i (ss.take j) ++ [c0 i s / s.d, c1 i s / s.d].take n).map V.int) ++ [V.int (z / s.d)]))) U = some (.lst ((up i (ss.take j) ++ [-(-c0 i s / s.d), -(-c1 i s / s.d)].take n).map V.int)) := by rw [upd_ne hUN]; exact hUn
          have hs3 : (upd H2 N (.lst (((dn i (ss.take j) ++ [c0 i s / s.d, c1 i s / s.d].take n).map V.int) ++ [V.int (z / s.d)]))) q1 = some (.tup (s.li.map V.int)) := by rw [upd_ne (ne_of hs2 hNn (by intro w; cases w))]; exact hs2
          refine ⟨_, rfl, (.inl ⟨rfl, _, .inl (.inl hU3)⟩), _, rfl, _, rfl, _, rfl, _, _, _, _, rfl, rfl, .inl (.inl hs3), rfl, _, _, rfl, rfl, wide_div (b := 300) sd (Nat.lt_of_le_of_lt sb.d (Nat.pow_lt_pow_right (by decide) (by decide))) (by decide) (by decide), _, rfl, _, _, _, rfl, rfl, hU3, small1000 (by rw [List.length_map, List.length_append, up_len, List.length_take]; omega), ?_⟩
          refine ⟨some (.int z), rfl, sameU hU (sameU hNG sn), ?_, ?_, ?_⟩
          · rw [upd_same, ew]
            simp only [List.map_append, List.append_assoc]
            rfl
          · rw [upd_ne hUN.symm, upd_same, ez]
            simp only [List.map_append, List.append_assoc]
            rfl
          · rw [upd_ne nUM.symm, upd_ne nNM.symm]
            exact hMn
        · rintro σ H2 ⟨v11, rfl, sn, hUn, hNn, hMn⟩
          refine ⟨some (.ref q1), v11, rfl, sn, ?_, ?_⟩
          · rw [up_step es]; exact hUn
          · rw [dn_step es]; exact hNn
      rintro σ H' ⟨v10, v11, rfl, sj, hUj, hNj⟩
      rw [List.length_map, hpl, List.take_length] at hUj hNj
      have sG := sm.trans sj
      have lss : 0 < ss.length := List.length_pos_iff.mpr sne
      refine ⟨_, rfl, _, rfl, _, rfl, _, _, _, _, rfl, rfl, .inl (.inl (sG _ _ hq)), plot_at px py pz hi, _, rfl, _, _, rfl, rfl, _, rfl, N, dn i ss, rfl, .inl (.inl hNj), by rw [dn_len]; omega, fun mx hm1 hm2 => ?_⟩
      obtain rfl := (maxs_eq hm1 hm2)
      refine ⟨_, _, rfl, rfl, _, _, rfl, ?_⟩
      refine nm ?_
      dsimp only [List.set]
      refine ⟨_, rfl, _, rfl, _, rfl, _, _, _, _, rfl, rfl, .inl (.inl (sG _ _ hq)), plot_at px py pz hi, _, rfl, _, _, rfl, rfl, _, rfl, U, up i ss, rfl, .inl (.inl hUj), by rw [up_len]; omega, fun mn hn1 hn2 => ?_⟩
      obtain rfl := (mins_eq hn1 hn2)
      refine ⟨_, _, rfl, rfl, _, _, rfl, ?_⟩
      refine nm ?_
      dsimp only [List.set]
      refine ⟨_, rfl, _, rfl, _, _, rfl, rfl, _, rfl, ite2 (fun c => ?_) (fun c => ?_)⟩
      · have c : axHi E m px py ss i < axLo E m px py ss i := of_decide_eq_true c
        refine k _ _ sG ?_
        rw [nar_none hi c]
        rfl
      have c : axLo E m px py ss i ≤ axHi E m px py ss i := Int.not_lt.mp fun z => c (decide_eq_true z)
      have hRj := sj _ _ hRG
      refine ⟨_, rfl, (.inl ⟨rfl, _, .inl (.inl hRj)⟩), _, rfl, _, rfl, szOk rfl, fun X hX => ?_⟩
      have hal : (axs E m px py ss i).length ≤ 4 := by
        match i, hi with
        | 0, _ => exact Nat.zero_le _
        | 1, _ => show 2 ≤ 4; decide
      refine ⟨_, _, _, _, rfl, rfl, same_new hX _ _ hRj, upd_same, Nat.le_of_lt (small1000 (by rw [List.length_map]; show _ + 2 ≤ 1000; omega)), ?_⟩
      refine ⟨_, _, _, _, _, _, _, rfl, sameU hR (sG.trans (same_new hX)), ?_, fun j hj => ?_⟩
      · rw [upd_same, axs, List.map_append]
        rfl
      · rcases Nat.lt_or_ge j i with w | w
        · exact hle j w
        · obtain rfl : j = i := by omega
          exact c
    · rintro σ G ⟨v5, v6, v7, v8, v9, v10, v11, rfl, sm, hRG, hle⟩
      refine ⟨_, rfl, _, _, rfl, .inl ⟨.inl (.inl hRG), fun t ht => ?_⟩⟩
      refine k _ _ (sm.trans (same_new ht)) ?_
      rw [nar_some hle]
      exact ⟨t, rfl, upd_same⟩

end
end Sk

set_option Elab.async false
set_option linter.all false
set_option maxRecDepth 100000
set_option maxHeartbeats 4000000
namespace Sk
open PySem PySem.Spec PyProof.Rows L2
section
variable {P : Program} {w : World} {K : PySem.W.Frag} {mg : Str → Option Value} {base : Heap}
abbrev s_law_small_chart : Stmt := top 50
theorem sc_law_small_chart : FnScope ["state", "chart", "names"] ["state"] (defScope s_law_small_chart) := ⟨rfl, rfl, rfl, by decide +kernel, rfl, by decide +kernel, by decide +kernel⟩
theorem ok_law_small_chart {f : Addr} {fd : FuncData} (F : Fun K "_law_small_chart" "_law_small_chart" s_law_small_chart f fd) (T : TxtA mg)
    (D_law_draw : Def P w K mg base 1 "_law_draw" ["state", "bound"] (spDraw K))
    (D_law_pick : Def P w K mg base 2 "_law_pick" ["state", "things"] (spPick K))
    (D_law_chart : Def P w K mg base 4 "_law_chart" ["state", "many", "size"] (spChartB K)) : FnOk P w K mg base CX0 5 f fd ["state"] (spSmall K) := by
  refine F.ok sc_law_small_chart (fun vs H Q E h => ?_) (fun cdv A outer s H vs Q E hr h => ?_)
  · obtain ⟨_, _, rfl, _⟩ := h
    rfl
  · obtain ⟨d, c, rfl, S, k⟩ := h
    have hu := hu_of hr
    refine ⟨_, (pss_cons (ps_set (i := 1) sc_law_small_chart.nd rfl (Or.inl rfl) (pe_def D_law_chart (hr.mono (by decide)) (by rfl) (pa_cons (pv 0) (pa_cons (pe_op op_add pe_int (pe_def D_law_draw (hr.mono (by decide)) (by rfl) (pa_cons (pv 0) (pa_cons pe_int pa_nil)))) (pa_cons (pe_def D_law_pick (hr.mono (by decide)) (by rfl) (pa_cons (pv 0) (pa_cons (pe_lst (pa_cons pe_int (pa_cons pe_int (pa_cons pe_int (pa_cons pe_int pa_nil))))) pa_nil))) pa_nil)))))
    (pss_cons (ps_if (pt_cmpR op_eq (pe_callB (r := rLenK K) call_len_seq (by rfl) T.len boot_len (pa_cons (pe_dget hu (pv 1) pe_str (fun _ _ => rfl)) pa_nil)) pe_int (nomark _)) (pss_cons (ps_set (i := 2) sc_law_small_chart.nd rfl (Or.inl rfl) (pe_callB (call_sortedD rfl) (by rfl) T.sorted boot_sorted (pa_cons (pe_dget hu (pv 1) pe_str (fun _ _ => rfl)) pa_nil)))
    (pss_one (ps_expr (pe_bm PySem.F.plainAttrs_list PySem.F.slot_list_append PySem.F.type_list_append mt_append (pe_dget hu (pv 1) pe_str (fun _ _ => rfl)) (pa_cons (pe_tup (pa_cons (pe_ix (r := rIxL K) ix_list (pv 2) pe_int (fun _ _ => rfl)) (pa_cons (pe_ix (r := rIxL K) ix_list (pv 2) pe_int (fun _ _ => rfl)) (pa_cons pe_str (pa_cons pe_int (pa_cons pe_int pa_nil)))))) pa_nil)))))
      pss_nil)
    (pss_one (ps_ret (pv 1))))), ?_⟩
    refine ⟨_, rfl, _, rfl, d, c, _, rfl, S, (by decide), (by decide), fun x1 H1 x1a x1b S1 kp1 => ?_⟩
    refine ⟨_, _, rfl, rfl, _, rfl, szOk rfl, fun p2 hp2 => ?_⟩
    refine ⟨d, c, _, _, rfl, (S1.new hp2), .inl (.inl upd_same), (fun z => nomatch z), (by show 4 ≤ 1000; decide), fun v2 H2 hv2 S2 kp2 => ?_⟩
    obtain ⟨x2, rfl, x2a, x2b⟩ : ∃ z : Int, v2 = .int z ∧ 2 ≤ z ∧ z ≤ 40 := by
      simp only [List.mem_cons, List.not_mem_nil, or_false] at hv2
      rcases hv2 with rfl | rfl | rfl | rfl <;> exact ⟨_, rfl, by decide, by decide⟩
    refine ⟨d, c, _, _, rfl, S2, (by omega), (by omega), (by omega), (by omega), fun D ch H4 ce hlg hpos C4 hch hfx S4 kp4 => ?_⟩
    have kA : Keep d H H2 := (kp1.trans (Keep.of (same_new hp2))).trans kp2
    have kB := kA.trans kp4
    have hch0 := kA.none (S2.nd hch) hch
    have hfx0 := kA.none (S2.nd hfx) hfx
    have hlg0 := kA.none (S2.nd hlg) hlg
    refine ⟨_, rfl, _, _, rfl, C4.gl, _, _, rfl, .inl (.inl (.inl C4.lg)), rfl, _, rfl, ite2 (fun e => ?_) (fun e => ?_)⟩
    rotate_left
    · exact ⟨_, rfl, k D ch H4 (fun z => e (decide_eq_true (by rw [z]; rfl))) hpos C4 hch0 hfx0 S4 kB⟩
    obtain ⟨ns, hks, hnd, n2, n7, hpt, hsep⟩ := ce
    refine ⟨_, rfl, _, _, rfl, C4.gf, D.fx, D.fs, ns, rfl, .inl C4.fx, hks, (by omega), fun ys p hpm hso hp => ?_⟩
    have hyl := hpm.length_eq
    have hynd : ys.Nodup := hpm.nodup_iff.mpr hnd
    obtain ⟨n0, n1, rest, rfl⟩ : ∃ n0 n1 rest, ys = n0 :: n1 :: rest := by
      match ys, hyl with
      | [], h => exact absurd h (by show ¬ 0 = ns.length; omega)
      | [a], h => exact absurd h (by show ¬ 1 = ns.length; omega)
      | a :: b :: l, _ => exact ⟨a, b, l, rfl⟩
    have m0 : n0 ∈ ns := hpm.mem_iff.mp List.mem_cons_self
    have m1 : n1 ∈ ns := hpm.mem_iff.mp (List.mem_cons_of_mem _ List.mem_cons_self)
    have n01 : n0 ≠ n1 := fun z => by
      have := (List.nodup_cons.mp hynd).1
      rw [z] at this
      exact this List.mem_cons_self
    have ls0 : D.ls = [] := by
      have := V.int.inj (of_decide_eq_true e)
      rw [List.length_map] at this
      exact List.eq_nil_of_length_eq_zero (by omega)
    have C5 := C4.same (same_new (o := .lst ((n0 :: n1 :: rest).map V.str)) hp)
    have hys : (upd H4 p (.lst ((n0 :: n1 :: rest).map V.str))) p = _ := upd_same
    have S5 := S4.new (o := .lst ((n0 :: n1 :: rest).map V.str)) hp
    have k5 := kB.trans (Keep.of (same_new (o := .lst ((n0 :: n1 :: rest).map V.str)) hp))
    generalize upd H4 p (.lst ((n0 :: n1 :: rest).map V.str)) = H5 at *
    refine nm ?_
    dsimp only
    have e0 : (List.map V.str (n0 :: n1 :: rest))[0]? = some (.str n0) := rfl
    have e1 : (List.map V.str (n0 :: n1 :: rest))[1]? = some (.str n1) := rfl
    have a0 : atI (List.map V.str (n0 :: n1 :: rest)) 0 = some (.str n0) := atI_nat e0
    have a1 : atI (List.map V.str (n0 :: n1 :: rest)) 1 = some (.str n1) := atI_nat e1
    refine ⟨_, rfl, _, _, rfl, C5.gl, .inl ⟨rfl, _, .inl (.inl C5.lg)⟩, _, rfl, _, _, _, _, rfl, rfl, (.inl (.inl hys)), a0, _, rfl, _, _, _, _, rfl, rfl, (.inl (.inl hys)), a1, szOk rfl, fun t ht => ?_⟩
    have C6 := C5.same (same_new (o := .tup [.str n0, .str n1, .str "N", .int 0, .int 600]) ht)
    have htt : (upd H5 t (.tup [.str n0, .str n1, .str "N", .int 0, .int 600])) t = _ := upd_same
    have S6 := S5.new (o := .tup [.str n0, .str n1, .str "N", .int 0, .int 600]) ht
    have k6 := k5.trans (Keep.of (same_new (o := .tup [.str n0, .str n1, .str "N", .int 0, .int 600]) ht))
    generalize upd H5 t (.tup [.str n0, .str n1, .str "N", .int 0, .int 600]) = H6 at *
    refine ⟨_, _, _, rfl, rfl, C6.lg, (by rw [ls0]; exact small1000 (by decide)), ?_⟩
    have el : (D.ls.map fun l => V.ref l.a) ++ [V.ref t] = [V.ref t] := by rw [ls0]; rfl
    have hw := C6.lg
    have ne : ∀ (a : Addr) o, H6 a = some o → (∀ xs, o ≠ .lst xs) → a ≠ D.lg := fun a o e n => ne_of e hw (n _)
    refine ⟨_, rfl, k ⟨D.fx, D.lg, D.fs, D.pt, [⟨t, n0, n1, "N", 0, 600⟩]⟩ ch _ (by intro z; cases z) (fun l hl => ?_) ⟨?_, ?_, ?_, fun l hl => ?_, fun n a x y h => ?_, fun l hl => ?_, fun l hl => ?_, (by show 1 ≤ 100; decide)⟩ hch0 hfx0 (S6.put (S2.nd hlg) (S2.nc hlg)) (fun b o e n => ?_)⟩
    · rw [List.mem_singleton.mp hl]
      exact hsep n0 m0 n1 m1 n01
    · obtain ⟨kvs, h1, h2, h3⟩ := C6.ch
      exact ⟨kvs, by rw [upd_ne (ne _ _ h1 (by intro _ z; cases z))]; exact h1, h2, h3⟩
    · rw [upd_ne (ne _ _ C6.fx (by intro _ z; cases z))]; exact C6.fx
    · rw [upd_same]; exact congrArg (fun z => some (HO.lst z)) el
    · rw [List.mem_singleton.mp hl, upd_ne (ne _ _ htt (by intro _ z; cases z))]; exact htt
    · obtain ⟨q1, q2, q3⟩ := C6.pf n a x y h
      exact ⟨q1, by rw [upd_ne (ne _ _ q2 (by intro _ z; cases z))]; exact q2, q3⟩
    · rw [List.mem_singleton.mp hl]
      exact ⟨(hpt n0 m0).2, (hpt n1 m1).2⟩
    · rw [List.mem_singleton.mp hl]
      exact ⟨(hpt n0 m0).1, (hpt n1 m1).1, (by show sOk "N"; decide +kernel)⟩
    · rw [upd_ne (ne_of_none e hlg0)]
      exact k6 b o e n
end
end Sk

set_option Elab.async false
set_option linter.all false
set_option maxRecDepth 100000
set_option maxHeartbeats 4000000
namespace Sk
open PySem PySem.Spec PyProof.Rows L2
section
variable {P : Program} {w : World} {K : PySem.W.Frag} {mg : Str → Option Value} {base : Heap}
abbrev s_law_learned : Stmt := top 59
theorem sc_law_learned : FnScope ["state", "desk", "stations", "rules", "chart", "radar", "station", "route", "begins", "path", "progress", "box", "place", "move", "x", "y", "across", "up", "limit", "plot", "margin", "due"] ["state", "desk", "stations", "rules", "chart"] (defScope s_law_learned) := ⟨rfl, rfl, rfl, by decide +kernel, rfl, by decide +kernel, by decide +kernel⟩
theorem ok_law_learned {f : Addr} {fd : FuncData} {C CS CW : Addr} {TT : List Addr} (F : Fun K "_law_learned" "_law_learned" s_law_learned f fd) (T : TxtA mg) (YD : DskY K mg CW) (Y : PathY K mg C)
    (D_law_draw : Def P w K mg base 1 "_law_draw" ["state", "bound"] (spDraw K))
    (D_law_walk_one : Def P w K mg base 3 "_law_walk_one" ["state", "chart"] (spWalk1 K))
    (D_law_lengths : Def P w K mg base 2 "_law_lengths" ["chart"] (spLens))
    (D_law_begins : Def P w K mg base 1 "_law_begins" ["lengths", "route"] (spBegins))
    (D_law_leg_at : Def P w K mg base 1 "_law_leg_at" ["begins", "progress"] (spLawLegAt))
    (D_law_place_on : Def P w K mg base 1 "_law_place_on" ["chart", "route", "begins", "k", "progress"] (spPlaceOn))
    (D_law_piece : Def P w K mg base 2 "_law_piece" ["chart", "route", "begins", "low", "high"] (spLawPiece))
    (D_law_vector : Def P w K mg base 2 "_law_vector" ["state", "radius"] (spVectorR K))
    (D_law_narrowed : Def P w K mg base 1 "_law_narrowed" ["estimate", "margin", "plot", "piece"] (spLNar))
    (D_Path : CDef P w K mg base 5 C "Path" ["self", "chart", "route"] (spPInit C))
    (M_learn : MDef P w K mg base 7 CW "learn" ["self", "radar", "path", "box", "plot"] (spLearn CW CS C TT))
    (M_estimate : MDef P w K mg base 1 CW "estimate" ["self", "radar"] (spEst CW CS))
    (D_law_is : Def P w K mg base 1 "_law_is" ["actual", "due"] (spIs)) : FnOk P w K mg base CX0 8 f fd ["state", "desk", "stations", "rules", "chart"] (spLearned K CW CS C TT) := by
  refine F.ok sc_law_learned (fun vs H Q E h => ?_) (fun cdv A outer s H vs Q E hr h => ?_)
  · obtain ⟨_, _, _, _, _, _, _, _, _, _, _, _, _, _, _, rfl, _⟩ := h
    rfl
  · obtain ⟨d, c, ch, ru, D, dsl, L, n, S, T_, X, Af, g, r, Dc, rfl, w, offs, lsn, lpos, k⟩ := h
    have hu := hu_of hr
    refine ⟨_, (pss_cons (ps_set (i := 5) sc_law_learned.nd rfl (Or.inl rfl) (pe_def D_law_draw (hr.mono (by decide)) (by rfl) (pa_cons (pv 0) (pa_cons (pe_callB (r := rLenK K) call_len_seq (by rfl) T.len boot_len (pa_cons (pv 2) pa_nil)) pa_nil))))
    (pss_cons (ps_set (i := 6) sc_law_learned.nd rfl (Or.inl rfl) (pe_ix (r := rIxL K) ix_list (pv 2) (pv 5) (fun _ _ => rfl)))
    (pss_cons (ps_set (i := 7) sc_law_learned.nd rfl (Or.inl rfl) (pe_def D_law_walk_one (hr.mono (by decide)) (by rfl) (pa_cons (pv 0) (pa_cons (pv 4) pa_nil))))
    (pss_cons (ps_set (i := 8) sc_law_learned.nd rfl (Or.inl rfl) (pe_def D_law_begins (hr.mono (by decide)) (by rfl) (pa_cons (pe_def D_law_lengths (hr.mono (by decide)) (by rfl) (pa_cons (pv 4) pa_nil)) (pa_cons (pv 7) pa_nil))))
    (pss_cons (ps_set (i := 9) sc_law_learned.nd rfl (Or.inl rfl) (pe_cdef D_Path (hr.mono (by decide)) (by rfl) (pa_cons (pv 4) (pa_cons (pv 7) pa_nil))))
    (pss_cons (ps_set (i := 10) sc_law_learned.nd rfl (Or.inl rfl) (pe_def D_law_draw (hr.mono (by decide)) (by rfl) (pa_cons (pv 0) (pa_cons (pe_ix (r := rIxL K) ix_list (pv 8) (pe_un un_neg pe_int) (fun _ _ => rfl)) pa_nil))))
    (pss_cons (ps_set (i := 11) sc_law_learned.nd rfl (Or.inl rfl) (pe_tup (pa_cons (pe_op op_sub (pv 10) (pe_def D_law_draw (hr.mono (by decide)) (by rfl) (pa_cons (pv 0) (pa_cons pe_int pa_nil)))) (pa_cons (pe_op op_add (pv 10) (pe_def D_law_draw (hr.mono (by decide)) (by rfl) (pa_cons (pv 0) (pa_cons pe_int pa_nil)))) (pa_cons pe_int (pa_cons pe_int pa_nil))))))
    (pss_cons (ps_set (i := 12) sc_law_learned.nd rfl (Or.inl rfl) (pe_def D_law_place_on (hr.mono (by decide)) (by rfl) (pa_cons (pv 4) (pa_cons (pv 7) (pa_cons (pv 8) (pa_cons (pe_def D_law_leg_at (hr.mono (by decide)) (by rfl) (pa_cons (pv 8) (pa_cons (pv 10) pa_nil))) (pa_cons (pv 10) pa_nil)))))))
    (pss_cons (ps_set (i := 13) sc_law_learned.nd rfl (Or.inl rfl) (pe_def D_law_vector (hr.mono (by decide)) (by rfl) (pa_cons (pv 0) (pa_cons (pe_op op_add (pe_dget hu (pv 6) pe_str (fun _ _ => rfl)) (pe_dget hu (pv 3) pe_str (fun _ _ => rfl))) pa_nil))))
    (pss_cons (ps_set (i := 14) sc_law_learned.nd rfl (Or.inl rfl) (pe_op op_add (pe_op op_fdivW (pe_ix (r := rIxT K) ix_tup (pv 12) pe_int (fun _ _ => rfl)) (pe_ix (r := rIxT K) ix_tup (pv 12) pe_int (fun _ _ => rfl))) (pe_ix (r := rIxT K) ix_tup (pv 13) pe_int (fun _ _ => rfl))))
    (pss_cons (ps_set (i := 15) sc_law_learned.nd rfl (Or.inl rfl) (pe_op op_add (pe_op op_fdivW (pe_ix (r := rIxT K) ix_tup (pv 12) pe_int (fun _ _ => rfl)) (pe_ix (r := rIxT K) ix_tup (pv 12) pe_int (fun _ _ => rfl))) (pe_ix (r := rIxT K) ix_tup (pv 13) pe_int (fun _ _ => rfl))))
    (pss_cons (ps_set (i := 16) sc_law_learned.nd rfl (Or.inl rfl) (pe_op op_sub (pe_ix (r := rIxT K) ix_tup (pv 12) pe_int (fun _ _ => rfl)) (pe_op op_mulW (pv 14) (pe_ix (r := rIxT K) ix_tup (pv 12) pe_int (fun _ _ => rfl)))))
    (pss_cons (ps_set (i := 17) sc_law_learned.nd rfl (Or.inl rfl) (pe_op op_sub (pe_ix (r := rIxT K) ix_tup (pv 12) pe_int (fun _ _ => rfl)) (pe_op op_mulW (pv 15) (pe_ix (r := rIxT K) ix_tup (pv 12) pe_int (fun _ _ => rfl)))))
    (pss_cons (ps_set (i := 18) sc_law_learned.nd rfl (Or.inl rfl) (pe_op op_mulW (pe_op op_add (pe_dget hu (pv 6) pe_str (fun _ _ => rfl)) (pe_dget hu (pv 3) pe_str (fun _ _ => rfl))) (pe_ix (r := rIxT K) ix_tup (pv 12) pe_int (fun _ _ => rfl))))
    (pss_cons (ps_set (i := 19) sc_law_learned.nd rfl (Or.inl rfl) (pe_tup (pa_cons (pe_op op_add (pv 14) (pe_ix (r := rIxT K) ix_tup (pe_dget hu (pv 6) pe_str (fun _ _ => rfl)) pe_int (fun _ _ => rfl))) (pa_cons (pe_op op_add (pv 15) (pe_ix (r := rIxT K) ix_tup (pe_dget hu (pv 6) pe_str (fun _ _ => rfl)) pe_int (fun _ _ => rfl))) (pa_cons pe_int pa_nil)))))
    (pss_cons (ps_if (pt_cmpR op_gt (pe_op op_add (pe_op op_mulW (pv 16) (pv 16)) (pe_op op_mulW (pv 17) (pv 17))) (pe_op op_mulW (pv 18) (pv 18)) (nomark _)) (pss_one (ps_set (i := 19) sc_law_learned.nd rfl (Or.inl rfl) (pe_tup (pa_cons (pe_op op_sub (pe_op op_add (pe_ix (r := rIxT K) ix_tup (pv 19) pe_int (fun _ _ => rfl)) (pe_def D_law_draw (hr.mono (by decide)) (by rfl) (pa_cons (pv 0) (pa_cons pe_int pa_nil)))) pe_int) (pa_cons (pe_ix (r := rIxT K) ix_tup (pv 19) pe_int (fun _ _ => rfl)) (pa_cons pe_int pa_nil))))))
      pss_nil)
    (pss_cons (ps_set (i := 20) sc_law_learned.nd rfl (Or.inl rfl) (pe_op op_add (pe_dget hu (pv 6) pe_str (fun _ _ => rfl)) (pe_dget hu (pv 3) pe_str (fun _ _ => rfl))))
    (pss_cons (ps_set (i := 21) sc_law_learned.nd rfl (Or.inl rfl) (pe_def D_law_narrowed (hr.mono (by decide)) (by rfl) (pa_cons (pe_dget hu (pv 6) pe_str (fun _ _ => rfl)) (pa_cons (pv 20) (pa_cons (pv 19) (pa_cons (pe_def D_law_piece (hr.mono (by decide)) (by rfl) (pa_cons (pv 4) (pa_cons (pv 7) (pa_cons (pv 8) (pa_cons (pe_ix (r := rIxT K) ix_tup (pv 11) pe_int (fun _ _ => rfl)) (pa_cons (pe_ix (r := rIxT K) ix_tup (pv 11) pe_int (fun _ _ => rfl)) pa_nil)))))) pa_nil))))))
    (pss_cons (ps_if (pt_not (pt_val (pe_def D_law_is (hr.mono (by decide)) (by rfl) (pa_cons (pe_mdef M_learn YD.cl (hr.mono (by decide)) (pv 1) (pa_cons (pv 5) (pa_cons (pv 9) (pa_cons (pv 11) (pa_cons (pv 19) pa_nil))))) (pa_cons (pe_cmpR op_notN (pv 21) pe_non (nomark _)) pa_nil))))) (pss_one (ps_ret pe_bl))
      pss_nil)
    (pss_cons (ps_if (PW.pt (pw_and (pt_cmpR op_notN (pv 21) pe_non (nomark _)) (pw_and1 (pt_cmpR op_le (pe_op op_add (pe_op op_mulW (pv 16) (pv 16)) (pe_op op_mulW (pv 17) (pv 17))) (pe_op op_mulW (pv 18) (pv 18)) (nomark _))))) (pss_cons (ps_dput hu (pv 6) pe_str (pv 21) rfl)
    (pss_one (ps_if (PW.pt (pw_or (pt_not (pt_chain op_le op_le (pe_ix (r := rIxT K) ix_tup (pv 21) pe_int (fun _ _ => rfl)) (pe_ix (r := rIxT K) ix_tup (pe_dget hu (pv 6) pe_str (fun _ _ => rfl)) pe_int (fun _ _ => rfl)) (pe_ix (r := rIxT K) ix_tup (pv 21) pe_int (fun _ _ => rfl)))) (pw_or1 (pt_not (pt_chain op_le op_le (pe_ix (r := rIxT K) ix_tup (pv 21) pe_int (fun _ _ => rfl)) (pe_ix (r := rIxT K) ix_tup (pe_dget hu (pv 6) pe_str (fun _ _ => rfl)) pe_int (fun _ _ => rfl)) (pe_ix (r := rIxT K) ix_tup (pv 21) pe_int (fun _ _ => rfl))))))) (pss_one (ps_ret pe_bl))
      pss_nil)))
      (pss_one (ps_if (pt_cmpR op_notN (pv 21) pe_non (nomark _)) (pss_cons (ps_dput hu (pv 6) pe_str (pv 21) rfl)
    (pss_one (ps_dput hu (pv 6) pe_str pe_non rfl)))
      pss_nil)))
    (pss_one (ps_ret (pe_cmpR (op_eqD hr.units) (pe_mdef M_estimate YD.cl (hr.mono (by decide)) (pv 1) (pa_cons (pv 5) pa_nil)) (pe_dget hu (pv 6) pe_str (fun _ _ => rfl)) (nomark _)))))))))))))))))))))))), ?_⟩
    rw [show L2.start ["state", "desk", "stations", "rules", "chart", "radar", "station", "route", "begins", "path", "progress", "box", "place", "move", "x", "y", "across", "up", "limit", "plot", "margin", "due"] [V.ref d, V.ref D, V.ref L, V.ref ru, V.ref ch] = [some (V.ref d), some (V.ref D), some (V.ref L), some (V.ref ru), some (V.ref ch), none, none, none, none, none, none, none, none, none, none, none, none, none, none, none, none, none] from rfl]
    have wn0 := w.n0
    have wn1 := w.n1
    have wg0 := w.g0
    have wg1 := w.g1
    refine ⟨_, rfl, _, rfl, _, _, rfl, (.inl (.inl (.inl w.L))), d, c, _, rfl, w.S0, (by rw [List.length_map, List.length_range]; omega), (by rw [List.length_map, List.length_range]; omega), fun x1 H1 x1a x1b S1 kp1 => ?_⟩
    rw [List.length_map, List.length_range] at x1b
    obtain ⟨j, rfl⟩ : ∃ j : Nat, x1 = (j : Int) := ⟨x1.toNat, by omega⟩
    have hj : j < n := by omega
    have w1 := w.keep S1 kp1
    refine nm ?_
    dsimp only [List.set]
    refine ⟨_, rfl, _, rfl, _, _, _, _, rfl, rfl, .inl (.inl w1.L), w1.lat hj, ?_⟩
    refine nm ?_
    dsimp only [List.set]
    refine ⟨_, rfl, _, rfl, d, c, ch, Dc, rfl, w1.S0, w1.C0, w1.X_.nch, w1.X_.nfx, lsn, fun ns rt H2 R rl2 hrt0 hrt2 S2 kp2 => ?_⟩
    have w2 := w1.keep S2 kp2
    refine nm ?_
    dsimp only [List.set]
    refine ⟨_, rfl, ch, Dc, rfl, w2.C0, fun ld H3 hld L3 sm3 => ?_⟩
    refine ⟨_, rfl, ld, rt, Dc, ns, rfl, L3, sm3 _ _ hrt2, R, fun b H4 hb0 sm4 hb4 => ?_⟩
    have w4 := w2.same (sm3.trans sm4)
    have hrt4 := sm4 _ _ (sm3 _ _ hrt2)
    refine nm ?_
    dsimp only [List.set]
    have rn2 := R.n2
    have rn20 := R.n20
    refine ⟨_, rfl, _, rfl, fun p dx hp hdx hpd => ?_⟩
    have smx : Same H4 (upd (upd H4 dx (.own p)) p (.ins C dx [])) := fun b o e => by
      rw [upd_ne (ne_of_none e hp), upd_ne (ne_of_none e hdx)]
      exact e
    refine ⟨p, ch, rt, dx, Dc, ns, rfl, upd_same, w4.C0.same smx, smx _ _ hrt4, R, fun H5 PA fr => ⟨rfl, ?_⟩⟩
    have sm5 : Same H4 H5 := fun b o e => fr b o (smx _ _ e) (ne_of_none e hp)
    have w5 := w4.same sm5
    have hrt5 := sm5 _ _ hrt4
    have hb5 := sm5 _ _ hb4
    have pnS : ∀ i, i < n → p ≠ S i := fun i hi z => by
      obtain ⟨_, e⟩ := (w4.one i hi).ob
      rw [z, e] at hp; cases hp
    have pos : PosR Dc ns := PosR.of R lpos
    have tpos := total_pos pos rn2
    have tle := bg_le w5.C0.bd ns (ns.length - 1)
    clear w4 w2 w1 hb4 hrt4 hrt2 L3
    refine nm ?_
    dsimp only [List.set]
    refine ⟨_, rfl, _, rfl, _, rfl, _, _, _, .int (bg Dc ns (ns.length - 1)), rfl, rfl, .inl (.inl hb5), atI_back (bgs_last (by omega)), d, c, bg Dc ns (ns.length - 1), rfl, w5.S0, (by omega), (by omega), fun x6 H6 x6a x6b S6 kp6 => ?_⟩
    have w6 := w5.keep S6 kp6
    have PA6 := PA.keep w5.S0 kp6
    have hb6 := kp6.l w5.S0 hb5
    have hrt6 := kp6.t w5.S0 hrt5
    refine nm ?_
    dsimp only [List.set]
    refine ⟨_, rfl, _, rfl, d, c, 9, rfl, w6.S0, (by omega), (by omega), fun x7 H7 x7a x7b S7 kp7 => ?_⟩
    have w7 := w6.keep S7 kp7
    have PA7 := PA6.keep w6.S0 kp7
    have hb7 := kp7.l w6.S0 hb6
    have hrt7 := kp7.t w6.S0 hrt6
    refine ⟨_, _, rfl, rfl, _, rfl, _, rfl, d, c, 9, rfl, w7.S0, (by omega), (by omega), fun x8 H8 x8a x8b S8 kp8 => ?_⟩
    have w8 := w7.keep S8 kp8
    have PA8 := PA7.keep w7.S0 kp8
    have hb8 := kp8.l w7.S0 hb7
    have hrt8 := kp8.t w7.S0 hrt7
    refine ⟨_, _, rfl, rfl, szOk rfl, fun bx hbx => ?_⟩
    dsimp only at hbx ⊢
    have sm9 := same_new (o := .tup [.int (x6 - x7), .int (x6 + x8), .int 100, .int 100]) hbx
    have w9 := w8.same sm9
    have PA9 := PA8.same sm9
    have hb9 := sm9 _ _ hb8
    have hrt9 := sm9 _ _ hrt8
    have hbx9 : (upd H8 bx (.tup [.int (x6 - x7), .int (x6 + x8), .int 100, .int 100])) bx = some (.tup [.int (x6 - x7), .int (x6 + x8), .int 100, .int 100]) := upd_same
    generalize upd H8 bx (.tup [.int (x6 - x7), .int (x6 + x8), .int 100, .int 100]) = H9 at w9 PA9 hb9 hrt9 hbx9 ⊢
    refine nm ?_
    dsimp only [List.set]
    obtain ⟨lc0, lc1, lc2⟩ := lat_cases Dc ns (ns.length - 1 - 1) x6
    obtain ⟨ppx, ppy, epl, bpx, bpy⟩ := plc_bd (D := Dc) (ns := ns) w9.C0.bd (k := lat Dc ns (ns.length - 1 - 1) x6) (p := x6) (by omega) (by omega) (by omega)
    have dd1 := pos (lat Dc ns (ns.length - 1 - 1) x6) (by omega)
    have dd2 := Dc.len_le w9.C0.bd (rn ns (lat Dc ns (ns.length - 1 - 1) x6)) (rn ns (lat Dc ns (ns.length - 1 - 1) x6 + 1))
    obtain ⟨ss, eP, hss⟩ := pcs_segs (lo := x6 - x7) (hi := x6 + x8) w9.C0.bd pos rn2 rn20 (by omega) (by omega) (by omega) (by omega)
    have on := place_on_piece pos rn2 eP x6a x6b (by omega) (by omega) epl
    have sne : ss ≠ [] := fun z => by
      obtain ⟨s, hs, _⟩ := on
      rw [z] at hs; cases hs
    have hsl := pcs_le rn20 eP
    refine ⟨_, rfl, _, rfl, _, rfl, _, rfl, _, rfl, b, x6, Dc, ns, rfl, hb9, rn2, rn20, ?_⟩
    refine ⟨_, rfl, ch, rt, b, _, x6, Dc, ns, lat Dc ns (ns.length - 1 - 1) x6, rfl, rfl, w9.C0, hrt9, hb9, R, by omega, fun pc H10 hpc sm10 hpt10 => ?_⟩
    rw [epl] at hpt10
    have hpt10 : H10 pc = some (.tup [.int ppx, .int ppy, .int (Dc.len (rn ns (lat Dc ns (ns.length - 1 - 1) x6)) (rn ns (lat Dc ns (ns.length - 1 - 1) x6 + 1)))]) := hpt10
    generalize Dc.len (rn ns (lat Dc ns (ns.length - 1 - 1) x6)) (rn ns (lat Dc ns (ns.length - 1 - 1) x6 + 1)) = dd at on dd1 dd2 hpt10
    have w10 := w9.same sm10
    have PA10 := PA9.same sm10
    have hb10 := sm10 _ _ hb9
    have hrt10 := sm10 _ _ hrt9
    have hbx10 := sm10 _ _ hbx9
    refine nm ?_
    dsimp only [List.set]
    obtain ⟨es, sl, ml, ov, A10⟩ := (w10.one j hj).sn
    have ok := (w10.one j hj).ok
    obtain ⟨q1, q2, q3, q4, q5, q6, q7, q8⟩ := w10.RU.bd
    have e0 := ok.e0
    have e1 := ok.e1
    refine ⟨_, rfl, _, rfl, _, _, rfl, A10.g_error, _, rfl, _, _, rfl, w10.RU.gra, _, _, rfl, rfl, d, c, (X j).err + r.ra, rfl, w10.S0, by omega, by omega, fun mvv mx my H11 hmv0 hmv mx0 mx1 my0 my1 mm S11 kp11 => ?_⟩
    have w11 := w10.keep S11 kp11
    have PA11 := PA10.keep w10.S0 kp11
    have hb11 := kp11.l w10.S0 hb10
    have hrt11 := kp11.t w10.S0 hrt10
    have hbx11 := kp11.t w10.S0 hbx10
    have hpt11 := kp11.t w10.S0 hpt10
    have A11 := A10.keep w10.S0 kp11 (w.X_.td j hj)
    clear w5 w6 w7 w8 w9 w10 PA PA6 PA7 PA8 PA9 PA10 hb5 hb6 hb7 hb8 hb9 hb10 hrt5 hrt6 hrt7 hrt8 hrt9 hrt10 hbx9 hbx10 hpt10 A10
    refine nm ?_
    dsimp only [List.set]
    refine ⟨_, rfl, _, _, _, _, rfl, rfl, .inl (.inl hpt11), rfl, _, rfl, _, _, _, _, rfl, rfl, .inl (.inl hpt11), rfl, _, _, rfl, rfl, log_of (by omega) (by omega), _, rfl, _, _, _, _, rfl, rfl, .inl (.inl hmv), rfl, _, _, rfl, rfl, ?_⟩
    refine nm ?_
    dsimp only [List.set]
    refine ⟨_, rfl, _, _, _, _, rfl, rfl, .inl (.inl hpt11), rfl, _, rfl, _, _, _, _, rfl, rfl, .inl (.inl hpt11), rfl, _, _, rfl, rfl, log_of (by omega) (by omega), _, rfl, _, _, _, _, rfl, rfl, .inl (.inl hmv), rfl, _, _, rfl, rfl, ?_⟩
    refine nm ?_
    dsimp only [List.set]
    have q2000 : ∀ z : Int, -2000 ≤ z → z ≤ 2000 → BdN 200 z := fun z h0 h1 => (BdN.of (n := 11) (by show -(2048 : Int) ≤ z; omega) (by show z ≤ (2048 : Int); omega)).mono (by decide)
    have bxx : BdN 201 (ppx / dd + mx) := (bpx.ediv dd1).add (q2000 mx (by omega) (by omega))
    have byy : BdN 201 (ppy / dd + my) := (bpy.ediv dd1).add (q2000 my (by omega) (by omega))
    generalize ppx / dd + mx = xx at bxx ⊢
    generalize ppy / dd + my = yy at byy ⊢
    have bdd : BdN 30 dd := BdN.of (by show -(1073741824 : Int) ≤ dd; omega) (by show dd ≤ (1073741824 : Int); omega)
    refine ⟨_, rfl, _, _, _, _, rfl, rfl, .inl (.inl hpt11), rfl, _, rfl, _, rfl, _, _, _, _, rfl, rfl, .inl (.inl hpt11), rfl, _, _, rfl, rfl, wmB bxx bdd (by decide) (by decide), _, _, rfl, rfl, ?_⟩
    refine nm ?_
    dsimp only [List.set]
    refine ⟨_, rfl, _, _, _, _, rfl, rfl, .inl (.inl hpt11), rfl, _, rfl, _, rfl, _, _, _, _, rfl, rfl, .inl (.inl hpt11), rfl, _, _, rfl, rfl, wmB byy bdd (by decide) (by decide), _, _, rfl, rfl, ?_⟩
    refine nm ?_
    dsimp only [List.set]
    obtain ⟨m, em⟩ : ∃ m, (X j).err + r.ra = m := ⟨_, rfl⟩
    have m0 : 0 ≤ m := by omega
    have bmm : BdN 200 m := q2000 m (by omega) (by omega)
    refine ⟨_, rfl, _, _, rfl, A11.g_error, _, rfl, _, _, rfl, w11.RU.gra, _, _, rfl, rfl, _, rfl, _, _, _, _, rfl, rfl, .inl (.inl hpt11), rfl, _, _, rfl, rfl, wmB (by rw [em]; exact bmm) bdd (by decide) (by decide), ?_⟩
    refine nm ?_
    dsimp only [List.set]
    rw [em]
    have bax : BdN 400 (ppx - xx * dd) := ((bpx.mono (show 200 ≤ 399 by decide)).sub ((bxx.mul bdd).mono (by decide))).mono (by decide)
    have bay : BdN 400 (ppy - yy * dd) := ((bpy.mono (show 200 ≤ 399 by decide)).sub ((byy.mul bdd).mono (by decide))).mono (by decide)
    have blm := bmm.mul bdd
    obtain ⟨o, eo⟩ : ∃ o, (X j).off = some o := by
      cases h : (X j).off with
      | none => exact absurd h (offs j hj)
      | some o => exact ⟨o, rfl⟩
    obtain ⟨okE, okT⟩ := ok.of o eo
    have hof := A11.o
    rw [eo] at hof
    obtain ⟨of, rfl, hof11⟩ := hof
    refine ⟨_, rfl, _, rfl, _, _, rfl, A11.g_offset, _, _, _, _, rfl, rfl, .inl (.inl hof11), rfl, _, _, rfl, rfl, _, rfl, _, rfl, _, _, rfl, A11.g_offset, _, _, _, _, rfl, rfl, .inl (.inl hof11), rfl, _, _, rfl, rfl, szOk rfl, fun pl hpl => ?_⟩
    dsimp only at hpl ⊢
    have sm12 := same_new (o := .tup [.int (xx + o.1), .int (yy + o.2), .int 100]) hpl
    have w12 := w11.same sm12
    have PA12 := PA11.same sm12
    have hb12 := sm12 _ _ hb11
    have hrt12 := sm12 _ _ hrt11
    have hbx12 := sm12 _ _ hbx11
    have A12 := A11.same sm12
    have hpl12 : (upd H11 pl (.tup [.int (xx + o.1), .int (yy + o.2), .int 100])) pl = some (.tup [.int (xx + o.1), .int (yy + o.2), .int 100]) := upd_same
    have hof12 := sm12 _ _ hof11
    generalize upd H11 pl (.tup [.int (xx + o.1), .int (yy + o.2), .int 100]) = H12 at w12 PA12 hb12 hrt12 hbx12 A12 hpl12 hof12 ⊢
    refine nm ?_
    dsimp only [List.set]
    obtain ⟨near, enear⟩ : ∃ near : Bool, near = nearB ppx ppy dd xx yy m := ⟨_, rfl⟩
    have efar : (decide (m * dd * (m * dd) < (ppx - xx * dd) * (ppx - xx * dd) + (ppy - yy * dd) * (ppy - yy * dd))) = !near := by
      rw [enear]
      unfold nearB
      have e : m * m * dd * dd = m * dd * (m * dd) := by grind
      rw [e]
      by_cases z : (ppx - xx * dd) * (ppx - xx * dd) + (ppy - yy * dd) * (ppy - yy * dd) ≤ m * dd * (m * dd)
      · rw [decide_eq_true z, decide_eq_false (by omega)]; rfl
      · rw [decide_eq_false z, decide_eq_true (by omega)]; rfl
    have enr : (decide ((ppx - xx * dd) * (ppx - xx * dd) + (ppy - yy * dd) * (ppy - yy * dd) ≤ m * dd * (m * dd))) = near := by
      rw [enear]
      unfold nearB
      have e : m * m * dd * dd = m * dd * (m * dd) := by grind
      rw [e]
    obtain ⟨ax, eax⟩ : ∃ ax, ppx - xx * dd = ax := ⟨_, rfl⟩
    obtain ⟨ay, eay⟩ : ∃ ay, ppy - yy * dd = ay := ⟨_, rfl⟩
    obtain ⟨lm, elm⟩ : ∃ lm, m * dd = lm := ⟨_, rfl⟩
    rw [eax] at bax efar enr ⊢
    rw [eay] at bay efar enr ⊢
    rw [elm] at blm efar enr ⊢
    refine cut (t := tIfS _ _ _) (fun σ' G => ∃ (pl : Addr) (px : Int), σ' = [some (.ref d), some (.ref D), some (.ref L), some (.ref ru), some (.ref ch), some (.int (j : Int)), some (.ref (T_ j)), some (.ref rt), some (.ref b), some (.ref p), some (.int x6), some (.ref bx), some (.ref pc), some (.ref mvv), some (.int xx), some (.int yy), some (.int ax), some (.int ay), some (.int lm), some (.ref pl), none, none] ∧
      W48 K CW CS TT G d c ch ru D dsl L n S T_ X Af g r Dc ∧ PathAt C G p Dc ns rt ∧ G b = some (.lst ((bgs Dc ns).map V.int)) ∧ G rt = some (.tup (ns.map V.str)) ∧ G bx = some (.tup [.int (x6 - x7), .int (x6 + x8), .int 100, .int 100]) ∧ SnA G (T_ j) es sl ml (.ref of) (X j) ∧ G of = some (.tup [.int o.1, .int o.2]) ∧
      G pl = some (.tup [.int px, .int (yy + o.2), .int 100]) ∧ (near = true → px = xx + o.1)) ?_ (fun rest => ?_)
    rotate_left
    · refine ⟨_, rfl, _, rfl, _, _, rfl, rfl, wmB bax bax (by decide) (by decide), _, rfl, _, rfl, _, _, rfl, rfl, wmB bay bay (by decide) (by decide), _, _, rfl, rfl, _, rfl, _, rfl, _, _, rfl, rfl, wmB blm blm (by decide) (by decide), _, _, rfl, rfl, _, rfl, ?_⟩
      rw [efar]
      cases near with
      | true =>
        refine iteF ?_
        exact rest _ _ ⟨pl, _, rfl, w12, PA12, hb12, hrt12, hbx12, A12, hof12, hpl12, fun _ => rfl⟩
      | false =>
        refine iteT ?_
        refine ⟨_, rfl, _, _, _, _, rfl, rfl, .inl (.inl hpl12), rfl, _, rfl, d, c, 900, rfl, w12.S0, (by omega), (by omega), fun x9 H13 x9a x9b S9 kp9 => ?_⟩
        have hpl13 := kp9.t w12.S0 hpl12
        refine ⟨_, _, rfl, rfl, _, _, rfl, rfl, _, rfl, _, _, _, _, rfl, rfl, .inl (.inl hpl13), rfl, szOk rfl, fun pl2 hpl2 => ?_⟩
        dsimp only at hpl2 ⊢
        have w13 := w12.keep S9 kp9
        have sm14 := same_new (o := .tup [.int (xx + o.1 + x9 - 450), .int (yy + o.2), .int 100]) hpl2
        refine rest _ _ ⟨pl2, _, rfl, w13.same sm14, (PA12.keep w12.S0 kp9).same sm14, sm14 _ _ (kp9.l w12.S0 hb12), sm14 _ _ (kp9.t w12.S0 hrt12), sm14 _ _ (kp9.t w12.S0 hbx12), (A12.keep w12.S0 kp9 (w.X_.td j hj)).same sm14, sm14 _ _ (kp9.t w12.S0 hof12), upd_same, fun z => nomatch z⟩
    clear w11 w12 PA11 PA12 hb11 hb12 hrt11 hrt12 hbx11 hbx12 A11 A12 hpl12 hof11 hof12 hpt11 hmv
    rintro σ' G ⟨pl, px, rfl, wG, PG, hbG, hrtG, hbxG, AG, hofG, hplG, hnear⟩
    refine ⟨_, rfl, _, _, rfl, AG.g_error, _, rfl, _, _, rfl, wG.RU.gra, _, _, rfl, rfl, ?_⟩
    refine nm ?_
    dsimp only [List.set]
    rw [em]
    refine ⟨_, rfl, _, _, rfl, AG.g_estimate, _, rfl, _, rfl, _, rfl, _, rfl, _, rfl, _, rfl, _, _, _, _, rfl, rfl, .inl (.inl hbxG), rfl, _, rfl, _, _, _, _, rfl, rfl, .inl (.inl hbxG), rfl, ch, rt, b, x6 - x7, x6 + x8, Dc, ns, rfl, wG.C0, hrtG, hbG, R, by omega, fun ln G1 hln sm1 L1 => ?_⟩
    rw [eP] at L1
    have A1 := AG.same sm1
    refine ⟨es, pl, ln, m, (X j).E, px, yy + o.2, 100, ss, rfl, A1.e, sm1 _ _ hplG, L1, hss, sne, hsl, fun vd G2 sm2 hvd => ?_⟩
    have s12 := sm1.trans sm2
    have A2 := A1.same sm2
    have w2 := wG.same s12
    have o2 := w2.one j hj
    obtain ⟨dx2, hp2⟩ := o2.ob
    obtain ⟨dd2_, hd2⟩ := w2.DA.ob
    have hofG2 := s12 _ _ hofG
    have nD := w2.X_.ds j hj
    have pTj : T_ j ≠ S j := dk_ins A2.d hp2
    refine nm ?_
    dsimp only [List.set]
    refine ⟨_, rfl, _, _, _, rfl, hd2, rfl, _, rfl, _, rfl, _, rfl, _, rfl, D, dsl, p, bx, pl, rt, S j, dx2, j, g, (List.range n).map S, Af j, r, (X j).err, (X j).E, Dc, ns, ⟨x6 - x7, x6 + x8, 100, 100⟩, px, yy + o.2, 100, ss, rfl, w2.DA, w2.stn hj, nD, hp2, o2.RU, o2.RR, o2.bo, s12 _ _ hbxG, by dsimp only; omega, s12 _ _ hplG, PG.same s12, w2.C0.bd, rn2, rn20, eP, hss, sne, hsl, w2.T0, ?_, ?_⟩
    · rw [em]
      intro en H' F hp'
      rw [en] at hvd
      cases hvd
      have o3 := o2.stay F w2.T0 hp'
      have w3 := w2.step hj (F.sub (by simp)) o3 rfl
      have A3 := A2.ft F w2.T0 (by simpa using pTj)
      obtain ⟨dd3, hd3⟩ := w3.DA.ob
      refine ⟨_, rfl, rfl, false, false, rfl, ?_⟩
      refine ⟨_, rfl, iteF ?_⟩
      refine nxq ?_
      refine ⟨_, rfl, rfl, _, rfl, ?_⟩
      refine iNY rfl ?_
      refine ⟨_, rfl, rfl, _, rfl, iNY rfl ?_⟩
      refine nxq ?_
      have S3 := w3.stn hj
      obtain ⟨dx3, hp3⟩ := o3.ob
      refine ⟨_, rfl, _, _, _, rfl, hd3, rfl, _, rfl, D, dsl, S j, dx3, j, g, (List.range n).map S, Af j, rfl, w3.DA, S3, hp3, _, rfl, _, _, rfl, A3.g_estimate, _, _, Est.dp o3.bo, Est.dp A3.e, sh_pd _, sh_pd _, ?_⟩
      rw [SeqAt.eqv_refl _ (can_pd _)]
      exact k _ _ H' w3
    · rw [em]
      intro E2 en bo' H' F hp' hbo'
      rw [en] at hvd
      obtain ⟨e2, rfl, he2⟩ := hvd
      have he2' := F.t _ _ he2
      have A3 := A2.ft F w2.T0 (by simpa using pTj)
      have hof3 := F.t _ _ hofG2
      have T3 := F.tb w2.T0
      obtain ⟨dd3, hd3⟩ := (w2.DA.ft F w2.T0 (by simpa using nD)).ob
      refine ⟨_, rfl, rfl, true, true, rfl, ?_⟩
      refine ⟨_, rfl, iteF ?_⟩
      refine nxq ?_
      refine ⟨_, rfl, rfl, _, rfl, ?_⟩
      refine iNN (fun z => nomatch z) ?_
      refine ⟨_, rfl, _, rfl, _, _, rfl, rfl, wmB bax bax (by decide) (by decide), _, rfl, _, rfl, _, _, rfl, rfl, wmB bay bay (by decide) (by decide), _, _, rfl, rfl, _, rfl, _, rfl, _, _, rfl, rfl, wmB blm blm (by decide) (by decide), _, _, rfl, rfl, _, rfl, ?_⟩
      rw [enr]
      -- what stands of the radar, whatever becomes of its offset
      have fin : ∀ (s' : Sn) (ov' : V) (H2 : Hp), s'.err = (X j).err → s'.E = E2 → s'.ss = (X j).ss → s'.ms = (X j).ms → s'.got = (X j).got → s'.held = (X j).held → s'.lost = (X j).lost → (∀ o', s'.off = some o' → EstOk E2 o'.1 o'.2 ∧ ∀ t ∈ s'.ss, t.Ok s'.err o'.1 o'.2) →
          SnA H2 (T_ j) e2 sl ml ov' s' → FT [T_ j] TT H' H2 → H2 (S j) = some (.ins CS dx2 (stf { Af j with bo := bo' })) → (W48 K CW CS TT H2 d c ch ru D dsl L n S T_ (fset X j s') (fset Af j { Af j with bo := bo' }) g r Dc) ∧ H2 bo' = some (.tup s'.E.v) := by
        intro s' ov' H2 f1 f2 f3 f4 f5 f6 f7 f8 SA F2 hp2'
        have Fall : FT [T_ j, S j] TT G2 H2 := (F.sub (by simp)).trans (F2.sub (by simp))
        obtain ⟨kv, ekv, _⟩ := id o2.RR
        have nru : (Af j).ru ∉ [T_ j, S j] := by
          simp only [List.mem_cons, List.not_mem_nil, or_false, not_or]
          exact ⟨o2.n1, dk_ins ekv hp2⟩
        have hb2 := F2.t _ _ hbo'
        refine ⟨w2.step hj Fall ⟨⟨e2, sl, ml, ov', SA⟩, ⟨dx2, hp2'⟩, Fall.ru w2.T0 o2.RU nru, by rw [f1]; exact Fall.rr w2.T0 o2.RR nru, by rw [f2]; exact hb2, by rw [f4, f5]; exact Fall.l _ _ o2.re, by rw [f4, f5]; exact o2.nt, by rw [f6]; exact o2.mh, ?_, o2.n1⟩ rfl, by rw [f2]; exact hb2⟩
        exact ⟨by rw [f4, f3]; exact ok.W, by rw [f4]; exact ok.ml, by rw [f5, f4]; exact ok.got, by rw [f1]; exact ok.e0, by rw [f1]; exact ok.e1, by rw [f3]; exact ok.ts, by rw [f3, f7]; exact ok.lost, by rw [f3]; exact ok.tz, by rw [f3]; exact ok.bd, fun o' eo' => by rw [f2]; exact f8 o' eo'⟩
      have last : ∀ (s' : Sn) (ov' : V) (H2 : Hp), SnA H2 (T_ j) e2 sl ml ov' s' → H2 (S j) = some (.ins CS dx2 (stf { Af j with bo := bo' })) → (W48 K CW CS TT H2 d c ch ru D dsl L n S T_ (fset X j s') (fset Af j { Af j with bo := bo' }) g r Dc) ∧ H2 bo' = some (.tup s'.E.v) → True := fun _ _ _ _ _ _ => trivial
      have put3 := SnA.p_estimate A3.d e2
      have A4 : ∀ s' : Sn, s'.E = E2 → s'.ss = (X j).ss → s'.ms = (X j).ms → s'.off = (X j).off → skv s' e2 sl ml (.ref of) = skv (X j) e2 sl ml (.ref of) → SnA (upd H' (T_ j) (.dK (skv (X j) e2 sl ml (.ref of)))) (T_ j) e2 sl ml (.ref of) s' := by
        intro s' f1 f2 f3 f4 f5
        have kt : ∀ a u, H' a = some (.tup u) → (upd H' (T_ j) (.dK (skv (X j) e2 sl ml (.ref of)))) a = some (.tup u) := fun a u e => by rw [upd_ne (ne_of e A3.d (by intro z; cases z))]; exact e
        have kl : ∀ a u, H' a = some (.lst u) → (upd H' (T_ j) (.dK (skv (X j) e2 sl ml (.ref of)))) a = some (.lst u) := fun a u e => by rw [upd_ne (ne_of e A3.d (by intro z; cases z))]; exact e
        exact ⟨by rw [f5]; exact upd_same, by rw [f1]; exact kt _ _ he2', by rw [f2]; exact A3.sn.move (fun xs e => kl _ _ e) kt, by rw [f3]; exact kl _ _ A3.m, by rw [f4]; exact A3.o.move kt⟩
      have F4 : FT [T_ j] TT H' (upd H' (T_ j) (.dK (skv (X j) e2 sl ml (.ref of)))) := FT.dk A3.d (by simp)
      have hp4 : (upd H' (T_ j) (.dK (skv (X j) e2 sl ml (.ref of)))) (S j) = some (.ins CS dx2 (stf { Af j with bo := bo' })) := by rw [upd_ne (fun z => pTj z.symm)]; exact hp'
      cases hn : near with
      | true =>
        refine iteT ?_
        have hx := hnear hn
        obtain ⟨E3, en3, ok2, _, _⟩ := nar_fits dd1 m0 okE on hss (by rw [← enear]; exact hn)
        rw [hx] at en
        rw [en3] at en
        cases en
        have B4 := A4 { X j with E := E2 } rfl rfl rfl rfl rfl
        refine ⟨_, rfl, _, rfl, _, _, rfl, put3, ?_⟩
        have hof4 := F4.t _ _ hof3
        have he4 := B4.e
        obtain ⟨w4, hbo4⟩ := fin { X j with E := E2 } _ _ rfl rfl rfl rfl rfl rfl rfl (fun o' eo' => by
          have eo' : (X j).off = some o' := eo'
          rw [eo] at eo'
          cases eo'
          exact ⟨ok2, okT⟩) B4 F4 hp4
        have B4o := B4.g_offset
        have B4e := B4.g_estimate
        generalize upd H' (T_ j) (.dK (skv (X j) e2 sl ml (.ref of))) = H4 at B4 w4 hbo4 hof4 he4 hp4 B4o B4e ⊢
        refine ⟨_, rfl, _, _, _, _, rfl, rfl, .inl (.inl he4), rfl, _, rfl, _, _, rfl, B4o, _, _, _, _, rfl, rfl, .inl (.inl hof4), rfl, _, _, rfl, rfl, _, rfl, ifY ok2.x0 ?_⟩
        refine ⟨_, rfl, _, _, _, _, rfl, rfl, .inl (.inl he4), rfl, _, _, rfl, rfl, _, rfl, ?_⟩
        rw [decide_eq_true ok2.x1]
        refine iteF ?_
        refine ⟨_, rfl, _, _, _, _, rfl, rfl, .inl (.inl he4), rfl, _, rfl, _, _, rfl, B4o, _, _, _, _, rfl, rfl, .inl (.inl hof4), rfl, _, _, rfl, rfl, _, rfl, ifY ok2.y0 ?_⟩
        refine ⟨_, rfl, _, _, _, _, rfl, rfl, .inl (.inl he4), rfl, _, _, rfl, rfl, _, rfl, ?_⟩
        rw [decide_eq_true ok2.y1]
        refine iteF ?_
        refine nxq ?_
        obtain ⟨dd4, hd4⟩ := w4.DA.ob
        refine ⟨_, rfl, _, _, _, rfl, hd4, rfl, _, rfl, D, dsl, S j, dx2, j, g, (List.range n).map S, { Af j with bo := bo' }, rfl, w4.DA, w4.stn hj, hp4, _, rfl, _, _, rfl, B4e, _, _, Est.dp hbo4, Est.dp B4.e, sh_pd _, sh_pd _, ?_⟩
        rw [SeqAt.eqv_refl _ (can_pd _)]
        exact k _ _ _ w4
      | false =>
        refine iteF ?_
        refine ⟨_, rfl, rfl, _, rfl, iNN (fun z => nomatch z) ?_⟩
        refine ⟨_, rfl, _, rfl, _, _, rfl, put3, ?_⟩
        have B4 := A4 { X j with E := E2 } rfl rfl rfl rfl rfl
        have put5 := SnA.p_offset B4.d .non
        have kt : ∀ a u, (upd H' (T_ j) (.dK (skv (X j) e2 sl ml (.ref of)))) a = some (.tup u) → (upd (upd H' (T_ j) (.dK (skv (X j) e2 sl ml (.ref of)))) (T_ j) (.dK (skv { X j with E := E2 } e2 sl ml .non))) a = some (.tup u) := fun a u e => by rw [upd_ne (ne_of e B4.d (by intro z; cases z))]; exact e
        have kl : ∀ a u, (upd H' (T_ j) (.dK (skv (X j) e2 sl ml (.ref of)))) a = some (.lst u) → (upd (upd H' (T_ j) (.dK (skv (X j) e2 sl ml (.ref of)))) (T_ j) (.dK (skv { X j with E := E2 } e2 sl ml .non))) a = some (.lst u) := fun a u e => by rw [upd_ne (ne_of e B4.d (by intro z; cases z))]; exact e
        have F5 : FT [T_ j] TT H' (upd (upd H' (T_ j) (.dK (skv (X j) e2 sl ml (.ref of)))) (T_ j) (.dK (skv { X j with E := E2 } e2 sl ml .non))) := F4.trans (FT.dk B4.d (by simp))
        have hp5 : (upd (upd H' (T_ j) (.dK (skv (X j) e2 sl ml (.ref of)))) (T_ j) (.dK (skv { X j with E := E2 } e2 sl ml .non))) (S j) = some (.ins CS dx2 (stf { Af j with bo := bo' })) := by rw [upd_ne (fun z => pTj z.symm)]; exact hp4
        have B5 : SnA (upd (upd H' (T_ j) (.dK (skv (X j) e2 sl ml (.ref of)))) (T_ j) (.dK (skv { X j with E := E2 } e2 sl ml .non))) (T_ j) e2 sl ml .non { X j with E := E2, off := none } :=
          ⟨upd_same, kt _ _ B4.e, B4.sn.move (fun xs e => kl _ _ e) kt, kl _ _ B4.m, rfl⟩
        refine ⟨_, rfl, _, _, rfl, put5, ?_⟩
        obtain ⟨w5, hbo5⟩ := fin { X j with E := E2, off := none } _ _ rfl rfl rfl rfl rfl rfl rfl (fun o' eo' => nomatch eo') B5 F5 hp5
        have B5e := B5.g_estimate
        generalize upd (upd H' (T_ j) (.dK (skv (X j) e2 sl ml (.ref of)))) (T_ j) (.dK (skv { X j with E := E2 } e2 sl ml .non)) = H5 at B5 w5 hbo5 hp5 B5e ⊢
        obtain ⟨dd4, hd4⟩ := w5.DA.ob
        refine ⟨_, rfl, _, _, _, rfl, hd4, rfl, _, rfl, D, dsl, S j, dx2, j, g, (List.range n).map S, { Af j with bo := bo' }, rfl, w5.DA, w5.stn hj, hp5, _, rfl, _, _, rfl, B5e, _, _, Est.dp hbo5, Est.dp B5.e, sh_pd _, sh_pd _, ?_⟩
        rw [SeqAt.eqv_refl _ (can_pd _)]
        exact k _ _ _ w5

end
end Sk

set_option Elab.async false
set_option linter.all false
set_option maxRecDepth 100000
set_option maxHeartbeats 4000000
namespace Sk
open PySem PySem.Spec PyProof.Rows L2
local macro_rules | `(tactic| walk_at "ms") => `(tactic| first | exact .inl ⟨by decide, by decide⟩ | exact .inl ⟨by omega, by omega⟩ | exact .inr ⟨by omega, by omega⟩ | exact wm (by omega) (by omega) | exact log_of (by omega) (by omega) | (show (0:Int) < _; omega) | exact ⟨by decide, by decide, by decide⟩)
def RV (kvs : List (Key × V)) (la ve ra ba : Int) : Prop := valV kvs (.inr "lateral") = some (.int la) ∧ valV kvs (.inr "vertical") = some (.int ve) ∧ valV kvs (.inr "radius") = some (.int ra) ∧ valV kvs (.inr "band") = some (.int ba)
theorem RV.put {kvs : List (Key × V)} {la ve ra ba : Int} {n : Str} {v : V} (h : RV kvs la ve ra ba) (n1 : ¬ ("lateral" : Str) = n) (n2 : ¬ ("vertical" : Str) = n) (n3 : ¬ ("radius" : Str) = n) (n4 : ¬ ("band" : Str) = n) : RV (putK kvs (.inr n) v) la ve ra ba := by
  unfold RV
  rw [valV_put, valV_put, valV_put, valV_put, if_neg (kr n1), if_neg (kr n2), if_neg (kr n3), if_neg (kr n4)]
  exact h
theorem RV.start {la ve ra ba : Int} : RV (mergeK [] [((.inr "lateral" : Key), V.int la), (.inr "vertical", .int ve), (.inr "radius", .int ra), (.inr "band", .int ba)]) la ve ra ba := by
  unfold RV
  simp only [mergeK, List.foldl]
  have n1 : ¬ ("lateral" : Str) = "vertical" := by decide +kernel
  have n2 : ¬ ("lateral" : Str) = "radius" := by decide +kernel
  have n3 : ¬ ("lateral" : Str) = "band" := by decide +kernel
  have n4 : ¬ ("vertical" : Str) = "radius" := by decide +kernel
  have n5 : ¬ ("vertical" : Str) = "band" := by decide +kernel
  have n6 : ¬ ("radius" : Str) = "band" := by decide +kernel
  refine ⟨?_, ?_, ?_, ?_⟩
  · rw [valV_put, if_neg (kr n3), valV_put, if_neg (kr n2), valV_put, if_neg (kr n1), valV_put, if_pos rfl]
  · rw [valV_put, if_neg (kr n5), valV_put, if_neg (kr n4), valV_put, if_pos rfl]
  · rw [valV_put, if_neg (kr n6), valV_put, if_pos rfl]
  · rw [valV_put, if_pos rfl]
abbrev rTupK (K : PySem.W.Frag) (xs : List V) (H : Hp) (Q : VK) : Prop := ∃ a zs, xs = [.ref a] ∧ ((SqL K H a zs ∧ ∀ b, H b = none → Q (.ref b) (upd H b (.tup zs))) ∨ (SqT K H a zs ∧ Q (.ref a) H))
abbrev s_law_rules : Stmt := top 49
section
variable {P : Program} {w : World} {K : PySem.W.Frag} {mg : Str → Option Value} {base : Heap}
theorem sc_law_rules : FnScope ["state", "lateral", "vertical", "rules", "j", "k"] ["state"] (defScope s_law_rules) := ⟨rfl, rfl, rfl, by decide +kernel, rfl, by decide +kernel, by decide +kernel⟩
theorem ok_law_rules {f : Addr} {fd : FuncData} (F : Fun K "_law_rules" "_law_rules" s_law_rules f fd) (T : TxtA mg)
    (D_law_draw : Def P w K mg base 1 "_law_draw" ["state", "bound"] (spDraw K))
    (D_law_pick : Def P w K mg base 2 "_law_pick" ["state", "things"] (spPick K)) : FnOk P w K mg base CX0 3 f fd ["state"] (spRules48 K) := by
  refine F.ok sc_law_rules (fun vs H Q E h => ?_) (fun cdv A outer s H vs Q E hr h => ?_)
  · obtain ⟨_, _, rfl, _⟩ := h
    rfl
  · obtain ⟨d, c, rfl, S, k⟩ := h
    have hu := hu_of hr
    refine ⟨_, (pss_cons (ps_set (i := 1) sc_law_rules.nd rfl (Or.inl rfl) (pe_op op_add pe_int (pe_def D_law_draw (hr.mono (by decide)) (by rfl) (pa_cons (pv 0) (pa_cons (pe_def D_law_pick (hr.mono (by decide)) (by rfl) (pa_cons (pv 0) (pa_cons (pe_lst (pa_cons pe_int (pa_cons pe_int (pa_cons pe_int pa_nil)))) pa_nil))) pa_nil)))))
    (pss_cons (ps_set (i := 2) sc_law_rules.nd rfl (Or.inl rfl) (pe_op op_add pe_int (pe_def D_law_draw (hr.mono (by decide)) (by rfl) (pa_cons (pv 0) (pa_cons (pe_def D_law_pick (hr.mono (by decide)) (by rfl) (pa_cons (pv 0) (pa_cons (pe_lst (pa_cons pe_int (pa_cons pe_int (pa_cons pe_int pa_nil)))) pa_nil))) pa_nil)))))
    (pss_cons (ps_set (i := 3) sc_law_rules.nd rfl (Or.inl rfl) (pe_disp (pps_cons pe_str (pv 1) (pps_cons pe_str (pv 2) (pps_cons pe_str (pe_def D_law_draw (hr.mono (by decide)) (by rfl) (pa_cons (pv 0) (pa_cons pe_int pa_nil))) (pps_cons pe_str (pe_def D_law_draw (hr.mono (by decide)) (by rfl) (pa_cons (pv 0) (pa_cons pe_int pa_nil))) pps_nil)))) (by rfl) (by rfl) (fun z => by cases z) (by decide)))
    (pss_cons (ps_dput hu (pv 3) pe_str (pe_def D_law_draw (hr.mono (by decide)) (by rfl) (pa_cons (pv 0) (pa_cons pe_int pa_nil))) rfl)
    (pss_cons (ps_dput hu (pv 3) pe_str (pe_def D_law_draw (hr.mono (by decide)) (by rfl) (pa_cons (pv 0) (pa_cons (pe_op op_fdivW (pe_op op_add (pv 1) pe_int) pe_int) pa_nil))) rfl)
    (pss_cons (ps_dput hu (pv 3) pe_str (pe_def D_law_draw (hr.mono (by decide)) (by rfl) (pa_cons (pv 0) (pa_cons (pe_op op_fdivW (pe_op op_add (pv 2) pe_int) pe_int) pa_nil))) rfl)
    (pss_cons (ps_dput hu (pv 3) pe_str (pe_def D_law_draw (hr.mono (by decide)) (by rfl) (pa_cons (pv 0) (pa_cons pe_int pa_nil))) rfl)
    (pss_cons (ps_dput hu (pv 3) pe_str (pe_def D_law_draw (hr.mono (by decide)) (by rfl) (pa_cons (pv 0) (pa_cons pe_int pa_nil))) rfl)
    (pss_cons (ps_dput hu (pv 3) pe_str (pe_op op_add pe_int (pe_def D_law_draw (hr.mono (by decide)) (by rfl) (pa_cons (pv 0) (pa_cons pe_int pa_nil)))) rfl)
    (pss_cons (ps_dput hu (pv 3) pe_str (pe_def D_law_draw (hr.mono (by decide)) (by rfl) (pa_cons (pv 0) (pa_cons pe_int pa_nil))) rfl)
    (pss_cons (ps_dput hu (pv 3) pe_str (pe_callTy call_tuple_of (by rfl) T.tuple boot_tuple (pa_cons (pe_lc (own := [("j", 4)]) (g := gName 4) (by rfl) sc_law_rules.nd (pi_range1 (by rfl) T.range (pa_cons pe_int pa_nil)) (blkOk_by (own := [("j", 4)]) (N := ["state", "lateral", "vertical", "rules", "j", "k"]) (sc := defScope s_law_rules) (by decide +kernel)) (fun _ _ _ _ _ => (pg_name (i := 4) sc_law_rules.nd rfl (Or.inl rfl))) (fun _ _ _ _ _ => pts_nil) (fun _ _ _ _ _ => (pe_callTy (r := rTupK K) call_tuple_of (by rfl) T.tuple boot_tuple (pa_cons (pe_lc (own := [("k", 5)]) (g := gName 5) (by rfl) sc_law_rules.nd (pi_range1 (by rfl) T.range (pa_cons pe_int pa_nil)) (by apply blkOk_by; with_unfolding_all rfl) (fun _ _ _ _ _ => (pg_name (i := 5) sc_law_rules.nd rfl (Or.inl rfl))) (fun _ _ _ _ _ => pts_nil) (fun _ _ _ _ _ => (pe_op op_add pe_int (pe_def D_law_draw (hr.mono (by decide)) (by rfl) (pa_cons (pv 0) (pa_cons pe_int pa_nil)))))) pa_nil)))) pa_nil)) rfl)
    (pss_one (ps_ret (pv 3)))))))))))))), ?_⟩
    refine ⟨_, rfl, _, rfl, szOk rfl, fun p1 hp1 => ?_⟩
    refine ⟨d, c, _, _, rfl, (S.new hp1), .inl (.inl upd_same), (fun z => nomatch z), (by show 3 ≤ 1000; decide), fun v2 H2 hv2 S2 kp2 => ?_⟩
    obtain ⟨x2, rfl, x2a, x2b⟩ : ∃ z : Int, v2 = .int z ∧ 3 ≤ z ∧ z ≤ 60 := by
      simp only [List.mem_cons, List.not_mem_nil, or_false] at hv2
      rcases hv2 with rfl | rfl | rfl <;> exact ⟨_, rfl, by decide, by decide⟩
    refine ⟨d, c, _, rfl, S2, (by omega), (by omega), fun x3 H3 x3a x3b S3 kp3 => ?_⟩
    refine ⟨_, _, rfl, rfl, _, rfl, _, rfl, szOk rfl, fun p4 hp4 => ?_⟩
    refine ⟨d, c, _, _, rfl, (S3.new hp4), .inl (.inl upd_same), (fun z => nomatch z), (by show 3 ≤ 1000; decide), fun v5 H5 hv5 S5 kp5 => ?_⟩
    obtain ⟨x5, rfl, x5a, x5b⟩ : ∃ z : Int, v5 = .int z ∧ 3 ≤ z ∧ z ≤ 60 := by
      simp only [List.mem_cons, List.not_mem_nil, or_false] at hv5
      rcases hv5 with rfl | rfl | rfl <;> exact ⟨_, rfl, by decide, by decide⟩
    refine ⟨d, c, _, rfl, S5, (by omega), (by omega), fun x6 H6 x6a x6b S6 kp6 => ?_⟩
    refine ⟨_, _, rfl, rfl, ?_⟩
    have k0 : Keep d H _ := ((((((Keep.of (same_new hp1)).trans kp2).trans kp3).trans (Keep.of (same_new hp4))).trans kp5).trans kp6)
    intro ru hru
    have nrd : ru ≠ d := St1.nd S6 hru
    have nrc : ru ≠ c := St1.nc S6 hru
    have hruH : H ru = none := k0.none nrd hru
    have kU : ∀ (Hx : Hp) (kv : List (Key × V)), Keep d H Hx → Keep d H (upd Hx ru (.dK kv)) := fun Hx kv w b o e nb => by
      rw [upd_ne (ne_of_none e hruH)]
      exact w b o e nb
    have kS : ∀ a x, (Str.ofString a == Str.ofString x) = false → True := fun _ _ _ => trivial
    refine ⟨_, rfl, _, rfl, _, rfl, d, c, _, rfl, St1.new S6 hru, by decide, by decide, fun xr Hr xra xrb Sr kpr => ?_⟩
    refine ⟨_, rfl, d, c, _, rfl, Sr, by decide, by decide, fun xb Hb xba xbb Sb kpb => ?_⟩
    have kb : Keep d H Hb := ((k0.trans (Keep.of (same_new hru))).trans kpr).trans kpb
    refine ⟨kpb _ _ (kpr _ _ upd_same nrd) nrd, [(.inr "lateral", .int (1 + x3)), (.inr "vertical", .int (1 + x6)), (.inr "radius", .int xr), (.inr "band", .int xb)], rfl, (by show 4 ≤ 15; decide), ?_⟩
    have len0 : (mergeK [] [((.inr "lateral" : Key), V.int (1 + x3)), (.inr "vertical", .int (1 + x6)), (.inr "radius", .int xr), (.inr "band", .int xb)]).length ≤ 4 := by
      simp only [mergeK, List.foldl]
      have l1 := putK_len (kvs := ([] : List (Key × V))) (k := (.inr "lateral" : Key)) (v := .int (1 + x3))
      have l2 := putK_len (kvs := putK ([] : List (Key × V)) (.inr "lateral" : Key) (.int (1 + x3))) (k := (.inr "vertical" : Key)) (v := .int (1 + x6))
      have l3 := putK_len (kvs := putK (putK ([] : List (Key × V)) (.inr "lateral" : Key) (.int (1 + x3))) (.inr "vertical" : Key) (.int (1 + x6))) (k := (.inr "radius" : Key)) (v := .int xr)
      have l4 := putK_len (kvs := putK (putK (putK ([] : List (Key × V)) (.inr "lateral" : Key) (.int (1 + x3))) (.inr "vertical" : Key) (.int (1 + x6))) (.inr "radius" : Key) (.int xr)) (k := (.inr "band" : Key)) (v := .int xb)
      simp only [List.length_nil] at l1
      omega
    have S0 := Sb.put (o := .dK (mergeK [] [((.inr "lateral" : Key), V.int (1 + x3)), (.inr "vertical", .int (1 + x6)), (.inr "radius", .int xr), (.inr "band", .int xb)])) nrd nrc
    have h0 : (upd Hb ru (.dK (mergeK [] [((.inr "lateral" : Key), V.int (1 + x3)), (.inr "vertical", .int (1 + x6)), (.inr "radius", .int xr), (.inr "band", .int xb)]))) ru = _ := upd_same
    have w0 := kU Hb (mergeK [] [((.inr "lateral" : Key), V.int (1 + x3)), (.inr "vertical", .int (1 + x6)), (.inr "radius", .int xr), (.inr "band", .int xb)]) kb
    have sl0 : RV (mergeK [] [((.inr "lateral" : Key), V.int (1 + x3)), (.inr "vertical", .int (1 + x6)), (.inr "radius", .int xr), (.inr "band", .int xb)]) (1 + x3) (1 + x6) xr xb := RV.start
    generalize mergeK [] [((.inr "lateral" : Key), V.int (1 + x3)), (.inr "vertical", .int (1 + x6)), (.inr "radius", .int xr), (.inr "band", .int xb)] = kv0 at *
    generalize upd Hb ru (.dK kv0) = G0 at *
    refine ⟨_, rfl, d, c, _, rfl, S0, (by decide), (by decide), fun y0 T0 y0a y0b U0 kq0 => ?_⟩
    refine ⟨_, rfl, _, _, rfl, DPut.k (k := .inr "slip") (kq0 _ _ h0 nrd) (small1000 (by omega)), ?_⟩
    have S1 := U0.put (o := .dK (putK kv0 (.inr "slip") (.int (y0)))) nrd nrc
    have h1 : (upd T0 ru (.dK (putK kv0 (.inr "slip") (.int (y0))))) ru = _ := upd_same
    have w1 := kU T0 (putK kv0 (.inr "slip") (.int (y0))) (w0.trans kq0)
    have len1 : (putK kv0 (.inr "slip") (.int (y0))).length ≤ 5 := Nat.le_trans putK_len (by omega)
    have sl1 : RV (putK kv0 (.inr "slip") (.int (y0))) (1 + x3) (1 + x6) xr xb := sl0.put (by decide +kernel) (by decide +kernel) (by decide +kernel) (by decide +kernel)
    generalize putK kv0 (.inr "slip") (.int (y0)) = kv1 at *
    generalize upd T0 ru (.dK kv1) = G1 at *
    refine ⟨_, rfl, _, rfl, _, _, rfl, rfl, _, _, rfl, rfl, (by walk_at "ms"), d, c, _, rfl, S1, (by omega), (by omega), fun y1 T1 y1a y1b U1 kq1 => ?_⟩
    refine ⟨_, rfl, _, _, rfl, DPut.k (k := .inr "radar") (kq1 _ _ h1 nrd) (small1000 (by omega)), ?_⟩
    have S2 := U1.put (o := .dK (putK kv1 (.inr "radar") (.int (y1)))) nrd nrc
    have h2 : (upd T1 ru (.dK (putK kv1 (.inr "radar") (.int (y1))))) ru = _ := upd_same
    have w2 := kU T1 (putK kv1 (.inr "radar") (.int (y1))) (w1.trans kq1)
    have len2 : (putK kv1 (.inr "radar") (.int (y1))).length ≤ 6 := Nat.le_trans putK_len (by omega)
    have sl2 : RV (putK kv1 (.inr "radar") (.int (y1))) (1 + x3) (1 + x6) xr xb := sl1.put (by decide +kernel) (by decide +kernel) (by decide +kernel) (by decide +kernel)
    have rq2 : valV (putK kv1 (.inr "radar") (.int (y1))) (.inr "radar") = some (.int y1) := by rw [valV_put, if_pos rfl]
    generalize putK kv1 (.inr "radar") (.int (y1)) = kv2 at *
    generalize upd T1 ru (.dK kv2) = G2 at *
    refine ⟨_, rfl, _, rfl, _, _, rfl, rfl, _, _, rfl, rfl, (by walk_at "ms"), d, c, _, rfl, S2, (by omega), (by omega), fun y2 T2 y2a y2b U2 kq2 => ?_⟩
    refine ⟨_, rfl, _, _, rfl, DPut.k (k := .inr "height") (kq2 _ _ h2 nrd) (small1000 (by omega)), ?_⟩
    have S3 := U2.put (o := .dK (putK kv2 (.inr "height") (.int (y2)))) nrd nrc
    have h3 : (upd T2 ru (.dK (putK kv2 (.inr "height") (.int (y2))))) ru = _ := upd_same
    have w3 := kU T2 (putK kv2 (.inr "height") (.int (y2))) (w2.trans kq2)
    have len3 : (putK kv2 (.inr "height") (.int (y2))).length ≤ 7 := Nat.le_trans putK_len (by omega)
    have sl3 : RV (putK kv2 (.inr "height") (.int (y2))) (1 + x3) (1 + x6) xr xb := sl2.put (by decide +kernel) (by decide +kernel) (by decide +kernel) (by decide +kernel)
    have rq3 : valV (putK kv2 (.inr "height") (.int (y2))) (.inr "radar") = some (.int y1) := by rw [valV_put, if_neg (kr (by decide +kernel))]; exact rq2
    generalize putK kv2 (.inr "height") (.int (y2)) = kv3 at *
    generalize upd T2 ru (.dK kv3) = G3 at *
    refine ⟨_, rfl, d, c, _, rfl, S3, (by decide), (by decide), fun y3 T3 y3a y3b U3 kq3 => ?_⟩
    refine ⟨_, rfl, _, _, rfl, DPut.k (k := .inr "foreign") (kq3 _ _ h3 nrd) (small1000 (by omega)), ?_⟩
    have S4 := U3.put (o := .dK (putK kv3 (.inr "foreign") (.int (y3)))) nrd nrc
    have h4 : (upd T3 ru (.dK (putK kv3 (.inr "foreign") (.int (y3))))) ru = _ := upd_same
    have w4 := kU T3 (putK kv3 (.inr "foreign") (.int (y3))) (w3.trans kq3)
    have len4 : (putK kv3 (.inr "foreign") (.int (y3))).length ≤ 8 := Nat.le_trans putK_len (by omega)
    have sl4 : RV (putK kv3 (.inr "foreign") (.int (y3))) (1 + x3) (1 + x6) xr xb := sl3.put (by decide +kernel) (by decide +kernel) (by decide +kernel) (by decide +kernel)
    have rq4 : valV (putK kv3 (.inr "foreign") (.int (y3))) (.inr "radar") = some (.int y1) := by rw [valV_put, if_neg (kr (by decide +kernel))]; exact rq3
    generalize putK kv3 (.inr "foreign") (.int (y3)) = kv4 at *
    generalize upd T3 ru (.dK kv4) = G4 at *
    refine ⟨_, rfl, d, c, _, rfl, S4, (by decide), (by decide), fun y4 T4 y4a y4b U4 kq4 => ?_⟩
    refine ⟨_, rfl, _, _, rfl, DPut.k (k := .inr "climb") (kq4 _ _ h4 nrd) (small1000 (by omega)), ?_⟩
    have S5 := U4.put (o := .dK (putK kv4 (.inr "climb") (.int (y4)))) nrd nrc
    have h5 : (upd T4 ru (.dK (putK kv4 (.inr "climb") (.int (y4))))) ru = _ := upd_same
    have w5 := kU T4 (putK kv4 (.inr "climb") (.int (y4))) (w4.trans kq4)
    have len5 : (putK kv4 (.inr "climb") (.int (y4))).length ≤ 9 := Nat.le_trans putK_len (by omega)
    have sl5 : RV (putK kv4 (.inr "climb") (.int (y4))) (1 + x3) (1 + x6) xr xb := sl4.put (by decide +kernel) (by decide +kernel) (by decide +kernel) (by decide +kernel)
    have rq5 : valV (putK kv4 (.inr "climb") (.int (y4))) (.inr "radar") = some (.int y1) := by rw [valV_put, if_neg (kr (by decide +kernel))]; exact rq4
    generalize putK kv4 (.inr "climb") (.int (y4)) = kv5 at *
    generalize upd T4 ru (.dK kv5) = G5 at *
    refine ⟨_, rfl, d, c, _, rfl, S5, (by decide), (by decide), fun y5 T5 y5a y5b U5 kq5 => ?_⟩
    refine ⟨_, _, rfl, rfl, _, rfl, _, _, rfl, DPut.k (k := .inr "memory") (kq5 _ _ h5 nrd) (small1000 (by omega)), ?_⟩
    have S6 := U5.put (o := .dK (putK kv5 (.inr "memory") (.int (1 + y5)))) nrd nrc
    have h6 : (upd T5 ru (.dK (putK kv5 (.inr "memory") (.int (1 + y5))))) ru = _ := upd_same
    have w6 := kU T5 (putK kv5 (.inr "memory") (.int (1 + y5))) (w5.trans kq5)
    have len6 : (putK kv5 (.inr "memory") (.int (1 + y5))).length ≤ 10 := Nat.le_trans putK_len (by omega)
    have sl6 : RV (putK kv5 (.inr "memory") (.int (1 + y5))) (1 + x3) (1 + x6) xr xb := sl5.put (by decide +kernel) (by decide +kernel) (by decide +kernel) (by decide +kernel)
    have rq6 : valV (putK kv5 (.inr "memory") (.int (1 + y5))) (.inr "radar") = some (.int y1) := by rw [valV_put, if_neg (kr (by decide +kernel))]; exact rq5
    generalize putK kv5 (.inr "memory") (.int (1 + y5)) = kv6 at *
    generalize upd T5 ru (.dK kv6) = G6 at *
    refine ⟨_, rfl, d, c, _, rfl, S6, (by decide), (by decide), fun y6 T6 y6a y6b U6 kq6 => ?_⟩
    refine ⟨_, rfl, _, _, rfl, DPut.k (k := .inr "ahead") (kq6 _ _ h6 nrd) (small1000 (by omega)), ?_⟩
    have S7 := U6.put (o := .dK (putK kv6 (.inr "ahead") (.int (y6)))) nrd nrc
    have h7 : (upd T6 ru (.dK (putK kv6 (.inr "ahead") (.int (y6))))) ru = _ := upd_same
    have w7 := kU T6 (putK kv6 (.inr "ahead") (.int (y6))) (w6.trans kq6)
    have len7 : (putK kv6 (.inr "ahead") (.int (y6))).length ≤ 11 := Nat.le_trans putK_len (by omega)
    have sl7 : RV (putK kv6 (.inr "ahead") (.int (y6))) (1 + x3) (1 + x6) xr xb := sl6.put (by decide +kernel) (by decide +kernel) (by decide +kernel) (by decide +kernel)
    have rq7 : valV (putK kv6 (.inr "ahead") (.int (y6))) (.inr "radar") = some (.int y1) := by rw [valV_put, if_neg (kr (by decide +kernel))]; exact rq6
    generalize putK kv6 (.inr "ahead") (.int (y6)) = kv7 at *
    generalize upd T6 ru (.dK kv7) = G7 at *
    refine ⟨_, rfl, by decide, by decide, fun E1 hE1 => ?_⟩
    have nE1d : E1 ≠ d := S7.nd hE1
    have nE1c : E1 ≠ c := S7.nc hE1
    have nE1r : ru ≠ E1 := ne_of_none h7 hE1
    refine lc_range (lo := 0) (n := (4 : Int).toNat) (fun i H' => St1 K H' d c ∧ Keep2 d E1 G7 H' ∧ ∃ ys : List V, H' E1 = some (.lst ys) ∧ ys.length = i) ⟨S7.new hE1, (Keep2.refl d E1 _).new hE1, [], upd_same, rfl⟩ ?_ ?_
    · rintro i H' hi ⟨Si, ki, ys, hys, hyl⟩
      refine ⟨rfl, ?_⟩
      refine ⟨_, rfl, by decide, by decide, fun E2 hE2 => ?_⟩
      have nE2d : E2 ≠ d := Si.nd hE2
      have nE2c : E2 ≠ c := Si.nc hE2
      have nE12 : E1 ≠ E2 := ne_of_none hys hE2
      refine lc_range (lo := 0) (n := (4 : Int).toNat) (fun j H2 => St1 K H2 d c ∧ Keep2 d E2 H' H2 ∧ ∃ zs : List V, H2 E2 = some (.lst zs) ∧ zs.length = j) ⟨Si.new hE2, (Keep2.refl d E2 _).new hE2, [], upd_same, rfl⟩ ?_ ?_
      · rintro j H2 hj ⟨Sj, kj, zs, hzs, hzl⟩
        refine ⟨rfl, ?_⟩
        refine ⟨_, rfl, d, c, _, rfl, Sj, by decide, by decide, fun x5 H5 x5a x5b S5 kp5 => ?_⟩
        refine ⟨_, _, rfl, rfl, zs, kp5.l Sj hzs, small1000 (by omega), S5.put nE2d nE2c, (kj.k kp5).put, _, upd_same, by rw [List.length_append, hzl]; rfl⟩
      rintro H2 ⟨Sj, kj, zs, hzs, hzl⟩
      refine ⟨E2, zs, rfl, .inl ⟨.inl (.inl hzs), fun l hl => ?_⟩⟩
      have h1 : H2 E1 = some (.lst ys) := kj _ _ hys nE1d nE12
      have kk : Keep2 d E1 G7 (upd H2 l (.tup zs)) := fun b o e nb nb2 => by
        have q1 := ki b o e nb nb2
        exact same_new hl _ _ (kj b o q1 nb (ne_of_none q1 hE2))
      refine ⟨ys, same_new hl _ _ h1, small1000 (by omega), (Sj.new hl).put nE1d nE1c, kk.put, _, upd_same, by rw [List.length_append, hyl]; rfl⟩
    rintro H' ⟨Si, ki, ys, hys, hyl⟩
    refine ⟨E1, ys, rfl, .inl ⟨.inl (.inl hys), fun l hl => ?_⟩⟩
    have hf := ki _ _ h7 nrd nE1r
    refine ⟨_, rfl, _, _, rfl, DPut.k (k := .inr "gaps") (same_new hl _ _ hf) (small1000 (by omega)), ?_⟩
    have nE1H : H E1 = none := w7.none nE1d hE1
    refine ⟨_, rfl, k ru ⟨1 + x3, 1 + x6, xr, xb⟩ y1 _ hruH ⟨⟨_, upd_same, ?_⟩, by dsimp only; omega⟩ ⟨_, upd_same, by rw [valV_put, if_neg (kr (by decide +kernel))]; exact rq7⟩ ⟨_, upd_same, Nat.le_trans putK_len (by omega)⟩ (by omega) (by omega) ((Si.new hl).put nrd nrc) ?_⟩
    · exact sl7.put (by decide +kernel) (by decide +kernel) (by decide +kernel) (by decide +kernel)
    · refine kU _ _ fun b o e nb => ?_
      exact same_new hl _ _ (ki _ _ (w7 _ _ e nb) nb (ne_of_none e nE1H))
end
end Sk

set_option Elab.async false
set_option linter.all false
set_option maxRecDepth 100000
set_option maxHeartbeats 4000000
namespace Sk
open PySem PySem.Spec PyProof.Rows L2
section
variable {P : Program} {w : World} {K : PySem.W.Frag} {mg : Str → Option Value} {base : Heap}
abbrev s_law : Stmt := top 61
theorem sc_law : FnScope ["script", "state", "rules", "chart", "stations", "desk", "k", "radar", "station", "size", "piece", "rest", "ends", "left", "one"] ["script"] (defScope s_law) := ⟨rfl, rfl, rfl, by decide +kernel, rfl, by decide +kernel, by decide +kernel⟩
theorem ok_law {f : Addr} {fd : FuncData} {CS CW : Addr} {TT : List Addr} (F : Fun K "law" "law" s_law f fd) (T : TxtA mg) (YD : DskY K mg CW)
    (D_law_start : Def P w K mg base 1 "_law_start" ["script"] (spStart K))
    (D_law_draw : Def P w K mg base 1 "_law_draw" ["state", "bound"] (spDraw K))
    (D_law_pick : Def P w K mg base 2 "_law_pick" ["state", "things"] (spPick K))
    (D_law_small_chart : Def P w K mg base 5 "_law_small_chart" ["state"] (spSmall K))
    (D_law_rules : Def P w K mg base 3 "_law_rules" ["state"] (spRules48 K))
    (D_law_station : Def P w K mg base 3 "_law_station" ["state", "rules"] (spStation K))
    (D_Desk : CDef P w K mg base 3 CW "Desk" ["self", "rules", "errors", "estimates"] (spDesk CW CS TT))
    (D_law_received : Def P w K mg base 6 "_law_received" ["desk", "station", "rules", "radar", "piece"] (spRcvd K CW CS TT))
    (D_law_learned : Def P w K mg base 8 "_law_learned" ["state", "desk", "stations", "rules", "chart"] (spLearned K CW CS C TT))
    (M_lost : MDef P w K mg base 1 CW "lost" ["self", "radar"] (spLost CW CS))
    (M_left : MDef P w K mg base 1 CW "left" ["self", "radar"] (spLeft CW CS))
    (M_receive : MDef P w K mg base 5 CW "receive" ["self", "radar", "numbers"] (spRecv CW CS TT)) : FnOk P w K mg base CX0 9 f fd ["script"] (spLaw K TT) := by
  refine F.ok sc_law (fun vs H Q E h => ?_) (fun cdv A outer s H vs Q E hr h => ?_)
  · obtain ⟨a, ns0, rfl, _⟩ := h
    rfl
  · obtain ⟨a, ns0, rfl, hS, hl0, hT, k⟩ := h
    have hu := hu_of hr
    refine ⟨_, (pss_cons (ps_set (i := 1) sc_law.nd rfl (Or.inr rfl) (pe_def D_law_start (hr.mono (by decide)) (by rfl) (pa_cons (pv 0) pa_nil)))
    (pss_cons (ps_set (i := 2) sc_law.nd rfl (Or.inr rfl) (pe_def D_law_rules (hr.mono (by decide)) (by rfl) (pa_cons (pv 1) pa_nil)))
    (pss_cons (ps_dput hu (pv 2) pe_str (pe_def D_law_draw (hr.mono (by decide)) (by rfl) (pa_cons (pv 1) (pa_cons pe_int pa_nil))) rfl)
    (pss_cons (ps_dput hu (pv 2) pe_str (pe_op op_add (pe_op op_mulW pe_int (pe_dget hu (pv 2) pe_str (fun _ _ => rfl))) pe_int) rfl)
    (pss_cons (ps_set (i := 3) sc_law.nd rfl (Or.inl rfl) (pe_def D_law_small_chart (hr.mono (by decide)) (by rfl) (pa_cons (pv 1) pa_nil)))
    (pss_cons (ps_setLc (i := 4) (own := [("k", 6)]) (g := gName 6) (by rfl) sc_law.nd rfl rfl (sw_true rfl rfl rfl (by decide +kernel)) (pi_range1 (by rfl) T.range (pa_cons (pe_op op_add pe_int (pe_def D_law_draw (hr.mono (by decide)) (by rfl) (pa_cons (pv 1) (pa_cons pe_int pa_nil)))) pa_nil)) (blkOk_by (own := [("k", 6)]) (N := ["script", "state", "rules", "chart", "stations", "desk", "k", "radar", "station", "size", "piece", "rest", "ends", "left", "one"]) (sc := defScope s_law) (by decide +kernel)) (fun _ _ _ _ _ => (pg_name (i := 6) sc_law.nd rfl (Or.inl rfl))) (fun _ _ _ _ _ => pts_nil) (fun _ _ _ _ _ => (pe_def D_law_station (hr.mono (by decide)) (by rfl) (pa_cons (pv 1) (pa_cons (pv 2) pa_nil)))))
    (pss_cons (ps_set (i := 5) sc_law.nd rfl (Or.inl rfl) (pe_cdef D_Desk (hr.mono (by decide)) (by rfl) (pa_cons (pv 2) (pa_cons (pe_lc (own := [("one", 14)]) (g := gName 14) (by rfl) sc_law.nd (pi_list (pv 4)) (blkOk_by (own := [("one", 14)]) (N := ["script", "state", "rules", "chart", "stations", "desk", "k", "radar", "station", "size", "piece", "rest", "ends", "left", "one"]) (sc := defScope s_law) (by decide +kernel)) (fun _ _ _ _ _ => (pg_name (i := 14) sc_law.nd rfl (Or.inl rfl))) (fun _ _ _ _ _ => pts_nil) (fun _ _ _ _ _ => (pe_dget hu (pv 14) pe_str (fun _ _ => rfl)))) (pa_cons (pe_lc (own := [("one", 14)]) (g := gName 14) (by rfl) sc_law.nd (pi_list (pv 4)) (blkOk_by (own := [("one", 14)]) (N := ["script", "state", "rules", "chart", "stations", "desk", "k", "radar", "station", "size", "piece", "rest", "ends", "left", "one"]) (sc := defScope s_law) (by decide +kernel)) (fun _ _ _ _ _ => (pg_name (i := 14) sc_law.nd rfl (Or.inl rfl))) (fun _ _ _ _ _ => pts_nil) (fun _ _ _ _ _ => (pe_dget hu (pv 14) pe_str (fun _ _ => rfl)))) pa_nil)))))
    (pss_cons (ps_for PassesOwn.never rfl (pi_range1 (by rfl) T.range (pa_cons pe_int pa_nil)) (pg_name (i := 6) sc_law.nd rfl (Or.inl rfl))
      (pss_cons (ps_set (i := 7) sc_law.nd rfl (Or.inl rfl) (pe_def D_law_draw (hr.mono (by decide)) (by rfl) (pa_cons (pv 1) (pa_cons (pe_callB (r := rLenK K) call_len_seq (by rfl) T.len boot_len (pa_cons (pv 4) pa_nil)) pa_nil))))
    (pss_cons (ps_set (i := 8) sc_law.nd rfl (Or.inl rfl) (pe_ix (r := rIxL K) ix_list (pv 4) (pv 7) (fun _ _ => rfl)))
    (pss_cons (ps_set (i := 9) sc_law.nd rfl (Or.inl rfl) (pe_def D_law_pick (hr.mono (by decide)) (by rfl) (pa_cons (pv 1) (pa_cons (pe_lst (pa_cons pe_int (pa_cons pe_int (pa_cons pe_int (pa_cons pe_int (pa_cons pe_int (pa_cons pe_int (pa_cons pe_int pa_nil)))))))) pa_nil))))
    (pss_cons (ps_set (i := 10) sc_law.nd rfl (Or.inl rfl) (pe_slice sl_list (pe_dget hu (pv 8) pe_str (fun _ _ => rfl)) (po_some (pe_dget hu (pv 8) pe_str (fun _ _ => rfl))) (po_some (pe_op op_add (pe_dget hu (pv 8) pe_str (fun _ _ => rfl)) (pv 9)))))
    (pss_cons (ps_if (PW.pt (pw_and (pt_cmpR op_notN (pe_dget hu (pv 8) pe_str (fun _ _ => rfl)) pe_non (nomark _)) (pw_and1 (pt_not (pt_val (pe_def D_law_received (hr.mono (by decide)) (by rfl) (pa_cons (pv 5) (pa_cons (pv 8) (pa_cons (pv 2) (pa_cons (pv 7) (pa_cons (pv 10) pa_nil))))))))))) (pss_one (ps_ret pe_bl))
      pss_nil)
    (pss_one (ps_if (PW.pt (pw_and (pt_cmpR op_eq (pe_def D_law_draw (hr.mono (by decide)) (by rfl) (pa_cons (pv 1) (pa_cons pe_int pa_nil))) pe_int (nomark _)) (pw_and1 (pt_val (pe_callB (r := rAll K) (cr_all rfl) (by rfl) T.all boot_all (pa_cons (pe_lc (own := [("one", 14)]) (g := gName 14) (by rfl) sc_law.nd (pi_list (pv 4)) (blkOk_by (own := [("one", 14)]) (N := ["script", "state", "rules", "chart", "stations", "desk", "k", "radar", "station", "size", "piece", "rest", "ends", "left", "one"]) (sc := defScope s_law) (by decide +kernel)) (fun _ _ _ _ _ => (pg_name (i := 14) sc_law.nd rfl (Or.inl rfl))) (fun _ _ _ _ _ => pts_nil) (fun _ _ _ _ _ => (pe_cmpR op_notN (pe_dget hu (pv 14) pe_str (fun _ _ => rfl)) pe_non (nomark _)))) pa_nil)))))) (pss_one (ps_if (pt_not (pt_val (pe_def D_law_learned (hr.mono (by decide)) (by rfl) (pa_cons (pv 1) (pa_cons (pv 5) (pa_cons (pv 4) (pa_cons (pv 2) (pa_cons (pv 3) pa_nil)))))))) (pss_one (ps_ret pe_bl))
      pss_nil))
      pss_nil))))))))
    (pss_cons (ps_for PassesOwn.never rfl (pi_range1 (by rfl) T.range (pa_cons (pe_callB (r := rLenK K) call_len_seq (by rfl) T.len boot_len (pa_cons (pv 4) pa_nil)) pa_nil)) (pg_name (i := 7) sc_law.nd rfl (Or.inl rfl))
      (pss_cons (ps_set (i := 8) sc_law.nd rfl (Or.inl rfl) (pe_ix (r := rIxL K) ix_list (pv 4) (pv 7) (fun _ _ => rfl)))
    (pss_cons (ps_if (pt_cmpR op_isN (pe_dget hu (pv 8) pe_str (fun _ _ => rfl)) pe_non (nomark _)) (pss_one (ps_ret pe_bl))
      pss_nil)
    (pss_cons (ps_set (i := 11) sc_law.nd rfl (Or.inl rfl) (pe_slice sl_list (pe_dget hu (pv 8) pe_str (fun _ _ => rfl)) (po_some (pe_dget hu (pv 8) pe_str (fun _ _ => rfl))) po_none))
    (pss_cons (ps_if (PW.pt (pw_or (pt_not (pt_val (pe_def D_law_received (hr.mono (by decide)) (by rfl) (pa_cons (pv 5) (pa_cons (pv 8) (pa_cons (pv 2) (pa_cons (pv 7) (pa_cons (pv 11) pa_nil)))))))) (pw_or1 (pt_cmpR op_ne (pe_mdef M_lost YD.cl (hr.mono (by decide)) (pv 5) (pa_cons (pv 7) pa_nil)) (pe_dget hu (pv 8) pe_str (fun _ _ => rfl)) (nomark _))))) (pss_one (ps_ret pe_bl))
      pss_nil)
    (pss_cons (ps_set (i := 12) sc_law.nd rfl (Or.inl rfl) (pe_op op_cat (pe_lst (pa_cons pe_int pa_nil)) (pe_lc (own := [("one", 14)]) (g := gName 14) (by rfl) sc_law.nd (pi_list (pe_dget hu (pv 8) pe_str (fun _ _ => rfl))) (blkOk_by (own := [("one", 14)]) (N := ["script", "state", "rules", "chart", "stations", "desk", "k", "radar", "station", "size", "piece", "rest", "ends", "left", "one"]) (sc := defScope s_law) (by decide +kernel)) (fun _ _ _ _ _ => (pg_name (i := 14) sc_law.nd rfl (Or.inl rfl))) (fun _ _ _ _ _ => pts_nil) (fun _ _ _ _ _ => (pe_ix (r := rIxT K) ix_tup (pv 14) pe_int (fun _ _ => rfl))))))
    (pss_cons (ps_set (i := 13) sc_law.nd rfl (Or.inl rfl) (pe_slice sl_list (pe_dget hu (pv 8) pe_str (fun _ _ => rfl)) (po_some (pe_callB (call_max2 rfl) (by rfl) T.max boot_max (pa_cons (pe_ix (r := rIxL K) ix_list (pv 12) (pe_un un_neg pe_int) (fun _ _ => rfl)) (pa_cons (pe_op op_sub (pe_callB (r := rLenK K) call_len_seq (by rfl) T.len boot_len (pa_cons (pe_dget hu (pv 8) pe_str (fun _ _ => rfl)) pa_nil)) pe_int) pa_nil)))) po_none))
    (pss_one (ps_if (PW.pt (pw_or (pt_cmpR (op_neD hr.units) (pe_mdef M_left YD.cl (hr.mono (by decide)) (pv 5) (pa_cons (pv 7) pa_nil)) (pv 13) (nomark _)) (pw_or1 (pt_cmpR (op_neD hr.units) (pe_mdef M_receive YD.cl (hr.mono (by decide)) (pv 5) (pa_cons (pv 7) (pa_cons (pe_lst pa_nil) pa_nil))) (pe_lst pa_nil) (nomark _))))) (pss_one (ps_ret pe_bl))
      pss_nil)))))))))
    (pss_one (ps_ret pe_bl))))))))))), ?_⟩
    rw [show L2.start ["script", "state", "rules", "chart", "stations", "desk", "k", "radar", "station", "size", "piece", "rest", "ends", "left", "one"] [V.ref a] = [some (V.ref a), none, none, none, none, none, none, none, none, none, none, none, none, none, none] from rfl]
    refine ⟨_, rfl, a, ns0, rfl, hS, hl0, fun d c H0 hd0 hc0 S0 sm0 => ?_⟩
    have T0 := Same.tabs sm0 hT
    refine nm ?_
    dsimp only [List.set]
    refine ⟨_, rfl, d, c, rfl, S0, fun ru r rd H1 hru RU1 RR1 ⟨kvs1, hkv1, hkl1⟩ rd0 rd1 S1 kp1 => ?_⟩
    have n3 : ru ≠ d := S0.nd hru
    have n3c : ru ≠ c := S0.nc hru
    have T1 := FT.tb (FT.keep (M := [d]) S0 kp1 (by simp)) T0
    refine nm ?_
    dsimp only [List.set]
    refine ⟨_, rfl, d, c, 12, rfl, S1, (by omega), (by omega), fun x2 H2 x2a x2b S2 kp2 => ?_⟩
    have hkv2 := kp2 _ _ hkv1 n3
    have T2 := FT.tb (FT.keep (M := [d]) S1 kp2 (by simp)) T1
    refine ⟨_, rfl, _, _, rfl, DPut.k (k := .inr "radar") hkv2 (small1000 (by omega)), ?_⟩
    have S3 := S2.put (o := .dK (putK kvs1 (.inr "radar") (.int x2))) n3 n3c
    have T3 := FT.tb (FT.dk (M := [ru]) (o' := .dK (putK kvs1 (.inr "radar") (.int x2))) hkv2 (by simp)) T2
    have hkv3 : (upd H2 ru (.dK (putK kvs1 (.inr "radar") (.int x2)))) ru = some (.dK (putK kvs1 (.inr "radar") (.int x2))) := upd_same
    have RU3 := (RU1.keep kp2 n3).put hkv2 hkv3
    have RR3 : RrAt _ ru x2 := RrAt.put hkv3
    have hkl3 := Nat.le_trans (putK_len (kvs := kvs1) (k := (.inr "radar" : Key)) (v := .int x2)) (Nat.succ_le_succ hkl1)
    generalize upd H2 ru (.dK (putK kvs1 (.inr "radar") (.int x2))) = H3 at S3 T3 hkv3 RU3 RR3 ⊢
    generalize putK kvs1 (.inr "radar") (V.int x2) = kvs3 at hkv3 hkl3
    refine ⟨_, rfl, _, _, rfl, RR3.g, _, _, rfl, rfl, wm (by omega) (by omega), _, _, rfl, rfl, _, rfl, _, _, rfl, DPut.k (k := .inr "lateral") hkv3 (small1000 (by omega)), ?_⟩
    have S4 := S3.put (o := .dK (putK kvs3 (.inr "lateral") (.int (2 * x2 + 1)))) n3 n3c
    have T4 := FT.tb (FT.dk (M := [ru]) (o' := .dK (putK kvs3 (.inr "lateral") (.int (2 * x2 + 1)))) hkv3 (by simp)) T3
    have hkv4 : (upd H3 ru (.dK (putK kvs3 (.inr "lateral") (.int (2 * x2 + 1))))) ru = some (.dK (putK kvs3 (.inr "lateral") (.int (2 * x2 + 1)))) := upd_same
    have RU4 := RU3.putLat hkv3 hkv4 (by omega) (by omega)
    have RR4 := RR3.putLat hkv3 hkv4
    generalize upd H3 ru (.dK (putK kvs3 (.inr "lateral") (.int (2 * x2 + 1)))) = H4 at S4 T4 hkv4 RU4 RR4 ⊢
    generalize RuD.mk (2 * x2 + 1) r.ve r.ra r.ba = r4 at RU4
    refine ⟨_, rfl, d, c, rfl, S4, fun Dc ch H5 hne hpos C5 hch hfx S5 kp5 => ?_⟩
    have T5 := FT.tb (FT.keep (M := [d]) S4 kp5 (by simp)) T4
    have n1 : ch ≠ d := S4.nd hch
    have n2 : Dc.fx ≠ d := S4.nd hfx
    have RU5 := RU4.keep kp5 n3
    have RR5 := RR4.keep kp5 n3
    refine nm ?_
    dsimp only [List.set]
    clear RU3 RR3 RU1 RR1 RU4 RR4 hkv1 hkv2 hkv3 hkv4 S0 S1 S2 S3 S4 T0 T1 T2 T3 T4
    refine ⟨_, rfl, d, c, 2, rfl, S5, (by omega), (by omega), fun x6 H6 x6a x6b S6 kp6 => ?_⟩
    have T6 := FT.tb (FT.keep (M := [d]) S5 kp6 (by simp)) T5
    have RU6 := RU5.keep kp6 n3
    have RR6 := RR5.keep kp6 n3
    have C6 := C5.keep S5 kp6 n1 n2
    refine ⟨_, _, rfl, rfl, ?_⟩
    dsimp only
    obtain ⟨n, en⟩ : ∃ n : Nat, 1 + x6 = (n : Int) := ⟨(1 + x6).toNat, by omega⟩
    have nn0 : 1 ≤ n := by omega
    have nn1 : n ≤ 2 := by omega
    rw [en]
    refine ⟨(n : Int), rfl, by omega, by omega, fun L0 hL0 => ?_⟩
    refine lc_range (lo := 0) (n := (n : Int).toNat) (fun i G => ∃ (Tf Ef Sf Mf : Nat → Addr) (Of : Nat → V) (X : Nat → Sn), G L0 = some (.lst ((List.range i).map fun j => V.ref (Tf j))) ∧
      (∀ j, j < i → SnA G (Tf j) (Ef j) (Sf j) (Mf j) (Of j) (X j) ∧ SnOk x2 (X j) ∧ (X j).got = 0 ∧ (X j).held = 0 ∧ (X j).off ≠ none ∧ Sf j ≠ L0 ∧ Mf j ≠ L0 ∧ H6 (Tf j) = none ∧ Tf j ≠ d) ∧ (∀ j k, j < i → k < i → j ≠ k → Tf j ≠ Tf k) ∧ St1 K G d c ∧ Keep d H6 G)
      ⟨fun _ => 0, fun _ => 0, fun _ => 0, fun _ => 0, fun _ => .non, fun _ => ⟨0, ⟨0, 0, 0, 0⟩, [], [], 0, 0, 0, none⟩, upd_same, fun j hj => absurd hj (Nat.not_lt_zero j), fun j k hj => absurd hj (Nat.not_lt_zero j), S6.new hL0, Keep.of (same_new hL0)⟩ ?_ ?_
    · rintro i G hi ⟨Tf, Ef, Sf, Mf, Of, X, hLG, hX, hT_, SG, KG⟩
      have hi : i < n := hi
      refine ⟨rfl, ?_⟩
      refine ⟨_, rfl, _, rfl, d, c, ru, x2, rfl, SG, RR6.keep KG n3, by omega, by omega, n3, fun st es sl ml ov s G1 hst hsl hml A ok gt hd_ off S1 kp1 => ?_⟩
      have hL1 := kp1.l SG hLG
      have std := SG.nd hst
      refine ⟨_, hL1, small1000 (by rw [List.length_map, List.length_range]; omega), fset Tf i st, fset Ef i es, fset Sf i sl, fset Mf i ml, fset Of i ov, fset X i s, ?_, ?_, ?_, S1.put (S6.nd hL0) (S6.nc hL0), ?_⟩
      · have e1 : (List.range i).map (fun j => V.ref (fset Tf i st j)) = (List.range i).map (fun j => V.ref (Tf j)) := List.map_congr_left fun j hj => by
          rw [fset_ne (by have := List.mem_range.mp hj; omega)]
        rw [upd_same, List.range_succ, List.map_append, e1]
        show _ = some (HO.lst (_ ++ [V.ref (fset Tf i st i)]))
        rw [fset_at]
      · intro j hj
        by_cases z : j = i
        · subst z
          rw [fset_at, fset_at, fset_at, fset_at, fset_at, fset_at]
          have n1 : sl ≠ L0 := fun z => by rw [z, hLG] at hsl; cases hsl
          have n2 : ml ≠ L0 := fun z => by rw [z, hLG] at hml; cases hml
          exact ⟨A.offL hL1 n1 n2, ok, gt, hd_, off, n1, n2, KG.none std hst, std⟩
        · rw [fset_ne z, fset_ne z, fset_ne z, fset_ne z, fset_ne z, fset_ne z]
          obtain ⟨a1, a2, a3, a4, a5, a6, a7, a8, a9⟩ := hX j (by omega)
          exact ⟨(a1.keep SG kp1 a9).offL hL1 a6 a7, a2, a3, a4, a5, a6, a7, a8, a9⟩
      · intro j k' hj hk njk
        have old : ∀ q, q < i → Tf q ≠ st := fun q hq z => by
          have := (hX q hq).1.d
          rw [z, hst] at this; cases this
        by_cases z : j = i
        · by_cases y : k' = i
          · exact absurd (z.trans y.symm) njk
          · rw [z, fset_at, fset_ne y]; exact (old k' (by omega)).symm
        · by_cases y : k' = i
          · rw [y, fset_at, fset_ne z]; exact old j (by omega)
          · rw [fset_ne z, fset_ne y]; exact hT_ j k' (by omega) (by omega) njk
      · exact keepU hL0 (KG.trans kp1)
    rintro G ⟨Tf, Ef, Sf, Mf, Of, X, hLG, hX, hT_, SG, KG⟩
    have hX : ∀ j, j < n → _ := hX
    have hT_ : ∀ j k, j < n → k < n → j ≠ k → Tf j ≠ Tf k := hT_
    have hLG : G L0 = some (.lst ((List.range n).map fun j => V.ref (Tf j))) := hLG
    have F6 : FT [d] TT H6 G := FT.keep S6 KG (by simp)
    have TG := F6.tb T6
    have CG := C6.keep S6 KG n1 n2
    have RUG := RU6.keep KG n3
    have RRG := RR6.keep KG n3
    refine nm ?_
    dsimp only [List.set]
    refine ⟨_, rfl, _, rfl, L0, rfl, ⟨_, .inl (.inl hLG)⟩, fun E1 hE1 => ?_⟩
    refine lc_list (K := K) (a := L0) (xs := (List.range n).map fun j => V.ref (Tf j)) (fun i G' => Same G G' ∧ G' E1 = some (.lst ((List.range i).map fun j => V.int (X j).err))) ⟨same_new hE1, upd_same⟩ (fun i G' _ h => .inl (.inl (h.1 _ _ hLG))) ?_ ?_
    · rintro i v G' hv ⟨sm, hEl⟩
      obtain ⟨hi, rfl⟩ : i < n ∧ v = .ref (Tf i) := by
        rw [List.getElem?_map] at hv
        rcases Nat.lt_or_ge i n with z | z
        · rw [List.getElem?_range z] at hv
          exact ⟨z, (Option.some.inj hv).symm⟩
        · rw [List.getElem?_eq_none (by rw [List.length_range]; exact z)] at hv
          cases hv
      refine ⟨rfl, ?_⟩
      refine ⟨_, rfl, _, _, rfl, (((hX i hi).1.same sm).g_error), ?_⟩
      refine ⟨_, hEl, small1000 (by rw [List.length_map, List.length_range]; omega), sameU hE1 sm, ?_⟩
      rw [upd_same, List.range_succ, List.map_append]
      rfl
    rintro G1 ⟨sm1, hE1l⟩
    have hE1l : G1 E1 = some (.lst ((List.range n).map fun j => V.int (X j).err)) := by rw [List.length_map, List.length_range] at hE1l; exact hE1l
    have hLG1 := sm1 _ _ hLG
    refine ⟨_, rfl, L0, rfl, ⟨_, .inl (.inl hLG1)⟩, fun E2 hE2 => ?_⟩
    refine lc_list (K := K) (a := L0) (xs := (List.range n).map fun j => V.ref (Tf j)) (fun i G' => Same G1 G' ∧ G' E2 = some (.lst ((List.range i).map fun j => V.ref (Ef j)))) ⟨same_new hE2, upd_same⟩ (fun i G' _ h => .inl (.inl (h.1 _ _ hLG1))) ?_ ?_
    · rintro i v G' hv ⟨sm, hEl⟩
      obtain ⟨hi, rfl⟩ : i < n ∧ v = .ref (Tf i) := by
        rw [List.getElem?_map] at hv
        rcases Nat.lt_or_ge i n with z | z
        · rw [List.getElem?_range z] at hv
          exact ⟨z, (Option.some.inj hv).symm⟩
        · rw [List.getElem?_eq_none (by rw [List.length_range]; exact z)] at hv
          cases hv
      refine ⟨rfl, ?_⟩
      refine ⟨_, rfl, _, _, rfl, (((hX i hi).1.same (sm1.trans sm)).g_estimate), ?_⟩
      refine ⟨_, hEl, small1000 (by rw [List.length_map, List.length_range]; omega), sameU hE2 sm, ?_⟩
      rw [upd_same, List.range_succ, List.map_append]
      rfl
    rintro G2 ⟨sm2, hE2l⟩
    have hE2l : G2 E2 = some (.lst ((List.range n).map fun j => V.ref (Ef j))) := by rw [List.length_map, List.length_range] at hE2l; exact hE2l
    have sm12 := sm1.trans sm2
    refine fun D dxD hD0 hdx0 ndx => ?_
    have s3 : Same G2 (upd (upd G2 dxD (.own D)) D (.ins CW dxD [])) := fun b o e => by
      rw [upd_ne (ne_of_none e hD0), upd_ne (ne_of_none e hdx0)]; exact e
    have s03 : Same G (upd (upd G2 dxD (.own D)) D (.ins CW dxD [])) := sm12.trans s3
    have T3 := Same.tabs s03 TG
    refine ⟨D, dxD, ru, E1, E2, r4, x2, (List.range n).map (fun j => (X j).err), (List.range n).map Ef, rfl, upd_same, RUG.same s03, RRG.same s03, by rw [s3 _ _ (sm2 _ _ hE1l), List.map_map]; rfl, by rw [s3 _ _ hE2l, List.map_map]; rfl, by rw [List.length_map, List.length_map], by rw [List.length_map, List.length_range]; omega, T3, fun dsl Ss H' DA lS ndS frS nDS newS FD_ => ⟨rfl, ?_⟩⟩
    rw [List.length_map, List.length_range] at lS
    have hDG : (upd (upd G2 dxD (.own D)) D (.ins CW dxD [])) D = some (.ins CW dxD []) := upd_same
    generalize upd (upd G2 dxD (.own D)) D (.ins CW dxD []) = G3 at s3 s03 T3 frS newS FD_ hDG ⊢
    refine nm ?_
    dsimp only [List.set]
    have nD : ∀ a kvs, G3 a = some (.dK kvs) → a ∉ [D] := fun a kvs e => by simpa using dk_ins e hDG
    have eSs : (List.range n).map (fun i => Ss.getD i 0) = Ss := by rw [← lS]; exact range_getD Ss
    have sAt : ∀ i, i < n → Ss[i]? = some (Ss.getD i 0) := fun i hi => by
      rw [List.getD_eq_getElem?_getD, List.getElem?_eq_getElem (by omega)]; rfl
    have ones : ∀ i, ∃ a : Sta, i < n → One CS H' (Tf i) (Ss.getD i 0) x2 r4 (X i) a ∧ G3 a.ru = none := fun i => by
      by_cases hi : i < n
      · obtain ⟨a1, a2, a3, a4, a5, a6, a7, a8, a9⟩ := hX i hi
        obtain ⟨dx, ru', re, b1, b2, b3, b4, b5, b6, b7⟩ := (newS i (Ss.getD i 0) (X i).err (Ef i) (sAt i hi) (by rw [List.getElem?_map, List.getElem?_range hi]; rfl) (by rw [List.getElem?_map, List.getElem?_range hi]; rfl)).ex
        have A3 := (a1.same s03).ft FD_ T3 (nD _ _ (s03 _ _ a1.d))
        refine ⟨⟨ru', Ef i, re, none, 0, 0⟩, fun _ => ⟨⟨⟨Ef i, Sf i, Mf i, Of i, A3⟩, ⟨dx, b3⟩, b6, b7, A3.e, ?_, ?_, a4.symm, a2, ?_⟩, b1⟩⟩
        · rw [a3, List.take_zero, rm_short (by decide)]; exact b4
        · rw [a3, List.take_zero, rd_short (by decide)]; rfl
        · intro z
          have := s03 _ _ a1.d
          dsimp only at z
          rw [← z, b1] at this; cases this
      · exact ⟨⟨0, 0, 0, none, 0, 0⟩, fun h => absurd h hi⟩
    obtain ⟨Af, hAf⟩ := Classical.skolem.mp ones
    obtain ⟨kvd, hdd⟩ := SG.dk
    obtain ⟨kvc, hcc, _⟩ := id CG.ch
    obtain ⟨kvr, hrr, _⟩ := id RRG
    have w0 : W48 K CW CS TT H' d c ch ru D dsl L0 n (fun i => Ss.getD i 0) Tf X Af x2 r4 Dc := by
      refine ⟨FD_.s1 T3 (SG.same s03) (nD _ _ (s03 _ _ hdd)), FD_.tb T3, FD_.ch T3 (CG.same s03) (nD _ _ (s03 _ _ hcc)) (nD _ _ (s03 _ _ CG.fx)), FD_.ru T3 (RUG.same s03) (nD _ _ (s03 _ _ hrr)), FD_.rr T3 (RRG.same s03) (nD _ _ (s03 _ _ hrr)), by rw [eSs]; exact DA, FD_.l _ _ (s03 _ _ hLG), fun i hi => (hAf i hi).1, fun i j hi hj z => ?_, fun i hi z => ?_, ⟨n1, n2, n3, fun i hi => ?_, fun i hi z => ?_, fun i hi z => ?_, fun i hi z => ?_, hT_, fun i j hi hj nij z => ?_, fun i hi z => ?_⟩, x2a, by omega, nn0, nn1⟩
      · have := s03 _ _ (hX j hj).1.d
        rw [← z, (hAf i hi).2] at this; cases this
      · have := s03 _ _ hdd
        rw [← z, (hAf i hi).2] at this; cases this
      · exact (hX i hi).2.2.2.2.2.2.2.2
      · have h6 := (hX i hi).2.2.2.2.2.2.2.1
        obtain ⟨_, e, _⟩ := C6.ch
        rw [← z, e] at h6; cases h6
      · have h6 := (hX i hi).2.2.2.2.2.2.2.1
        rw [← z, C6.fx] at h6; cases h6
      · have h6 := (hX i hi).2.2.2.2.2.2.2.1
        obtain ⟨_, e, _⟩ := RR6
        rw [← z, e] at h6; cases h6
      · have z : Ss.getD i 0 = Ss.getD j 0 := z
        have p1 := sAt i hi
        have p2 := sAt j hj
        rw [← z] at p2
        exact nij ((List.getElem?_inj (by omega) ndS).mp (p1.trans p2.symm))
      · exact nDS (by rw [z]; exact List.mem_of_getElem? (sAt i hi))
    clear hAf ones newS FD_ hDG T3 s3 s03 hE1l hE2l hLG1 CG RUG RRG TG F6 C6 RU6 RR6 T6 T5 C5 RU5 RR5 S5 S6 SG KG hX hT_ hLG DA frS
    generalize (fun i => Ss.getD i 0) = Sg at w0
    refine ⟨12, rfl, by decide, by decide, for_range (n := 12) (fun i σ H => ∃ X Af v6 v7 v8 v9 v10, σ = [some (.ref a), some (.ref d), some (.ref ru), some (.ref ch), some (.ref L0), some (.ref D), v6, v7, v8, v9, v10, none, none, none, none] ∧ W48 K CW CS TT H d c ch ru D dsl L0 n Sg Tf X Af x2 r4 Dc) ⟨X, Af, none, none, none, none, none, rfl, w0⟩ ?_ ?_⟩
    · clear w0
      rintro i σ H hi ⟨X, Af, v6, v7, v8, v9, v10, rfl, w⟩
      refine nm ?_
      dsimp only [List.set]
      refine ⟨_, rfl, _, rfl, _, _, rfl, (.inl (.inl (.inl w.L))), d, c, _, rfl, w.S0, (by rw [List.length_map, List.length_range]; omega), (by rw [List.length_map, List.length_range]; omega), fun x1 H1 x1a x1b S1 kp1 => ?_⟩
      rw [List.length_map, List.length_range] at x1b
      obtain ⟨j, rfl⟩ : ∃ j : Nat, x1 = (j : Int) := ⟨x1.toNat, by omega⟩
      have hj : j < n := by omega
      have w1 := w.keep S1 kp1
      refine nm ?_
      dsimp only [List.set]
      refine ⟨_, rfl, _, rfl, _, _, _, _, rfl, rfl, .inl (.inl w1.L), w1.lat hj, ?_⟩
      refine nm ?_
      dsimp only [List.set]
      refine ⟨_, rfl, szOk rfl, fun t2 ht2 => ?_⟩
      have sm2 := same_new (o := .lst [.int 0, .int 1, .int 5, .int 11, .int 12, .int 40, .int 900]) ht2
      have w2 := w1.same sm2
      refine ⟨d, c, _, _, rfl, w2.S0, .inl (.inl upd_same), (fun z => nomatch z), (by show 7 ≤ 1000; decide), fun v3 H3 hv3 S3 kp3 => ?_⟩
      obtain ⟨sz, rfl⟩ : ∃ z : Nat, v3 = .int (z : Int) := by
        simp only [List.mem_cons, List.not_mem_nil, or_false] at hv3
        rcases hv3 with rfl | rfl | rfl | rfl | rfl | rfl | rfl
        · exact ⟨0, rfl⟩
        · exact ⟨1, rfl⟩
        · exact ⟨5, rfl⟩
        · exact ⟨11, rfl⟩
        · exact ⟨12, rfl⟩
        · exact ⟨40, rfl⟩
        · exact ⟨900, rfl⟩
      have w3 := w2.keep S3 kp3
      clear w w1 w2
      refine nm ?_
      dsimp only [List.set]
      have o3 := w3.one j hj
      obtain ⟨es, sl, ml, ov, A3⟩ := o3.sn
      have ok := o3.ok
      refine ⟨_, rfl, _, _, rfl, A3.g_stream, _, rfl, _, _, rfl, A3.g_got, _, rfl, _, rfl, _, _, rfl, A3.g_got, _, rfl, _, _, rfl, rfl, _, rfl, _, _, rfl, .inl (.inl A3.m), fun pc hpc => ?_⟩
      rw [cut_piece ok.got]
      have sm4 := same_new (o := .lst (((X j).ms.drop (X j).got).take (min sz ((X j).ms.length - (X j).got)) |>.map V.int)) hpc
      have w4 := w3.same sm4
      have A4 := A3.same sm4
      have hpc4 : (upd H3 pc (.lst ((((X j).ms.drop (X j).got).take (min sz ((X j).ms.length - (X j).got))).map V.int))) pc = some (.lst ((((X j).ms.drop (X j).got).take (min sz ((X j).ms.length - (X j).got))).map V.int)) := upd_same
      obtain ⟨m, hm, hm2⟩ : ∃ m, min sz ((X j).ms.length - (X j).got) = m ∧ (X j).got + m ≤ (X j).ms.length := ⟨_, rfl, by have := ok.got; omega⟩
      rw [hm] at hpc4 w4 A4 ⊢
      generalize upd H3 pc (.lst ((((X j).ms.drop (X j).got).take m).map V.int)) = H4 at hpc4 w4 A4 ⊢
      clear sm4 A3 w3 o3
      refine nm ?_
      dsimp only [List.set]
      refine cut (t := tIfS _ _ _) (fun σ' H => ∃ X Af, σ' = [some (.ref a), some (.ref d), some (.ref ru), some (.ref ch), some (.ref L0), some (.ref D), some (.int (0 + (i : Int))), some (.int (j : Int)), some (.ref (Tf j)), some (.int (sz : Int)), some (.ref pc), none, none, none, none] ∧ W48 K CW CS TT H d c ch ru D dsl L0 n Sg Tf X Af x2 r4 Dc) ?_ (fun rest => ?_)
      rotate_left
      · refine ⟨_, rfl, _, _, rfl, A4.g_offset, rfl, _, rfl, ?_⟩
        have ho := A4.o
        cases eo : (X j).off with
        | none =>
          rw [eo] at ho
          rw [show ov = V.non from ho]
          refine iNY rfl ?_
          exact rest _ _ ⟨X, Af, rfl, w4⟩
        | some o =>
          rw [eo] at ho
          obtain ⟨oq, rfl, _⟩ := ho
          refine iNN (fun z => nomatch z) ?_
          refine ⟨_, rfl, _, rfl, _, rfl, _, rfl, _, rfl, D, dsl, Tf j, ru, pc, Sg j, j, x2, r4, (List.range n).map Sg, X j, Af j, m, rfl, w4.DA, w4.stn hj, w4.X_.ds j hj, w4.one j hj, by rw [eo]; exact fun z => (nomatch z), w4.RR, w4.g0, w4.g1, w4.X_.tru j hj, hpc4, hm2, w4.T0, fun h' a' H' o' ea F => ?_⟩
          refine ⟨_, rfl, iteF ?_⟩
          exact rest _ _ ⟨_, _, rfl, w4.step hj F o' ea⟩
      clear w4 A4 hpc4
      rintro σ' H4 ⟨X, Af, rfl, w⟩
      refine ⟨_, rfl, d, c, 4, rfl, w.S0, (by omega), (by omega), fun x5 H5 x5a x5b S5 kp5 => ?_⟩
      have w5 := w.keep S5 kp5
      refine ⟨rfl, _, rfl, ite2 (fun e => ?_) (fun e => ?_)⟩
      rotate_left
      · refine nxq ?_
        exact ⟨X, Af, _, _, _, _, _, rfl, w5⟩
      refine ⟨_, rfl, L0, rfl, ⟨_, .inl (.inl w5.L)⟩, fun B hB => ?_⟩
      refine lc_list (K := K) (a := L0) (xs := (List.range n).map fun j => V.ref (Tf j)) (fun i G' => Same H5 G' ∧ G' B = some (.lst (((List.range i).map fun j => (X j).off.isSome).map V.bl))) ⟨same_new hB, upd_same⟩ (fun i G' _ h => .inl (.inl (h.1 _ _ w5.L))) ?_ ?_
      · rintro i v G' hv ⟨sm, hEl⟩
        obtain ⟨hi, rfl⟩ : i < n ∧ v = .ref (Tf i) := by
          rw [List.getElem?_map] at hv
          rcases Nat.lt_or_ge i n with z | z
          · rw [List.getElem?_range z] at hv
            exact ⟨z, (Option.some.inj hv).symm⟩
          · rw [List.getElem?_eq_none (by rw [List.length_range]; exact z)] at hv
            cases hv
        obtain ⟨es', sl', ml', ov', A'⟩ := (w5.one i hi).sn
        have A' := A'.same sm
        refine ⟨rfl, ?_⟩
        refine ⟨_, rfl, _, _, rfl, A'.g_offset, rfl, ?_⟩
        refine ⟨_, hEl, small1000 (by rw [List.length_map, List.length_map, List.length_range]; omega), sameU hB sm, ?_⟩
        have eb : (!decide (ov' = V.non)) = (X i).off.isSome := by
          have ho := A'.o
          cases eo : (X i).off with
          | none =>
            rw [eo] at ho
            rw [show ov' = V.non from ho]
            rfl
          | some o =>
            rw [eo] at ho
            obtain ⟨oq, rfl, _⟩ := ho
            rfl
        rw [upd_same, List.range_succ, List.map_append, List.map_append, eb]
        rfl
      rintro G ⟨smB, hBl⟩
      rw [List.length_map, List.length_range] at hBl
      have wB := w5.same smB
      refine ⟨B, _, rfl, .inl (.inl hBl), ?_⟩
      refine ⟨_, rfl, ?_⟩
      cases eall : ((List.range n).map fun j => (X j).off.isSome).all id with
      | false =>
        refine iteF ?_
        refine nxq ?_
        exact ⟨X, Af, _, _, _, _, _, rfl, wB⟩
      | true =>
        refine iteT ?_
        have offs : ∀ i, i < n → (X i).off ≠ none := fun i hi z => by
          have := List.all_eq_true.mp eall ((X i).off.isSome) (List.mem_map.mpr ⟨i, List.mem_range.mpr hi, rfl⟩)
          rw [z] at this
          cases this
        refine ⟨_, rfl, _, rfl, _, rfl, _, rfl, _, rfl, d, c, ch, ru, D, dsl, L0, n, Sg, Tf, X, Af, x2, r4, Dc, rfl, wB, offs, hne, hpos, fun X' A' H' w' => ?_⟩
        refine ⟨_, rfl, iteF ?_⟩
        refine nxq ?_
        exact ⟨X', A', _, _, _, _, _, rfl, w'⟩
    clear w0
    rintro σ H ⟨X, Af, v6, v7, v8, v9, v10, rfl, w⟩
    refine ⟨_, rfl, _, _, rfl, (.inl (.inl (.inl w.L))), _, rfl, by rw [List.length_map, List.length_range]; omega, by rw [List.length_map, List.length_range]; omega, for_range (n := (((List.range n).map fun i => V.ref (Tf i)).length : Int).toNat) (fun i σ H => ∃ X Af v6 v7 v8 v9 v10 v11 v12 v13, σ = [some (.ref a), some (.ref d), some (.ref ru), some (.ref ch), some (.ref L0), some (.ref D), v6, v7, v8, v9, v10, v11, v12, v13, none] ∧ W48 K CW CS TT H d c ch ru D dsl L0 n Sg Tf X Af x2 r4 Dc) ⟨X, Af, v6, v7, v8, v9, v10, none, none, none, rfl, w⟩ ?_ ?_⟩
    rotate_left
    · rintro σ H ⟨X, Af, v6, v7, v8, v9, v10, v11, v12, v13, rfl, w⟩
      exact k _
    clear w
    rintro i σ H hi ⟨X, Af, v6, v7, v8, v9, v10, v11, v12, v13, rfl, w⟩
    have hi : i < n := by rw [List.length_map, List.length_range] at hi; exact hi
    refine nm ?_
    dsimp only [List.set]
    rw [Int.zero_add]
    refine ⟨_, rfl, _, rfl, _, _, _, _, rfl, rfl, .inl (.inl w.L), w.lat hi, ?_⟩
    refine nm ?_
    dsimp only [List.set]
    obtain ⟨es, sl, ml, ov, A⟩ := (w.one i hi).sn
    have ok := (w.one i hi).ok
    refine ⟨_, rfl, _, _, rfl, A.g_offset, rfl, _, rfl, ?_⟩
    have ho := A.o
    cases eo : (X i).off with
    | none =>
      rw [eo] at ho
      rw [show ov = V.non from ho]
      refine ifY rfl ?_
      exact k _
    | some o =>
    rw [eo] at ho
    obtain ⟨oq, rfl, _⟩ := ho
    refine ifN (fun z => nomatch z) ?_
    refine nxq ?_
    refine ⟨_, rfl, _, _, rfl, A.g_stream, _, rfl, _, _, rfl, A.g_got, _, rfl, _, _, rfl, .inl (.inl A.m), fun pc hpc => ?_⟩
    rw [cut_tail ok.got]
    have sm1 := same_new (o := .lst (((X i).ms.drop (X i).got).map V.int)) hpc
    have w1 := w.same sm1
    have hpc1 : (upd H pc (.lst (((X i).ms.drop (X i).got).map V.int))) pc = some (.lst ((((X i).ms.drop (X i).got).take ((X i).ms.length - (X i).got)).map V.int)) := by
      rw [upd_same, List.take_of_length_le (by rw [List.length_drop]; exact Nat.le_refl _)]
    generalize upd H pc (.lst (((X i).ms.drop (X i).got).map V.int)) = H1 at sm1 w1 hpc1 ⊢
    refine nm ?_
    dsimp only [List.set]
    have got1 := ok.got
    refine ⟨_, rfl, _, rfl, _, rfl, _, rfl, _, rfl, D, dsl, Tf i, ru, pc, Sg i, i, x2, r4, (List.range n).map Sg, X i, Af i, (X i).ms.length - (X i).got, rfl, w1.DA, w1.stn hi, w1.X_.ds i hi, w1.one i hi, by rw [eo]; exact fun z => (nomatch z), w1.RR, w1.g0, w1.g1, w1.X_.tru i hi, hpc1, by omega, w1.T0, fun h' a' H2 o2 ea F => ?_⟩
    refine ⟨_, rfl, iteF ?_⟩
    have w2 := w1.step hi F o2 ea
    obtain ⟨s2, es2⟩ : ∃ s2 : Sn, { X i with got := (X i).got + ((X i).ms.length - (X i).got), held := h' } = s2 := ⟨_, rfl⟩
    rw [es2] at o2 w2
    have q1 : s2.ms = (X i).ms := by rw [← es2]
    have q2 : s2.ss = (X i).ss := by rw [← es2]
    have q3 : s2.got = s2.ms.length := by rw [← es2]; show (X i).got + ((X i).ms.length - (X i).got) = (X i).ms.length; omega
    have q4 : s2.lost = (X i).lost := by rw [← es2]
    have q5 : s2.off = some o := by rw [← es2]; exact eo
    clear es2
    obtain ⟨es2, sl2, ml2, ov2, B⟩ := o2.sn
    have ok2 := o2.ok
    obtain ⟨dx2, hp2⟩ := o2.ob
    obtain ⟨dd2, hd2⟩ := w2.DA.ob
    have all : (Sk.rd (s2.ms.take s2.got)).map (·.c) = s2.ss.map (·.c) := by
      rw [ok2.W.take, upTo_all, List.map_map, List.map_map]
      · rfl
      · intro t ht
        rw [q3]
        obtain ⟨m, nn, em, S, _, _⟩ := ok2.W.ex
        have := S.at_le t ht
        rw [em, List.length_append]
        omega
    have eml : a'.ml = s2.lost := by
      have e1 := o2.nt
      rw [all] at e1
      rw [← ok2.lost, e1]
    refine ⟨_, rfl, _, _, _, rfl, hd2, rfl, _, rfl, D, dsl, Sg i, dx2, i, x2, (List.range n).map Sg, a', rfl, w2.DA, w2.stn hi, hp2, _, rfl, _, _, rfl, B.g_lost, rfl, _, rfl, iNY (by rw [eml]) ?_⟩
    refine nxq ?_
    refine ⟨szOk rfl, fun z0 hz0 => ?_⟩
    have sz := same_new (o := .lst [.int 0]) hz0
    have B1 := B.same sz
    obtain ⟨ps, hps, hpl, hat⟩ := B1.sn.at
    refine ⟨_, rfl, _, _, rfl, B1.g_sent, sl2, rfl, ⟨_, .inl (.inl hps)⟩, fun E1 hE1 => ?_⟩
    refine lc_list (K := K) (a := sl2) (xs := ps.map V.ref) (fun j G => Same (upd H2 z0 (.lst [.int 0])) G ∧ G E1 = some (.lst ((s2.ss.take j).map fun t => V.int (t.at_ : Int)))) ⟨same_new hE1, upd_same⟩ (fun j G _ h => .inl (.inl (h.1 _ _ hps))) ?_ ?_
    · rintro j v G hv ⟨sm, hEl⟩
      obtain ⟨p, aa, b, t, rfl, et, hp, ha, hb⟩ := hat j v hv
      have jlt := (List.getElem?_eq_some_iff.mp et).1
      have tsl := ok2.ts
      refine ⟨rfl, ?_⟩
      refine ⟨_, rfl, _, _, _, _, rfl, rfl, .inl (.inl (sm _ _ hp)), rfl, ?_⟩
      refine ⟨_, hEl, small1000 (by rw [List.length_map, List.length_take]; omega), sameU hE1 sm, ?_⟩
      rw [upd_same, List.take_add_one, et, List.map_append]
      rfl
    rintro G3 ⟨sm3, hE3⟩
    rw [List.length_map, hpl, List.take_length] at hE3
    have tsl := ok2.ts
    refine ⟨_, _, _, _, rfl, rfl, sm3 _ _ upd_same, hE3, Nat.le_of_lt (small1000 (by rw [List.length_map]; show 1 + _ ≤ 1000; omega)), fun en_ hen => ?_⟩
    have sm4 := same_new (o := .lst ([V.int 0] ++ s2.ss.map fun t => V.int (t.at_ : Int))) hen
    have hen4 : (upd G3 en_ (.lst ([V.int 0] ++ s2.ss.map fun t => V.int (t.at_ : Int)))) en_ = some (.lst (V.int 0 :: s2.ss.map fun t => V.int (t.at_ : Int))) := upd_same
    have sAll : Same H2 (upd G3 en_ (.lst ([V.int 0] ++ s2.ss.map fun t => V.int (t.at_ : Int)))) := (sz.trans sm3).trans sm4
    have w4 := w2.same sAll
    have B4 := B.same sAll
    have o4 := o2.ft (M := []) (TT := TT) (FT.same sAll) w2.T0 (by simp) (by simp) (by simp)
    have hp4 := sAll _ _ hp2
    have hd4 := sAll _ _ hd2
    generalize upd G3 en_ (.lst ([V.int 0] ++ s2.ss.map fun t => V.int (t.at_ : Int))) = G4 at hen4 w4 B4 o4 hp4 hd4 ⊢
    refine nm ?_
    dsimp only [List.set]
    obtain ⟨rs1, rs2⟩ := ok2.rest
    refine ⟨_, rfl, _, _, rfl, B4.g_stream, _, rfl, _, rfl, _, _, _, _, rfl, rfl, .inl (.inl hen4), atI_back (ends_last s2.ss), _, rfl, _, _, rfl, B4.g_stream, _, _, rfl, (.inl (.inl (.inl B4.m))), _, _, rfl, rfl, _, _, rfl, _, rfl, _, _, rfl, .inl (.inl B4.m), fun lf hlf => ?_⟩
    have emx : (if ((s2.ms.map V.int).length : Int) - 10 > (lst48 s2.ss : Int) then ((s2.ms.map V.int).length : Int) - 10 else (lst48 s2.ss : Int)) = ((max (lst48 s2.ss) (s2.ms.length - 10) : Nat) : Int) := by
      rw [List.length_map]
      split <;> omega
    dsimp only at emx ⊢
    rw [emx, cut_tail (by omega), ← rs1]
    have sm5 := same_new (o := .lst ((rm s2.ms).map V.int)) hlf
    have w5 := w4.same sm5
    have o5 := o4.ft (M := []) (TT := TT) (FT.same sm5) w4.T0 (by simp) (by simp) (by simp)
    have hlf5 : (upd G4 lf (.lst ((rm s2.ms).map V.int))) lf = some (.lst ((rm s2.ms).map V.int)) := upd_same
    have hp5 := sm5 _ _ hp4
    have hd5 := sm5 _ _ hd4
    generalize upd G4 lf (.lst ((rm s2.ms).map V.int)) = G5 at hlf5 w5 o5 hp5 hd5 ⊢
    refine nm ?_
    dsimp only [List.set]
    have re5 := o5.re
    rw [q3, List.take_length] at re5
    refine ⟨_, rfl, _, _, _, rfl, hd5, rfl, _, rfl, D, dsl, Sg i, dx2, i, x2, (List.range n).map Sg, a', rm s2.ms, rfl, w5.DA, w5.stn hi, hp5, re5, fun l6 G6 hl6 hl6' sm6 => ?_⟩
    have w6 := w5.same sm6
    have o6 := o5.ft (M := []) (TT := TT) (FT.same sm6) w5.T0 (by simp) (by simp) (by simp)
    have hp6 := sm6 _ _ hp5
    have hd6 := sm6 _ _ hd5
    refine ⟨_, rfl, _, _, Dp.lst (.inl (.inl hl6')) (dpAll_int _), Dp.lst (.inl (.inl (sm6 _ _ hlf5))) (dpAll_int _), sh_li _, sh_li _, _, rfl, eqvN (can_li _) ?_⟩
    refine ⟨_, rfl, _, _, _, rfl, hd6, rfl, _, rfl, szOk rfl, fun l7 hl7 => ?_⟩
    have sm7 := same_new (o := .lst []) hl7
    have w7 := w6.same sm7
    have o7 := o6.ft (M := []) (TT := TT) (FT.same sm7) w6.T0 (by simp) (by simp) (by simp)
    have hp7 := sm7 _ _ hp6
    have hd7 := sm7 _ _ hd6
    have re7 := o7.re
    rw [q3, List.take_length] at re7
    have rl := rm_len s2.ms
    have okE := (ok2.of o q5).1
    refine ⟨D, dsl, l7, Sg i, dx2, i, x2, s2.err, (List.range n).map Sg, a', rm s2.ms, [], s2.E, rfl, w7.DA, w7.stn hi, w7.X_.ds i hi, hp7, re7, upd_same, ?_, by rw [List.append_nil]; omega, o7.RR, o7.bo, okE.sides, w7.T0, fun q8 re8 G8 hp8 hre8 L8 F8 => ?_⟩
    · rw [List.append_nil]
      exact rm_sub _ ok2.W.byte
    rw [List.append_nil] at hp8 hre8 L8
    rw [rd_short (by omega)] at hp8 L8
    rw [rm_short (by omega)] at hre8
    have L8 : LoT G8 q8 [] := by
      by_cases c : eR s2.err s2.E ≤ x2
      · rw [if_pos c] at L8; exact L8
      · rw [if_neg c] at L8; exact L8
    refine ⟨szOk rfl, fun q9 hq9 => ?_⟩
    have sm9 := same_new (o := .lst []) hq9
    refine ⟨_, _, (L8.same sm9).dp, Dp.lst (.inl (.inl upd_same)) .nil, sh_pds [], sh_pds [], _, rfl, eqvN (can_pds []) ?_⟩
    refine nxq ?_
    have hp8 : G8 (Sg i) = some (.ins CS dx2 (stf { a' with re := re8 })) := by
      rw [hp8]
      have : a'.mh + (if eR s2.err s2.E ≤ x2 then 0 else ((List.length ([] : List Fr) : Nat) : Int)) = a'.mh := by
        split
        · omega
        · show a'.mh + 0 = _
          omega
      rw [this]
      rfl
    have o8 : One CS G8 (Tf i) (Sg i) x2 r4 s2 { a' with re := re8 } := by
      obtain ⟨es9, sl9, ml9, ov9, y⟩ := o7.sn
      obtain ⟨kvs, e, _⟩ := id o7.RR
      refine { o7 with sn := ⟨es9, sl9, ml9, ov9, y.ft F8 w7.T0 (by simpa using dk_ins y.d hp7)⟩, ob := ⟨dx2, hp8⟩, RU := F8.ru w7.T0 o7.RU (by simpa using dk_ins e hp7), RR := F8.rr w7.T0 o7.RR (by simpa using dk_ins e hp7), bo := F8.t _ _ o7.bo, re := ?_ }
      rw [q3, List.take_length]
      exact hre8
    have w8 := w7.step hi (F8.sub (by simp)) o8 (by rw [fset_at])
    exact ⟨_, _, _, _, _, _, _, _, _, _, rfl, w8.same sm9⟩

end
end Sk

set_option Elab.async false
set_option linter.all false
set_option maxRecDepth 100000
set_option maxHeartbeats 4000000
namespace Sk
open PySem PySem.Spec PyProof.Rows L2
/-! the end -/
theorem all_mk {l : PySem.W.OpenLaw} {w : World} {K : PySem.W.Frag} {h : Heap} {mg : Str → Option Value} {fa CW C CS f1 f2 f3 f4 f5 f6 f7 f8 f9 f10 f11 f12 f13 f14 f15 f16 f17 f18 f19 f20 f21 f22 f23 f24 f25 f26 f27 f28 f29 f30 f31 f32 f33 f34 f35 f36 f37 f38 f39 f40 f41 f42 f43 f44 f45 f46 f47 f48 f49 f50 f51 f52 f53 f54 f55 f56 f57 f58 tc30 tp30 : Addr} (X : K.In h) (G : h.Ns mainGlobals mg) (hfa : mg "law" = some (.ref fa))
    {od1 an1 od2 an2 od3 an3 od4 an4 od5 an5 od6 an6 od7 an7 od8 an8 od9 an9 od10 an10 od11 an11 od12 an12 od13 an13 od14 an14 od15 an15 od16 an16 od17 an17 od18 an18 od19 an19 od20 an20 od21 an21 od22 an22 od23 an23 od24 an24 od25 an25 od26 an26 od27 an27 od28 an28 od29 an29 od30 an30 od31 an31 od32 an32 od33 an33 od34 an34 od35 an35 od36 an36 od37 an37 od38 an38 od39 an39 od40 an40 od41 an41 od42 an42 od43 an43 od44 an44 od45 an45 od46 an46 od47 an47 od48 an48 od49 an49 od50 an50 od51 an51 od52 an52 od53 an53 od54 an54 od55 an55 od56 an56 od57 an57 od58 an58 : Option Addr} {sl1 sl2 sl3 sl4 sl5 sl6 sl7 sl8 sl9 sl10 sl11 sl12 sl13 sl14 sl15 sl16 sl17 sl18 sl19 sl20 sl21 sl22 sl23 sl24 sl25 sl26 sl27 sl28 sl29 sl30 sl31 sl32 sl33 sl34 sl35 sl36 sl37 sl38 sl39 sl40 sl41 sl42 sl43 sl44 sl45 sl46 sl47 sl48 sl49 sl50 sl51 sl52 sl53 sl54 sl55 sl56 sl57 sl58 : Array (Option Value)} {oc1 kV1 dc1 pm1 ct1 cd1 oc2 kV2 dc2 pm2 ct2 cd2 oc3 kV3 dc3 pm3 ct3 cd3 oc4 kV4 dc4 pm4 ct4 cd4 oc5 kV5 dc5 pm5 ct5 cd5 oc6 kV6 dc6 pm6 ct6 cd6 oc7 kV7 dc7 pm7 ct7 cd7 oc8 kV8 dc8 pm8 ct8 cd8 oc9 kV9 dc9 pm9 ct9 cd9 oc10 kV10 dc10 pm10 ct10 cd10 oc11 kV11 dc11 pm11 ct11 cd11 oc12 kV12 dc12 pm12 ct12 cd12 oc13 kV13 dc13 pm13 ct13 cd13 oc14 kV14 dc14 pm14 ct14 cd14 oc15 kV15 dc15 pm15 ct15 cd15 oc16 kV16 dc16 pm16 ct16 cd16 oc17 kV17 dc17 pm17 ct17 cd17 oc18 kV18 dc18 pm18 ct18 cd18 oc19 kV19 dc19 pm19 ct19 cd19 oc20 kV20 dc20 pm20 ct20 cd20 oc21 kV21 dc21 pm21 ct21 cd21 oc22 kV22 dc22 pm22 ct22 cd22 oc23 kV23 dc23 pm23 ct23 cd23 oc24 kV24 dc24 pm24 ct24 cd24 oc25 kV25 dc25 pm25 ct25 cd25 oc26 kV26 dc26 pm26 ct26 cd26 oc27 kV27 dc27 pm27 ct27 cd27 oc28 kV28 dc28 pm28 ct28 cd28 oc29 kV29 dc29 pm29 ct29 cd29 oc30 kV30 dc30 pm30 ct30 oc31 kV31 dc31 pm31 ct31 cd31 oc32 kV32 dc32 pm32 ct32 cd32 oc33 kV33 dc33 pm33 ct33 cd33 oc34 kV34 dc34 pm34 ct34 cd34 oc35 kV35 dc35 pm35 ct35 cd35 oc36 kV36 dc36 pm36 ct36 cd36 oc37 kV37 dc37 pm37 ct37 cd37 oc38 kV38 dc38 pm38 ct38 cd38 oc39 kV39 dc39 pm39 ct39 cd39 oc40 kV40 dc40 pm40 ct40 cd40 oc41 kV41 dc41 pm41 ct41 cd41 oc42 kV42 dc42 pm42 ct42 cd42 oc43 kV43 dc43 pm43 ct43 cd43 oc44 kV44 dc44 pm44 ct44 cd44 oc45 kV45 dc45 pm45 ct45 cd45 oc46 kV46 dc46 pm46 ct46 cd46 oc47 kV47 dc47 pm47 ct47 cd47 oc48 kV48 dc48 pm48 ct48 cd48 oc49 kV49 dc49 pm49 ct49 cd49 oc50 kV50 dc50 pm50 ct50 cd50 oc51 kV51 dc51 pm51 ct51 cd51 oc52 kV52 dc52 pm52 ct52 cd52 oc53 kV53 dc53 pm53 ct53 cd53 oc54 kV54 dc54 pm54 ct54 cd54 oc55 kV55 dc55 pm55 ct55 cd55 oc56 kV56 dc56 pm56 ct56 cd56 oc57 kV57 dc57 pm57 ct57 cd57 oc58 kV58 dc58 pm58 ct58 cd58 ov30 : Value} {oo30 : Option Addr} {os30 : Array (Option Value)} {fv30 : Array Value}
    (aCCW : PySem.W.nsIn K mainGlobals "Desk" = some (some (.ref CW))) (pgCW : PySem.W.plainGet K CW Str.empty = true) (hdCW : PySem.W.hasDictIn K CW = true) (poCW : PySem.W.plainOver K CW = true) (saCW : PySem.W.findIn K (.ref CW) "__setattr__" = some (some (.builtin "object.__setattr__"))) (mkCW : PySem.W.makesIn K CW = true) (kcCW : PySem.W.keepIn K (.ref CW) = true)
    (nACW1 : PySem.W.findIn K (.ref CW) "_greatest_error" = some none) (nACW2 : PySem.W.findIn K (.ref CW) "_stations" = some none)
    (aCC : PySem.W.nsIn K mainGlobals "Path" = some (some (.ref C))) (pgC : PySem.W.plainGet K C Str.empty = true) (hdC : PySem.W.hasDictIn K C = true) (poC : PySem.W.plainOver K C = true) (saC : PySem.W.findIn K (.ref C) "__setattr__" = some (some (.builtin "object.__setattr__"))) (mkC : PySem.W.makesIn K C = true) (kcC : PySem.W.keepIn K (.ref C) = true)
    (nAC1 : PySem.W.findIn K (.ref C) "_route" = some none) (nAC2 : PySem.W.findIn K (.ref C) "_legs" = some none) (nAC3 : PySem.W.findIn K (.ref C) "_starts" = some none) (nAC4 : PySem.W.findIn K (.ref C) "_vectors" = some none) (nAC5 : PySem.W.findIn K (.ref C) "_begins" = some none)
    (aCCS : PySem.W.nsIn K mainGlobals "Station" = some (some (.ref CS))) (pgCS : PySem.W.plainGet K CS Str.empty = true) (hdCS : PySem.W.hasDictIn K CS = true) (poCS : PySem.W.plainOver K CS = true) (saCS : PySem.W.findIn K (.ref CS) "__setattr__" = some (some (.builtin "object.__setattr__"))) (mkCS : PySem.W.makesIn K CS = true) (kcCS : PySem.W.keepIn K (.ref CS) = true)
    (nACS1 : PySem.W.findIn K (.ref CS) "rules" = some none) (nACS2 : PySem.W.findIn K (.ref CS) "bounds" = some none) (nACS3 : PySem.W.findIn K (.ref CS) "rest" = some none) (nACS4 : PySem.W.findIn K (.ref CS) "last_count" = some none) (nACS5 : PySem.W.findIn K (.ref CS) "many_lost" = some none) (nACS6 : PySem.W.findIn K (.ref CS) "many_held_back" = some none)
    (a1 : PySem.W.nsIn K mainGlobals "_law_start" = some (some (.ref f1))) (l1 : K.lookup f1 = some ⟨oc1, od1, .func (PySem.W.fnOf "_law_start" "_law_start" (defArgs s_law_start) (defBody s_law_start) (defScope s_law_start) .none kV1 dc1 pm1 an1 cd1 ct1), sl1⟩) (c1 : PySem.W.codeIn K cd1 "_law_start" = true) (k1 : PySem.W.keepIn K (.ref f1) = true)
    (a2 : PySem.W.nsIn K mainGlobals "_law_draw" = some (some (.ref f2))) (l2 : K.lookup f2 = some ⟨oc2, od2, .func (PySem.W.fnOf "_law_draw" "_law_draw" (defArgs s_law_draw) (defBody s_law_draw) (defScope s_law_draw) .none kV2 dc2 pm2 an2 cd2 ct2), sl2⟩) (c2 : PySem.W.codeIn K cd2 "_law_draw" = true) (k2 : PySem.W.keepIn K (.ref f2) = true)
    (a3 : PySem.W.nsIn K mainGlobals "_law_pick" = some (some (.ref f3))) (l3 : K.lookup f3 = some ⟨oc3, od3, .func (PySem.W.fnOf "_law_pick" "_law_pick" (defArgs s_law_pick) (defBody s_law_pick) (defScope s_law_pick) .none kV3 dc3 pm3 an3 cd3 ct3), sl3⟩) (c3 : PySem.W.codeIn K cd3 "_law_pick" = true) (k3 : PySem.W.keepIn K (.ref f3) = true)
    (a4 : PySem.W.nsIn K mainGlobals "root_down" = some (some (.ref f4))) (l4 : K.lookup f4 = some ⟨oc4, od4, .func (PySem.W.fnOf "root_down" "root_down" (defArgs s_root_down) (defBody s_root_down) (defScope s_root_down) .none kV4 dc4 pm4 an4 cd4 ct4), sl4⟩) (c4 : PySem.W.codeIn K cd4 "root_down" = true) (k4 : PySem.W.keepIn K (.ref f4) = true)
    (a5 : PySem.W.nsIn K mainGlobals "root_up" = some (some (.ref f5))) (l5 : K.lookup f5 = some ⟨oc5, od5, .func (PySem.W.fnOf "root_up" "root_up" (defArgs s_root_up) (defBody s_root_up) (defScope s_root_up) .none kV5 dc5 pm5 an5 cd5 ct5), sl5⟩) (c5 : PySem.W.codeIn K cd5 "root_up" = true) (k5 : PySem.W.keepIn K (.ref f5) = true)
    (a6 : PySem.W.nsIn K mainGlobals "leg_length" = some (some (.ref f6))) (l6 : K.lookup f6 = some ⟨oc6, od6, .func (PySem.W.fnOf "leg_length" "leg_length" (defArgs s_leg_length) (defBody s_leg_length) (defScope s_leg_length) .none kV6 dc6 pm6 an6 cd6 ct6), sl6⟩) (c6 : PySem.W.codeIn K cd6 "leg_length" = true) (k6 : PySem.W.keepIn K (.ref f6) = true)
    (a7 : PySem.W.nsIn K mainGlobals "leg_between" = some (some (.ref f7))) (l7 : K.lookup f7 = some ⟨oc7, od7, .func (PySem.W.fnOf "leg_between" "leg_between" (defArgs s_leg_between) (defBody s_leg_between) (defScope s_leg_between) .none kV7 dc7 pm7 an7 cd7 ct7), sl7⟩) (c7 : PySem.W.codeIn K cd7 "leg_between" = true) (k7 : PySem.W.keepIn K (.ref f7) = true)
    (a8 : PySem.W.nsIn K mainGlobals "_law_is" = some (some (.ref f8))) (l8 : K.lookup f8 = some ⟨oc8, od8, .func (PySem.W.fnOf "_law_is" "_law_is" (defArgs s_law_is) (defBody s_law_is) (defScope s_law_is) .none kV8 dc8 pm8 an8 cd8 ct8), sl8⟩) (c8 : PySem.W.codeIn K cd8 "_law_is" = true) (k8 : PySem.W.keepIn K (.ref f8) = true)
    (a9 : PySem.W.nsIn K mainGlobals "_law_root_up" = some (some (.ref f9))) (l9 : K.lookup f9 = some ⟨oc9, od9, .func (PySem.W.fnOf "_law_root_up" "_law_root_up" (defArgs s_law_root_up) (defBody s_law_root_up) (defScope s_law_root_up) .none kV9 dc9 pm9 an9 cd9 ct9), sl9⟩) (c9 : PySem.W.codeIn K cd9 "_law_root_up" = true) (k9 : PySem.W.keepIn K (.ref f9) = true)
    (a10 : PySem.W.nsIn K mainGlobals "_law_names" = some (some (.ref f10))) (l10 : K.lookup f10 = some ⟨oc10, od10, .func (PySem.W.fnOf "_law_names" "_law_names" (defArgs s_law_names) (defBody s_law_names) (defScope s_law_names) .none kV10 dc10 pm10 an10 cd10 ct10), sl10⟩) (c10 : PySem.W.codeIn K cd10 "_law_names" = true) (k10 : PySem.W.keepIn K (.ref f10) = true)
    (a11 : PySem.W.nsIn K mainGlobals "_law_legs" = some (some (.ref f11))) (l11 : K.lookup f11 = some ⟨oc11, od11, .func (PySem.W.fnOf "_law_legs" "_law_legs" (defArgs s_law_legs) (defBody s_law_legs) (defScope s_law_legs) .none kV11 dc11 pm11 an11 cd11 ct11), sl11⟩) (c11 : PySem.W.codeIn K cd11 "_law_legs" = true) (k11 : PySem.W.keepIn K (.ref f11) = true)
    (a12 : PySem.W.nsIn K mainGlobals "_law_chart" = some (some (.ref f12))) (l12 : K.lookup f12 = some ⟨oc12, od12, .func (PySem.W.fnOf "_law_chart" "_law_chart" (defArgs s_law_chart) (defBody s_law_chart) (defScope s_law_chart) .none kV12 dc12 pm12 an12 cd12 ct12), sl12⟩) (c12 : PySem.W.codeIn K cd12 "_law_chart" = true) (k12 : PySem.W.keepIn K (.ref f12) = true)
    (a13 : PySem.W.nsIn K mainGlobals "_law_lengths" = some (some (.ref f13))) (l13 : K.lookup f13 = some ⟨oc13, od13, .func (PySem.W.fnOf "_law_lengths" "_law_lengths" (defArgs s_law_lengths) (defBody s_law_lengths) (defScope s_law_lengths) .none kV13 dc13 pm13 an13 cd13 ct13), sl13⟩) (c13 : PySem.W.codeIn K cd13 "_law_lengths" = true) (k13 : PySem.W.keepIn K (.ref f13) = true)
    (a14 : PySem.W.findIn K (.ref C) "total" = some (some (.ref f14))) (i14 : PySem.W.isFn K (.ref f14) = true) (l14 : K.lookup f14 = some ⟨oc14, od14, .func (PySem.W.fnOf "total" "Path.total" (defArgs s_Path_total) (defBody s_Path_total) (defScope s_Path_total) .none kV14 dc14 pm14 an14 cd14 ct14), sl14⟩) (c14 : PySem.W.codeIn K cd14 "Path.total" = true) (k14 : PySem.W.keepIn K (.ref f14) = true)
    (a15 : PySem.W.findIn K (.ref C) "leg_at" = some (some (.ref f15))) (i15 : PySem.W.isFn K (.ref f15) = true) (l15 : K.lookup f15 = some ⟨oc15, od15, .func (PySem.W.fnOf "leg_at" "Path.leg_at" (defArgs s_Path_leg_at) (defBody s_Path_leg_at) (defScope s_Path_leg_at) .none kV15 dc15 pm15 an15 cd15 ct15), sl15⟩) (c15 : PySem.W.codeIn K cd15 "Path.leg_at" = true) (k15 : PySem.W.keepIn K (.ref f15) = true)
    (a16 : PySem.W.findIn K (.ref C) "_point" = some (some (.ref f16))) (i16 : PySem.W.isFn K (.ref f16) = true) (l16 : K.lookup f16 = some ⟨oc16, od16, .func (PySem.W.fnOf "_point" "Path._point" (defArgs s_Path__point) (defBody s_Path__point) (defScope s_Path__point) .none kV16 dc16 pm16 an16 cd16 ct16), sl16⟩) (c16 : PySem.W.codeIn K cd16 "Path._point" = true) (k16 : PySem.W.keepIn K (.ref f16) = true)
    (a17 : PySem.W.findIn K (.ref C) "_segment" = some (some (.ref f17))) (i17 : PySem.W.isFn K (.ref f17) = true) (l17 : K.lookup f17 = some ⟨oc17, od17, .func (PySem.W.fnOf "_segment" "Path._segment" (defArgs s_Path__segment) (defBody s_Path__segment) (defScope s_Path__segment) .none kV17 dc17 pm17 an17 cd17 ct17), sl17⟩) (c17 : PySem.W.codeIn K cd17 "Path._segment" = true) (k17 : PySem.W.keepIn K (.ref f17) = true)
    (a18 : PySem.W.findIn K (.ref C) "_segments" = some (some (.ref f18))) (i18 : PySem.W.isFn K (.ref f18) = true) (l18 : K.lookup f18 = some ⟨oc18, od18, .func (PySem.W.fnOf "_segments" "Path._segments" (defArgs s_Path__segments) (defBody s_Path__segments) (defScope s_Path__segments) .none kV18 dc18 pm18 an18 cd18 ct18), sl18⟩) (c18 : PySem.W.codeIn K cd18 "Path._segments" = true) (k18 : PySem.W.keepIn K (.ref f18) = true)
    (a19 : PySem.W.findIn K (.ref C) "piece" = some (some (.ref f19))) (i19 : PySem.W.isFn K (.ref f19) = true) (l19 : K.lookup f19 = some ⟨oc19, od19, .func (PySem.W.fnOf "piece" "Path.piece" (defArgs s_Path_piece) (defBody s_Path_piece) (defScope s_Path_piece) .none kV19 dc19 pm19 an19 cd19 ct19), sl19⟩) (c19 : PySem.W.codeIn K cd19 "Path.piece" = true) (k19 : PySem.W.keepIn K (.ref f19) = true)
    (a20 : PySem.W.findIn K (.ref C) "_join" = some (some (.ref f20))) (i20 : PySem.W.isFn K (.ref f20) = true) (l20 : K.lookup f20 = some ⟨oc20, od20, .func (PySem.W.fnOf "_join" "Path._join" (defArgs s_Path__join) (defBody s_Path__join) (defScope s_Path__join) .none kV20 dc20 pm20 an20 cd20 ct20), sl20⟩) (c20 : PySem.W.codeIn K cd20 "Path._join" = true) (k20 : PySem.W.keepIn K (.ref f20) = true)
    (a21 : PySem.W.findIn K (.ref C) "__init__" = some (some (.ref f21))) (i21 : PySem.W.isFn K (.ref f21) = true) (l21 : K.lookup f21 = some ⟨oc21, od21, .func (PySem.W.fnOf "__init__" "Path.__init__" (defArgs s_Path___init__) (defBody s_Path___init__) (defScope s_Path___init__) .none kV21 dc21 pm21 an21 cd21 ct21), sl21⟩) (c21 : PySem.W.codeIn K cd21 "Path.__init__" = true) (k21 : PySem.W.keepIn K (.ref f21) = true)
    (a22 : PySem.W.nsIn K mainGlobals "_law_begins" = some (some (.ref f22))) (l22 : K.lookup f22 = some ⟨oc22, od22, .func (PySem.W.fnOf "_law_begins" "_law_begins" (defArgs s_law_begins) (defBody s_law_begins) (defScope s_law_begins) .none kV22 dc22 pm22 an22 cd22 ct22), sl22⟩) (c22 : PySem.W.codeIn K cd22 "_law_begins" = true) (k22 : PySem.W.keepIn K (.ref f22) = true)
    (a23 : PySem.W.nsIn K mainGlobals "_law_leg_at" = some (some (.ref f23))) (l23 : K.lookup f23 = some ⟨oc23, od23, .func (PySem.W.fnOf "_law_leg_at" "_law_leg_at" (defArgs s_law_leg_at) (defBody s_law_leg_at) (defScope s_law_leg_at) .none kV23 dc23 pm23 an23 cd23 ct23), sl23⟩) (c23 : PySem.W.codeIn K cd23 "_law_leg_at" = true) (k23 : PySem.W.keepIn K (.ref f23) = true)
    (a24 : PySem.W.nsIn K mainGlobals "_law_place_on" = some (some (.ref f24))) (l24 : K.lookup f24 = some ⟨oc24, od24, .func (PySem.W.fnOf "_law_place_on" "_law_place_on" (defArgs s_law_place_on) (defBody s_law_place_on) (defScope s_law_place_on) .none kV24 dc24 pm24 an24 cd24 ct24), sl24⟩) (c24 : PySem.W.codeIn K cd24 "_law_place_on" = true) (k24 : PySem.W.keepIn K (.ref f24) = true)
    (a25 : PySem.W.nsIn K mainGlobals "_law_piece" = some (some (.ref f25))) (l25 : K.lookup f25 = some ⟨oc25, od25, .func (PySem.W.fnOf "_law_piece" "_law_piece" (defArgs s_law_piece) (defBody s_law_piece) (defScope s_law_piece) .none kV25 dc25 pm25 an25 cd25 ct25), sl25⟩) (c25 : PySem.W.codeIn K cd25 "_law_piece" = true) (k25 : PySem.W.keepIn K (.ref f25) = true)
    (a26 : PySem.W.nsIn K mainGlobals "_law_small_chart" = some (some (.ref f26))) (l26 : K.lookup f26 = some ⟨oc26, od26, .func (PySem.W.fnOf "_law_small_chart" "_law_small_chart" (defArgs s_law_small_chart) (defBody s_law_small_chart) (defScope s_law_small_chart) .none kV26 dc26 pm26 an26 cd26 ct26), sl26⟩) (c26 : PySem.W.codeIn K cd26 "_law_small_chart" = true) (k26 : PySem.W.keepIn K (.ref f26) = true)
    (a27 : PySem.W.nsIn K mainGlobals "_law_rules" = some (some (.ref f27))) (l27 : K.lookup f27 = some ⟨oc27, od27, .func (PySem.W.fnOf "_law_rules" "_law_rules" (defArgs s_law_rules) (defBody s_law_rules) (defScope s_law_rules) .none kV27 dc27 pm27 an27 cd27 ct27), sl27⟩) (c27 : PySem.W.codeIn K cd27 "_law_rules" = true) (k27 : PySem.W.keepIn K (.ref f27) = true)
    (a28 : PySem.W.nsIn K mainGlobals "_firsts" = some (some (.ref f28))) (l28 : K.lookup f28 = some ⟨oc28, od28, .func (PySem.W.fnOf "_firsts" "_firsts" (defArgs s_firsts) (defBody s_firsts) (defScope s_firsts) .none kV28 dc28 pm28 an28 cd28 ct28), sl28⟩) (c28 : PySem.W.codeIn K cd28 "_firsts" = true) (k28 : PySem.W.keepIn K (.ref f28) = true)
    (a29 : PySem.W.nsIn K mainGlobals "_seconds" = some (some (.ref f29))) (l29 : K.lookup f29 = some ⟨oc29, od29, .func (PySem.W.fnOf "_seconds" "_seconds" (defArgs s_seconds) (defBody s_seconds) (defScope s_seconds) .none kV29 dc29 pm29 an29 cd29 ct29), sl29⟩) (c29 : PySem.W.codeIn K cd29 "_seconds" = true) (k29 : PySem.W.keepIn K (.ref f29) = true)
    (a30 : PySem.W.nsIn K mainGlobals "_narrowed_range" = some (some (.ref f30))) (l30 : K.lookup f30 = some ⟨oc30, od30, .func (PySem.W.fnOf "_narrowed_range" "_narrowed_range" (defArgs s_narrowed_range) (defBody s_narrowed_range) (defScope s_narrowed_range) .none kV30 dc30 pm30 an30 (.ref tc30) ct30), sl30⟩) (c30 : PySem.W.codeIn K (.ref tc30) "_narrowed_range" = true) (k30 : PySem.W.keepIn K (.ref f30) = true)
    (lc30 : K.lookup tc30 = some ⟨ov30, oo30, .fields fv30, os30⟩) (hv30 : fv30[11]? = some (.ref tp30)) (np30 : K.lookup tp30 = none) (w30 : PySem.W.CodeHd h tc30 tp30 ∧ h.get? tp30 = some { cls := .none, data := .fields #[] })
    (a31 : PySem.W.nsIn K mainGlobals "corrected" = some (some (.ref f31))) (l31 : K.lookup f31 = some ⟨oc31, od31, .func (PySem.W.fnOf "corrected" "corrected" (defArgs s_corrected) (defBody s_corrected) (defScope s_corrected) .none kV31 dc31 pm31 an31 cd31 ct31), sl31⟩) (c31 : PySem.W.codeIn K cd31 "corrected" = true) (k31 : PySem.W.keepIn K (.ref f31) = true)
    (a32 : PySem.W.nsIn K mainGlobals "narrowed" = some (some (.ref f32))) (l32 : K.lookup f32 = some ⟨oc32, od32, .func (PySem.W.fnOf "narrowed" "narrowed" (defArgs s_narrowed) (defBody s_narrowed) (defScope s_narrowed) .none kV32 dc32 pm32 an32 cd32 ct32), sl32⟩) (c32 : PySem.W.codeIn K cd32 "narrowed" = true) (k32 : PySem.W.keepIn K (.ref f32) = true)
    (a33 : PySem.W.nsIn K mainGlobals "_law_narrowed" = some (some (.ref f33))) (l33 : K.lookup f33 = some ⟨oc33, od33, .func (PySem.W.fnOf "_law_narrowed" "_law_narrowed" (defArgs s_law_narrowed) (defBody s_law_narrowed) (defScope s_law_narrowed) .none kV33 dc33 pm33 an33 cd33 ct33), sl33⟩) (c33 : PySem.W.codeIn K cd33 "_law_narrowed" = true) (k33 : PySem.W.keepIn K (.ref f33) = true)
    (a34 : PySem.W.nsIn K mainGlobals "_number_of" = some (some (.ref f34))) (l34 : K.lookup f34 = some ⟨oc34, od34, .func (PySem.W.fnOf "_number_of" "_number_of" (defArgs s_number_of) (defBody s_number_of) (defScope s_number_of) .none kV34 dc34 pm34 an34 cd34 ct34), sl34⟩) (c34 : PySem.W.codeIn K cd34 "_number_of" = true) (k34 : PySem.W.keepIn K (.ref f34) = true)
    (a35 : PySem.W.nsIn K mainGlobals "_is_frame" = some (some (.ref f35))) (l35 : K.lookup f35 = some ⟨oc35, od35, .func (PySem.W.fnOf "_is_frame" "_is_frame" (defArgs s_is_frame) (defBody s_is_frame) (defScope s_is_frame) .none kV35 dc35 pm35 an35 cd35 ct35), sl35⟩) (c35 : PySem.W.codeIn K cd35 "_is_frame" = true) (k35 : PySem.W.keepIn K (.ref f35) = true)
    (a36 : PySem.W.nsIn K mainGlobals "_content_of" = some (some (.ref f36))) (l36 : K.lookup f36 = some ⟨oc36, od36, .func (PySem.W.fnOf "_content_of" "_content_of" (defArgs s_content_of) (defBody s_content_of) (defScope s_content_of) .none kV36 dc36 pm36 an36 cd36 ct36), sl36⟩) (c36 : PySem.W.codeIn K cd36 "_content_of" = true) (k36 : PySem.W.keepIn K (.ref f36) = true)
    (a37 : PySem.W.nsIn K mainGlobals "frames_and_rest" = some (some (.ref f37))) (l37 : K.lookup f37 = some ⟨oc37, od37, .func (PySem.W.fnOf "frames_and_rest" "frames_and_rest" (defArgs s_frames_and_rest) (defBody s_frames_and_rest) (defScope s_frames_and_rest) .none kV37 dc37 pm37 an37 cd37 ct37), sl37⟩) (c37 : PySem.W.codeIn K cd37 "frames_and_rest" = true) (k37 : PySem.W.keepIn K (.ref f37) = true)
    (a38 : PySem.W.nsIn K mainGlobals "_law_frame" = some (some (.ref f38))) (l38 : K.lookup f38 = some ⟨oc38, od38, .func (PySem.W.fnOf "_law_frame" "_law_frame" (defArgs s_law_frame) (defBody s_law_frame) (defScope s_law_frame) .none kV38 dc38 pm38 an38 cd38 ct38), sl38⟩) (c38 : PySem.W.codeIn K cd38 "_law_frame" = true) (k38 : PySem.W.keepIn K (.ref f38) = true)
    (a39 : PySem.W.nsIn K mainGlobals "_law_noise" = some (some (.ref f39))) (l39 : K.lookup f39 = some ⟨oc39, od39, .func (PySem.W.fnOf "_law_noise" "_law_noise" (defArgs s_law_noise) (defBody s_law_noise) (defScope s_law_noise) .none kV39 dc39 pm39 an39 cd39 ct39), sl39⟩) (c39 : PySem.W.codeIn K cd39 "_law_noise" = true) (k39 : PySem.W.keepIn K (.ref f39) = true)
    (a40 : PySem.W.nsIn K mainGlobals "_law_vector" = some (some (.ref f40))) (l40 : K.lookup f40 = some ⟨oc40, od40, .func (PySem.W.fnOf "_law_vector" "_law_vector" (defArgs s_law_vector) (defBody s_law_vector) (defScope s_law_vector) .none kV40 dc40 pm40 an40 cd40 ct40), sl40⟩) (c40 : PySem.W.codeIn K cd40 "_law_vector" = true) (k40 : PySem.W.keepIn K (.ref f40) = true)
    (a41 : PySem.W.nsIn K mainGlobals "decode" = some (some (.ref f41))) (l41 : K.lookup f41 = some ⟨oc41, od41, .func (PySem.W.fnOf "decode" "decode" (defArgs s_decode) (defBody s_decode) (defScope s_decode) .none kV41 dc41 pm41 an41 cd41 ct41), sl41⟩) (c41 : PySem.W.codeIn K cd41 "decode" = true) (k41 : PySem.W.keepIn K (.ref f41) = true)
    (a42 : PySem.W.findIn K (.ref CS) "__init__" = some (some (.ref f42))) (i42 : PySem.W.isFn K (.ref f42) = true) (l42 : K.lookup f42 = some ⟨oc42, od42, .func (PySem.W.fnOf "__init__" "Station.__init__" (defArgs s_Station___init__) (defBody s_Station___init__) (defScope s_Station___init__) .none kV42 dc42 pm42 an42 cd42 ct42), sl42⟩) (c42 : PySem.W.codeIn K cd42 "Station.__init__" = true) (k42 : PySem.W.keepIn K (.ref f42) = true)
    (a43 : PySem.W.findIn K (.ref CS) "_note" = some (some (.ref f43))) (i43 : PySem.W.isFn K (.ref f43) = true) (l43 : K.lookup f43 = some ⟨oc43, od43, .func (PySem.W.fnOf "_note" "Station._note" (defArgs s_Station__note) (defBody s_Station__note) (defScope s_Station__note) .none kV43 dc43 pm43 an43 cd43 ct43), sl43⟩) (c43 : PySem.W.codeIn K cd43 "Station._note" = true) (k43 : PySem.W.keepIn K (.ref f43) = true)
    (a44 : PySem.W.findIn K (.ref CS) "read" = some (some (.ref f44))) (i44 : PySem.W.isFn K (.ref f44) = true) (l44 : K.lookup f44 = some ⟨oc44, od44, .func (PySem.W.fnOf "read" "Station.read" (defArgs s_Station_read) (defBody s_Station_read) (defScope s_Station_read) .none kV44 dc44 pm44 an44 cd44 ct44), sl44⟩) (c44 : PySem.W.codeIn K cd44 "Station.read" = true) (k44 : PySem.W.keepIn K (.ref f44) = true)
    (a45 : PySem.W.findIn K (.ref CW) "estimate" = some (some (.ref f45))) (i45 : PySem.W.isFn K (.ref f45) = true) (l45 : K.lookup f45 = some ⟨oc45, od45, .func (PySem.W.fnOf "estimate" "Desk.estimate" (defArgs s_Desk_estimate) (defBody s_Desk_estimate) (defScope s_Desk_estimate) .none kV45 dc45 pm45 an45 cd45 ct45), sl45⟩) (c45 : PySem.W.codeIn K cd45 "Desk.estimate" = true) (k45 : PySem.W.keepIn K (.ref f45) = true)
    (a46 : PySem.W.findIn K (.ref CW) "lost" = some (some (.ref f46))) (i46 : PySem.W.isFn K (.ref f46) = true) (l46 : K.lookup f46 = some ⟨oc46, od46, .func (PySem.W.fnOf "lost" "Desk.lost" (defArgs s_Desk_lost) (defBody s_Desk_lost) (defScope s_Desk_lost) .none kV46 dc46 pm46 an46 cd46 ct46), sl46⟩) (c46 : PySem.W.codeIn K cd46 "Desk.lost" = true) (k46 : PySem.W.keepIn K (.ref f46) = true)
    (a47 : PySem.W.findIn K (.ref CW) "held_back" = some (some (.ref f47))) (i47 : PySem.W.isFn K (.ref f47) = true) (l47 : K.lookup f47 = some ⟨oc47, od47, .func (PySem.W.fnOf "held_back" "Desk.held_back" (defArgs s_Desk_held_back) (defBody s_Desk_held_back) (defScope s_Desk_held_back) .none kV47 dc47 pm47 an47 cd47 ct47), sl47⟩) (c47 : PySem.W.codeIn K cd47 "Desk.held_back" = true) (k47 : PySem.W.keepIn K (.ref f47) = true)
    (a48 : PySem.W.findIn K (.ref CW) "left" = some (some (.ref f48))) (i48 : PySem.W.isFn K (.ref f48) = true) (l48 : K.lookup f48 = some ⟨oc48, od48, .func (PySem.W.fnOf "left" "Desk.left" (defArgs s_Desk_left) (defBody s_Desk_left) (defScope s_Desk_left) .none kV48 dc48 pm48 an48 cd48 ct48), sl48⟩) (c48 : PySem.W.codeIn K cd48 "Desk.left" = true) (k48 : PySem.W.keepIn K (.ref f48) = true)
    (a49 : PySem.W.findIn K (.ref CW) "learn" = some (some (.ref f49))) (i49 : PySem.W.isFn K (.ref f49) = true) (l49 : K.lookup f49 = some ⟨oc49, od49, .func (PySem.W.fnOf "learn" "Desk.learn" (defArgs s_Desk_learn) (defBody s_Desk_learn) (defScope s_Desk_learn) .none kV49 dc49 pm49 an49 cd49 ct49), sl49⟩) (c49 : PySem.W.codeIn K cd49 "Desk.learn" = true) (k49 : PySem.W.keepIn K (.ref f49) = true)
    (a50 : PySem.W.findIn K (.ref CW) "receive" = some (some (.ref f50))) (i50 : PySem.W.isFn K (.ref f50) = true) (l50 : K.lookup f50 = some ⟨oc50, od50, .func (PySem.W.fnOf "receive" "Desk.receive" (defArgs s_Desk_receive) (defBody s_Desk_receive) (defScope s_Desk_receive) .none kV50 dc50 pm50 an50 cd50 ct50), sl50⟩) (c50 : PySem.W.codeIn K cd50 "Desk.receive" = true) (k50 : PySem.W.keepIn K (.ref f50) = true)
    (a51 : PySem.W.findIn K (.ref CW) "__init__" = some (some (.ref f51))) (i51 : PySem.W.isFn K (.ref f51) = true) (l51 : K.lookup f51 = some ⟨oc51, od51, .func (PySem.W.fnOf "__init__" "Desk.__init__" (defArgs s_Desk___init__) (defBody s_Desk___init__) (defScope s_Desk___init__) .none kV51 dc51 pm51 an51 cd51 ct51), sl51⟩) (c51 : PySem.W.codeIn K cd51 "Desk.__init__" = true) (k51 : PySem.W.keepIn K (.ref f51) = true)
    (a52 : PySem.W.nsIn K mainGlobals "_law_code" = some (some (.ref f52))) (l52 : K.lookup f52 = some ⟨oc52, od52, .func (PySem.W.fnOf "_law_code" "_law_code" (defArgs s_law_code) (defBody s_law_code) (defScope s_law_code) .none kV52 dc52 pm52 an52 cd52 ct52), sl52⟩) (c52 : PySem.W.codeIn K cd52 "_law_code" = true) (k52 : PySem.W.keepIn K (.ref f52) = true)
    (a53 : PySem.W.nsIn K mainGlobals "_law_walk_one" = some (some (.ref f53))) (l53 : K.lookup f53 = some ⟨oc53, od53, .func (PySem.W.fnOf "_law_walk_one" "_law_walk_one" (defArgs s_law_walk_one) (defBody s_law_walk_one) (defScope s_law_walk_one) .none kV53 dc53 pm53 an53 cd53 ct53), sl53⟩) (c53 : PySem.W.codeIn K cd53 "_law_walk_one" = true) (k53 : PySem.W.keepIn K (.ref f53) = true)
    (a54 : PySem.W.nsIn K mainGlobals "_law_station" = some (some (.ref f54))) (l54 : K.lookup f54 = some ⟨oc54, od54, .func (PySem.W.fnOf "_law_station" "_law_station" (defArgs s_law_station) (defBody s_law_station) (defScope s_law_station) .none kV54 dc54 pm54 an54 cd54 ct54), sl54⟩) (c54 : PySem.W.codeIn K cd54 "_law_station" = true) (k54 : PySem.W.keepIn K (.ref f54) = true)
    (a55 : PySem.W.nsIn K mainGlobals "_law_due" = some (some (.ref f55))) (l55 : K.lookup f55 = some ⟨oc55, od55, .func (PySem.W.fnOf "_law_due" "_law_due" (defArgs s_law_due) (defBody s_law_due) (defScope s_law_due) .none kV55 dc55 pm55 an55 cd55 ct55), sl55⟩) (c55 : PySem.W.codeIn K cd55 "_law_due" = true) (k55 : PySem.W.keepIn K (.ref f55) = true)
    (a56 : PySem.W.nsIn K mainGlobals "_law_received" = some (some (.ref f56))) (l56 : K.lookup f56 = some ⟨oc56, od56, .func (PySem.W.fnOf "_law_received" "_law_received" (defArgs s_law_received) (defBody s_law_received) (defScope s_law_received) .none kV56 dc56 pm56 an56 cd56 ct56), sl56⟩) (c56 : PySem.W.codeIn K cd56 "_law_received" = true) (k56 : PySem.W.keepIn K (.ref f56) = true)
    (a57 : PySem.W.nsIn K mainGlobals "_law_learned" = some (some (.ref f57))) (l57 : K.lookup f57 = some ⟨oc57, od57, .func (PySem.W.fnOf "_law_learned" "_law_learned" (defArgs s_law_learned) (defBody s_law_learned) (defScope s_law_learned) .none kV57 dc57 pm57 an57 cd57 ct57), sl57⟩) (c57 : PySem.W.codeIn K cd57 "_law_learned" = true) (k57 : PySem.W.keepIn K (.ref f57) = true)
    (a58 : PySem.W.nsIn K mainGlobals "law" = some (some (.ref f58))) (l58 : K.lookup f58 = some ⟨oc58, od58, .func (PySem.W.fnOf "law" "law" (defArgs s_law) (defBody s_law) (defScope s_law) .none kV58 dc58 pm58 an58 cd58 ct58), sl58⟩) (c58 : PySem.W.codeIn K cd58 "law" = true) (k58 : PySem.W.keepIn K (.ref f58) = true)
    (z1 : PySem.W.nsIn K mainGlobals "abs" = some none) (z2 : PySem.W.nsIn K mainGlobals "int" = some none) (z3 : PySem.W.nsIn K mainGlobals "len" = some none) (z4 : PySem.W.nsIn K mainGlobals "bool" = some none) (z5 : PySem.W.nsIn K mainGlobals "isinstance" = some none) (z6 : PySem.W.nsIn K mainGlobals "max" = some none) (z7 : PySem.W.nsIn K mainGlobals "min" = some none) (z8 : PySem.W.nsIn K mainGlobals "range" = some none) (z9 : PySem.W.nsIn K mainGlobals "tuple" = some none) (z10 : PySem.W.nsIn K mainGlobals "list" = some none) (z11 : PySem.W.nsIn K mainGlobals "sum" = some none) (z12 : PySem.W.nsIn K mainGlobals "any" = some none) (z13 : PySem.W.nsIn K mainGlobals "all" = some none) (z14 : PySem.W.nsIn K mainGlobals "sorted" = some none) (z15 : PySem.W.nsIn K mainGlobals "dict" = some none) (z16 : PySem.W.nsIn K mainGlobals "enumerate" = some none) (yq : PySem.W.nsIn K mainGlobals "isqrt" = some (some (.builtin "math.isqrt"))) (yz : PySem.W.nsIn K mainGlobals "zip" = some none) {tg1 : Tok} (g1 : PySem.W.nsIn K mainGlobals "COUNTS" = some (some (.int (256) tg1))) {tg2 : Tok} (g2 : PySem.W.nsIn K mainGlobals "HALF" = some (some (.int (8388608) tg2))) {tg3 : Tok} (g3 : PySem.W.nsIn K mainGlobals "HALF_HEIGHT" = some (some (.int (32768) tg3))) {tg4 : Tok} (g4 : PySem.W.nsIn K mainGlobals "LOWEST_HEIGHT" = some (some (.int (-1000) tg4))) {tg5 : Tok} (g5 : PySem.W.nsIn K mainGlobals "MARK" = some (some (.int (170) tg5))) {tg6 : Tok} (g6 : PySem.W.nsIn K mainGlobals "MODULUS" = some (some (.int (251) tg6))) {tg7 : Tok} (g7 : PySem.W.nsIn K mainGlobals "SIZE" = some (some (.int (11) tg7))) :
    LamX.LawAtS l w K CX0 9 63 "script" mg fa h := by
  have e := hfa.symm.trans (PySem.W.mg_of X G a58)
  cases e
  have F1 := fun_mk (st := s_law_start) l1 c1 k1
  have F2 := fun_mk (st := s_law_draw) l2 c2 k2
  have F3 := fun_mk (st := s_law_pick) l3 c3 k3
  have F4 := fun_mk (st := s_root_down) l4 c4 k4
  have F5 := fun_mk (st := s_root_up) l5 c5 k5
  have F6 := fun_mk (st := s_leg_length) l6 c6 k6
  have F7 := fun_mk (st := s_leg_between) l7 c7 k7
  have F8 := fun_mk (st := s_law_is) l8 c8 k8
  have F9 := fun_mk (st := s_law_root_up) l9 c9 k9
  have F10 := fun_mk (st := s_law_names) l10 c10 k10
  have F11 := fun_mk (st := s_law_legs) l11 c11 k11
  have F12 := fun_mk (st := s_law_chart) l12 c12 k12
  have F13 := fun_mk (st := s_law_lengths) l13 c13 k13
  have F14 := fun_mk (st := s_Path_total) l14 c14 k14
  have F15 := fun_mk (st := s_Path_leg_at) l15 c15 k15
  have F16 := fun_mk (st := s_Path__point) l16 c16 k16
  have F17 := fun_mk (st := s_Path__segment) l17 c17 k17
  have F18 := fun_mk (st := s_Path__segments) l18 c18 k18
  have F19 := fun_mk (st := s_Path_piece) l19 c19 k19
  have F20 := fun_mk (st := s_Path__join) l20 c20 k20
  have F21 := fun_mk (st := s_Path___init__) l21 c21 k21
  have F22 := fun_mk (st := s_law_begins) l22 c22 k22
  have F23 := fun_mk (st := s_law_leg_at) l23 c23 k23
  have F24 := fun_mk (st := s_law_place_on) l24 c24 k24
  have F25 := fun_mk (st := s_law_piece) l25 c25 k25
  have F26 := fun_mk (st := s_law_small_chart) l26 c26 k26
  have F27 := fun_mk (st := s_law_rules) l27 c27 k27
  have F28 := fun_mk (st := s_firsts) l28 c28 k28
  have F29 := fun_mk (st := s_seconds) l29 c29 k29
  have F30 := fun_mk (st := s_narrowed_range) l30 c30 k30
  have F31 := fun_mk (st := s_corrected) l31 c31 k31
  have F32 := fun_mk (st := s_narrowed) l32 c32 k32
  have F33 := fun_mk (st := s_law_narrowed) l33 c33 k33
  have F34 := fun_mk (st := s_number_of) l34 c34 k34
  have F35 := fun_mk (st := s_is_frame) l35 c35 k35
  have F36 := fun_mk (st := s_content_of) l36 c36 k36
  have F37 := fun_mk (st := s_frames_and_rest) l37 c37 k37
  have F38 := fun_mk (st := s_law_frame) l38 c38 k38
  have F39 := fun_mk (st := s_law_noise) l39 c39 k39
  have F40 := fun_mk (st := s_law_vector) l40 c40 k40
  have F41 := fun_mk (st := s_decode) l41 c41 k41
  have F42 := fun_mk (st := s_Station___init__) l42 c42 k42
  have F43 := fun_mk (st := s_Station__note) l43 c43 k43
  have F44 := fun_mk (st := s_Station_read) l44 c44 k44
  have F45 := fun_mk (st := s_Desk_estimate) l45 c45 k45
  have F46 := fun_mk (st := s_Desk_lost) l46 c46 k46
  have F47 := fun_mk (st := s_Desk_held_back) l47 c47 k47
  have F48 := fun_mk (st := s_Desk_left) l48 c48 k48
  have F49 := fun_mk (st := s_Desk_learn) l49 c49 k49
  have F50 := fun_mk (st := s_Desk_receive) l50 c50 k50
  have F51 := fun_mk (st := s_Desk___init__) l51 c51 k51
  have F52 := fun_mk (st := s_law_code) l52 c52 k52
  have F53 := fun_mk (st := s_law_walk_one) l53 c53 k53
  have F54 := fun_mk (st := s_law_station) l54 c54 k54
  have F55 := fun_mk (st := s_law_due) l55 c55 k55
  have F56 := fun_mk (st := s_law_received) l56 c56 k56
  have F57 := fun_mk (st := s_law_learned) l57 c57 k57
  have F58 := fun_mk (st := s_law) l58 c58 k58
  have b1 := F1.binds (ps := ["script"]) fun _ _ _ _ _ _ us hl => match us, hl with | [_], _ => rfl
  have b2 := F2.binds (ps := ["state", "bound"]) fun _ _ _ _ _ _ us hl => match us, hl with | [_, _], _ => rfl
  have b3 := F3.binds (ps := ["state", "things"]) fun _ _ _ _ _ _ us hl => match us, hl with | [_, _], _ => rfl
  have b4 := F4.binds (ps := ["n"]) fun _ _ _ _ _ _ us hl => match us, hl with | [_], _ => rfl
  have b5 := F5.binds (ps := ["n"]) fun _ _ _ _ _ _ us hl => match us, hl with | [_], _ => rfl
  have b6 := F6.binds (ps := ["chart", "start", "end"]) fun _ _ _ _ _ _ us hl => match us, hl with | [_, _, _], _ => rfl
  have b7 := F7.binds (ps := ["chart", "start", "end"]) fun _ _ _ _ _ _ us hl => match us, hl with | [_, _, _], _ => rfl
  have b8 := F8.binds (ps := ["actual", "due"]) fun _ _ _ _ _ _ us hl => match us, hl with | [_, _], _ => rfl
  have b9 := F9.binds (ps := ["n"]) fun _ _ _ _ _ _ us hl => match us, hl with | [_], _ => rfl
  have b10 := F10.binds (ps := ["state", "many"]) fun _ _ _ _ _ _ us hl => match us, hl with | [_, _], _ => rfl
  have b11 := F11.binds (ps := ["state", "names"]) fun _ _ _ _ _ _ us hl => match us, hl with | [_, _], _ => rfl
  have b12 := F12.binds (ps := ["state", "many", "size"]) fun _ _ _ _ _ _ us hl => match us, hl with | [_, _, _], _ => rfl
  have b13 := F13.binds (ps := ["chart"]) fun _ _ _ _ _ _ us hl => match us, hl with | [_], _ => rfl
  have b14 := F14.binds (ps := ["self"]) fun _ _ _ _ _ _ us hl => match us, hl with | [_], _ => rfl
  have b15 := F15.binds (ps := ["self", "progress"]) fun _ _ _ _ _ _ us hl => match us, hl with | [_, _], _ => rfl
  have b16 := F16.binds (ps := ["self", "index", "progress"]) fun _ _ _ _ _ _ us hl => match us, hl with | [_, _, _], _ => rfl
  have b17 := F17.binds (ps := ["self", "index", "start", "end"]) fun _ _ _ _ _ _ us hl => match us, hl with | [_, _, _, _], _ => rfl
  have b18 := F18.binds (ps := ["self", "first", "last"]) fun _ _ _ _ _ _ us hl => match us, hl with | [_, _, _], _ => rfl
  have b19 := F19.binds (ps := ["self", "low", "high"]) fun _ _ _ _ _ _ us hl => match us, hl with | [_, _, _], _ => rfl
  have b20 := F20.binds (ps := ["self", "chart", "start", "end"]) fun _ _ _ _ _ _ us hl => match us, hl with | [_, _, _, _], _ => rfl
  have b21 := F21.binds (ps := ["self", "chart", "route"]) fun _ _ _ _ _ _ us hl => match us, hl with | [_, _, _], _ => rfl
  have b22 := F22.binds (ps := ["lengths", "route"]) fun _ _ _ _ _ _ us hl => match us, hl with | [_, _], _ => rfl
  have b23 := F23.binds (ps := ["begins", "progress"]) fun _ _ _ _ _ _ us hl => match us, hl with | [_, _], _ => rfl
  have b24 := F24.binds (ps := ["chart", "route", "begins", "k", "progress"]) fun _ _ _ _ _ _ us hl => match us, hl with | [_, _, _, _, _], _ => rfl
  have b25 := F25.binds (ps := ["chart", "route", "begins", "low", "high"]) fun _ _ _ _ _ _ us hl => match us, hl with | [_, _, _, _, _], _ => rfl
  have b26 := F26.binds (ps := ["state"]) fun _ _ _ _ _ _ us hl => match us, hl with | [_], _ => rfl
  have b27 := F27.binds (ps := ["state"]) fun _ _ _ _ _ _ us hl => match us, hl with | [_], _ => rfl
  have b28 := F28.binds (ps := ["line"]) fun _ _ _ _ _ _ us hl => match us, hl with | [_], _ => rfl
  have b29 := F29.binds (ps := ["line"]) fun _ _ _ _ _ _ us hl => match us, hl with | [_], _ => rfl
  have b30 := F30.binds (ps := ["low", "high", "told", "reach", "ends"]) fun _ _ _ _ _ _ us hl => match us, hl with | [_, _, _, _, _], _ => rfl
  have b31 := F31.binds (ps := ["rules", "estimate", "plot"]) fun _ _ _ _ _ _ us hl => match us, hl with | [_, _, _], _ => rfl
  have b32 := F32.binds (ps := ["rules", "estimate", "path", "box", "plot"]) fun _ _ _ _ _ _ us hl => match us, hl with | [_, _, _, _, _], _ => rfl
  have b33 := F33.binds (ps := ["estimate", "margin", "plot", "piece"]) fun _ _ _ _ _ _ us hl => match us, hl with | [_, _, _, _], _ => rfl
  have b34 := F34.binds (ps := ["numbers"]) fun _ _ _ _ _ _ us hl => match us, hl with | [_], _ => rfl
  have b35 := F35.binds (ps := ["numbers", "at"]) fun _ _ _ _ _ _ us hl => match us, hl with | [_, _], _ => rfl
  have b36 := F36.binds (ps := ["numbers", "at"]) fun _ _ _ _ _ _ us hl => match us, hl with | [_, _], _ => rfl
  have b37 := F37.binds (ps := ["numbers"]) fun _ _ _ _ _ _ us hl => match us, hl with | [_], _ => rfl
  have b38 := F38.binds (ps := ["plot", "count"]) fun _ _ _ _ _ _ us hl => match us, hl with | [_, _], _ => rfl
  have b39 := F39.binds (ps := ["state"]) fun _ _ _ _ _ _ us hl => match us, hl with | [_], _ => rfl
  have b40 := F40.binds (ps := ["state", "radius"]) fun _ _ _ _ _ _ us hl => match us, hl with | [_, _], _ => rfl
  have b41 := F41.binds (ps := ["code"]) fun _ _ _ _ _ _ us hl => match us, hl with | [_], _ => rfl
  have b42 := F42.binds (ps := ["self", "rules", "bounds"]) fun _ _ _ _ _ _ us hl => match us, hl with | [_, _, _], _ => rfl
  have b43 := F43.binds (ps := ["self", "count"]) fun _ _ _ _ _ _ us hl => match us, hl with | [_, _], _ => rfl
  have b44 := F44.binds (ps := ["self", "numbers"]) fun _ _ _ _ _ _ us hl => match us, hl with | [_, _], _ => rfl
  have b45 := F45.binds (ps := ["self", "radar"]) fun _ _ _ _ _ _ us hl => match us, hl with | [_, _], _ => rfl
  have b46 := F46.binds (ps := ["self", "radar"]) fun _ _ _ _ _ _ us hl => match us, hl with | [_, _], _ => rfl
  have b47 := F47.binds (ps := ["self", "radar"]) fun _ _ _ _ _ _ us hl => match us, hl with | [_, _], _ => rfl
  have b48 := F48.binds (ps := ["self", "radar"]) fun _ _ _ _ _ _ us hl => match us, hl with | [_, _], _ => rfl
  have b49 := F49.binds (ps := ["self", "radar", "path", "box", "plot"]) fun _ _ _ _ _ _ us hl => match us, hl with | [_, _, _, _, _], _ => rfl
  have b50 := F50.binds (ps := ["self", "radar", "numbers"]) fun _ _ _ _ _ _ us hl => match us, hl with | [_, _, _], _ => rfl
  have b51 := F51.binds (ps := ["self", "rules", "errors", "estimates"]) fun _ _ _ _ _ _ us hl => match us, hl with | [_, _, _, _], _ => rfl
  have b52 := F52.binds (ps := ["number"]) fun _ _ _ _ _ _ us hl => match us, hl with | [_], _ => rfl
  have b53 := F53.binds (ps := ["state", "chart"]) fun _ _ _ _ _ _ us hl => match us, hl with | [_, _], _ => rfl
  have b54 := F54.binds (ps := ["state", "rules"]) fun _ _ _ _ _ _ us hl => match us, hl with | [_, _], _ => rfl
  have b55 := F55.binds (ps := ["station", "rules", "end"]) fun _ _ _ _ _ _ us hl => match us, hl with | [_, _, _], _ => rfl
  have b56 := F56.binds (ps := ["desk", "station", "rules", "radar", "piece"]) fun _ _ _ _ _ _ us hl => match us, hl with | [_, _, _, _, _], _ => rfl
  have b57 := F57.binds (ps := ["state", "desk", "stations", "rules", "chart"]) fun _ _ _ _ _ _ us hl => match us, hl with | [_, _, _, _, _], _ => rfl
  have T : TxtA mg := { abs := PySem.W.mg_none_of X G z1, int := PySem.W.mg_none_of X G z2, len := PySem.W.mg_none_of X G z3, bool := PySem.W.mg_none_of X G z4, isinstance := PySem.W.mg_none_of X G z5, max := PySem.W.mg_none_of X G z6, min := PySem.W.mg_none_of X G z7, range := PySem.W.mg_none_of X G z8, tuple := PySem.W.mg_none_of X G z9, list := PySem.W.mg_none_of X G z10, sum := PySem.W.mg_none_of X G z11, any := PySem.W.mg_none_of X G z12, all := PySem.W.mg_none_of X G z13, sorted := PySem.W.mg_none_of X G z14, dict := PySem.W.mg_none_of X G z15, enumerate := PySem.W.mg_none_of X G z16 }
  have Tq : mg "isqrt" = some (.builtin "math.isqrt") := PySem.W.mg_of X G yq
  have Tz : mg "zip" = none := PySem.W.mg_none_of X G yz
  have YD : DskY K mg CW := ⟨⟨pgCW, hdCW, poCW, saCW⟩, nACW1, nACW2⟩
  have Y : PathY K mg C := ⟨⟨pgC, hdC, poC, saC⟩, nAC1, nAC2, nAC3, nAC4, nAC5⟩
  have YS : StaY K mg CS := ⟨⟨pgCS, hdCS, poCS, saCS⟩, nACS1, nACS2, nACS3, nACS4, nACS5, nACS6⟩
  have G_COUNTS : mg "COUNTS" = some (.int (256) tg1) := PySem.W.mg_of X G g1
  have G_HALF : mg "HALF" = some (.int (8388608) tg2) := PySem.W.mg_of X G g2
  have G_HALF_HEIGHT : mg "HALF_HEIGHT" = some (.int (32768) tg3) := PySem.W.mg_of X G g3
  have G_LOWEST_HEIGHT : mg "LOWEST_HEIGHT" = some (.int (-1000) tg4) := PySem.W.mg_of X G g4
  have G_MARK : mg "MARK" = some (.int (170) tg5) := PySem.W.mg_of X G g5
  have G_MODULUS : mg "MODULUS" = some (.int (251) tg6) := PySem.W.mg_of X G g6
  have G_SIZE : mg "SIZE" = some (.int (11) tg7) := PySem.W.mg_of X G g7
  refine ⟨PySem.W.fnOf "law" "law" (defArgs s_law) (defBody s_law) (defScope s_law) .none kV58 dc58 pm58 an58 cd58 ct58, [(tc30, tp30)], (spLaw K [tp30]), fun p hp => ?_, fun p hp => ?_, fun p hp => ?_, fun s v => .of_eq rfl, fun H a ns hl hb hH hS => ⟨a, ns, rfl, hS, hl, fun P hP => ?_, fun _ => rfl⟩, fun base _ _ hTB => ?_⟩
  · simp only [List.mem_cons, List.not_mem_nil, or_false] at hp
    subst hp
    exact w30.2
  · simp only [List.mem_cons, List.not_mem_nil, or_false] at hp
    subst hp
    exact np30
  · simp only [List.mem_cons, List.not_mem_nil, or_false] at hp
    subst hp
    exact w30.1
  · simp only [List.mem_cons, List.not_mem_nil, or_false] at hP
    rw [hP]; exact ⟨#[], hH (tc30, tp30) (by simp), True.intro⟩
  have D1 : Def l.prog w K mg base 1 "_law_start" ["script"] (spStart K) := .mk' F1 b1 (PySem.W.mg_of X G a1) (ok_law_start F1 T.toTxt0)
  have D2 : Def l.prog w K mg base 1 "_law_draw" ["state", "bound"] (spDraw K) := .mk' F2 b2 (PySem.W.mg_of X G a2) (ok_law_draw F2 T.toTxt0)
  have D3 : Def l.prog w K mg base 2 "_law_pick" ["state", "things"] (spPick K) := .mk' F3 b3 (PySem.W.mg_of X G a3) (ok_law_pick F3 T.toTxt0 D2)
  have D4 : Def l.prog w K mg base 1 "root_down" ["n"] (spDownR) := .mk' F4 b4 (PySem.W.mg_of X G a4) (ok_root_down F4 T Tq)
  have D5 : Def l.prog w K mg base 2 "root_up" ["n"] (spUpR) := .mk' F5 b5 (PySem.W.mg_of X G a5) (ok_root_up F5 T D4)
  have D6 : Def l.prog w K mg base 3 "leg_length" ["chart", "start", "end"] (spLegLen) := .mk' F6 b6 (PySem.W.mg_of X G a6) (ok_leg_length F6 T D5)
  have D7 : Def l.prog w K mg base 1 "leg_between" ["chart", "start", "end"] (spLegBt) := .mk' F7 b7 (PySem.W.mg_of X G a7) (ok_leg_between F7 T)
  have D8 : Def l.prog w K mg base 1 "_law_is" ["actual", "due"] (spIs) := .mk' F8 b8 (PySem.W.mg_of X G a8) (ok_law_is F8 T)
  have D9 : Def l.prog w K mg base 1 "_law_root_up" ["n"] (spRootR) := .mk' F9 b9 (PySem.W.mg_of X G a9) (ok_law_root_up F9 T)
  have D10 : Def l.prog w K mg base 3 "_law_names" ["state", "many"] (spNames K) := .mk' F10 b10 (PySem.W.mg_of X G a10) (ok_law_names F10 T D2 D3)
  have D11 : Def l.prog w K mg base 3 "_law_legs" ["state", "names"] (spLegs K) := .mk' F11 b11 (PySem.W.mg_of X G a11) (ok_law_legs F11 T D2 D3)
  have D12 : Def l.prog w K mg base 4 "_law_chart" ["state", "many", "size"] (spChartB K) := .mk' F12 b12 (PySem.W.mg_of X G a12) (ok_law_chart F12 T D2 D10 D11)
  have D13 : Def l.prog w K mg base 2 "_law_lengths" ["chart"] (spLens) := .mk' F13 b13 (PySem.W.mg_of X G a13) (ok_law_lengths F13 T D9)
  have D14 : MDef l.prog w K mg base 1 C "total" ["self"] ((spTotal C)) := ⟨_, _, ok_Path_total F14 T Y, ⟨a14, i14, k14⟩, b14⟩
  have D15 : MDef l.prog w K mg base 1 C "leg_at" ["self", "progress"] ((spLegAt C)) := ⟨_, _, ok_Path_leg_at F15 T Y, ⟨a15, i15, k15⟩, b15⟩
  have D16 : MDef l.prog w K mg base 1 C "_point" ["self", "index", "progress"] ((spPoint C)) := ⟨_, _, ok_Path__point F16 T Y, ⟨a16, i16, k16⟩, b16⟩
  have D17 : MDef l.prog w K mg base 2 C "_segment" ["self", "index", "start", "end"] ((spSeg C)) := ⟨_, _, ok_Path__segment F17 T Y D16, ⟨a17, i17, k17⟩, b17⟩
  have D18 : MDef l.prog w K mg base 3 C "_segments" ["self", "first", "last"] ((spSegs C)) := ⟨_, _, ok_Path__segments F18 T Y D15 D17, ⟨a18, i18, k18⟩, b18⟩
  have D19 : MDef l.prog w K mg base 4 C "piece" ["self", "low", "high"] ((spPiece C)) := ⟨_, _, ok_Path_piece F19 T Y D14 D15 D18 D17, ⟨a19, i19, k19⟩, b19⟩
  have D20 : MDef l.prog w K mg base 4 C "_join" ["self", "chart", "start", "end"] ((spJoin C)) := ⟨_, _, ok_Path__join F20 T Y D6 D7 D14, ⟨a20, i20, k20⟩, b20⟩
  have DCC : CDef l.prog w K mg base 5 C "Path" ["self", "chart", "route"] ((spPInit C)) := ⟨_, _, ok_Path___init__ F21 T Y D20, ⟨mkC, a21, i21, kcC⟩, PySem.W.mg_of X G aCC, b21⟩
  have D22 : Def l.prog w K mg base 1 "_law_begins" ["lengths", "route"] (spBegins) := .mk' F22 b22 (PySem.W.mg_of X G a22) (ok_law_begins F22 T)
  have D23 : Def l.prog w K mg base 1 "_law_leg_at" ["begins", "progress"] (spLawLegAt) := .mk' F23 b23 (PySem.W.mg_of X G a23) (ok_law_leg_at F23 T)
  have D24 : Def l.prog w K mg base 1 "_law_place_on" ["chart", "route", "begins", "k", "progress"] (spPlaceOn) := .mk' F24 b24 (PySem.W.mg_of X G a24) (ok_law_place_on F24 T)
  have D25 : Def l.prog w K mg base 2 "_law_piece" ["chart", "route", "begins", "low", "high"] (spLawPiece) := .mk' F25 b25 (PySem.W.mg_of X G a25) (ok_law_piece F25 T D24 D23)
  have D26 : Def l.prog w K mg base 5 "_law_small_chart" ["state"] (spSmall K) := .mk' F26 b26 (PySem.W.mg_of X G a26) (ok_law_small_chart F26 T D2 D3 D12)
  have D27 : Def l.prog w K mg base 3 "_law_rules" ["state"] (spRules48 K) := .mk' F27 b27 (PySem.W.mg_of X G a27) (ok_law_rules F27 T D2 D3)
  have D28 : Def l.prog w K mg base 1 "_firsts" ["line"] (spEnds 0) := .mk' F28 b28 (PySem.W.mg_of X G a28) (ok_firsts F28 T)
  have D29 : Def l.prog w K mg base 1 "_seconds" ["line"] (spEnds 1) := .mk' F29 b29 (PySem.W.mg_of X G a29) (ok_seconds F29 T)
  have D30 : Def l.prog w K mg base 3 "_narrowed_range" ["low", "high", "told", "reach", "ends"] (spRange [tp30]) := .mk' F30 b30 (PySem.W.mg_of X G a30) (ok_narrowed_range F30 T rfl (hTB (tc30, tp30) (by simp)) (by simp))
  have D31 : Def l.prog w K mg base 4 "corrected" ["rules", "estimate", "plot"] (spCor) := .mk' F31 b31 (PySem.W.mg_of X G a31) (ok_corrected F31 T D5)
  have D32 : Def l.prog w K mg base 6 "narrowed" ["rules", "estimate", "path", "box", "plot"] (spNar C [tp30]) := .mk' F32 b32 (PySem.W.mg_of X G a32) (ok_narrowed F32 T Y D30 D28 D29 D19)
  have D33 : Def l.prog w K mg base 1 "_law_narrowed" ["estimate", "margin", "plot", "piece"] (spLNar) := .mk' F33 b33 (PySem.W.mg_of X G a33) (ok_law_narrowed F33 T)
  have D34 : Def l.prog w K mg base 1 "_number_of" ["numbers"] (spNum K) := .mk' F34 b34 (PySem.W.mg_of X G a34) (ok_number_of F34 T)
  have D35 : Def l.prog w K mg base 1 "_is_frame" ["numbers", "at"] (spIsFr) := .mk' F35 b35 (PySem.W.mg_of X G a35) (ok_is_frame F35 T G_SIZE G_MARK G_MODULUS)
  have D36 : Def l.prog w K mg base 2 "_content_of" ["numbers", "at"] (spCont) := .mk' F36 b36 (PySem.W.mg_of X G a36) (ok_content_of F36 T G_HALF G_HALF_HEIGHT D34)
  have D37 : Def l.prog w K mg base 3 "frames_and_rest" ["numbers"] (spFramesR) := .mk' F37 b37 (PySem.W.mg_of X G a37) (ok_frames_and_rest F37 T G_SIZE D35 D36)
  have D38 : Def l.prog w K mg base 1 "_law_frame" ["plot", "count"] (spFrame) := .mk' F38 b38 (PySem.W.mg_of X G a38) (ok_law_frame F38 T)
  have D39 : Def l.prog w K mg base 2 "_law_noise" ["state"] (spNoise K) := .mk' F39 b39 (PySem.W.mg_of X G a39) (ok_law_noise F39 T D2)
  have D40 : Def l.prog w K mg base 2 "_law_vector" ["state", "radius"] (spVectorR K) := .mk' F40 b40 (PySem.W.mg_of X G a40) (ok_law_vector F40 T D2)
  have D41 : Def l.prog w K mg base 1 "decode" ["code"] (spDec) := .mk' F41 b41 (PySem.W.mg_of X G a41) (ok_decode F41 T)
  have DCCS : CDef l.prog w K mg base 1 CS "Station" ["self", "rules", "bounds"] ((spSta CS [tp30])) := ⟨_, _, ok_Station___init__ F42 T YS, ⟨mkCS, a42, i42, kcCS⟩, PySem.W.mg_of X G aCCS, b42⟩
  have D43 : MDef l.prog w K mg base 1 CS "_note" ["self", "count"] ((spNote CS [tp30])) := ⟨_, _, ok_Station__note F43 T YS G_COUNTS, ⟨a43, i43, k43⟩, b43⟩
  have D44 : MDef l.prog w K mg base 4 CS "read" ["self", "numbers"] ((spReadS CS [tp30])) := ⟨_, _, ok_Station_read F44 T YS G_HALF_HEIGHT G_LOWEST_HEIGHT D37 D41 D43, ⟨a44, i44, k44⟩, b44⟩
  have D45 : MDef l.prog w K mg base 1 CW "estimate" ["self", "radar"] ((spEst CW CS)) := ⟨_, _, ok_Desk_estimate F45 T YD YS, ⟨a45, i45, k45⟩, b45⟩
  have D46 : MDef l.prog w K mg base 1 CW "lost" ["self", "radar"] ((spLost CW CS)) := ⟨_, _, ok_Desk_lost F46 T YD YS, ⟨a46, i46, k46⟩, b46⟩
  have D47 : MDef l.prog w K mg base 1 CW "held_back" ["self", "radar"] ((spHeld CW CS)) := ⟨_, _, ok_Desk_held_back F47 T YD YS, ⟨a47, i47, k47⟩, b47⟩
  have D48 : MDef l.prog w K mg base 1 CW "left" ["self", "radar"] ((spLeft CW CS)) := ⟨_, _, ok_Desk_left F48 T YD YS, ⟨a48, i48, k48⟩, b48⟩
  have D49 : MDef l.prog w K mg base 7 CW "learn" ["self", "radar", "path", "box", "plot"] ((spLearn CW CS C [tp30])) := ⟨_, _, ok_Desk_learn F49 T YD YS D32, ⟨a49, i49, k49⟩, b49⟩
  have D50 : MDef l.prog w K mg base 5 CW "receive" ["self", "radar", "numbers"] ((spRecv CW CS [tp30])) := ⟨_, _, ok_Desk_receive F50 T YD YS D44 D31, ⟨a50, i50, k50⟩, b50⟩
  have DCCW : CDef l.prog w K mg base 3 CW "Desk" ["self", "rules", "errors", "estimates"] ((spDesk CW CS [tp30])) := ⟨_, _, ok_Desk___init__ F51 T YD YS Tz DCCS, ⟨mkCW, a51, i51, kcCW⟩, PySem.W.mg_of X G aCCW, b51⟩
  have D52 : Def l.prog w K mg base 1 "_law_code" ["number"] (spCodeL) := .mk' F52 b52 (PySem.W.mg_of X G a52) (ok_law_code F52 T)
  have D53 : Def l.prog w K mg base 3 "_law_walk_one" ["state", "chart"] (spWalk1 K) := .mk' F53 b53 (PySem.W.mg_of X G a53) (ok_law_walk_one F53 T D3)
  have D54 : Def l.prog w K mg base 3 "_law_station" ["state", "rules"] (spStation K) := .mk' F54 b54 (PySem.W.mg_of X G a54) (ok_law_station F54 T D2 D3 D40 D38 D39 D52)
  have D55 : Def l.prog w K mg base 2 "_law_due" ["station", "rules", "end"] (spDue [tp30]) := .mk' F55 b55 (PySem.W.mg_of X G a55) (ok_law_due F55 T D9)
  have D56 : Def l.prog w K mg base 6 "_law_received" ["desk", "station", "rules", "radar", "piece"] (spRcvd K CW CS [tp30]) := .mk' F56 b56 (PySem.W.mg_of X G a56) (ok_law_received F56 T YD D55 D50 D47)
  have D57 : Def l.prog w K mg base 8 "_law_learned" ["state", "desk", "stations", "rules", "chart"] (spLearned K CW CS C [tp30]) := .mk' F57 b57 (PySem.W.mg_of X G a57) (ok_law_learned F57 T YD Y D2 D53 D13 D22 D23 D24 D25 D40 D33 DCC D49 D45 D8)
  exact ok_law F58 T YD D1 D2 D3 D26 D27 D54 DCCW D56 D57 D46 D48 D50
end Sk
open PySem PySem.W PyProof.Rows
set_option maxRecDepth 100000 in
set_option maxHeartbeats 0 in
theorem PySem.Challenge.cw_skyapart_k48_whole_radar_desk_holds : PySem.Challenge.rw_skyapart_k48_whole_radar_desk.Holds := by
  w_on; o_law; k_head; (case hw => w_witness2)
  k_fill
  refine Sk.walk_tabs (l := PySem.Challenge.rw_skyapart_k48_whole_radar_desk) (n := 63) (k := 9) (x := "script") (CX := fun _ => L2.CX0) rfl (by decide) rfl ⟨rfl, by decide, by decide⟩ (fun w h Y => PySem.W.kIn_of Y) ?F (fun _ _ _ _ _ z => z)
  case F =>
    intro w mg fa h KX G hmg hT
    refine' Sk.all_mk KX G hmg ?aCCW ?pgCW ?hdCW ?poCW ?saCW ?mkCW ?kcCW ?nACW1 ?nACW2 ?aCC ?pgC ?hdC ?poC ?saC ?mkC ?kcC ?nAC1 ?nAC2 ?nAC3 ?nAC4 ?nAC5 ?aCCS ?pgCS ?hdCS ?poCS ?saCS ?mkCS ?kcCS ?nACS1 ?nACS2 ?nACS3 ?nACS4 ?nACS5 ?nACS6 ?a1 ?l1 ?c1 ?k1 ?a2 ?l2 ?c2 ?k2 ?a3 ?l3 ?c3 ?k3 ?a4 ?l4 ?c4 ?k4 ?a5 ?l5 ?c5 ?k5 ?a6 ?l6 ?c6 ?k6 ?a7 ?l7 ?c7 ?k7 ?a8 ?l8 ?c8 ?k8 ?a9 ?l9 ?c9 ?k9 ?a10 ?l10 ?c10 ?k10 ?a11 ?l11 ?c11 ?k11 ?a12 ?l12 ?c12 ?k12 ?a13 ?l13 ?c13 ?k13 ?a14 ?i14 ?l14 ?c14 ?k14 ?a15 ?i15 ?l15 ?c15 ?k15 ?a16 ?i16 ?l16 ?c16 ?k16 ?a17 ?i17 ?l17 ?c17 ?k17 ?a18 ?i18 ?l18 ?c18 ?k18 ?a19 ?i19 ?l19 ?c19 ?k19 ?a20 ?i20 ?l20 ?c20 ?k20 ?a21 ?i21 ?l21 ?c21 ?k21 ?a22 ?l22 ?c22 ?k22 ?a23 ?l23 ?c23 ?k23 ?a24 ?l24 ?c24 ?k24 ?a25 ?l25 ?c25 ?k25 ?a26 ?l26 ?c26 ?k26 ?a27 ?l27 ?c27 ?k27 ?a28 ?l28 ?c28 ?k28 ?a29 ?l29 ?c29 ?k29 ?a30 ?l30 ?c30 ?k30 ?lc30 ?hv30 ?np30 ?w30 ?a31 ?l31 ?c31 ?k31 ?a32 ?l32 ?c32 ?k32 ?a33 ?l33 ?c33 ?k33 ?a34 ?l34 ?c34 ?k34 ?a35 ?l35 ?c35 ?k35 ?a36 ?l36 ?c36 ?k36 ?a37 ?l37 ?c37 ?k37 ?a38 ?l38 ?c38 ?k38 ?a39 ?l39 ?c39 ?k39 ?a40 ?l40 ?c40 ?k40 ?a41 ?l41 ?c41 ?k41 ?a42 ?i42 ?l42 ?c42 ?k42 ?a43 ?i43 ?l43 ?c43 ?k43 ?a44 ?i44 ?l44 ?c44 ?k44 ?a45 ?i45 ?l45 ?c45 ?k45 ?a46 ?i46 ?l46 ?c46 ?k46 ?a47 ?i47 ?l47 ?c47 ?k47 ?a48 ?i48 ?l48 ?c48 ?k48 ?a49 ?i49 ?l49 ?c49 ?k49 ?a50 ?i50 ?l50 ?c50 ?k50 ?a51 ?i51 ?l51 ?c51 ?k51 ?a52 ?l52 ?c52 ?k52 ?a53 ?l53 ?c53 ?k53 ?a54 ?l54 ?c54 ?k54 ?a55 ?l55 ?c55 ?k55 ?a56 ?l56 ?c56 ?k56 ?a57 ?l57 ?c57 ?k57 ?a58 ?l58 ?c58 ?k58 ?z1 ?z2 ?z3 ?z4 ?z5 ?z6 ?z7 ?z8 ?z9 ?z10 ?z11 ?z12 ?z13 ?z14 ?z15 ?z16 ?yq ?yz ?g1 ?g2 ?g3 ?g4 ?g5 ?g6 ?g7
    (case aCCW => k_is); (case pgCW => k_is); (case hdCW => k_is); (case poCW => k_is)
    (case saCW => k_is); (case mkCW => k_is); (case kcCW => k_is); (case nACW1 => k_is)
    (case nACW2 => k_is); (case aCC => k_is); (case pgC => k_is); (case hdC => k_is)
    (case poC => k_is); (case saC => k_is); (case mkC => k_is); (case kcC => k_is)
    (case nAC1 => k_is); (case nAC2 => k_is); (case nAC3 => k_is); (case nAC4 => k_is)
    (case nAC5 => k_is); (case aCCS => k_is); (case pgCS => k_is); (case hdCS => k_is)
    (case poCS => k_is); (case saCS => k_is); (case mkCS => k_is); (case kcCS => k_is)
    (case nACS1 => k_is); (case nACS2 => k_is); (case nACS3 => k_is); (case nACS4 => k_is)
    (case nACS5 => k_is); (case nACS6 => k_is); (case a1 => k_is); (case l1 => k_is)
    (case c1 => k_is); (case k1 => k_is); (case a2 => k_is); (case l2 => k_is)
    (case c2 => k_is); (case k2 => k_is); (case a3 => k_is); (case l3 => k_is)
    (case c3 => k_is); (case k3 => k_is); (case a4 => k_is); (case l4 => k_is)
    (case c4 => k_is); (case k4 => k_is); (case a5 => k_is); (case l5 => k_is)
    (case c5 => k_is); (case k5 => k_is); (case a6 => k_is); (case l6 => k_is)
    (case c6 => k_is); (case k6 => k_is); (case a7 => k_is); (case l7 => k_is)
    (case c7 => k_is); (case k7 => k_is); (case a8 => k_is); (case l8 => k_is)
    (case c8 => k_is); (case k8 => k_is); (case a9 => k_is); (case l9 => k_is)
    (case c9 => k_is); (case k9 => k_is); (case a10 => k_is); (case l10 => k_is)
    (case c10 => k_is); (case k10 => k_is); (case a11 => k_is); (case l11 => k_is)
    (case c11 => k_is); (case k11 => k_is); (case a12 => k_is); (case l12 => k_is)
    (case c12 => k_is); (case k12 => k_is); (case a13 => k_is); (case l13 => k_is)
    (case c13 => k_is); (case k13 => k_is); (case a14 => k_is); (case i14 => k_is)
    (case l14 => k_is); (case c14 => k_is); (case k14 => k_is); (case a15 => k_is)
    (case i15 => k_is); (case l15 => k_is); (case c15 => k_is); (case k15 => k_is)
    (case a16 => k_is); (case i16 => k_is); (case l16 => k_is); (case c16 => k_is)
    (case k16 => k_is); (case a17 => k_is); (case i17 => k_is); (case l17 => k_is)
    (case c17 => k_is); (case k17 => k_is); (case a18 => k_is); (case i18 => k_is)
    (case l18 => k_is); (case c18 => k_is); (case k18 => k_is); (case a19 => k_is)
    (case i19 => k_is); (case l19 => k_is); (case c19 => k_is); (case k19 => k_is)
    (case a20 => k_is); (case i20 => k_is); (case l20 => k_is); (case c20 => k_is)
    (case k20 => k_is); (case a21 => k_is); (case i21 => k_is); (case l21 => k_is)
    (case c21 => k_is); (case k21 => k_is); (case a22 => k_is); (case l22 => k_is)
    (case c22 => k_is); (case k22 => k_is); (case a23 => k_is); (case l23 => k_is)
    (case c23 => k_is); (case k23 => k_is); (case a24 => k_is); (case l24 => k_is)
    (case c24 => k_is); (case k24 => k_is); (case a25 => k_is); (case l25 => k_is)
    (case c25 => k_is); (case k25 => k_is); (case a26 => k_is); (case l26 => k_is)
    (case c26 => k_is); (case k26 => k_is); (case a27 => k_is); (case l27 => k_is)
    (case c27 => k_is); (case k27 => k_is); (case a28 => k_is); (case l28 => k_is)
    (case c28 => k_is); (case k28 => k_is); (case a29 => k_is); (case l29 => k_is)
    (case c29 => k_is); (case k29 => k_is); (case a30 => k_is); (case l30 => k_is)
    (case c30 => k_is); (case k30 => k_is); (case lc30 => k_is); (case hv30 => exact rfl)
    (case np30 => kernel_rfl); (case w30 => exact hT "_narrowed_range" _ _ _ rfl (by kernel_rfl)); (case a31 => k_is); (case l31 => k_is)
    (case c31 => k_is); (case k31 => k_is); (case a32 => k_is); (case l32 => k_is)
    (case c32 => k_is); (case k32 => k_is); (case a33 => k_is); (case l33 => k_is)
    (case c33 => k_is); (case k33 => k_is); (case a34 => k_is); (case l34 => k_is)
    (case c34 => k_is); (case k34 => k_is); (case a35 => k_is); (case l35 => k_is)
    (case c35 => k_is); (case k35 => k_is); (case a36 => k_is); (case l36 => k_is)
    (case c36 => k_is); (case k36 => k_is); (case a37 => k_is); (case l37 => k_is)
    (case c37 => k_is); (case k37 => k_is); (case a38 => k_is); (case l38 => k_is)
    (case c38 => k_is); (case k38 => k_is); (case a39 => k_is); (case l39 => k_is)
    (case c39 => k_is); (case k39 => k_is); (case a40 => k_is); (case l40 => k_is)
    (case c40 => k_is); (case k40 => k_is); (case a41 => k_is); (case l41 => k_is)
    (case c41 => k_is); (case k41 => k_is); (case a42 => k_is); (case i42 => k_is)
    (case l42 => k_is); (case c42 => k_is); (case k42 => k_is); (case a43 => k_is)
    (case i43 => k_is); (case l43 => k_is); (case c43 => k_is); (case k43 => k_is)
    (case a44 => k_is); (case i44 => k_is); (case l44 => k_is); (case c44 => k_is)
    (case k44 => k_is); (case a45 => k_is); (case i45 => k_is); (case l45 => k_is)
    (case c45 => k_is); (case k45 => k_is); (case a46 => k_is); (case i46 => k_is)
    (case l46 => k_is); (case c46 => k_is); (case k46 => k_is); (case a47 => k_is)
    (case i47 => k_is); (case l47 => k_is); (case c47 => k_is); (case k47 => k_is)
    (case a48 => k_is); (case i48 => k_is); (case l48 => k_is); (case c48 => k_is)
    (case k48 => k_is); (case a49 => k_is); (case i49 => k_is); (case l49 => k_is)
    (case c49 => k_is); (case k49 => k_is); (case a50 => k_is); (case i50 => k_is)
    (case l50 => k_is); (case c50 => k_is); (case k50 => k_is); (case a51 => k_is)
    (case i51 => k_is); (case l51 => k_is); (case c51 => k_is); (case k51 => k_is)
    (case a52 => k_is); (case l52 => k_is); (case c52 => k_is); (case k52 => k_is)
    (case a53 => k_is); (case l53 => k_is); (case c53 => k_is); (case k53 => k_is)
    (case a54 => k_is); (case l54 => k_is); (case c54 => k_is); (case k54 => k_is)
    (case a55 => k_is); (case l55 => k_is); (case c55 => k_is); (case k55 => k_is)
    (case a56 => k_is); (case l56 => k_is); (case c56 => k_is); (case k56 => k_is)
    (case a57 => k_is); (case l57 => k_is); (case c57 => k_is); (case k57 => k_is)
    (case a58 => k_is); (case l58 => k_is); (case c58 => k_is); (case k58 => k_is)
    (case z1 => k_is); (case z2 => k_is); (case z3 => k_is); (case z4 => k_is)
    (case z5 => k_is); (case z6 => k_is); (case z7 => k_is); (case z8 => k_is)
    (case z9 => k_is); (case z10 => k_is); (case z11 => k_is); (case z12 => k_is)
    (case z13 => k_is); (case z14 => k_is); (case z15 => k_is); (case z16 => k_is)
    (case yq => k_is); (case yz => k_is); (case g1 => k_is); (case g2 => k_is)
    (case g3 => k_is); (case g4 => k_is); (case g5 => k_is); (case g6 => k_is)
    (case g7 => k_is)
