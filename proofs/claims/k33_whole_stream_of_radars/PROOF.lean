import PyProof.Rows.All
import Wide.All
import OpenK.AllK
import Wide.FinOn
import HandS.Base
import HandS.Call
import HandS.List
import HandS.Comp
import HandS.Ends
import HandS.Dict
import HandS.Iter
import HandS.Words
import HandS.WordsList
import HandS.Wide
import HandS.Gcd
import HandS.IsInst
import Flt.RightSqrt
import HandS.Star
import HandS.More
import HandS.WideMore
import PySem.Challenge.RW_skyapart_k33_whole_stream_of_radars
set_option Elab.async false
set_option linter.all false
set_option maxRecDepth 100000
set_option maxHeartbeats 4000000
namespace Sk
open PySem PySem.Spec PyProof.Rows L2

/-! a def of the text, ready to be called by its name -/
structure Def (P : Program) (w : World) (K : PySem.W.Frag) (mg : Str → Option Value) (base : Heap) (k : Nat) (x : Str) (ps : List Str) (sp : Sp) : Prop where
  ex : ∃ (f : Addr) (fd : FuncData), FnOk P w K mg base CX0 k f fd ps sp ∧ mg x = some (.ref f) ∧ PySem.W.keepIn K (.ref f) = true ∧ Binds K fd ps []
theorem Def.mk' {P : Program} {w : World} {K : PySem.W.Frag} {mg : Str → Option Value} {base : Heap} {k : Nat} {x qual : Str} {st : Stmt} {f : Addr} {fd : FuncData} {ps : List Str} {sp : Sp}
    (F : Fun K x qual st f fd) (b : Binds K fd ps []) (m : mg x = some (.ref f)) (G : FnOk P w K mg base CX0 k f fd ps sp) : Def P w K mg base k x ps sp := ⟨f, fd, G, m, F.kp, b⟩
theorem pe_def {X : Cx} {k : Nat} {x : Str} {ps : List Str} {sp : Sp} {p pos : Pos} {e : Expr} {es : List Expr} {t : TA} (D : Def X.prog X.w X.K X.mg X.base k x ps sp) (hr : Room k X.A) (hg : Gl X x)
    (ha : PA X (e :: es) t) (hdb : (x == ("__debug__" : Str)) = false := by decide) (he : starEach (e :: es) X.env = (false, eval e X.env) :: starEach es X.env := by rfl) (hpl : (backTo pos (starEach es X.env)).any (·.1) = false := by rfl) :
    PE X (.Call (.Name x p) (e :: es) [] pos) (tCall sp [] E0 t) := by
  obtain ⟨f, fd, F, m, kp, b⟩ := D.ex
  exact pe_call F hr hg m kp b .nil pass0 ha hdb he hpl
/-- a call's reading: the values of the arguments as they are -/
theorem sp_nil {sp : Sp} {vs : List V} {H : Hp} {Q : VK} {E : XK} (h : sp vs H Q E) : sp (vs ++ []) H Q E := by
  rw [List.append_nil]
  exact h

/-! heaps -/
/-- all but what stands at d is as it was -/
def Keep (d : Addr) (H H' : Hp) : Prop := ∀ c o, H c = some o → c ≠ d → H' c = some o
theorem Keep.refl (d : Addr) (H : Hp) : Keep d H H := fun _ _ h _ => h
theorem Keep.trans {d : Addr} {H H1 H2 : Hp} (a : Keep d H H1) (b : Keep d H1 H2) : Keep d H H2 := fun c o h n => b c o (a c o h n) n
theorem Keep.of {d : Addr} {H H1 : Hp} (a : Same H H1) : Keep d H H1 := fun c o h _ => a c o h
theorem Keep.upd (d : Addr) (H : Hp) (o : HO) : Keep d H (upd H d o) := fun c u h n => by
  rw [upd_ne n]
  exact h
theorem same_new {H : Hp} {p : Addr} {o : HO} (h : H p = none) : Same H (upd H p o) := fun b x e => by
  rw [upd_ne (ne_of_none e h)]
  exact e
theorem lst_ne {H : Hp} {a d : Addr} {xs : List V} {o : HO} (h : H d = some (.dK o')) (ha : H a = some (.lst xs)) : a ≠ d := ne_of ha h (by intro z; cases z)
/-- a list to be read stays, if it isn't the dict at d -/
theorem Keep.seq {K : PySem.W.Frag} {d : Addr} {kvs : List (Key × V)} {H H' : Hp} {a : Addr} {xs : List V} (k : Keep d H H') (hd : H d = some (.dK kvs)) (h : SqL K H a xs) : SqL K H' a xs := by
  rcases h with (h | ⟨o, h⟩) | h
  · exact .inl (.inl (k _ _ h (ne_of h hd (by intro z; cases z))))
  · exact .inl (.inr ⟨o, k _ _ h (ne_of h hd (by intro z; cases z))⟩)
  · exact .inr h
theorem Keep.tup {K : PySem.W.Frag} {d : Addr} {kvs : List (Key × V)} {H H' : Hp} {a : Addr} {xs : List V} (k : Keep d H H') (hd : H d = some (.dK kvs)) (h : SqT K H a xs) : SqT K H' a xs := by
  rcases h with (h | ⟨o, h⟩) | h
  · exact .inl (.inl (k _ _ h (ne_of h hd (by intro z; cases z))))
  · exact .inl (.inr ⟨o, k _ _ h (ne_of h hd (by intro z; cases z))⟩)
  · exact .inr h
theorem Keep.lst {d : Addr} {kvs : List (Key × V)} {H H' : Hp} {a : Addr} {xs : List V} (k : Keep d H H') (hd : H d = some (.dK kvs)) (h : H a = some (.lst xs)) : H' a = some (.lst xs) := k _ _ h (ne_of h hd (by intro z; cases z))
theorem Keep.tp {d : Addr} {kvs : List (Key × V)} {H H' : Hp} {a : Addr} {xs : List V} (k : Keep d H H') (hd : H d = some (.dK kvs)) (h : H a = some (.tup xs)) : H' a = some (.tup xs) := k _ _ h (ne_of h hd (by intro z; cases z))
theorem same_tup {K : PySem.W.Frag} {H H' : Hp} {a : Addr} {xs : List V} (e : Same H H') (h : SqT K H a xs) : SqT K H' a xs := by
  rcases h with (h | ⟨o, h⟩) | h
  · exact .inl (.inl (e _ _ h))
  · exact .inl (.inr ⟨o, e _ _ h⟩)
  · exact .inr h

/-! the state of the draws -/
theorem k01 : ¬ ("cells" : Str) = "at" := by decide +kernel
theorem k02 : ¬ ("cells" : Str) = "left" := by decide +kernel
theorem k03 : ¬ ("cells" : Str) = "mix" := by decide +kernel
theorem k10 : ¬ ("at" : Str) = "cells" := by decide +kernel
theorem k12 : ¬ ("at" : Str) = "left" := by decide +kernel
theorem k13 : ¬ ("at" : Str) = "mix" := by decide +kernel
theorem k20 : ¬ ("left" : Str) = "cells" := by decide +kernel
theorem k21 : ¬ ("left" : Str) = "at" := by decide +kernel
theorem k23 : ¬ ("left" : Str) = "mix" := by decide +kernel
theorem k30 : ¬ ("mix" : Str) = "cells" := by decide +kernel
theorem k31 : ¬ ("mix" : Str) = "at" := by decide +kernel
theorem k32 : ¬ ("mix" : Str) = "left" := by decide +kernel
theorem kr {a b : Str} (h : ¬ a = b) : ¬ (Sum.inr a : Key) = Sum.inr b := fun z => h (Sum.inr.inj z)
def stK (c : Addr) (i l m : Int) : List (Key × V) := [(.inr "cells", .ref c), (.inr "at", .int i), (.inr "left", .int l), (.inr "mix", .int m)]
theorem g_cells (c : Addr) (i l m : Int) : valV (stK c i l m) (.inr "cells") = some (.ref c) := valV_pos rfl
theorem g_at (c : Addr) (i l m : Int) : valV (stK c i l m) (.inr "at") = some (.int i) := by
  unfold stK
  rw [valV_neg (kr k01), valV_pos rfl]
theorem g_left (c : Addr) (i l m : Int) : valV (stK c i l m) (.inr "left") = some (.int l) := by
  unfold stK
  rw [valV_neg (kr k02), valV_neg (kr k12), valV_pos rfl]
theorem g_mix (c : Addr) (i l m : Int) : valV (stK c i l m) (.inr "mix") = some (.int m) := by
  unfold stK
  rw [valV_neg (kr k03), valV_neg (kr k13), valV_neg (kr k23), valV_pos rfl]
theorem put_any {kvs : List (Key × V)} {k : Key} {v y : V} (h : valV kvs k = some v) : putK kvs k y = kvs.map (fun kv => if kv.1 = k then (kv.1, y) else kv) := by
  unfold putK
  rw [valV_any, h]
  exact if_pos rfl
theorem p_at (c : Addr) (i l m j : Int) : putK (stK c i l m) (.inr "at") (.int j) = stK c j l m := by
  rw [put_any (g_at c i l m)]
  unfold stK
  simp only [List.map_cons, List.map_nil, if_neg (kr k01), if_neg (kr k21), if_neg (kr k31), if_true]
theorem p_left (c : Addr) (i l m j : Int) : putK (stK c i l m) (.inr "left") (.int j) = stK c i j m := by
  rw [put_any (g_left c i l m)]
  unfold stK
  simp only [List.map_cons, List.map_nil, if_neg (kr k02), if_neg (kr k12), if_neg (kr k32), if_true]
theorem p_mix (c : Addr) (i l m j : Int) : putK (stK c i l m) (.inr "mix") (.int j) = stK c i l j := by
  rw [put_any (g_mix c i l m)]
  unfold stK
  simp only [List.map_cons, List.map_nil, if_neg (kr k03), if_neg (kr k13), if_neg (kr k23), if_true]
theorem merge_st (c : Addr) (i l m : Int) : mergeK [] (stK c i l m) = stK c i l m := by
  have e0 : putK ([] : List (Key × V)) (.inr "cells" : Key) (.ref c) = [((.inr "cells" : Key), V.ref c)] := rfl
  have e1 : putK [((.inr "cells" : Key), V.ref c)] (.inr "at" : Key) (.int i) = [((.inr "cells" : Key), V.ref c), (.inr "at", .int i)] := by
    rw [putK_new _ (by rw [valV_neg (kr k01)]; rfl)]
    all_goals rfl
  have e2 : putK [((.inr "cells" : Key), V.ref c), (.inr "at", .int i)] (.inr "left") (.int l) = [((.inr "cells" : Key), V.ref c), (.inr "at", .int i), (.inr "left", .int l)] := by
    rw [putK_new _ (by rw [valV_neg (kr k02), valV_neg (kr k12)]; rfl)]
    all_goals rfl
  have e3 : putK [((.inr "cells" : Key), V.ref c), (.inr "at", .int i), (.inr "left", .int l)] (.inr "mix") (.int m) = stK c i l m := by
    rw [putK_new _ (by rw [valV_neg (kr k03), valV_neg (kr k13), valV_neg (kr k23)]; rfl)]
    all_goals rfl
  show putK (putK (putK (putK ([] : List (Key × V)) (.inr "cells" : Key) (.ref c)) (.inr "at" : Key) (.int i)) (.inr "left" : Key) (.int l)) (.inr "mix" : Key) (.int m) = stK c i l m
  rw [e0, e1, e2, e3]
/-- the dict of the draws stands at d -/
structure StAt (K : PySem.W.Frag) (H : Hp) (d : Addr) (c : Addr) (ns : List Int) (i l m : Int) : Prop where
  dc : H d = some (.dK (stK c i l m))
  cs : H c = some (.lst (ns.map V.int))
  nn : ∀ x ∈ ns, 0 ≤ x
  i0 : 0 ≤ i
  l0 : 0 ≤ l
  m0 : 0 ≤ m
  m1 : m < 2147483648
def St1 (K : PySem.W.Frag) (H : Hp) (d c : Addr) : Prop := ∃ ns i l m, StAt K H d c ns i l m
theorem St1.dk {K : PySem.W.Frag} {H : Hp} {d c : Addr} (S : St1 K H d c) : ∃ kvs, H d = some (.dK kvs) := let ⟨_, _, _, _, S⟩ := S; ⟨_, S.dc⟩
theorem St1.cl {K : PySem.W.Frag} {H : Hp} {d c : Addr} (S : St1 K H d c) : ∃ xs, H c = some (.lst xs) := let ⟨_, _, _, _, S⟩ := S; ⟨_, S.cs⟩
/-- the state stands on where both its objects stand -/
theorem St1.of {K : PySem.W.Frag} {H H' : Hp} {d c : Addr} (S : St1 K H d c) (e1 : H' d = H d) (e2 : H' c = H c) : St1 K H' d c := by
  obtain ⟨ns, i, l, m, S⟩ := S
  exact ⟨ns, i, l, m, e1.trans S.dc, e2.trans S.cs, S.nn, S.i0, S.l0, S.m0, S.m1⟩
theorem St1.same {K : PySem.W.Frag} {H H' : Hp} {d c : Addr} (S : St1 K H d c) (e : Same H H') : St1 K H' d c := by
  obtain ⟨ns, i, l, m, S⟩ := S
  exact ⟨ns, i, l, m, e _ _ S.dc, e _ _ S.cs, S.nn, S.i0, S.l0, S.m0, S.m1⟩
theorem St1.new {K : PySem.W.Frag} {H : Hp} {d c a : Addr} {o : HO} (S : St1 K H d c) (h : H a = none) : St1 K (upd H a o) d c := S.same (same_new h)
theorem St1.nd {K : PySem.W.Frag} {H : Hp} {d c a : Addr} (S : St1 K H d c) (h : H a = none) : a ≠ d := let ⟨_, e⟩ := S.dk; (ne_of_none e h).symm
theorem St1.nc {K : PySem.W.Frag} {H : Hp} {d c a : Addr} (S : St1 K H d c) (h : H a = none) : a ≠ c := let ⟨_, e⟩ := S.cl; (ne_of_none e h).symm
theorem St1.put {K : PySem.W.Frag} {H : Hp} {d c a : Addr} {o : HO} (S : St1 K H d c) (h1 : a ≠ d) (h2 : a ≠ c) : St1 K (upd H a o) d c := S.of (upd_ne h1.symm) (upd_ne h2.symm)
theorem StAt.put {K : PySem.W.Frag} {H : Hp} {d c : Addr} {ns : List Int} {i l m i' l' m' : Int} (S : StAt K H d c ns i l m) (h0 : 0 ≤ i') (h1 : 0 ≤ l') (h2 : 0 ≤ m') (h3 : m' < 2147483648) :
    StAt K (upd H d (.dK (stK c i' l' m'))) d c ns i' l' m' := ⟨upd_same, (Keep.upd d H _).lst S.dc S.cs, S.nn, h0, h1, h2, h3⟩
section
variable {H : Hp} {d c : Addr} {i l m j : Int}
theorem dg_cells (h : H d = some (.dK (stK c i l m))) : DGet H d (.str "cells") (some (.ref c)) := g_cells c i l m ▸ DGet.k (k := .inr "cells") h
theorem dg_at (h : H d = some (.dK (stK c i l m))) : DGet H d (.str "at") (some (.int i)) := g_at c i l m ▸ DGet.k (k := .inr "at") h
theorem dg_left (h : H d = some (.dK (stK c i l m))) : DGet H d (.str "left") (some (.int l)) := g_left c i l m ▸ DGet.k (k := .inr "left") h
theorem dg_mix (h : H d = some (.dK (stK c i l m))) : DGet H d (.str "mix") (some (.int m)) := g_mix c i l m ▸ DGet.k (k := .inr "mix") h
theorem st_few : (stK c i l m).length < sizeLine := Nat.lt_of_le_of_lt (show 4 ≤ 1000 by decide) (by decide)
theorem dp_at (h : H d = some (.dK (stK c i l m))) : DPut H d (.str "at") (.int j) (upd H d (.dK (stK c j l m))) := p_at c i l m j ▸ DPut.k (k := .inr "at") h st_few
theorem dp_left (h : H d = some (.dK (stK c i l m))) : DPut H d (.str "left") (.int j) (upd H d (.dK (stK c i j m))) := p_left c i l m j ▸ DPut.k (k := .inr "left") h st_few
theorem dp_mix (h : H d = some (.dK (stK c i l m))) : DPut H d (.str "mix") (.int j) (upd H d (.dK (stK c i l j))) := p_mix c i l m j ▸ DPut.k (k := .inr "mix") h st_few
end
/-! what follows is shown once, for both ways of an if ahead of it -/
theorem cut {t u : TS} {D : Ends} {σ : L2.St} {H : Hp} (I : L2.St → Hp → Prop) (h2 : ∀ σ' H', I σ' H' → u D σ' H') (h1 : (∀ σ' H', I σ' H' → u D σ' H') → t { D with nx := u D } σ H) : tSeq t u D σ H := h1 h2

/-! the promises of the draws -/
/-- the bound's bound -/
def big : Int := 10000000000000000000000000000000000000000000000000000000000000000000000
def spStart (K : PySem.W.Frag) : Sp := fun vs H Q _ => ∃ (a : Addr) (ns : List Int), vs = [.ref a] ∧ SqL K H a (ns.map V.int) ∧ ns.length ≤ 63 ∧ ∀ d c H', H d = none → H c = none → St1 K H' d c → Same H H' → Q (.ref d) H'
def spDraw (K : PySem.W.Frag) : Sp := fun vs H Q _ => ∃ (d c : Addr) (b : Int), vs = [.ref d, .int b] ∧ St1 K H d c ∧ 0 < b ∧ b ≤ 10000000000000000000000000000000000000000000000000000000000000000000000 ∧
  ∀ n H', 0 ≤ n → n < b → St1 K H' d c → Keep d H H' → Q (.int n) H'
def spPick (K : PySem.W.Frag) : Sp := fun vs H Q _ => ∃ (d c l : Addr) (xs : List V), vs = [.ref d, .ref l] ∧ St1 K H d c ∧ SqL K H l xs ∧ xs ≠ [] ∧ xs.length ≤ 1000 ∧
  ∀ v H', v ∈ xs → St1 K H' d c → Keep d H H' → Q v H'
/-- a value's kind -/
def isInt : V → Bool | .int _ => true | _ => false
def isBl : V → Bool | .bl _ => true | _ => false
def spIsNum : Sp := fun vs H Q _ => ∃ n : Int, vs = [.int n] ∧ Q (.bl true) H
theorem log_of {b : Int} (h0 : 0 < b) (h1 : b ≤ 10000000000000000000000000000000000000000000000000000000000000000000000) : CDivW l b := wide_div (b := 300) h0 (by
  have : (b.natAbs : Int) = b := by omega
  have e : (2 : Nat) ^ 300 = 2037035976334486086268445688409378161051468393665936250636140449354381299763336706183397376 := by decide +kernel
  rw [e]
  omega) (by decide) (by decide)
/-! tests whose answer is known -/
theorem ifN {c A B : Prop} [Decidable c] (h : ¬ c) (q : B) : if decide c = true then A else B := by
  rw [decide_eq_false h]
  exact iteF q
theorem ifY {c A B : Prop} [Decidable c] (h : c) (q : A) : if decide c = true then A else B := by
  rw [decide_eq_true h]
  exact iteT q
theorem wm {i j : Int} (hi : i.natAbs < 2 ^ 250) (hj : j.natAbs < 2 ^ 250) : CMulW i j := wide_mul hi hj (by decide) (by decide) (by decide)
theorem ltge (a b : Int) : a < b ∨ b ≤ a := by omega
theorem nm {i : Nat} {x : V} {σ : L2.St} {H : Hp} {k : L2.St → Hp → Prop} (h : k (σ.set i (some x)) H) : gName i x σ H k := h
/-! math.isqrt -/
def rIsqrt : List V → Hp → VK → Prop := fun vs H Q => ∃ n : Int, vs = [.int n] ∧ 0 ≤ n ∧ n.natAbs < 2 ^ 250 ∧ ∀ r : Int, 0 ≤ r → r * r ≤ n → n < (r + 1) * (r + 1) → Q (.int r) H
theorem cr_isqrt {X : Cx} : CallR X (.builtin "math.isqrt") rIsqrt := by
  intro pins s σ H vs us Q I r h
  obtain ⟨a, rfl, h0, h1, q⟩ := h
  obtain ⟨u, rfl, t, rfl⟩ := vals1 r
  have hl : a.toNat.log2 < 250 := by
    have e : a.toNat = a.natAbs := by omega
    rw [e]
    exact PySem.Flt.log2_lt_of (by decide) h1
  obtain ⟨z1, z2⟩ := PySem.Float64.isqrt_spec a.toNat
  refine call_function_meets PySem.W.MGF.kind_isqrt PySem.W.MGF.plain_isqrt PySem.W.MGF.entry_isqrt (PySem.W.MGF.args_isqrt _) (PySem.W.mg_run_isqrt a t (by omega) (by omega) (by omega)).meets ?_
  refine ⟨.int ((Float64.isqrt a.toNat : Nat) : Int), H, I.tok _, ⟨_, rfl⟩, q _ (Int.natCast_nonneg _) ?_ ?_⟩
  · have := Int.ofNat_le.mpr z1
    rw [Int.natCast_mul] at this
    omega
  · have := Int.ofNat_lt.mpr z2
    rw [Int.natCast_mul, Int.natCast_add] at this
    have e : ((a.toNat : Nat) : Int) = a := by omega
    rw [e] at this
    exact this
theorem szOk {xs : List V} (h : Nat.ble xs.length 1000 = true) : xs.length ≤ sizeLine := Nat.le_trans (Nat.le_of_ble_eq_true h) (by decide)
theorem eqN {a b : Int} {A B : Prop} (h : a ≠ b) (q : B) : if decide (V.int a = V.int b) = true then A else B := ifN (fun z => h (V.int.inj z)) q
theorem eqY {a b : Int} {A B : Prop} (h : a = b) (q : A) : if decide (V.int a = V.int b) = true then A else B := ifY (congrArg V.int h) q
theorem neN {a b : Int} {A B : Prop} (h : a = b) (q : B) : if (!decide (V.int a = V.int b)) = true then A else B := iteNS (congrArg V.int h) q
/-! tracked things behind a call that changes the state alone -/
section
variable {K : PySem.W.Frag} {d c : Addr} {H H' : Hp}
theorem Keep.l (k : Keep d H H') (S : St1 K H d c) {a : Addr} {xs : List V} (h : H a = some (.lst xs)) : H' a = some (.lst xs) := let ⟨_, e⟩ := S.dk; k.lst e h
theorem Keep.t (k : Keep d H H') (S : St1 K H d c) {a : Addr} {xs : List V} (h : H a = some (.tup xs)) : H' a = some (.tup xs) := let ⟨_, e⟩ := S.dk; k.tp e h
theorem Keep.sl (k : Keep d H H') (S : St1 K H d c) {a : Addr} {xs : List V} (h : SqL K H a xs) : SqL K H' a xs := let ⟨_, e⟩ := S.dk; k.seq e h
theorem Keep.st (k : Keep d H H') (S : St1 K H d c) {a : Addr} {xs : List V} (h : SqT K H a xs) : SqT K H' a xs := let ⟨_, e⟩ := S.dk; k.tup e h
end
theorem sq0 (x : Int) : 0 ≤ x * x := by
  rcases ltge x 0 with z | z
  · have := Int.mul_nonneg (show 0 ≤ -x by omega) (show 0 ≤ -x by omega)
    rw [Int.neg_mul_neg] at this
    exact this
  · exact Int.mul_nonneg z z
theorem atI0 {α : Type} {xs : List α} {j : Nat} {v : α} (h : xs[j]? = some v) : atI xs (0 + (j : Int)) = some v := by
  rw [Int.zero_add]
  exact atI_nat h
theorem atI_back {α : Type} {xs : List α} {v : α} (h : xs.getLast? = some v) : atI xs (-1) = some v := by
  obtain ⟨ys, rfl⟩ := List.getLast?_eq_some_iff.mp h
  exact atI_last ys v
theorem eqvN {d : PyData} {A B : Prop} (h : d.canLay0 = true) (q : B) : if (!PyData.eqv d d) = true then A else B := by
  rw [SeqAt.eqv_refl d h]
  exact q
theorem getInt {ns : List Int} {i : Nat} {y : V} (h : (ns.map V.int)[i]? = some y) : ∃ x, y = .int x ∧ x ∈ ns ∧ i < ns.length ∧ ns.take (i + 1) = ns.take i ++ [x] := by
  rw [List.getElem?_map] at h
  cases e : ns[i]? with
  | none => rw [e] at h; cases h
  | some x =>
    rw [e] at h
    exact ⟨x, (Option.some.inj h).symm, List.mem_of_getElem? e, (List.getElem?_eq_some_iff.mp e).1, by rw [List.take_add_one, e]; rfl⟩
/-- the built-in names that the text has not bound -/
structure Txt0 (mg : Str → Option Value) : Prop where
  abs : mg "abs" = none
  int : mg "int" = none
  len : mg "len" = none
  bool : mg "bool" = none
  isinstance : mg "isinstance" = none
structure TxtA (mg : Str → Option Value) : Prop extends Txt0 mg where
  max : mg "max" = none
  min : mg "min" = none
  range : mg "range" = none
  tuple : mg "tuple" = none
  list : mg "list" = none
  sum : mg "sum" = none
  any : mg "any" = none
  all : mg "all" = none
  sorted : mg "sorted" = none
  dict : mg "dict" = none
  enumerate : mg "enumerate" = none
theorem getMap {α : Type} {f : α → V} {ns : List α} {i : Nat} {y : V} (h : (ns.map f)[i]? = some y) : ∃ x, y = f x ∧ x ∈ ns ∧ i < ns.length ∧ ns.take (i + 1) = ns.take i ++ [x] := by
  rw [List.getElem?_map] at h
  cases e : ns[i]? with
  | none => rw [e] at h; cases h
  | some x =>
    rw [e] at h
    exact ⟨x, (Option.some.inj h).symm, List.mem_of_getElem? e, (List.getElem?_eq_some_iff.mp e).1, by rw [List.take_add_one, e]; rfl⟩
theorem sq_le {x b : Int} (h0 : -b ≤ x) (h1 : x ≤ b) : x * x ≤ b * b := by
  rcases ltge x 0 with z | z
  · have := Int.mul_le_mul (show -x ≤ b by omega) (show -x ≤ b by omega) (show 0 ≤ -x by omega) (show 0 ≤ b by omega)
    rw [Int.neg_mul_neg] at this
    exact this
  · exact Int.mul_le_mul h1 h1 z (by omega)
/-- 2 ^ (24 - i) -/
def pw (i : Nat) : Int := (2 ^ (24 - i) : Nat)
theorem pw_step {i : Nat} (h : i < 24) : pw i = 2 * pw (i + 1) := by
  unfold pw
  rw [show 24 - i = (24 - (i + 1)) + 1 by omega, Nat.pow_succ]
  omega
theorem mapAt {α : Type} {f : α → V} {ns : List α} {i : Nat} (h : i < ns.length) : (ns.map f)[i]? = some (f ns[i]) := by simp [h]
theorem at_mod {α : Type} {f : α → V} {ns : List α} {z m : Int} (hm : m = (ns.length : Int)) (h : 0 < ns.length) : ∃ x, x ∈ ns ∧ atI (ns.map f) (z % m) = some (f x) := by
  obtain ⟨j, hj⟩ : ∃ j : Nat, z % m = (j : Int) := ⟨(z % m).toNat, by have := Int.emod_nonneg z (show m ≠ 0 by omega); omega⟩
  have hj2 : j < ns.length := by have := Int.emod_lt_of_pos z (show 0 < m by omega); omega
  exact ⟨ns[j], List.getElem_mem hj2, by rw [hj]; exact atI_nat (mapAt hj2)⟩
/-- all that stood, but at d -/
theorem Keep.none {d a : Addr} {H H' : Hp} (k : Keep d H H') (n : a ≠ d) (h : H' a = none) : H a = none := by
  cases e : H a with
  | none => rfl
  | some o => rw [k _ _ e n] at h; cases h
theorem atI_lastn {α : Type} {xs : List α} {v : α} {m : Int} (hm : m = (xs.length : Int) - 1) (h : xs.getLast? = some v) : atI xs m = some v := by
  obtain ⟨ys, rfl⟩ := List.getLast?_eq_some_iff.mp h
  rw [hm, List.length_append, List.length_singleton]
  have e : ((ys.length + 1 : Nat) : Int) - 1 = ((ys.length : Nat) : Int) := by omega
  rw [e]
  exact atI_nat (by simp)
theorem sq_swap (a b : Int) : (a - b) * (a - b) = (b - a) * (b - a) := by
  have e : a - b = -(b - a) := by omega
  rw [e, Int.neg_mul_neg]
def rLenK (K : PySem.W.Frag) : List V → Hp → VK → Prop := fun xs H Q => ∃ p ys, xs = [V.ref p] ∧ (SqL K H p ys ∨ SqT K H p ys) ∧ Q (.int ys.length) H
end Sk

set_option Elab.async false
set_option linter.all false
set_option maxRecDepth 100000
set_option maxHeartbeats 4000000
namespace Sk
open PySem PySem.Spec PyProof.Rows L2
/-! a method of the text, ready to be called -/
structure MDef (P : Program) (w : World) (K : PySem.W.Frag) (mg : Str → Option Value) (base : Heap) (k : Nat) (C : Addr) (m : Str) (ps : List Str) (sp : Sp) : Prop where
  ex : ∃ (f : Addr) (fd : FuncData), FnOk P w K mg base CX0 k f fd ps sp ∧ Meth K C m f ∧ Binds K fd ps []
theorem pe_mdef {X : Cx} {k : Nat} {C : Addr} {m : Str} {ps : List Str} {sp : Sp} {pos apos : Pos} {o e : Expr} {es : List Expr} {ta : TE} {t : TA} {pl : Sem Bool} (D : MDef X.prog X.w X.K X.mg X.base k C m ps sp) (cl : Cls X.K C) (hr : Room k X.A) (ho : PE X o ta)
    (ha : PA X (e :: es) t) (he : starEach (e :: es) X.env = (false, eval e X.env) :: starEach es X.env := by rfl) (hpl : (backTo pos (starEach es X.env)).any (·.1) = false := by rfl)
    (ht : eval (.Call (.Attribute o m apos) (e :: es) [] pos) X.env = (do
      let ov ← eval o X.env
      standAt apos.atName
      let (f, first) ← holding [ov] (getMethod ov m pl)
      callWith pos f first (backTo pos (starEach (e :: es) X.env)) (backToKw pos (keywordEach [] X.env))) := by rfl) :
    PE X (.Call (.Attribute o m apos) (e :: es) [] pos) (tMeth C m sp [] E0 ta t) := by
  obtain ⟨f, fd, F, M, b⟩ := D.ex
  exact pe_meth ho cl M F hr b .nil pass0 ha he hpl ht
theorem pe_mdef0 {X : Cx} {k : Nat} {C : Addr} {m : Str} {ps : List Str} {sp : Sp} {pos apos : Pos} {o : Expr} {ta : TE} {pl : Sem Bool} (D : MDef X.prog X.w X.K X.mg X.base k C m ps sp) (cl : Cls X.K C) (hr : Room k X.A) (ho : PE X o ta)
    (ht : eval (.Call (.Attribute o m apos) [] [] pos) X.env = (do
      let ov ← eval o X.env
      standAt apos.atName
      let (f, first) ← holding [ov] (getMethod ov m pl)
      callWith pos f first (backTo pos (starEach [] X.env)) (backToKw pos (keywordEach [] X.env))) := by rfl) :
    PE X (.Call (.Attribute o m apos) [] [] pos) (tMeth C m sp [] E0 ta tNil) := by
  obtain ⟨f, fd, F, M, b⟩ := D.ex
  exact pe_meth0 ho cl M F hr b .nil pass0 ht
/-! roots -/
def rt (n : Int) : Int :=
  let q : Int := (Float64.isqrt n.toNat : Nat)
  if q * q < n then q + 1 else q
structure IsRt (n r : Int) : Prop where
  nn : 0 ≤ r
  up : n ≤ r * r
  lo : r = 0 ∨ (r - 1) * (r - 1) < n
theorem mono_sq {a b : Int} (h0 : 0 ≤ a) (h : a ≤ b) : a * a ≤ b * b := Int.mul_le_mul h h h0 (by omega)
theorem IsRt.le {n r r' : Int} (h : IsRt n r) (h' : IsRt n r') : r ≤ r' := by
  rcases h.lo with z | z
  · have := h'.nn; omega
  · rcases ltge r' r with w | w
    · have a := mono_sq h'.nn (show r' ≤ r - 1 by omega)
      have b := h'.up
      omega
    · exact w
theorem IsRt.eq {n r r' : Int} (h : IsRt n r) (h' : IsRt n r') : r = r' := by
  have a := h.le h'
  have b := h'.le h
  omega
theorem rt_is {n : Int} (hn : 0 ≤ n) : IsRt n (rt n) := by
  obtain ⟨z1, z2⟩ := PySem.Float64.isqrt_spec n.toNat
  have e : ((n.toNat : Nat) : Int) = n := by omega
  have a := Int.ofNat_le.mpr z1
  have b := Int.ofNat_lt.mpr z2
  rw [Int.natCast_mul, e] at a
  rw [Int.natCast_mul, Int.natCast_add, e] at b
  have q0 : (0 : Int) ≤ (Float64.isqrt n.toNat : Nat) := Int.natCast_nonneg _
  unfold rt
  dsimp only
  generalize ((Float64.isqrt n.toNat : Nat) : Int) = q at a b q0 ⊢
  have b' : n < (q + 1) * (q + 1) := b
  by_cases h : q * q < n
  · rw [if_pos h]
    exact ⟨by omega, by omega, .inr (by rw [show q + 1 - 1 = q by omega]; exact h)⟩
  · rw [if_neg h]
    refine ⟨q0, by omega, ?_⟩
    rcases ltge 0 q with w | w
    · right
      have : (q - 1) * (q - 1) = q * q - 2 * q + 1 := by
        rw [Int.sub_mul, Int.mul_sub, Int.mul_sub]; omega
      omega
    · left; omega
theorem rt_nn {n : Int} (hn : 0 ≤ n) : 0 ≤ rt n := (rt_is hn).nn
theorem rt_small {n b : Int} (hn : 0 ≤ n) (hb : 0 ≤ b) (h : n ≤ b * b) : rt n ≤ b := by
  rcases (rt_is hn).lo with z | z
  · omega
  · rcases ltge b (rt n) with w | w
    · have := mono_sq hb (show b ≤ rt n - 1 by omega)
      omega
    · exact w
/-! texts whose signs are signs -/
abbrev sOk (x : Str) : Prop := PySem.PyData.strOk x = true
theorem sOk_app {x y : Str} (h1 : sOk x) (h2 : sOk y) : sOk (x ++ y) := by
  unfold sOk PySem.PyData.strOk at *
  show (x.cps ++ y.cps).all (· < 0x110000) = true
  rw [Array.all_append, h1, h2]
  rfl
/-! the chart -/
structure Lg where
  a : Addr
  s : Str
  e : Str
  c : Str
  lo : Int
  hi : Int
def Lg.v (l : Lg) : List V := [.str l.s, .str l.e, .str l.c, .int l.lo, .int l.hi]
structure CD where
  fx : Addr
  lg : Addr
  fs : List (Key × V)
  pt : Str → Option (Addr × Int × Int)
  ls : List Lg
structure ChartAt (H : Hp) (ch : Addr) (D : CD) : Prop where
  ch : ∃ kvs, H ch = some (.dK kvs) ∧ valV kvs (.inr "fixes") = some (.ref D.fx) ∧ valV kvs (.inr "legs") = some (.ref D.lg)
  fx : H D.fx = some (.dK D.fs)
  lg : H D.lg = some (.lst (D.ls.map fun l => V.ref l.a))
  lt : ∀ l ∈ D.ls, H l.a = some (.tup l.v)
  pf : ∀ n a x y, D.pt n = some (a, x, y) → valV D.fs (.inr n) = some (.ref a) ∧ H a = some (.tup [.int x, .int y]) ∧ -100000 ≤ x ∧ x ≤ 100000 ∧ -100000 ≤ y ∧ y ≤ 100000
  wf : ∀ l ∈ D.ls, (∃ a x y, D.pt l.s = some (a, x, y)) ∧ ∃ a x y, D.pt l.e = some (a, x, y)
  sk : ∀ l ∈ D.ls, sOk l.s ∧ sOk l.e ∧ sOk l.c
  n : D.ls.length ≤ 100
theorem ChartAt.same {H H' : Hp} {ch : Addr} {D : CD} (C : ChartAt H ch D) (e : Same H H') : ChartAt H' ch D := by
  obtain ⟨⟨kvs, h1, h2, h3⟩, h4, h5, h6, h7, h8, h8', h9⟩ := C
  exact ⟨⟨kvs, e _ _ h1, h2, h3⟩, e _ _ h4, e _ _ h5, fun l hl => e _ _ (h6 l hl), fun n a x y hp => let ⟨p1, p2, p3⟩ := h7 n a x y hp; ⟨p1, e _ _ p2, p3⟩, h8, h8', h9⟩
theorem ChartAt.keep {K : PySem.W.Frag} {H H' : Hp} {d c ch : Addr} {D : CD} (C : ChartAt H ch D) (S : St1 K H d c) (k : Keep d H H') (n1 : ch ≠ d) (n2 : D.fx ≠ d) : ChartAt H' ch D := by
  obtain ⟨⟨kvs, h1, h2, h3⟩, h4, h5, h6, h7, h8, h8', h9⟩ := C
  exact ⟨⟨kvs, k _ _ h1 n1, h2, h3⟩, k _ _ h4 n2, k.l S h5, fun l hl => k.t S (h6 l hl), fun n a x y hp => let ⟨p1, p2, p3⟩ := h7 n a x y hp; ⟨p1, k.t S p2, p3⟩, h8, h8', h9⟩
theorem ChartAt.gf {H : Hp} {ch : Addr} {D : CD} (C : ChartAt H ch D) : DGet H ch (.str "fixes") (some (.ref D.fx)) := let ⟨_, h1, h2, _⟩ := C.ch; h2 ▸ DGet.k (k := .inr "fixes") h1
theorem ChartAt.gl {H : Hp} {ch : Addr} {D : CD} (C : ChartAt H ch D) : DGet H ch (.str "legs") (some (.ref D.lg)) := let ⟨_, h1, _, h3⟩ := C.ch; h3 ▸ DGet.k (k := .inr "legs") h1
theorem ChartAt.gp {H : Hp} {ch : Addr} {D : CD} (C : ChartAt H ch D) {n : Str} {a : Addr} {x y : Int} (h : D.pt n = some (a, x, y)) : DGet H D.fx (.str n) (some (.ref a)) := (C.pf n a x y h).1 ▸ DGet.k (k := .inr n) C.fx
/-- the length of the leg between two names -/
def CD.len (D : CD) (s e : Str) : Int := match D.pt s, D.pt e with
  | some (_, ax, ay), some (_, bx, by') => rt ((bx - ax) * (bx - ax) + (by' - ay) * (by' - ay))
  | _, _ => 0
theorem CD.len_eq {D : CD} {s e : Str} {a b : Addr} {ax ay bx by' : Int} (h1 : D.pt s = some (a, ax, ay)) (h2 : D.pt e = some (b, bx, by')) : D.len s e = rt ((bx - ax) * (bx - ax) + (by' - ay) * (by' - ay)) := by
  unfold CD.len
  rw [h1, h2]
def CD.leg (D : CD) (s e : Str) : Option Lg := D.ls.find? fun l => decide (l.s = s) && decide (l.e = e)
def optL : Option Lg → V
  | some l => .ref l.a
  | none => .non
theorem CD.leg_mem {D : CD} {s e : Str} {l : Lg} (h : D.leg s e = some l) : l ∈ D.ls ∧ l.s = s ∧ l.e = e := by
  have h1 := List.find?_some h
  simp only [Bool.and_eq_true, decide_eq_true_eq] at h1
  exact ⟨List.mem_of_find?_eq_some h, h1.1, h1.2⟩
/-! promises -/
def spUpR : Sp := fun vs H Q _ => ∃ n : Int, vs = [.int n] ∧ 0 ≤ n ∧ n.natAbs < 2 ^ 240 ∧ Q (.int (rt n)) H
def spDownR : Sp := fun vs H Q _ => ∃ n : Int, vs = [.int n] ∧ n.natAbs < 2 ^ 250 ∧ ∀ r : Int, 0 ≤ r → (n ≤ 0 → r = 0) → (0 ≤ n → r * r ≤ n ∧ n < (r + 1) * (r + 1)) → Q (.int r) H
def spRootR : Sp := fun vs H Q _ => ∃ n : Int, vs = [.int n] ∧ 0 ≤ n ∧ n ≤ 100000000000000 ∧ Q (.int (rt n)) H
def spLegLen : Sp := fun vs H Q _ => ∃ (ch : Addr) (D : CD) (s e : Str) (a b : Addr) (ax ay bx by' : Int), vs = [.ref ch, .str s, .str e] ∧ ChartAt H ch D ∧ D.pt s = some (a, ax, ay) ∧ D.pt e = some (b, bx, by') ∧ Q (.int (D.len s e)) H
def spLegBt : Sp := fun vs H Q _ => ∃ (ch : Addr) (D : CD) (s e : Str), vs = [.ref ch, .str s, .str e] ∧ ChartAt H ch D ∧ Q (optL (D.leg s e)) H
def spIs : Sp := fun vs H Q _ => ∃ a b : Bool, vs = [.bl a, .bl b] ∧ Q (.bl (decide (a = b))) H
/-- a list of texts -/
def spNames (K : PySem.W.Frag) : Sp := fun vs H Q _ => ∃ (d c : Addr) (m : Int), vs = [.ref d, .int m] ∧ St1 K H d c ∧ 0 ≤ m ∧ m ≤ 12 ∧
  ∀ (ns : List Str) p H', (ns.length : Int) = m → (∀ n ∈ ns, sOk n) → ns.Nodup → H p = none → H' p = some (.lst (ns.map V.str)) → St1 K H' d c → Keep d H H' → Q (.ref p) H'
/-- legs among the names -/
structure LegsAt (H : Hp) (l : Addr) (ns : List Str) (ls : List Lg) : Prop where
  li : H l = some (.lst (ls.map fun l => V.ref l.a))
  tu : ∀ q ∈ ls, H q.a = some (.tup q.v)
  nm : ∀ q ∈ ls, q.s ∈ ns ∧ q.e ∈ ns
  ck : ∀ q ∈ ls, sOk q.c
  ne : ns.Nodup → ∀ q ∈ ls, q.s ≠ q.e
theorem LegsAt.same {H H' : Hp} {l : Addr} {ns : List Str} {ls : List Lg} (L : LegsAt H l ns ls) (e : Same H H') : LegsAt H' l ns ls := ⟨e _ _ L.li, fun q h => e _ _ (L.tu q h), L.nm, L.ck, L.ne⟩
theorem LegsAt.keep {K : PySem.W.Frag} {H H' : Hp} {d c l : Addr} {ns : List Str} {ls : List Lg} (L : LegsAt H l ns ls) (S : St1 K H d c) (k : Keep d H H') : LegsAt H' l ns ls := ⟨k.l S L.li, fun q h => k.t S (L.tu q h), L.nm, L.ck, L.ne⟩
theorem LegsAt.snoc {H : Hp} {l : Addr} {ns : List Str} {ls : List Lg} {q : Lg} (L : LegsAt H l ns ls) (hp : H q.a = some (.tup q.v)) (h1 : q.s ∈ ns) (h2 : q.e ∈ ns) (h3 : sOk q.c) (h4 : ns.Nodup → q.s ≠ q.e) : LegsAt (upd H l (.lst ((ls.map fun l => V.ref l.a) ++ [.ref q.a]))) l ns (ls ++ [q]) := by
  refine ⟨by rw [upd_same, List.map_append]; rfl, fun z hz => ?_, fun z hz => ?_, fun z hz => ?_, fun nd z hz => ?_⟩
  · have ht : H z.a = some (.tup z.v) := by
      rcases List.mem_append.mp hz with h | h
      · exact L.tu z h
      · rw [List.mem_singleton.mp h]; exact hp
    rw [upd_ne (ne_of ht L.li (by intro e; cases e))]
    exact ht
  · rcases List.mem_append.mp hz with h | h
    · exact L.nm z h
    · rw [List.mem_singleton.mp h]; exact ⟨h1, h2⟩
  · rcases List.mem_append.mp hz with h | h
    · exact L.ck z h
    · rw [List.mem_singleton.mp h]; exact h3
  · rcases List.mem_append.mp hz with h | h
    · exact L.ne nd z h
    · rw [List.mem_singleton.mp h]; exact h4 nd
def spLegs (K : PySem.W.Frag) : Sp := fun vs H Q _ => ∃ (d c l : Addr) (ns : List Str), vs = [.ref d, .ref l] ∧ St1 K H d c ∧ H l = some (.lst (ns.map V.str)) ∧ 2 ≤ ns.length ∧ ns.length ≤ 12 ∧
  ∀ (ls : List Lg) p H', LegsAt H' p ns ls → ls.length ≤ 100 → H p = none → St1 K H' d c → Keep d H H' → Q (.ref p) H'
def spChart (K : PySem.W.Frag) : Sp := fun vs H Q _ => ∃ (d c : Addr) (m z : Int), vs = [.ref d, .int m, .int z] ∧ St1 K H d c ∧ 2 ≤ m ∧ m ≤ 7 ∧ 1 ≤ z ∧ z ≤ 9000 ∧
  ∀ (D : CD) ch H', (∀ l ∈ D.ls, 1 ≤ D.len l.s l.e) → ChartAt H' ch D → H ch = none → H D.fx = none → St1 K H' d c → Keep d H H' → Q (.ref ch) H'
def spLawLeg : Sp := spLegBt
/-! the parts of a chart while it is made -/
/-- all but two -/
def Keep2 (d e : Addr) (H H' : Hp) : Prop := ∀ c o, H c = some o → c ≠ d → c ≠ e → H' c = some o
theorem Keep2.refl (d e : Addr) (H : Hp) : Keep2 d e H H := fun _ _ h _ _ => h
theorem Keep2.k {d e : Addr} {H H1 H2 : Hp} (a : Keep2 d e H H1) (b : Keep d H1 H2) : Keep2 d e H H2 := fun c o h n m => b c o (a c o h n m) n
theorem Keep2.new {d e p : Addr} {o : HO} {H H1 : Hp} (a : Keep2 d e H H1) (h : H1 p = none) : Keep2 d e H (upd H1 p o) := fun c u q n m => same_new h _ _ (a c u q n m)
theorem Keep2.put {d e : Addr} {o : HO} {H H1 : Hp} (a : Keep2 d e H H1) : Keep2 d e H (upd H1 e o) := fun c u q n m => by
  rw [upd_ne m]
  exact a c u q n m
structure FixAt (H : Hp) (f : Addr) (kvs : List (Key × V)) (pt : Str → Option (Addr × Int × Int)) (ns : List Str) : Prop where
  dc : H f = some (.dK kvs)
  pf : ∀ n a x y, pt n = some (a, x, y) → valV kvs (.inr n) = some (.ref a) ∧ H a = some (.tup [.int x, .int y]) ∧ -100000 ≤ x ∧ x ≤ 100000 ∧ -100000 ≤ y ∧ y ≤ 100000
  nm : ∀ n ∈ ns, ∃ a x y, pt n = some (a, x, y)
theorem FixAt.same {H H' : Hp} {f : Addr} {kvs : List (Key × V)} {pt : Str → Option (Addr × Int × Int)} {ns : List Str} (F : FixAt H f kvs pt ns) (e : Same H H') : FixAt H' f kvs pt ns :=
  ⟨e _ _ F.dc, fun n a x y h => let ⟨h1, h2, h3⟩ := F.pf n a x y h; ⟨h1, e _ _ h2, h3⟩, F.nm⟩
theorem FixAt.keep {K : PySem.W.Frag} {H H' : Hp} {d c f : Addr} {kvs : List (Key × V)} {pt : Str → Option (Addr × Int × Int)} {ns : List Str} (F : FixAt H f kvs pt ns) (S : St1 K H d c) (k : Keep d H H') (n : f ≠ d) : FixAt H' f kvs pt ns :=
  ⟨k _ _ F.dc n, fun n a x y h => let ⟨h1, h2, h3⟩ := F.pf n a x y h; ⟨h1, k.t S h2, h3⟩, F.nm⟩
theorem FixAt.keep2 {K : PySem.W.Frag} {H H' : Hp} {d c e f : Addr} {o : List (Key × V)} {kvs : List (Key × V)} {pt : Str → Option (Addr × Int × Int)} {ns : List Str} (F : FixAt H f kvs pt ns) (S : St1 K H d c) (he : ∀ xs, H e ≠ some (.tup xs)) (k : Keep2 d e H H') (n : f ≠ d) (m : f ≠ e) : FixAt H' f kvs pt ns :=
  ⟨k _ _ F.dc n m, fun n a x y h => let ⟨h1, h2, h3⟩ := F.pf n a x y h; ⟨h1, k _ _ h2 (let ⟨_, z⟩ := S.dk; ne_of h2 z (by intro w; cases w)) (fun w => he _ (w ▸ h2)), h3⟩, F.nm⟩
theorem FixAt.put {H : Hp} {f p : Addr} {kvs : List (Key × V)} {pt : Str → Option (Addr × Int × Int)} {ns : List Str} {n : Str} {x y : Int} (F : FixAt H f kvs pt ns) (hp : H p = some (.tup [.int x, .int y])) (b : -100000 ≤ x ∧ x ≤ 100000 ∧ -100000 ≤ y ∧ y ≤ 100000) :
    FixAt (upd H f (.dK (putK kvs (.inr n) (.ref p)))) f (putK kvs (.inr n) (.ref p)) (fun m => if m = n then some (p, x, y) else pt m) (ns ++ [n]) := by
  refine ⟨upd_same, fun m a u v h => ?_, fun m hm => ?_⟩
  · rw [valV_put]
    by_cases e : m = n
    · subst e
      simp only [if_true] at h
      cases h
      rw [if_pos rfl, upd_ne (ne_of hp F.dc (by intro z; cases z))]
      exact ⟨rfl, hp, b⟩
    · simp only [if_neg e] at h
      obtain ⟨h1, h2, h3⟩ := F.pf m a u v h
      rw [if_neg (fun z => e (Sum.inr.inj z)), upd_ne (ne_of h2 F.dc (by intro z; cases z))]
      exact ⟨h1, h2, h3⟩
  · by_cases e : m = n
    · exact ⟨p, x, y, by simp [e]⟩
    · rcases List.mem_append.mp hm with h | h
      · obtain ⟨a, u, v, h⟩ := F.nm m h
        exact ⟨a, u, v, by simp only [if_neg e]; exact h⟩
      · exact absurd (List.mem_singleton.mp h) e
theorem putK_len {kvs : List (Key × V)} {k : Key} {v : V} : (putK kvs k v).length ≤ kvs.length + 1 := by
  unfold putK
  split
  · rw [List.length_map]; omega
  · rw [List.length_append]; exact Nat.le_refl _
section
variable {f l z r h u w : V}
def chK (f l z r h u w : V) : List (Key × V) := putK (putK (mergeK [] [(.inr "fixes", f), (.inr "legs", l), (.inr "zones", z), (.inr "runways", r), (.inr "holds", h)]) (.inr "hours") u) (.inr "capacities") w
theorem ch_fix : valV (chK f l z r h u w) (.inr "fixes") = some f := by
  unfold chK
  simp only [mergeK, List.foldl, valV_put]
  rw [if_neg (kr (by decide +kernel)), if_neg (kr (by decide +kernel)), if_neg (kr (by decide +kernel)), if_neg (kr (by decide +kernel)), if_neg (kr (by decide +kernel)), if_neg (kr (by decide +kernel)), if_pos trivial]
theorem ch_leg : valV (chK f l z r h u w) (.inr "legs") = some l := by
  unfold chK
  simp only [mergeK, List.foldl, valV_put]
  rw [if_neg (kr (by decide +kernel)), if_neg (kr (by decide +kernel)), if_neg (kr (by decide +kernel)), if_neg (kr (by decide +kernel)), if_neg (kr (by decide +kernel)), if_pos trivial]
theorem ch_len : (mergeK [] [((.inr "fixes" : Key), f), (.inr "legs", l), (.inr "zones", z), (.inr "runways", r), (.inr "holds", h)]).length ≤ 5 := by
  have := length_mergeK [((.inr "fixes" : Key), f), (.inr "legs", l), (.inr "zones", z), (.inr "runways", r), (.inr "holds", h)] []
  simpa using this
end
/-! routes -/
def rn (ns : List Str) (j : Nat) : Str := ns.getD j (Str.ofString "")
theorem rn_at {ns : List Str} {j : Nat} (h : j < ns.length) : (ns.map V.str)[j]? = some (V.str (rn ns j)) := by
  unfold rn
  simp [h]
def Chain (D : CD) (ns : List Str) : Prop := ∀ j, j + 1 < ns.length → ∃ l, D.leg (rn ns j) (rn ns (j + 1)) = some l
theorem rn_l {xs ys : List Str} {j : Nat} (h : j < xs.length) : rn (xs ++ ys) j = rn xs j := by
  unfold rn
  rw [List.getD_eq_getElem?_getD, List.getD_eq_getElem?_getD, List.getElem?_append_left h]
theorem rn_r (xs : List Str) (b : Str) : rn (xs ++ [b]) xs.length = b := by
  unfold rn
  rw [List.getD_eq_getElem?_getD, List.getElem?_append_right (Nat.le_refl _), Nat.sub_self]
  rfl
theorem Chain.snoc {D : CD} {ns : List Str} {a b : Str} (h : Chain D ns) (ha : ns.getLast? = some a) (hl : ∃ l, D.leg a b = some l) : Chain D (ns ++ [b]) := by
  intro j hj
  rw [List.length_append, List.length_singleton] at hj
  obtain ⟨ys, rfl⟩ := List.getLast?_eq_some_iff.mp ha
  by_cases e : j + 1 < (ys ++ [a]).length
  · rw [rn_l (show j < (ys ++ [a]).length by omega), rn_l e]
    exact h j e
  · have ej : j = ys.length := by rw [List.length_append, List.length_singleton] at e hj; omega
    subst ej
    have e2 : rn (ys ++ [a] ++ [b]) (ys.length + 1) = b := by
      have := rn_r (ys ++ [a]) b
      rw [List.length_append, List.length_singleton] at this
      exact this
    rw [rn_l (by rw [List.length_append, List.length_singleton]; omega), rn_r, e2]
    exact hl
structure Route (D : CD) (ns : List Str) : Prop where
  n2 : 2 ≤ ns.length
  n20 : ns.length ≤ 20
  ch : Chain D ns
theorem CD.leg_some {D : CD} {l : Lg} (h : l ∈ D.ls) : ∃ l', D.leg l.s l.e = some l' := by
  cases e : D.leg l.s l.e with
  | some l' => exact ⟨l', rfl⟩
  | none =>
    have := List.find?_eq_none.mp e l h
    simp at this
/-- the lengths of the legs -/
def LenAt (H : Hp) (ld : Addr) (D : CD) : Prop := ∃ kvs, H ld = some (.dT kvs) ∧ ∀ s e l, D.leg s e = some l → valV kvs [(.inr s : Key), .inr e] = some (.int (D.len s e))
theorem LenAt.same {H H' : Hp} {ld : Addr} {D : CD} (L : LenAt H ld D) (e : Same H H') : LenAt H' ld D := let ⟨kvs, h1, h2⟩ := L; ⟨kvs, e _ _ h1, h2⟩
theorem LenAt.keep {K : PySem.W.Frag} {H H' : Hp} {d c ld : Addr} {D : CD} (L : LenAt H ld D) (S : St1 K H d c) (k : Keep d H H') : LenAt H' ld D :=
  let ⟨kvs, h1, h2⟩ := L; ⟨kvs, k _ _ h1 (let ⟨_, w⟩ := S.dk; ne_of h1 w (by intro z; cases z)), h2⟩
theorem LenAt.g {H : Hp} {ld p : Addr} {D : CD} {s e : Str} (L : LenAt H ld D) (h : ∃ l, D.leg s e = some l) (hp : H p = some (.tup [.str s, .str e])) : DGet H ld (.ref p) (some (.int (D.len s e))) := by
  obtain ⟨kvs, h1, h2⟩ := L
  obtain ⟨l, h⟩ := h
  rw [← h2 s e l h]
  exact DGet.t (k := [(.inr s : Key), .inr e]) h1 hp
def spLegS : Sp := fun vs H Q _ => ∃ (ch : Addr) (D : CD) (s e : Str), vs = [.ref ch, .str s, .str e] ∧ ChartAt H ch D ∧ ∀ H', Same H H' → Q (optL (D.leg s e)) H'
def spLens : Sp := fun vs H Q _ => ∃ (ch : Addr) (D : CD), vs = [.ref ch] ∧ ChartAt H ch D ∧ ∀ ld H', H ld = none → LenAt H' ld D → Same H H' → Q (.ref ld) H'
def spWalk (K : PySem.W.Frag) : Sp := fun vs H Q _ => ∃ (d c ch : Addr) (D : CD) (m : Int), vs = [.ref d, .ref ch, .int m] ∧ St1 K H d c ∧ ChartAt H ch D ∧ ch ≠ d ∧ D.fx ≠ d ∧ D.ls ≠ [] ∧ 1 ≤ m ∧ m ≤ 15 ∧
  ∀ (ns : List Str) r H', Route D ns → H r = none → H' r = some (.tup (ns.map V.str)) → St1 K H' d c → Keep d H H' → Q (.ref r) H'
theorem head_find {α : Type} (p : α → Bool) (xs : List α) : (xs.filter p).head? = xs.find? p := by
  rw [List.head?_filter]
/-! the places of a chart lie apart -/
theorem sq_pos {d : Int} (h : d ≠ 0) : 1 ≤ d * d := by
  rcases ltge 0 d with w | w
  · have := Int.mul_le_mul (show 1 ≤ d by omega) (show 1 ≤ d by omega) (by decide) (by omega)
    omega
  · have := Int.mul_le_mul (show 1 ≤ -d by omega) (show 1 ≤ -d by omega) (by decide) (by omega)
    rw [Int.neg_mul_neg] at this
    omega
theorem rt_one {n : Int} (h : 1 ≤ n) : 1 ≤ rt n := by
  have z := rt_is (show 0 ≤ n by omega)
  rcases ltge 0 (rt n) with w | w
  · omega
  · have e : rt n = 0 := by have := z.nn; omega
    have := z.up
    rw [e] at this
    omega
theorem CD.len_one {D : CD} {s e : Str} {a b : Addr} {ax ay bx by' : Int} (h1 : D.pt s = some (a, ax, ay)) (h2 : D.pt e = some (b, bx, by')) (h : ay ≠ by') : 1 ≤ D.len s e := by
  rw [CD.len_eq h1 h2]
  refine rt_one ?_
  have z1 := sq0 (bx - ax)
  have z2 := sq_pos (show by' - ay ≠ 0 by omega)
  omega
def LETS : List Nat := ("QXAMBZKCTDRE" : Str).cps.toList
def Let1 (ns : List Str) (x : Int) : Prop := ∀ j (h : j < ns.length), ∃ c, (ns[j]).cps.toList.head? = some c ∧ atI LETS (((j : Int) + x) % 12) = some c
theorem lets_inj : ∀ u : Fin 12, ∀ v : Fin 12, LETS[u.val]? = LETS[v.val]? → u = v := by decide +kernel
theorem lets_at {u : Nat} (h : u < 12) : atI LETS (u : Int) = LETS[u]? := by
  have e : u < LETS.length := by
    have : LETS.length = 12 := by decide +kernel
    omega
  rw [List.getElem?_eq_getElem e]
  exact atI_nat (List.getElem?_eq_getElem e)
theorem let_nodup {ns : List Str} {x : Int} (h : Let1 ns x) (hl : ns.length ≤ 12) : ns.Nodup := by
  refine List.pairwise_iff_getElem.mpr fun i j hi hj hij e => ?_
  obtain ⟨c1, a1, b1⟩ := h i hi
  obtain ⟨c2, a2, b2⟩ := h j hj
  rw [e, a2] at a1
  cases a1
  obtain ⟨u, hu⟩ : ∃ u : Nat, ((i : Int) + x) % 12 = (u : Int) := ⟨(((i : Int) + x) % 12).toNat, by omega⟩
  obtain ⟨v, hv⟩ : ∃ v : Nat, ((j : Int) + x) % 12 = (v : Int) := ⟨(((j : Int) + x) % 12).toNat, by omega⟩
  have hu2 : u < 12 := by omega
  have hv2 : v < 12 := by omega
  rw [hu, lets_at hu2] at b1
  rw [hv, lets_at hv2] at b2
  have := lets_inj ⟨u, hu2⟩ ⟨v, hv2⟩ (b1.trans b2.symm)
  have : u = v := congrArg Fin.val this
  omega
theorem at_mod2 {α : Type} {f : α → V} {ns : List α} {z m : Int} (hm : m = (ns.length : Int)) (h : 0 < ns.length) : ∃ (j : Nat) (hj : j < ns.length), z % m = (j : Int) ∧ atI (ns.map f) (z % m) = some (f ns[j]) := by
  obtain ⟨j, hj⟩ : ∃ j : Nat, z % m = (j : Int) := ⟨(z % m).toNat, by have := Int.emod_nonneg z (show m ≠ 0 by omega); omega⟩
  have hj2 : j < ns.length := by have := Int.emod_lt_of_pos z (show 0 < m by omega); omega
  exact ⟨j, hj2, hj, by rw [hj]; exact atI_nat (mapAt hj2)⟩
theorem mod_ne {i j : Nat} {x m : Int} (hi : (i : Int) < m) (h0 : 0 ≤ x) (h1 : x < m - 1) (e : (0 + (i : Int) + 1 + x) % m = (j : Int)) : i ≠ j := by
  rintro rfl
  have z := Int.mul_ediv_add_emod (0 + (i : Int) + 1 + x) m
  rw [e] at z
  generalize (0 + (i : Int) + 1 + x) / m = q at z
  rcases ltge 0 q with w | w
  · have := Int.mul_le_mul_of_nonneg_left (show 1 ≤ q by omega) (show 0 ≤ m by omega)
    omega
  · have := Int.mul_nonneg (show 0 ≤ m by omega) (show 0 ≤ -q by omega)
    rw [Int.mul_neg] at this
    omega
theorem nodup_ne {ns : List Str} (nd : ns.Nodup) {i j : Nat} (hi : i < ns.length) (hj : j < ns.length) (n : i ≠ j) : ns[i] ≠ ns[j] := by
  have p := List.pairwise_iff_getElem.mp nd
  rcases Nat.lt_or_gt_of_ne n with h | h
  · exact p i j hi hj h
  · exact (p j i hj hi h).symm
def Sep (pt : Str → Option (Addr × Int × Int)) (ns : List Str) (m : Int) (i : Nat) : Prop := ∀ j (h : j < ns.length), j < i → ∃ a x y, pt ns[j] = some (a, x, y) ∧ y % m = (j : Int)
theorem Sep.put {pt : Str → Option (Addr × Int × Int)} {ns : List Str} {m : Int} {i : Nat} {p : Addr} {x y : Int} (nd : ns.Nodup) (S : Sep pt ns m i) (hi : i < ns.length) (hy : y % m = (i : Int)) : Sep (fun q => if q = ns[i] then some (p, x, y) else pt q) ns m (i + 1) := by
  intro j hj hji
  by_cases e : j = i
  · subst e
    exact ⟨p, x, y, by simp, hy⟩
  · obtain ⟨a, u, v, h1, h2⟩ := S j hj (by omega)
    exact ⟨a, u, v, by simp only [if_neg (nodup_ne nd hj hi e)]; exact h1, h2⟩
theorem y_mod {m a i : Int} (h0 : 0 ≤ i) (h1 : i < m) : (m * a + (0 + i)) % m = i := by
  rw [Int.add_comm, Int.add_mul_emod_self_left, Int.zero_add]
  exact Int.emod_eq_of_lt h0 h1
theorem Sep.len {D : CD} {ns : List Str} {m : Int} {s e : Str} (S : Sep D.pt ns m ns.length) (nd : ns.Nodup) (hs : s ∈ ns) (he : e ∈ ns) (n : s ≠ e) : 1 ≤ D.len s e := by
  obtain ⟨i, hi, rfl⟩ := List.getElem_of_mem hs
  obtain ⟨j, hj, rfl⟩ := List.getElem_of_mem he
  obtain ⟨a, x, y, h1, h2⟩ := S i hi hi
  obtain ⟨b, u, v, h3, h4⟩ := S j hj hj
  refine CD.len_one h1 h3 fun z => n ?_
  rw [z, h4] at h2
  have : i = j := by omega
  subst this
  rfl
end Sk

set_option Elab.async false
set_option linter.all false
set_option maxRecDepth 100000
set_option maxHeartbeats 4000000
namespace Sk
open PySem PySem.Spec PyProof.Rows L2
/-! the mathematics of paths -/
theorem CD.len_nn (D : CD) (s e : Str) : 0 ≤ D.len s e := by
  unfold CD.len
  split
  · exact rt_nn (Int.add_nonneg (sq0 _) (sq0 _))
  · exact Int.le_refl 0
def bg (D : CD) (ns : List Str) : Nat → Int
  | 0 => 0
  | j + 1 => bg D ns j + D.len (rn ns j) (rn ns (j + 1))
theorem bg_step (D : CD) (ns : List Str) (j : Nat) : bg D ns j ≤ bg D ns (j + 1) := by
  have := D.len_nn (rn ns j) (rn ns (j + 1))
  show bg D ns j ≤ bg D ns j + _
  omega
theorem bg_mono (D : CD) (ns : List Str) {i j : Nat} (h : i ≤ j) : bg D ns i ≤ bg D ns j := by
  induction j with
  | zero => rw [show i = 0 by omega]; exact Int.le_refl _
  | succ j ih =>
    by_cases e : i = j + 1
    · rw [e]; exact Int.le_refl _
    · exact Int.le_trans (ih (by omega)) (bg_step D ns j)
theorem bg_nn (D : CD) (ns : List Str) (j : Nat) : 0 ≤ bg D ns j := bg_mono D ns (Nat.zero_le j)
def CD.xy (D : CD) (s : Str) : Int × Int := match D.pt s with
  | some (_, x, y) => (x, y)
  | none => (0, 0)
theorem CD.xy_eq {D : CD} {s : Str} {a : Addr} {x y : Int} (h : D.pt s = some (a, x, y)) : D.xy s = (x, y) := by
  unfold CD.xy
  rw [h]
def Bd (D : CD) : Prop := ∀ s, -100000 ≤ (D.xy s).1 ∧ (D.xy s).1 ≤ 100000 ∧ -100000 ≤ (D.xy s).2 ∧ (D.xy s).2 ≤ 100000
theorem ChartAt.bd {H : Hp} {ch : Addr} {D : CD} (C : ChartAt H ch D) : Bd D := by
  intro s
  unfold CD.xy
  split
  · rename_i a x y h
    exact (C.pf s a x y h).2.2
  · exact ⟨by decide, by decide, by decide, by decide⟩
theorem CD.len_le {D : CD} (b : Bd D) (s e : Str) : D.len s e ≤ 300000 := by
  unfold CD.len
  split
  · rename_i a ax ay a' bx by' h1 h2
    have b1 := b s
    have b2 := b e
    rw [CD.xy_eq h1] at b1
    rw [CD.xy_eq h2] at b2
    dsimp only at b1 b2
    refine rt_small (Int.add_nonneg (sq0 _) (sq0 _)) (by decide) ?_
    have e1 := sq_le (show -200000 ≤ bx - ax by omega) (show bx - ax ≤ 200000 by omega)
    have e2 := sq_le (show -200000 ≤ by' - ay by omega) (show by' - ay ≤ 200000 by omega)
    omega
  · decide
theorem bg_le {D : CD} (b : Bd D) (ns : List Str) (j : Nat) : bg D ns j ≤ 300000 * (j : Int) := by
  induction j with
  | zero => exact Int.le_refl 0
  | succ j ih =>
    have := D.len_le b (rn ns j) (rn ns (j + 1))
    show bg D ns j + _ ≤ _
    omega
/-- the leg to which p belongs, of the first m + 1 -/
def lat (D : CD) (ns : List Str) (m : Nat) (p : Int) : Nat := ((List.range m).find? fun i => decide (p < bg D ns (i + 1))).getD m
theorem find_range {q : Nat → Bool} {m k : Nat} (hk : k < m) (h1 : q k = true) (h0 : ∀ i, i < k → q i = false) : (List.range m).find? q = some k := by
  have e : List.range m = List.range k ++ (List.range (m - k)).map (k + ·) := by
    rw [← List.range_add, Nat.add_sub_cancel' (Nat.le_of_lt hk)]
  rw [e, List.find?_append]
  have a : (List.range k).find? q = none := List.find?_eq_none.mpr fun i hi => by rw [h0 i (List.mem_range.mp hi)]; simp
  rw [a]
  obtain ⟨z, hz⟩ : ∃ z, m - k = z + 1 := ⟨m - k - 1, by omega⟩
  rw [hz, List.range_succ_eq_map]
  simp [h1]
theorem find_none {q : Nat → Bool} {m : Nat} (h0 : ∀ i, i < m → q i = false) : (List.range m).find? q = none :=
  List.find?_eq_none.mpr fun i hi => by rw [h0 i (List.mem_range.mp hi)]; simp
theorem lat_cases (D : CD) (ns : List Str) (m : Nat) (p : Int) : (lat D ns m p ≤ m) ∧ (∀ i, i < lat D ns m p → bg D ns (i + 1) ≤ p) ∧ (lat D ns m p < m → p < bg D ns (lat D ns m p + 1)) := by
  unfold lat
  cases h : (List.range m).find? fun i => decide (p < bg D ns (i + 1)) with
  | none =>
    have h0 := List.find?_eq_none.mp h
    refine ⟨Nat.le_refl m, fun i hi => ?_, fun z => absurd z (Nat.lt_irrefl m)⟩
    have hi : i < m := hi
    have := h0 i (List.mem_range.mpr hi)
    simp at this
    exact this
  | some k =>
    have h1 := List.find?_some h
    have h2 := List.mem_of_find?_eq_some h
    have hk := List.mem_range.mp h2
    refine ⟨Nat.le_of_lt hk, fun i hi => ?_, fun _ => of_decide_eq_true h1⟩
    have hi : i < k := hi
    by_cases e : p < bg D ns (i + 1)
    · exfalso
      have : (List.range m).find? (fun i => decide (p < bg D ns (i + 1))) = some ((List.range (i + 1)).find? (fun i => decide (p < bg D ns (i + 1)))).get! := by
        have e2 : List.range m = List.range (i + 1) ++ (List.range (m - (i + 1))).map ((i + 1) + ·) := by rw [← List.range_add, Nat.add_sub_cancel' (show i + 1 ≤ m by omega)]
        rw [e2, List.find?_append]
        cases w : (List.range (i + 1)).find? fun i => decide (p < bg D ns (i + 1)) with
        | some z => rfl
        | none =>
          have := List.find?_eq_none.mp w i (List.mem_range.mpr (Nat.lt_succ_self i))
          simp [e] at this
      rw [h] at this
      cases w : (List.range (i + 1)).find? fun i => decide (p < bg D ns (i + 1)) with
      | none =>
        have := List.find?_eq_none.mp w i (List.mem_range.mpr (Nat.lt_succ_self i))
        simp [e] at this
      | some z =>
        rw [w] at this
        have hz := List.mem_range.mp (List.mem_of_find?_eq_some w)
        have : k = z := Option.some.inj this
        omega
    · omega
theorem lat_eq {D : CD} {ns : List Str} {m k : Nat} {p : Int} (hk : k ≤ m) (h0 : ∀ i, i < k → bg D ns (i + 1) ≤ p) (h1 : k < m → p < bg D ns (k + 1)) : lat D ns m p = k := by
  obtain ⟨a, b, c⟩ := lat_cases D ns m p
  rcases Nat.lt_trichotomy (lat D ns m p) k with h | h | h
  · have := c (by omega)
    have := h0 _ h
    omega
  · exact h
  · have := b k h
    have := h1 (by omega)
    omega
theorem lat_succ (D : CD) (ns : List Str) (m : Nat) (p : Int) : lat D ns (m + 1) p = if bg D ns (m + 1) ≤ p then m + 1 else lat D ns m p := by
  obtain ⟨a, b, c⟩ := lat_cases D ns m p
  split
  · rename_i h
    exact lat_eq (Nat.le_refl _) (fun i hi => Int.le_trans (bg_mono D ns (show i + 1 ≤ m + 1 by omega)) h) (fun z => absurd z (Nat.lt_irrefl _))
  · rename_i h
    refine lat_eq (by omega) b fun _ => ?_
    by_cases e : lat D ns m p < m
    · exact c e
    · rw [show lat D ns m p = m by omega]
      omega
/-- place on leg k -/
def plc (D : CD) (ns : List Str) (k : Nat) (p : Int) : List Int :=
  let a := D.xy (rn ns k)
  let b := D.xy (rn ns (k + 1))
  let n := D.len (rn ns k) (rn ns (k + 1))
  [a.1 * n + (b.1 - a.1) * (p - bg D ns k), a.2 * n + (b.2 - a.2) * (p - bg D ns k)]
def seg (D : CD) (ns : List Str) (k : Nat) (s e : Int) : List Int := plc D ns k s ++ (plc D ns k e ++ [D.len (rn ns k) (rn ns (k + 1))])
def segOf (D : CD) (ns : List Str) (f l : Int) (k : Nat) : Option (List Int) :=
  let s := if bg D ns k > f then bg D ns k else f
  let e := if bg D ns (k + 1) < l then bg D ns (k + 1) else l
  if s < e then some (seg D ns k s e) else none
def segsOf (D : CD) (ns : List Str) (f l : Int) (ks : List Nat) : List (List Int) := ks.filterMap (segOf D ns f l)
theorem segOf_none {D : CD} {ns : List Str} {f l : Int} {k : Nat} (h : bg D ns (k + 1) ≤ f ∨ l ≤ bg D ns k) : segOf D ns f l k = none := by
  unfold segOf
  dsimp only
  rw [if_neg]
  split <;> split <;> omega
theorem segs_eq {D : CD} {ns : List Str} {f l : Int} {m : Nat} (hfl : f ≤ l) (h : lat D ns m f ≤ lat D ns m l) : segsOf D ns f l (List.range (m + 1)) = segsOf D ns f l ((List.range (lat D ns m l + 1 - lat D ns m f)).map (lat D ns m f + ·)) := by
  obtain ⟨a1, b1, c1⟩ := lat_cases D ns m f
  obtain ⟨a2, b2, c2⟩ := lat_cases D ns m l
  generalize lat D ns m f = u at *
  generalize lat D ns m l = v at *
  have e1 : List.range (m + 1) = List.range u ++ ((List.range (v + 1 - u)).map (u + ·) ++ (List.range (m - v)).map ((v + 1) + ·)) := by
    have x1 : List.range (m + 1) = List.range (v + 1) ++ (List.range (m - v)).map ((v + 1) + ·) := by rw [← List.range_add]; congr 1; omega
    have x2 : List.range (v + 1) = List.range u ++ (List.range (v + 1 - u)).map (u + ·) := by rw [← List.range_add]; congr 1; omega
    rw [x1, x2, List.append_assoc]
  unfold segsOf
  rw [e1, List.filterMap_append, List.filterMap_append]
  have n1 : (List.range u).filterMap (segOf D ns f l) = [] := List.filterMap_eq_nil_iff.mpr fun k hk => segOf_none (.inl (b1 k (List.mem_range.mp hk)))
  have n2 : ((List.range (m - v)).map ((v + 1) + ·)).filterMap (segOf D ns f l) = [] := List.filterMap_eq_nil_iff.mpr fun k hk => by
    obtain ⟨z, hz, rfl⟩ := List.mem_map.mp hk
    have := c2 (by have := List.mem_range.mp hz; omega)
    exact segOf_none (.inr (Int.le_trans (Int.le_of_lt this) (bg_mono D ns (by omega))))
  rw [n1, n2, List.nil_append, List.append_nil]
theorem lat_mono (D : CD) (ns : List Str) (m : Nat) {p q : Int} (h : p ≤ q) : lat D ns m p ≤ lat D ns m q := by
  obtain ⟨a1, b1, c1⟩ := lat_cases D ns m p
  obtain ⟨a2, b2, c2⟩ := lat_cases D ns m q
  rcases Nat.lt_or_ge (lat D ns m q) (lat D ns m p) with w | w
  · have x := b1 _ w
    have y := c2 (by omega)
    omega
  · exact w
/-- the piece, as the document says it -/
def pcs (D : CD) (ns : List Str) (low high : Int) : List (List Int) :=
  let L := ns.length - 1
  let t := bg D ns L
  if high < 0 ∨ t ≤ low then [] else
  let f := if 0 > low then 0 else low
  let l := if t < high then t else high
  if f = l then [seg D ns (lat D ns (L - 1) f) f f] else segsOf D ns f l (List.range L)
/-! lists of tuples of ints -/
def LoT (H : Hp) (l : Addr) (xss : List (List Int)) : Prop := ∃ qs : List (Addr × List Int), H l = some (.lst (qs.map fun q => V.ref q.1)) ∧ (∀ q ∈ qs, H q.1 = some (.tup (q.2.map V.int))) ∧ qs.map (·.2) = xss
theorem LoT.same {H H' : Hp} {l : Addr} {xss : List (List Int)} (L : LoT H l xss) (e : Same H H') : LoT H' l xss := let ⟨qs, h1, h2, h3⟩ := L; ⟨qs, e _ _ h1, fun q h => e _ _ (h2 q h), h3⟩
theorem LoT.keep {K : PySem.W.Frag} {H H' : Hp} {d c l : Addr} {xss : List (List Int)} (L : LoT H l xss) (S : St1 K H d c) (k : Keep d H H') : LoT H' l xss := let ⟨qs, h1, h2, h3⟩ := L; ⟨qs, k.l S h1, fun q h => k.t S (h2 q h), h3⟩
theorem LoT.li {H : Hp} {l : Addr} {xss : List (List Int)} (L : LoT H l xss) : ∃ xs : List V, H l = some (.lst xs) ∧ xs.length = xss.length := let ⟨qs, h1, _, h3⟩ := L; ⟨_, h1, by rw [List.length_map, ← h3, List.length_map]⟩
theorem LoT.snoc {H : Hp} {l p : Addr} {xss : List (List Int)} {xs : List Int} {ys : List V} (L : LoT H l xss) (hl : H l = some (.lst ys)) (hp : H p = some (.tup (xs.map V.int))) : LoT (upd H l (.lst (ys ++ [.ref p]))) l (xss ++ [xs]) := by
  obtain ⟨qs, h1, h2, h3⟩ := L
  rw [h1] at hl
  cases hl
  refine ⟨qs ++ [(p, xs)], by rw [upd_same, List.map_append]; rfl, fun q hq => ?_, by rw [List.map_append, h3]; rfl⟩
  have ht : H q.1 = some (.tup (q.2.map V.int)) := by
    rcases List.mem_append.mp hq with h | h
    · exact h2 q h
    · rw [List.mem_singleton.mp h]; exact hp
  rw [upd_ne (ne_of ht h1 (by intro e; cases e))]
  exact ht
theorem LoT.nil {H : Hp} {l : Addr} (h : H l = some (.lst [])) : LoT H l [] := ⟨[], h, (fun _ h => nomatch h), rfl⟩
def pdT (xs : List Int) : PyData := .tuple (xs.map PyData.int)
theorem dpAll_int {K : PySem.W.Frag} {H : Hp} : ∀ xs : List Int, DpAll K H (xs.map V.int) (xs.map PyData.int)
  | [] => .nil
  | x :: xs => .cons (.int x) (dpAll_int xs)
theorem LoT.dp {K : PySem.W.Frag} {H : Hp} {l : Addr} {xss : List (List Int)} (L : LoT H l xss) : Dp K H (.ref l) (.list (xss.map pdT)) := by
  obtain ⟨qs, h1, h2, rfl⟩ := L
  refine .lst (.inl (.inl h1)) ?_
  clear h1
  induction qs with
  | nil => exact .nil
  | cons q qs ih =>
    refine .cons (.tup (.inl (.inl (h2 q List.mem_cons_self))) (dpAll_int _)) (ih fun z hz => h2 z (List.mem_cons_of_mem _ hz))
/-! a path's object -/
def pfl (r l1 l2 l3 l4 : Addr) : List (Str × V) := [("_route", .ref r), ("_legs", .ref l1), ("_starts", .ref l2), ("_vectors", .ref l3), ("_begins", .ref l4)]
section
variable {r l1 l2 l3 l4 : Addr}
theorem pf1 : (pfl r l1 l2 l3 l4).lookup ("_route" : Str) = some (.ref r) := by rfl
theorem pf2 : (pfl r l1 l2 l3 l4).lookup ("_legs" : Str) = some (.ref l1) := by rfl
theorem pf3 : (pfl r l1 l2 l3 l4).lookup ("_starts" : Str) = some (.ref l2) := by rfl
theorem pf4 : (pfl r l1 l2 l3 l4).lookup ("_vectors" : Str) = some (.ref l3) := by rfl
theorem pf5 : (pfl r l1 l2 l3 l4).lookup ("_begins" : Str) = some (.ref l4) := by rfl
end
structure PathP (C : Addr) (H : Hp) (p : Addr) (D : CD) (ns : List Str) (r : Addr) (i : Nat) (dx l1 l2 l3 l4 : Addr) (sa va : List Addr) : Prop where
  ob : H p = some (.ins C dx (pfl r l1 l2 l3 l4))
  rt : H r = some (.tup (ns.map V.str))
  lg : H l1 = some (.lst ((List.range i).map fun j => optL (D.leg (rn ns j) (rn ns (j + 1)))))
  st : H l2 = some (.lst (sa.map V.ref))
  ve : H l3 = some (.lst (va.map V.ref))
  bgn : H l4 = some (.lst ((List.range (i + 1)).map fun j => V.int (bg D ns j)))
  sl : sa.length = i
  vl : va.length = i
  sx : ∀ j (h : j < sa.length), H sa[j] = some (.tup [.int (D.xy (rn ns j)).1, .int (D.xy (rn ns j)).2])
  vx : ∀ j (h : j < va.length), H va[j] = some (.tup [.int ((D.xy (rn ns (j + 1))).1 - (D.xy (rn ns j)).1), .int ((D.xy (rn ns (j + 1))).2 - (D.xy (rn ns j)).2), .int (D.len (rn ns j) (rn ns (j + 1)))])
  d12 : l1 ≠ l2
  d13 : l1 ≠ l3
  d14 : l1 ≠ l4
  d23 : l2 ≠ l3
  d24 : l2 ≠ l4
  d34 : l3 ≠ l4
theorem PathP.same {C p r dx l1 l2 l3 l4 : Addr} {H H' : Hp} {D : CD} {ns : List Str} {i : Nat} {sa va : List Addr} (P : PathP C H p D ns r i dx l1 l2 l3 l4 sa va) (e : Same H H') : PathP C H' p D ns r i dx l1 l2 l3 l4 sa va :=
  { P with ob := e _ _ P.ob, rt := e _ _ P.rt, lg := e _ _ P.lg, st := e _ _ P.st, ve := e _ _ P.ve, bgn := e _ _ P.bgn, sx := fun j h => e _ _ (P.sx j h), vx := fun j h => e _ _ (P.vx j h) }
theorem PathP.keep {K : PySem.W.Frag} {C p r dx l1 l2 l3 l4 d c : Addr} {H H' : Hp} {D : CD} {ns : List Str} {i : Nat} {sa va : List Addr} (P : PathP C H p D ns r i dx l1 l2 l3 l4 sa va) (S : St1 K H d c) (k : Keep d H H') : PathP C H' p D ns r i dx l1 l2 l3 l4 sa va :=
  { P with ob := k _ _ P.ob (let ⟨_, w⟩ := S.dk; ne_of P.ob w (by intro z; cases z)), rt := k.t S P.rt, lg := k.l S P.lg, st := k.l S P.st, ve := k.l S P.ve, bgn := k.l S P.bgn, sx := fun j h => k.t S (P.sx j h), vx := fun j h => k.t S (P.vx j h) }
def PathAt (C : Addr) (H : Hp) (p : Addr) (D : CD) (ns : List Str) (r : Addr) : Prop := ∃ dx l1 l2 l3 l4 sa va, PathP C H p D ns r (ns.length - 1) dx l1 l2 l3 l4 sa va
theorem PathAt.same {C p r : Addr} {H H' : Hp} {D : CD} {ns : List Str} (P : PathAt C H p D ns r) (e : Same H H') : PathAt C H' p D ns r := let ⟨_, _, _, _, _, _, _, P⟩ := P; ⟨_, _, _, _, _, _, _, P.same e⟩
theorem PathAt.keep {K : PySem.W.Frag} {C p r d c : Addr} {H H' : Hp} {D : CD} {ns : List Str} (P : PathAt C H p D ns r) (S : St1 K H d c) (k : Keep d H H') : PathAt C H' p D ns r := let ⟨_, _, _, _, _, _, _, P⟩ := P; ⟨_, _, _, _, _, _, _, P.keep S k⟩
/-- what the class has -/
structure PathY (K : PySem.W.Frag) (mg : Str → Option Value) (C : Addr) : Prop where
  cl : Cls K C
  n1 : NoAttr K C "_route"
  n2 : NoAttr K C "_legs"
  n3 : NoAttr K C "_starts"
  n4 : NoAttr K C "_vectors"
  n5 : NoAttr K C "_begins"
/-! promises of the methods -/
def spTotal (C : Addr) : Sp := fun vs H Q _ => ∃ (p r dx l1 l2 l3 l4 : Addr) (D : CD) (ns : List Str) (i : Nat), vs = [.ref p] ∧ H p = some (.ins C dx (pfl r l1 l2 l3 l4)) ∧ H l4 = some (.lst ((List.range (i + 1)).map fun j => V.int (bg D ns j))) ∧ Q (.int (bg D ns i)) H
def spLegAt (C : Addr) : Sp := fun vs H Q _ => ∃ (p r : Addr) (D : CD) (ns : List Str) (x : Int), vs = [.ref p, .int x] ∧ PathAt C H p D ns r ∧ 2 ≤ ns.length ∧ ns.length ≤ 20 ∧ Q (.int (lat D ns (ns.length - 1 - 1) x : Nat)) H
def spBegin (C : Addr) : Sp := fun vs H Q _ => ∃ (p r : Addr) (D : CD) (ns : List Str) (j : Nat) (z : Int), vs = [.ref p, .int z] ∧ z = (j : Int) ∧ PathAt C H p D ns r ∧ j ≤ ns.length - 1 ∧ Q (.int (bg D ns j)) H
def spLegI (C : Addr) : Sp := fun vs H Q _ => ∃ (p r : Addr) (D : CD) (ns : List Str) (j : Nat) (z : Int), vs = [.ref p, .int z] ∧ z = (j : Int) ∧ PathAt C H p D ns r ∧ j < ns.length - 1 ∧ Q (optL (D.leg (rn ns j) (rn ns (j + 1)))) H
def spVec (C : Addr) : Sp := fun vs H Q _ => ∃ (p r : Addr) (D : CD) (ns : List Str) (j : Nat) (z : Int), vs = [.ref p, .int z] ∧ z = (j : Int) ∧ PathAt C H p D ns r ∧ j < ns.length - 1 ∧
  ∀ v, H v = some (.tup [.int ((D.xy (rn ns (j + 1))).1 - (D.xy (rn ns j)).1), .int ((D.xy (rn ns (j + 1))).2 - (D.xy (rn ns j)).2), .int (D.len (rn ns j) (rn ns (j + 1)))]) → Q (.ref v) H
def spRoute (C : Addr) : Sp := fun vs H Q _ => ∃ (p r : Addr) (D : CD) (ns : List Str), vs = [.ref p] ∧ PathAt C H p D ns r ∧ Q (.ref r) H
def spPoint (C : Addr) : Sp := fun vs H Q _ => ∃ (p r : Addr) (D : CD) (ns : List Str) (j : Nat) (z x : Int), vs = [.ref p, .int z, .int x] ∧ z = (j : Int) ∧ PathAt C H p D ns r ∧ Bd D ∧ j < ns.length - 1 ∧ ∀ q H', H q = none → Same H H' → H' q = some (.tup ((plc D ns j x).map V.int)) → Q (.ref q) H'
def spSeg (C : Addr) : Sp := fun vs H Q _ => ∃ (p r : Addr) (D : CD) (ns : List Str) (j : Nat) (z s e : Int), vs = [.ref p, .int z, .int s, .int e] ∧ z = (j : Int) ∧ PathAt C H p D ns r ∧ Bd D ∧ j < ns.length - 1 ∧ ∀ q H', H q = none → Same H H' → H' q = some (.tup ((seg D ns j s e).map V.int)) → Q (.ref q) H'
def spSegs (C : Addr) : Sp := fun vs H Q _ => ∃ (p r : Addr) (D : CD) (ns : List Str) (f l : Int), vs = [.ref p, .int f, .int l] ∧ PathAt C H p D ns r ∧ Bd D ∧ 2 ≤ ns.length ∧ ns.length ≤ 20 ∧ f ≤ l ∧
  ∀ q H', H q = none → Same H H' → LoT H' q (segsOf D ns f l (List.range (ns.length - 1))) → Q (.ref q) H'
def spPlace (C : Addr) : Sp := fun vs H Q _ => ∃ (p r : Addr) (D : CD) (ns : List Str) (x : Int), vs = [.ref p, .int x] ∧ PathAt C H p D ns r ∧ Bd D ∧ 2 ≤ ns.length ∧ ns.length ≤ 20 ∧
  ∀ q H', H q = none → Same H H' → H' q = some (.tup ((plc D ns (lat D ns (ns.length - 1 - 1) x) x ++ [D.len (rn ns (lat D ns (ns.length - 1 - 1) x)) (rn ns (lat D ns (ns.length - 1 - 1) x + 1))]).map V.int)) → Q (.ref q) H'
def spPiece (C : Addr) : Sp := fun vs H Q _ => ∃ (p r : Addr) (D : CD) (ns : List Str) (f l : Int), vs = [.ref p, .int f, .int l] ∧ PathAt C H p D ns r ∧ Bd D ∧ 2 ≤ ns.length ∧ ns.length ≤ 20 ∧ f ≤ l ∧
  ∀ q H', H q = none → Same H H' → LoT H' q (pcs D ns f l) → Q (.ref q) H'
def spJoin (C : Addr) : Sp := fun vs H Q _ => ∃ (p ch r dx l1 l2 l3 l4 : Addr) (D : CD) (ns : List Str) (i : Nat) (sa va : List Addr), vs = [.ref p, .ref ch, .str (rn ns i), .str (rn ns (i + 1))] ∧ ChartAt H ch D ∧ PathP C H p D ns r i dx l1 l2 l3 l4 sa va ∧
  (∃ l, D.leg (rn ns i) (rn ns (i + 1)) = some l) ∧ i ≤ 20 ∧ ∀ (s v : Addr) H', PathP C H' p D ns r (i + 1) dx l1 l2 l3 l4 (sa ++ [s]) (va ++ [v]) → (∀ b o, H b = some o → b ≠ l1 → b ≠ l2 → b ≠ l3 → b ≠ l4 → H' b = some o) → Q .non H'
def spPInit (C : Addr) : Sp := fun vs H Q _ => ∃ (p ch r dx : Addr) (D : CD) (ns : List Str), vs = [.ref p, .ref ch, .ref r] ∧ H p = some (.ins C dx []) ∧ ChartAt H ch D ∧ H r = some (.tup (ns.map V.str)) ∧ Route D ns ∧
  ∀ H', PathAt C H' p D ns r → (∀ b o, H b = some o → b ≠ p → H' b = some o) → Q .non H'
theorem ChartAt.fr {H H' : Hp} {ch p C dx : Addr} {fs : List (Str × V)} {D : CD} (Q : ChartAt H ch D) (hp : H p = some (.ins C dx fs)) (e : ∀ b o, H b = some o → b ≠ p → H' b = some o) : ChartAt H' ch D := by
  have e' : ∀ b o, H b = some o → (∀ C dx fs, o ≠ .ins C dx fs) → H' b = some o := fun b o h n => e b o h (ne_of h hp (n _ _ _))
  obtain ⟨⟨kvs, h1, h2, h3⟩, h4, h5, h6, h7, h8, h8', h9⟩ := Q
  exact ⟨⟨kvs, e' _ _ h1 (by intro _ _ _ z; cases z), h2, h3⟩, e' _ _ h4 (by intro _ _ _ z; cases z), e' _ _ h5 (by intro _ _ _ z; cases z), fun l hl => e' _ _ (h6 l hl) (by intro _ _ _ z; cases z),
    fun n a x y hp => let ⟨p1, p2, p3⟩ := h7 n a x y hp; ⟨p1, e' _ _ p2 (by intro _ _ _ z; cases z), p3⟩, h8, h8', h9⟩
/-! a class of the text, ready to be made -/
structure CDef (P : Program) (w : World) (K : PySem.W.Frag) (mg : Str → Option Value) (base : Heap) (k : Nat) (C : Addr) (x : Str) (ps : List Str) (sp : Sp) : Prop where
  ex : ∃ (f : Addr) (fd : FuncData), FnOk P w K mg base CX0 k f fd ps sp ∧ Mk K C f ∧ mg x = some (.ref C) ∧ Binds K fd ps []
theorem pe_cdef {X : Cx} {k : Nat} {C : Addr} {x : Str} {ps : List Str} {sp : Sp} {p pos : Pos} {e : Expr} {es : List Expr} {t : TA} (D : CDef X.prog X.w X.K X.mg X.base k C x ps sp) (hr : Room (k + 1) X.A) (hg : Gl X x)
    (ha : PA X (e :: es) t) (hdb : (x == ("__debug__" : Str)) = false := by decide) (he : starEach (e :: es) X.env = (false, eval e X.env) :: starEach es X.env := by rfl) (hpl : (backTo pos (starEach es X.env)).any (·.1) = false := by rfl) :
    PE X (.Call (.Name x p) (e :: es) [] pos) (tMake C sp [] E0 t) := by
  obtain ⟨f, fd, F, M, m, b⟩ := D.ex
  exact pe_make M F hr hg m b .nil pass0 ha hdb he hpl
/-! what the law's own defs promise -/
def bgs (D : CD) (ns : List Str) : List Int := (List.range ns.length).map (bg D ns)
theorem bgs_at {D : CD} {ns : List Str} {j : Nat} (h : j < ns.length) : ((bgs D ns).map V.int)[j]? = some (.int (bg D ns j)) := by
  unfold bgs
  rw [List.getElem?_map, List.getElem?_map, List.getElem?_range h]
  rfl
theorem bgs_len {D : CD} {ns : List Str} : ((bgs D ns).map V.int).length = ns.length := by
  unfold bgs
  rw [List.length_map, List.length_map, List.length_range]
theorem bgs_last {D : CD} {ns : List Str} (h : 0 < ns.length) : ((bgs D ns).map V.int).getLast? = some (.int (bg D ns (ns.length - 1))) := by
  rw [List.getLast?_eq_getElem?, bgs_len]
  exact bgs_at (by omega)
def spBegins : Sp := fun vs H Q _ => ∃ (ld r : Addr) (D : CD) (ns : List Str), vs = [.ref ld, .ref r] ∧ LenAt H ld D ∧ H r = some (.tup (ns.map V.str)) ∧ Route D ns ∧ ∀ b H', H b = none → Same H H' → H' b = some (.lst ((bgs D ns).map V.int)) → Q (.ref b) H'
def spLawLegAt : Sp := fun vs H Q _ => ∃ (b : Addr) (x : Int) (D : CD) (ns : List Str), vs = [.ref b, .int x] ∧ H b = some (.lst ((bgs D ns).map V.int)) ∧ 2 ≤ ns.length ∧ ns.length ≤ 20 ∧ Q (.int (lat D ns (ns.length - 1 - 1) x : Nat)) H
def spPlaceOn : Sp := fun vs H Q _ => ∃ (ch r b : Addr) (z x : Int) (D : CD) (ns : List Str) (k : Nat), vs = [.ref ch, .ref r, .ref b, .int z, .int x] ∧ z = (k : Int) ∧ ChartAt H ch D ∧ H r = some (.tup (ns.map V.str)) ∧ H b = some (.lst ((bgs D ns).map V.int)) ∧ Route D ns ∧ k + 1 < ns.length ∧
  ∀ q H', H q = none → Same H H' → H' q = some (.tup ((plc D ns k x ++ [D.len (rn ns k) (rn ns (k + 1))]).map V.int)) → Q (.ref q) H'
def spLawPiece : Sp := fun vs H Q _ => ∃ (ch r b : Addr) (f l : Int) (D : CD) (ns : List Str), vs = [.ref ch, .ref r, .ref b, .int f, .int l] ∧ ChartAt H ch D ∧ H r = some (.tup (ns.map V.str)) ∧ H b = some (.lst ((bgs D ns).map V.int)) ∧ Route D ns ∧ f ≤ l ∧
  ∀ q H', H q = none → Same H H' → LoT H' q (pcs D ns f l) → Q (.ref q) H'
def spRight (C : Addr) : Sp := fun vs H Q _ => ∃ (p ch ld r : Addr) (D : CD) (ns : List Str), vs = [.ref p, .ref ch, .ref ld, .ref r] ∧ PathAt C H p D ns r ∧ ChartAt H ch D ∧ LenAt H ld D ∧ Route D ns ∧ ∀ H', Same H H' → Q (.bl true) H'
def spProgress (K : PySem.W.Frag) : Sp := fun vs H Q _ => ∃ (d c b : Addr) (D : CD) (ns : List Str), vs = [.ref d, .ref b] ∧ St1 K H d c ∧ H b = some (.lst ((bgs D ns).map V.int)) ∧ Bd D ∧ 2 ≤ ns.length ∧ ns.length ≤ 20 ∧ ∀ z H', St1 K H' d c → Keep d H H' → Q (.int z) H'
def spAreNum : Sp := fun vs H Q _ => ∃ (l : Addr) (xss : List (List Int)), vs = [.ref l] ∧ LoT H l xss ∧ xss.length ≤ 100 ∧ (∀ xs ∈ xss, xs.length ≤ 100) ∧ ∀ H', Same H H' → Q (.bl true) H'
theorem segsOf_len (D : CD) (ns : List Str) (f l : Int) (ks : List Nat) : (segsOf D ns f l ks).length ≤ ks.length := List.length_filterMap_le _ _
theorem pcs_len (D : CD) (ns : List Str) (f l : Int) : (pcs D ns f l).length ≤ ns.length + 1 := by
  unfold pcs
  dsimp only
  generalize (if 0 > f then 0 else f) = u
  generalize (if bg D ns (ns.length - 1) < l then bg D ns (ns.length - 1) else l) = v
  split
  · exact Nat.zero_le _
  · split
    · show 1 ≤ _
      omega
    · have := segsOf_len D ns u v (List.range (ns.length - 1))
      rw [List.length_range] at this
      omega
theorem seg_len (D : CD) (ns : List Str) (k : Nat) (s e : Int) : (seg D ns k s e).length = 5 := rfl
theorem segOf_len {D : CD} {ns : List Str} {f l : Int} {k : Nat} {xs : List Int} (h : segOf D ns f l k = some xs) : xs.length = 5 := by
  unfold segOf at h
  dsimp only at h
  generalize (if bg D ns k > f then bg D ns k else f) = u at h
  generalize (if bg D ns (k + 1) < l then bg D ns (k + 1) else l) = v at h
  by_cases e : u < v
  · rw [if_pos e] at h
    rw [← Option.some.inj h, seg_len]
  · rw [if_neg e] at h
    cases h
theorem pcs_five (D : CD) (ns : List Str) (f l : Int) : ∀ xs ∈ pcs D ns f l, xs.length ≤ 100 := by
  unfold pcs
  dsimp only
  generalize (if 0 > f then 0 else f) = u
  generalize (if bg D ns (ns.length - 1) < l then bg D ns (ns.length - 1) else l) = v
  intro xs h
  split at h
  · cases h
  · split at h
    · rw [List.mem_singleton.mp h, seg_len]
      decide
    · obtain ⟨k, _, e⟩ := List.mem_filterMap.mp h
      rw [segOf_len e]
      decide
theorem Route.pt {H : Hp} {ch : Addr} {D : CD} {ns : List Str} (R : Route D ns) (C : ChartAt H ch D) {j : Nat} (h : j + 1 < ns.length) : (∃ a x y, D.pt (rn ns j) = some (a, x, y)) ∧ ∃ a x y, D.pt (rn ns (j + 1)) = some (a, x, y) := by
  obtain ⟨l, hl⟩ := R.ch j h
  obtain ⟨h1, h2, h3⟩ := CD.leg_mem hl
  have := C.wf l h1
  rw [h2, h3] at this
  exact this
/-! data that can be compared -/
theorem cla {xs : List PyData} (h : ∀ x ∈ xs, x.canLay0 = true) : PyData.canLayAll0 xs = true := by
  induction xs with
  | nil => rfl
  | cons x xs ih =>
    show (PyData.canLay0 x && PyData.canLayAll0 xs) = true
    rw [h x List.mem_cons_self, ih fun y hy => h y (List.mem_cons_of_mem _ hy)]
    rfl
theorem dpa {xs : List PyData} {n : Nat} (h : ∀ x ∈ xs, x.depth ≤ n) : PyData.depthAll xs ≤ n := by
  induction xs with
  | nil => exact Nat.zero_le _
  | cons x xs ih =>
    show max (PyData.depth x) (PyData.depthAll xs) ≤ n
    exact Nat.max_le.mpr ⟨h x List.mem_cons_self, ih fun y hy => h y (List.mem_cons_of_mem _ hy)⟩
theorem sh_of {d : PyData} (h1 : d.canLay0 = true) (h2 : d.depth ≤ 64) : SeqAt.shaped d = true := by
  unfold SeqAt.shaped
  rw [h1, decide_eq_true h2]
  rfl
theorem can_str {ns : List Str} (h : ∀ n ∈ ns, sOk n) : (PyData.tuple (ns.map PyData.str)).canLay0 = true := by
  show PyData.canLayAll0 _ = true
  refine cla fun x hx => ?_
  obtain ⟨n, hn, rfl⟩ := List.mem_map.mp hx
  exact h n hn
theorem sh_str {ns : List Str} (h : ∀ n ∈ ns, sOk n) : SeqAt.shaped (.tuple (ns.map PyData.str)) = true := by
  refine sh_of (can_str h) ?_
  show PyData.depthAll _ + 1 ≤ 64
  have : PyData.depthAll (ns.map PyData.str) ≤ 1 := dpa fun x hx => by
    obtain ⟨n, _, rfl⟩ := List.mem_map.mp hx
    exact Nat.zero_le _
  omega
theorem can_pd (xs : List Int) : (pdT xs).canLay0 = true := by
  show PyData.canLayAll0 _ = true
  refine cla fun x hx => ?_
  obtain ⟨n, hn, rfl⟩ := List.mem_map.mp hx
  rfl
theorem dep_pd (xs : List Int) : (pdT xs).depth ≤ 2 := by
  show PyData.depthAll _ + 1 ≤ 2
  have : PyData.depthAll (xs.map PyData.int) ≤ 1 := dpa fun x hx => by
    obtain ⟨n, _, rfl⟩ := List.mem_map.mp hx
    exact Nat.zero_le _
  omega
theorem sh_pd (xs : List Int) : SeqAt.shaped (pdT xs) = true := sh_of (can_pd xs) (Nat.le_trans (dep_pd xs) (by decide))
theorem can_pds (xss : List (List Int)) : (PyData.list (xss.map pdT)).canLay0 = true := by
  show PyData.canLayAll0 _ = true
  refine cla fun x hx => ?_
  obtain ⟨n, hn, rfl⟩ := List.mem_map.mp hx
  exact can_pd n
theorem sh_pds (xss : List (List Int)) : SeqAt.shaped (.list (xss.map pdT)) = true := by
  refine sh_of (can_pds xss) ?_
  show PyData.depthAll _ + 1 ≤ 64
  have : PyData.depthAll (xss.map pdT) ≤ 2 := dpa fun x hx => by
    obtain ⟨n, _, rfl⟩ := List.mem_map.mp hx
    exact dep_pd n
  omega
theorem dpAll_str {K : PySem.W.Frag} {H : Hp} : ∀ xs : List Str, DpAll K H (xs.map V.str) (xs.map PyData.str)
  | [] => .nil
  | x :: xs => .cons (.str x) (dpAll_str xs)
def pdL (l : Lg) : PyData := .tuple [.str l.s, .str l.e, .str l.c, .int l.lo, .int l.hi]
theorem can_lg {l : Lg} (h : sOk l.s ∧ sOk l.e ∧ sOk l.c) : (pdL l).canLay0 = true := by
  show (PyData.canLay0 (.str l.s) && (PyData.canLay0 (.str l.e) && (PyData.canLay0 (.str l.c) && (true && (true && true))))) = true
  have h1 : PyData.canLay0 (.str l.s) = true := h.1
  have h2 : PyData.canLay0 (.str l.e) = true := h.2.1
  have h3 : PyData.canLay0 (.str l.c) = true := h.2.2
  rw [h1, h2, h3]
  rfl
theorem dp_lg {K : PySem.W.Frag} {H : Hp} {l : Lg} (h : H l.a = some (.tup l.v)) : Dp K H (.ref l.a) (pdL l) := .tup (.inl (.inl h)) (.cons (.str _) (.cons (.str _) (.cons (.str _) (.cons (.int _) (.cons (.int _) .nil)))))
theorem sh_lg {l : Lg} (h : sOk l.s ∧ sOk l.e ∧ sOk l.c) : SeqAt.shaped (pdL l) = true := sh_of (can_lg h) (by
  show PyData.depthAll _ + 1 ≤ 64
  have : PyData.depthAll [.str l.s, .str l.e, .str l.c, .int l.lo, .int l.hi] ≤ 1 := dpa fun x hx => by
    simp only [List.mem_cons, List.not_mem_nil, or_false] at hx
    rcases hx with rfl | rfl | rfl | rfl | rfl <;> exact Nat.zero_le _
  omega)
theorem Route.sok {H : Hp} {ch : Addr} {D : CD} {ns : List Str} (R : Route D ns) (C : ChartAt H ch D) : ∀ n ∈ ns, sOk n := by
  intro n hn
  obtain ⟨j, hj, rfl⟩ := List.getElem_of_mem hn
  have e : ∀ i (h : i < ns.length), rn ns i = ns[i] := fun i h => by
    unfold rn
    rw [List.getD_eq_getElem?_getD, List.getElem?_eq_getElem h]
    rfl
  have n2 := R.n2
  by_cases h : j + 1 < ns.length
  · obtain ⟨l, hl⟩ := R.ch j h
    obtain ⟨h1, h2, _⟩ := CD.leg_mem hl
    have := (C.sk l h1).1
    rw [h2, e j hj] at this
    exact this
  · obtain ⟨i, rfl⟩ : ∃ i, j = i + 1 := ⟨j - 1, by omega⟩
    obtain ⟨l, hl⟩ := R.ch i hj
    obtain ⟨h1, _, h3⟩ := CD.leg_mem hl
    have := (C.sk l h1).2.1
    rw [h3, e (i + 1) hj] at this
    exact this
end Sk

set_option Elab.async false
set_option linter.all false
set_option maxRecDepth 100000
set_option maxHeartbeats 4000000
namespace Sk
open PySem PySem.Spec PyProof.Rows L2
/-! xs[::-1] of a list -/
theorem back_range (n : Nat) : sliceRange ((n : Int) - 1) (-1) (-1) = (List.range n).map fun k => n - 1 - k := by
  unfold sliceRange
  rw [if_neg (by decide)]
  have e : (if ((n : Int) - 1) > -1 then (((n : Int) - 1) - (-1) - (-1) - 1) / (-(-1)) else 0) = (n : Int) := by
    have e1 : (((n : Int) - 1) - (-1) - (-1) - 1) / (-(-1)) = (n : Int) := by
      rw [show (-(-1) : Int) = 1 from rfl, Int.ediv_one]
      omega
    rw [e1]
    split <;> omega
  rw [e]
  show (List.range ((n : Int)).toNat).map _ = _
  rw [Int.toNat_natCast]
  apply List.map_congr_left
  intro k hk
  have := List.mem_range.mp hk
  omega
theorem fm_congr {α β : Type} {f g : α → Option β} : ∀ {l : List α}, (∀ x ∈ l, f x = g x) → l.filterMap f = l.filterMap g
  | [], _ => rfl
  | x :: l, h => by
    rw [List.filterMap_cons, List.filterMap_cons, h x (List.mem_cons_self ..), fm_congr (l := l) fun y hy => h y (List.mem_cons_of_mem _ hy)]
theorem pick_back {α : Type} (xs : List α) : (((List.range xs.length).map fun k => xs.length - 1 - k).filterMap (xs[·]?)) = xs.reverse := by
  induction xs with
  | nil => rfl
  | cons x xs ih =>
    rw [List.length_cons, List.range_succ, List.map_append, List.filterMap_append, List.reverse_cons]
    congr 1
    · rw [← ih, List.filterMap_map, List.filterMap_map]
      apply fm_congr
      intro k hk
      have := List.mem_range.mp hk
      show (x :: xs)[xs.length + 1 - 1 - k]? = xs[xs.length - 1 - k]?
      rw [show xs.length + 1 - 1 - k = (xs.length - 1 - k) + 1 by omega, List.getElem?_cons_succ]
    · simp
theorem slicePick_back (its : List Value) : slicePick its.toArray none none (some (-1)) = its.reverse.toArray := by
  have e : sliceBounds none none (some (-1)) its.toArray.size = ((its.length : Int) - 1, -1, -1) := by
    rw [List.size_toArray]
    rfl
  unfold slicePick
  rw [e, back_range]
  congr 1
  have := pick_back its
  simpa using this
/-- what is asked of xs[::st] -/
def tBack (K : PySem.W.Frag) (te ts : TE) : TE := fun σ H Q => te σ H fun x H1 => ts σ H1 fun y H2 => y = .int (-1) ∧ ∃ a xs, x = .ref a ∧ SqL K H2 a xs ∧ ∀ p, H2 p = none → Q (.ref p) (upd H2 p (.lst xs.reverse))
theorem pe_back {X : Cx} {e st : Expr} {te ts : TE} {p2 pos : Pos} (he : PE X e te) (hst : PE X st ts) : PE X (.Subscript e (.Slice none none (some st) p2) pos) (tBack X.K te ts) := by
  refine ⟨fun pins s σ H Q I h => ?_⟩
  refine Subscript_ (thn (he.run pins s σ H _ I h) fun v s1 ⟨x, H1, I1, r1, q1⟩ => ?_)
  refine wpAny_Slice ?_
  rw [evalPart_none]
  refine wpAny_pure ?_
  refine wpAny_pure ?_
  rw [evalPart_some]
  refine thn (hst.run pins s1 σ H1 _ I1 q1) fun vs s2 ⟨y, H2, I2, r2, q2⟩ => ?_
  obtain ⟨rfl, a, xs, rfl, hx, q⟩ := q2
  obtain ⟨t, rfl⟩ := r2
  cases r1
  have I4 : Inv X pins σ H2 { s2 with heap := s2.heap.push { cls := .type "slice", data := .fields #[.none, .none, .int (-1) t] } } := I2.kept (t' := s2.toks) fun b ob q => Heap.get?_push_of_some _ q
  obtain ⟨its, r, ht, hz⟩ := I4.list hx
  have hg : wpAny (model X.prog X.w) X.A (getItem (.ref a) (.ref s2.heap.objs.size)) (EP X pins σ Q) X.xe { s2 with heap := s2.heap.push { cls := .type "slice", data := .fields #[.none, .none, .int (-1) t] } } := by
    refine wpAny_getItem_list_slice ht.isList (Heap.IsSliceOf.new ..) .none .none (.int (-1) t) (by simp) ?_ (by rw [List.size_toArray]; exact r.length ▸ hz)
    rw [slicePick_back]
    refine ⟨.ref _, _, I4.laid (t' := s2.toks) (o := .lst xs.reverse) (fun b ob q => Heap.get?_push_of_some _ q) (Nat.le_refl _) ?_, rfl, q _ (I4.hok.fresh (Nat.le_refl _))⟩
    exact ⟨by rw [List.length_reverse]; exact hz, _, 0, r.reverse, Heap.get?_push_size _ rfl⟩
  show wpAny (model X.prog X.w) X.A (subscriptTail e (.Slice none none (some st) p2) (.ref a) (.ref s2.heap.objs.size)) (EP X pins σ Q) X.xe { s2 with heap := s2.heap.push { cls := .type "slice", data := .fields #[.none, .none, .int (-1) t] } }
  exact tail_any (ops := [.ref a, .ref s2.heap.objs.size]) ht.isList.typeIs list_getitem_lookup hg (by with_unfolding_all rfl)
end Sk

set_option Elab.async false
set_option linter.all false
set_option maxRecDepth 100000
set_option maxHeartbeats 4000000
namespace Sk
open PySem PySem.Spec PyProof.Rows L2
structure Fr where
  x : Int
  y : Int
  z : Int
  c : Int
structure Fr.Ok (f : Fr) : Prop where
  x0 : -8388608 ≤ f.x
  x1 : f.x ≤ 8388607
  y0 : -8388608 ≤ f.y
  y1 : f.y ≤ 8388607
  z0 : -32768 ≤ f.z
  z1 : f.z ≤ 32767
  c0 : 0 ≤ f.c
  c1 : f.c < 256
def ten (f : Fr) : List Int := [170, (f.x + 8388608) / 65536, (f.x + 8388608) / 256 % 256, (f.x + 8388608) % 256, (f.y + 8388608) / 65536, (f.y + 8388608) / 256 % 256, (f.y + 8388608) % 256, (f.z + 32768) / 256, (f.z + 32768) % 256, f.c]
def fr (f : Fr) : List Int := ten f ++ [(ten f).sum % 251]
theorem fr_len (f : Fr) : (fr f).length = 11 := rfl
def num (ns : List Int) : Int := ns.foldl (fun t n => t * 256 + n) 0
theorem num_snoc (ns : List Int) (n : Int) : num (ns ++ [n]) = num ns * 256 + n := by simp [num]
def isFr (ys : List Int) : Bool := decide (ys.getD 0 0 = 170) && decide (ys.getD 10 0 = (ys.take 10).sum % 251)
def cont (ys : List Int) : Fr := ⟨num ((ys.drop 1).take 3) - 8388608, num ((ys.drop 4).take 3) - 8388608, num ((ys.drop 7).take 2) - 32768, ys.getD 9 0⟩
def rd (ys : List Int) : List Fr := if _h : 11 ≤ ys.length then (if isFr ys = true then cont ys :: rd (ys.drop 11) else rd (ys.drop 1)) else []
termination_by ys.length
decreasing_by all_goals (rw [List.length_drop]; omega)
theorem rd_short {ys : List Int} (h : ys.length < 11) : rd ys = [] := by rw [rd, dif_neg (by omega)]
theorem rd_yes {ys : List Int} (h : 11 ≤ ys.length) (e : isFr ys = true) : rd ys = cont ys :: rd (ys.drop 11) := by rw [rd, dif_pos h, if_pos e]
theorem rd_no {ys : List Int} (h : 11 ≤ ys.length) (e : isFr ys = false) : rd ys = rd (ys.drop 1) := by rw [rd, dif_pos h, if_neg (by rw [e]; decide)]
theorem rd_noise {n : List Int} (ys : List Int) (h : ∀ x ∈ n, x ≠ 170) : rd (n ++ ys) = rd ys := by
  induction n with
  | nil => rfl
  | cons a n ih =>
    have ih := ih fun x hx => h x (List.mem_cons_of_mem _ hx)
    rcases Nat.lt_or_ge ((a :: n) ++ ys).length 11 with l | l
    · rw [rd_short l]
      have l2 : ys.length < 11 := by
        rw [List.length_append] at l
        omega
      rw [rd_short l2]
    · have e : isFr ((a :: n) ++ ys) = false := by
        have := h a (List.mem_cons_self ..)
        simp [isFr, this]
      rw [rd_no l e]
      exact ih
theorem rd_fr {f : Fr} (k : f.Ok) (ys : List Int) : rd (fr f ++ ys) = f :: rd ys := by
  have hl : 11 ≤ (fr f ++ ys).length := by rw [List.length_append, fr_len]; omega
  have e : isFr (fr f ++ ys) = true := by
    simp [isFr, fr, ten]
  rw [rd_yes hl e]
  have hd : (fr f ++ ys).drop 11 = ys := by
    have := List.drop_left (l₁ := fr f) (l₂ := ys)
    rw [fr_len] at this
    exact this
  rw [hd]
  congr 1
  obtain ⟨x, y, z, c⟩ := f
  obtain ⟨x0, x1, y0, y1, z0, z1, c0, c1⟩ := k
  simp only at x0 x1 y0 y1 z0 z1 c0 c1
  show Fr.mk _ _ _ _ = _
  have ex : num [(x + 8388608) / 65536, (x + 8388608) / 256 % 256, (x + 8388608) % 256] - 8388608 = x := by
    simp only [num, List.foldl_cons, List.foldl_nil]
    omega
  have ey : num [(y + 8388608) / 65536, (y + 8388608) / 256 % 256, (y + 8388608) % 256] - 8388608 = y := by
    simp only [num, List.foldl_cons, List.foldl_nil]
    omega
  have ez : num [(z + 32768) / 256, (z + 32768) % 256] - 32768 = z := by
    simp only [num, List.foldl_cons, List.foldl_nil]
    omega
  simp only [fr, ten, List.cons_append, List.nil_append, List.drop_succ_cons, List.drop_zero, List.take_succ_cons, List.take_zero, List.getD_cons_succ, List.getD_cons_zero]
  rw [ex, ey, ez]
def Byte (n : Int) : Prop := 0 ≤ n ∧ n < 256
theorem fr_byte {f : Fr} (k : f.Ok) : ∀ n ∈ fr f, Byte n := by
  obtain ⟨x, y, z, c⟩ := f
  obtain ⟨x0, x1, y0, y1, z0, z1, c0, c1⟩ := k
  simp only at x0 x1 y0 y1 z0 z1 c0 c1
  intro n hn
  simp only [fr, ten, List.cons_append, List.nil_append, List.mem_cons, List.not_mem_nil, or_false] at hn
  unfold Byte
  rcases hn with rfl | rfl | rfl | rfl | rfl | rfl | rfl | rfl | rfl | rfl | rfl <;> omega
/-- the last bytes of a number, the lowest first -/
def lowb : Nat → Int → List Int
  | 0, _ => []
  | k + 1, n => lowb k n ++ [n / 256 ^ k % 256]
theorem lowb_len (k : Nat) (n : Int) : (lowb k n).length = k := by
  induction k with
  | zero => rfl
  | succ k ih => simp [lowb, ih]
theorem div_pow (n : Int) (k : Nat) : n / 256 ^ k / 256 = n / 256 ^ (k + 1) := by
  rw [Int.ediv_ediv_of_nonneg (by exact Int.pow_nonneg (by decide)), Int.pow_succ]
theorem high3 {n : Int} (h0 : 0 ≤ n) (h1 : n < 16777216) : (lowb 3 n).reverse = [n / 65536, n / 256 % 256, n % 256] := by
  have e : n / 65536 % 256 = n / 65536 := by omega
  simp [lowb, e]
theorem high2 {n : Int} (h0 : 0 ≤ n) (h1 : n < 65536) : (lowb 2 n).reverse = [n / 256, n % 256] := by
  have e : n / 256 % 256 = n / 256 := by omega
  simp [lowb, e]
theorem num_bd {ns : List Int} (h : ∀ n ∈ ns, Byte n) (k : ns.length ≤ 3) : 0 ≤ num ns ∧ num ns < 16777216 := by
  match ns, k with
  | [], _ => decide
  | [a], _ => 
    have a1 := h a (by simp)
    unfold Byte at a1
    simp [num]; omega
  | [a, b], _ => 
    have a1 := h a (by simp)
    have a2 := h b (by simp)
    unfold Byte at a1 a2
    simp [num]; omega
  | [a, b, c], _ => 
    have a1 := h a (by simp)
    have a2 := h b (by simp)
    have a3 := h c (by simp)
    unfold Byte at a1 a2 a3
    simp [num]; omega

/-! frames in a heap -/
def frT (f : Fr) : List V := [.int f.x, .int f.y, .int f.z]
inductive Frs (H : Hp) : List V → List Fr → Prop
  | nil : Frs H [] []
  | cons {p q : Addr} {f : Fr} {xs : List V} {fs : List Fr} : H p = some (.tup [.ref q, .int f.c]) → H q = some (.tup (frT f)) → Frs H xs fs → Frs H (.ref p :: xs) (f :: fs)
theorem Frs.snoc {H : Hp} {xs : List V} {fs : List Fr} (h : Frs H xs fs) {p q : Addr} {f : Fr} (hp : H p = some (.tup [.ref q, .int f.c])) (hq : H q = some (.tup (frT f))) : Frs H (xs ++ [.ref p]) (fs ++ [f]) := by
  induction h with
  | nil => exact .cons hp hq .nil
  | cons a b c ih => exact .cons a b ih
theorem Frs.move {H H' : Hp} {xs : List V} {fs : List Fr} (h : Frs H xs fs) (k : ∀ q u, H q = some (.tup u) → H' q = some (.tup u)) : Frs H' xs fs := by
  induction h with
  | nil => exact .nil
  | cons a b c ih => exact .cons (k _ _ a) (k _ _ b) ih
theorem Frs.len {H : Hp} {xs : List V} {fs : List Fr} (h : Frs H xs fs) : xs.length = fs.length := by
  induction h with
  | nil => rfl
  | cons a b c ih => rw [List.length_cons, List.length_cons, ih]
def pdF (f : Fr) : PyData := .tuple [.tuple ([f.x, f.y, f.z].map .int), .int f.c]
theorem Frs.data {K : PySem.W.Frag} {H : Hp} {xs : List V} {fs : List Fr} (h : Frs H xs fs) : DpAll K H xs (fs.map pdF) := by
  induction h with
  | nil => exact .nil
  | cons a b c ih => exact .cons (.tup (.inl (.inl a)) (.cons (.tup (.inl (.inl b)) (dpAll_int [_, _, _])) (.cons (.int _) .nil))) ih
theorem can_f (f : Fr) : (pdF f).canLay0 = true := by rfl
theorem dep_f (f : Fr) : (pdF f).depth ≤ 4 := by
  show PyData.depthAll _ + 1 ≤ 4
  have : PyData.depthAll [PyData.tuple ([f.x, f.y, f.z].map .int), .int f.c] ≤ 3 := dpa fun x hx => by
    simp only [List.mem_cons, List.not_mem_nil, or_false] at hx
    rcases hx with rfl | rfl
    · exact Nat.le_trans (dep_pd [f.x, f.y, f.z]) (by decide)
    · exact Nat.zero_le _
  omega
theorem can_fs (fs : List Fr) : (PyData.list (fs.map pdF)).canLay0 = true := by
  show PyData.canLayAll0 _ = true
  refine cla fun x hx => ?_
  obtain ⟨n, hn, rfl⟩ := List.mem_map.mp hx
  exact can_f n
theorem sh_fs (fs : List Fr) : SeqAt.shaped (.list (fs.map pdF)) = true := by
  refine sh_of (can_fs fs) ?_
  show PyData.depthAll _ + 1 ≤ 64
  have : PyData.depthAll (fs.map pdF) ≤ 4 := dpa fun x hx => by
    obtain ⟨n, _, rfl⟩ := List.mem_map.mp hx
    exact dep_f n
  omega
theorem can_li (xs : List Int) : (PyData.list (xs.map .int)).canLay0 = true := by
  show PyData.canLayAll0 _ = true
  refine cla fun x hx => ?_
  obtain ⟨n, hn, rfl⟩ := List.mem_map.mp hx
  rfl
theorem sh_li (xs : List Int) : SeqAt.shaped (.list (xs.map .int)) = true := by
  refine sh_of (can_li xs) ?_
  show PyData.depthAll _ + 1 ≤ 64
  have : PyData.depthAll (xs.map PyData.int) ≤ 1 := dpa fun x hx => by
    obtain ⟨n, _, rfl⟩ := List.mem_map.mp hx
    exact Nat.zero_le _
  omega
theorem eqvY {d : PyData} {A B : Prop} (h : d.canLay0 = true) (q : A) : if (PyData.eqv d d) = true then A else B := by
  rw [SeqAt.eqv_refl d h]
  exact iteT q
/-! places -/
theorem cutV_nat (xs : List V) (i j : Nat) (hj : j ≤ xs.length) (hi : i ≤ j) : cutV xs (some (i : Int)) (some (j : Int)) = (xs.drop i).take (j - i) := by
  unfold cutV
  rw [HT.sIx_nat, HT.sIx_nat, Nat.min_eq_left (by omega), Nat.min_eq_left (by omega)]
theorem map_cut (ns : List Int) (i j : Nat) (hj : j ≤ ns.length) (hi : i ≤ j) : cutV (ns.map V.int) (some (i : Int)) (some (j : Int)) = (((ns.drop i).take (j - i)).map V.int) := by
  rw [cutV_nat _ _ _ (by rw [List.length_map]; exact hj) hi, List.map_take, List.map_drop]
theorem getD_at {ns : List Int} {i : Nat} (h : i < ns.length) : ns[i]? = some (ns.getD i 0) := by
  rw [List.getD_eq_getElem?_getD, List.getElem?_eq_getElem h]; rfl
theorem at_drop {ns : List Int} {i k : Nat} {z : Int} (hz : z = ((i + k : Nat) : Int)) (h : i + k < ns.length) : atI (ns.map V.int) z = some (.int ((ns.drop i).getD k 0)) := by
  rw [hz]
  refine atI_nat ?_
  rw [List.getElem?_map, List.getD_eq_getElem?_getD, List.getElem?_drop, List.getElem?_eq_getElem h]
  rfl
/-! the promises -/
def spBytes : Sp := fun vs H Q _ => ∃ (n : Int) (m : Nat), vs = [.int n, .int m] ∧ 0 ≤ n ∧ n < 16777216 ∧ m ≤ 3 ∧ ∀ p H', H p = none → Same H H' → H' p = some (.lst ((lowb m n).reverse.map V.int)) → Q (.ref p) H'
def spFrame : Sp := fun vs H Q _ => ∃ (a : Addr) (f : Fr), vs = [.ref a, .int f.c] ∧ H a = some (.tup (frT f)) ∧ f.Ok ∧ ∀ p H', H p = none → Same H H' → H' p = some (.lst ((fr f).map V.int)) → Q (.ref p) H'
def spNum (K : PySem.W.Frag) : Sp := fun vs H Q _ => ∃ (a : Addr) (ns : List Int), vs = [.ref a] ∧ SqL K H a (ns.map V.int) ∧ (∀ n ∈ ns, Byte n) ∧ ns.length ≤ 3 ∧ Q (.int (num ns)) H
def spIsFr : Sp := fun vs H Q _ => ∃ (a : Addr) (ns : List Int) (i : Nat), vs = [.ref a, .int i] ∧ H a = some (.lst (ns.map V.int)) ∧ i + 11 ≤ ns.length ∧ ∀ H', Same H H' → Q (.bl (isFr (ns.drop i))) H'
def spCont : Sp := fun vs H Q _ => ∃ (a : Addr) (ns : List Int) (i : Nat), vs = [.ref a, .int i] ∧ H a = some (.lst (ns.map V.int)) ∧ i + 11 ≤ ns.length ∧ (∀ n ∈ ns, Byte n) ∧
  ∀ p q H', H p = none → Same H H' → H' p = some (.tup [.ref q, .int (cont (ns.drop i)).c]) → H' q = some (.tup (frT (cont (ns.drop i)))) → Q (.ref p) H'
def spFrames : Sp := fun vs H Q _ => ∃ (a : Addr) (ns : List Int), vs = [.ref a] ∧ H a = some (.lst (ns.map V.int)) ∧ ns.length ≤ 500 ∧ (∀ n ∈ ns, Byte n) ∧
  ∀ p l r xs H', H p = none → H l = none → Same H H' → H' p = some (.tup [.ref l, .ref r]) → H' l = some (.lst xs) → Frs H' xs (rd ns) → Q (.ref p) H'
def spRead : Sp := fun vs H Q _ => ∃ (a : Addr) (ns : List Int), vs = [.ref a] ∧ H a = some (.lst (ns.map V.int)) ∧ ns.length ≤ 500 ∧ (∀ n ∈ ns, Byte n) ∧
  ∀ l xs H', H l = none → Same H H' → H' l = some (.lst xs) → Frs H' xs (rd ns) → Q (.ref l) H'
def spRanged (K : PySem.W.Frag) : Sp := fun vs H Q _ => ∃ (d c : Addr) (lo hi : Int), vs = [.ref d, .int lo, .int hi] ∧ St1 K H d c ∧ lo ≤ -1 ∧ 170 ≤ hi ∧ -8388608 ≤ lo ∧ hi ≤ 8388607 ∧
  ∀ x H', lo ≤ x → x ≤ hi → St1 K H' d c → Keep d H H' → Q (.int x) H'
def spNoise (K : PySem.W.Frag) : Sp := fun vs H Q _ => ∃ (d c : Addr), vs = [.ref d] ∧ St1 K H d c ∧
  ∀ (p : Addr) (ns : List Int) (H' : Hp), H p = none → p ≠ d → p ≠ c → H' p = some (.lst (ns.map V.int)) → ns.length ≤ 12 → (∀ n ∈ ns, Byte n) → (∀ n ∈ ns, n ≠ 170) → St1 K H' d c → Keep d H H' → Q (.ref p) H'
end Sk
namespace Sk
open PySem PySem.Spec PyProof.Rows L2
theorem keepT {H : Hp} {L : Addr} {xs : List V} {o : HO} (h : H L = some (.lst xs)) : ∀ q u, H q = some (.tup u) → (upd H L o) q = some (.tup u) := fun q u hq => by
  rw [upd_ne (ne_of hq h (by intro z; cases z))]
  exact hq
theorem sameU {H H' : Hp} {L : Addr} {o : HO} (hL : H L = none) (sm : Same H H') : Same H (upd H' L o) := fun b u e => by
  rw [upd_ne (ne_of_none e hL)]
  exact sm b u e
theorem keepU {H H' : Hp} {d L : Addr} {o : HO} (hL : H L = none) (kp : Keep d H H') : Keep d H (upd H' L o) := fun b u e n => by
  rw [upd_ne (ne_of_none e hL)]
  exact kp b u e n
theorem tupS {H H' : Hp} (sm : Same H H') : ∀ q u, H q = some (.tup u) → H' q = some (.tup u) := fun q u h => sm _ _ h
theorem tupK {K : PySem.W.Frag} {d c : Addr} {H H' : Hp} (S : St1 K H d c) (kp : Keep d H H') : ∀ q u, H q = some (.tup u) → H' q = some (.tup u) := fun q u h => kp.t S h
theorem cut_in {ns : List Int} {i a b : Nat} {lo hi : Int} (hlo : lo = ((i + a : Nat) : Int)) (hhi : hi = ((i + b : Nat) : Int)) (h : i + b ≤ ns.length) (ab : a ≤ b) :
    cutV (ns.map V.int) (some lo) (some hi) = (((ns.drop i).drop a).take (b - a)).map V.int := by
  rw [hlo, hhi, map_cut ns (i + a) (i + b) h (by omega), List.drop_drop, show i + b - (i + a) = b - a by omega]
theorem mem_cut {ns : List Int} {P : Int → Prop} {i a k : Nat} (h : ∀ n ∈ ns, P n) : ∀ n ∈ ((ns.drop i).drop a).take k, P n := fun n hn => h n (List.mem_of_mem_drop (List.mem_of_mem_drop (List.mem_of_mem_take hn)))
theorem dec_v (a b : Int) : decide (V.int a = V.int b) = decide (a = b) := by
  by_cases h : a = b
  · subst h; simp
  · have : V.int a ≠ V.int b := fun z => h (V.int.inj z)
    simp [h, this]
theorem isFr_no {ys : List Int} (h : ¬ ys.getD 0 0 = 170) : isFr ys = false := by
  unfold isFr
  rw [decide_eq_false h]
  rfl
theorem isFr_if {ys : List Int} (h : ys.getD 0 0 = 170) : isFr ys = decide (ys.getD 10 0 = (ys.take 10).sum % 251) := by
  unfold isFr
  rw [decide_eq_true h]
  rfl
/-- the first eleven -/
theorem eleven {ys : List Int} (h : 11 ≤ ys.length) : ∃ a0 a1 a2 a3 a4 a5 a6 a7 a8 a9 a10 r, ys = a0 :: a1 :: a2 :: a3 :: a4 :: a5 :: a6 :: a7 :: a8 :: a9 :: a10 :: r := by
  match ys, h with
  | a0 :: a1 :: a2 :: a3 :: a4 :: a5 :: a6 :: a7 :: a8 :: a9 :: a10 :: r, _ => exact ⟨_, _, _, _, _, _, _, _, _, _, _, _, rfl⟩
theorem cont_eq {ys : List Int} (h : 11 ≤ ys.length) : cont ys = ⟨ys.getD 1 0 * 65536 + ys.getD 2 0 * 256 + ys.getD 3 0 - 8388608, ys.getD 4 0 * 65536 + ys.getD 5 0 * 256 + ys.getD 6 0 - 8388608, ys.getD 7 0 * 256 + ys.getD 8 0 - 32768, ys.getD 9 0⟩ := by
  obtain ⟨a0, a1, a2, a3, a4, a5, a6, a7, a8, a9, a10, r, rfl⟩ := eleven h
  show Fr.mk (num [a1, a2, a3] - 8388608) (num [a4, a5, a6] - 8388608) (num [a7, a8] - 32768) a9 = Fr.mk (a1 * 65536 + a2 * 256 + a3 - 8388608) (a4 * 65536 + a5 * 256 + a6 - 8388608) (a7 * 256 + a8 - 32768) a9
  have e1 : num [a1, a2, a3] = a1 * 65536 + a2 * 256 + a3 := by simp only [num, List.foldl_cons, List.foldl_nil]; omega
  have e2 : num [a4, a5, a6] = a4 * 65536 + a5 * 256 + a6 := by simp only [num, List.foldl_cons, List.foldl_nil]; omega
  have e3 : num [a7, a8] = a7 * 256 + a8 := by simp only [num, List.foldl_cons, List.foldl_nil]; omega
  rw [e1, e2, e3]
/-- a place within the eleven that were cut out -/
theorem at_ten {ys : List Int} {k : Nat} {z : Int} (hz : z = (k : Int)) (hk : k < 11) (h : 11 ≤ ys.length) : atI ((ys.take 11).map V.int) z = some (.int (ys.getD k 0)) := by
  rw [hz]
  refine atI_nat ?_
  rw [List.getElem?_map, List.getElem?_take_of_lt hk, getD_at (by omega)]
  rfl
theorem byteD {ns : List Int} (h : ∀ n ∈ ns, Byte n) (i k : Nat) : Byte ((ns.drop i).getD k 0) := by
  rw [List.getD_eq_getElem?_getD, List.getElem?_drop]
  cases e : ns[i + k]? with
  | none => exact ⟨by decide, by decide⟩
  | some x => exact h x (List.mem_of_getElem? e)
theorem wb {n z : Int} (h : Byte n) (hz : z.natAbs < 2 ^ 250) : CMulW n z := wm (by
  unfold Byte at h
  have : n.natAbs < 256 := by omega
  exact Nat.lt_of_lt_of_le this (by decide)) hz
/-- the bytes of the frame, as far as the first i coordinates -/
def by3 (n : Int) : List Int := [n / 65536, n / 256 % 256, n % 256]
def lead (X Y : Int) (i : Nat) : List Int := 170 :: (([X, Y].take i).map by3).flatten
theorem lead_step {X Y : Int} {i : Nat} {x : V} (h : ([V.int X, V.int Y])[i]? = some x) : ∃ z, x = .int z ∧ lead X Y (i + 1) = lead X Y i ++ by3 z ∧ (lead X Y i).length ≤ 4 := by
  match i, h with
  | 0, h => exact ⟨X, (Option.some.inj h).symm, rfl, by show 1 ≤ 4; decide⟩
  | 1, h => exact ⟨Y, (Option.some.inj h).symm, rfl, by show 4 ≤ 4; decide⟩
theorem nE {a b : Addr} {H : Hp} (h : H a = none) (h2 : H b ≠ none) : a ≠ b := fun z => h2 (z ▸ h)
end Sk
namespace Sk
open PySem PySem.Spec PyProof.Rows L2
theorem byte_in {ms : List Int} (h : ∀ n ∈ ms, Byte n) {z : Int} (hz : Byte z) (k : Nat) : ∀ n ∈ ms.take k ++ [z] ++ ms.drop k, Byte n := fun n hn => by
  rcases List.mem_append.mp hn with hn | hn
  · rcases List.mem_append.mp hn with hn | hn
    · exact h n (List.mem_of_mem_take hn)
    · rw [List.mem_singleton.mp hn]; exact hz
  · exact h n (List.mem_of_mem_drop hn)
theorem len_in (ms : List Int) (z : Int) (k : Nat) : (ms.take k ++ [z] ++ ms.drop k).length = ms.length + 1 := by
  rw [List.length_append, List.length_append, List.length_take, List.length_drop]
  show min k ms.length + 1 + (ms.length - k) = _
  omega
theorem map_in (ms : List Int) (z : Int) (k : Nat) : (ms.map V.int).take k ++ [V.int z] ++ (ms.map V.int).drop k = (ms.take k ++ [z] ++ ms.drop k).map V.int := by
  rw [List.map_append, List.map_append, List.map_take, List.map_drop]
  rfl
theorem map_out (ms : List Int) (k : Nat) : (ms.map V.int).eraseIdx k = (ms.eraseIdx k).map V.int := by
  rw [List.eraseIdx_eq_take_drop_succ, List.eraseIdx_eq_take_drop_succ, List.map_append, List.map_take, List.map_drop]
theorem byte_out {ms : List Int} (h : ∀ n ∈ ms, Byte n) (k : Nat) : ∀ n ∈ ms.eraseIdx k, Byte n := fun n hn => h n (List.mem_of_mem_eraseIdx hn)
theorem map_set (ms : List Int) (k : Nat) (z : Int) : (ms.map V.int).set k (.int z) = (ms.set k z).map V.int := by
  rw [List.map_set]
theorem byte_set {ms : List Int} (h : ∀ n ∈ ms, Byte n) {z : Int} (hz : Byte z) (k : Nat) : ∀ n ∈ ms.set k z, Byte n := fun n hn => by
  rcases List.mem_or_eq_of_mem_set hn with hn | hn
  · exact h n hn
  · rw [hn]; exact hz
def spLaw (K : PySem.W.Frag) : Sp := fun vs H Q _ => ∃ (a : Addr) (ns : List Int), vs = [.ref a] ∧ SqL K H a (ns.map V.int) ∧ ns.length ≤ 63 ∧ ∀ H', Q (.bl true) H'
end Sk

set_option Elab.async false
set_option linter.all false
set_option maxRecDepth 100000
set_option maxHeartbeats 4000000
namespace Sk
open PySem PySem.Spec PyProof.Rows L2
def top (i : Nat) : Stmt := PySem.Challenge.pw_skyapart_k33_whole_stream_of_radars.main.body.getD i (.Pass ⟨0, 0, 0, 0⟩)
abbrev s_law_start : Stmt := top 14
abbrev s_law_draw : Stmt := top 15
abbrev s_law_pick : Stmt := top 16
abbrev s_law_is_number : Stmt := top 17
section
variable {P : Program} {w : World} {K : PySem.W.Frag} {mg : Str → Option Value} {base : Heap}
theorem sc_law_start : FnScope ["script", "cell"] ["script"] (defScope s_law_start) := ⟨rfl, rfl, rfl, by decide +kernel, rfl, by decide +kernel, by decide +kernel⟩
theorem ok_law_start {f : Addr} {fd : FuncData} (F : Fun K "_law_start" "_law_start" s_law_start f fd) (T : Txt0 mg) : FnOk P w K mg base CX0 1 f fd ["script"] (spStart K) := by
  refine F.ok sc_law_start (fun vs H Q E h => ?_) (fun cdv A outer s H vs Q E hr h => ?_)
  · obtain ⟨a, ns, rfl, _⟩ := h
    rfl
  · obtain ⟨a, ns, rfl, hS, hl, k⟩ := h
    refine ⟨_, (pss_one (ps_ret (pe_disp (pps_cons pe_str (pe_lc (own := [("cell", 1)]) (g := gName 1) (by rfl) sc_law_start.nd (pi_list (pv 0)) (blkOk_by (own := [("cell", 1)]) (N := ["script", "cell"]) (sc := defScope s_law_start) (by decide +kernel)) (fun _ _ _ _ _ => (pg_name (i := 1) sc_law_start.nd rfl (Or.inl rfl))) (fun _ _ _ _ _ => pts_nil) (fun _ _ _ _ _ => (pe_callB call_abs (by rfl) T.abs boot_abs (pa_cons (pe_callTy call_int1 (by rfl) T.int boot_int (pa_cons (pv 1) pa_nil)) pa_nil)))) (pps_cons pe_str pe_int (pps_cons pe_str pe_int (pps_cons pe_str (pe_op op_add pe_int (pe_callB call_len_seq (by rfl) T.len boot_len (pa_cons (pv 0) pa_nil))) pps_nil)))) (by rfl) (by rfl) (fun z => by cases z) (by decide)))), ?_⟩
    -- the dict
    intro d hd
    have s0 : Same H (upd H d (.dK [])) := same_new hd
    refine ⟨_, rfl, a, rfl, ⟨_, s0.seq hS⟩, fun D hD => ?_⟩
    have nDd : d ≠ D := fun z => by rw [← z, upd_same] at hD; cases hD
    refine lc_list (K := K) (a := a) (xs := ns.map V.int) (fun i H' => ∃ cs : List Int, H' D = some (.lst (cs.map V.int)) ∧ cs.length = i ∧ (∀ x ∈ cs, 0 ≤ x) ∧ Same H H' ∧ H' d = some (.dK []))
      ⟨[], upd_same, rfl, (fun _ h => nomatch h), fun b o e => (same_new hD) b o (s0 b o e), by rw [upd_ne nDd, upd_same]⟩ (fun i H' _ ⟨_, _, _, _, s2, _⟩ => s2.seq hS) ?_ ?_
    · rintro i x H' hx ⟨cs, hc, hi, hn, s2, h2⟩
      obtain ⟨z, rfl⟩ : ∃ z, x = V.int z := by
        rw [List.getElem?_map] at hx
        cases e : ns[i]? with
        | none => rw [e] at hx; cases hx
        | some z => rw [e] at hx; exact ⟨z, (Option.some.inj hx).symm⟩
      have hil : i < (ns.map V.int).length := (List.getElem?_eq_some_iff.mp hx).1
      rw [List.length_map] at hil
      refine ⟨rfl, ?_⟩
      refine ⟨_, rfl, .inl ⟨_, rfl, _, rfl, _, hc, ?_, cs ++ [if z < 0 then -z else z], ?_, ?_, ?_, ?_, ?_⟩⟩
      · rw [List.length_map]; exact small1000 (by omega)
      · rw [upd_same, List.map_append]; rfl
      · rw [List.length_append, hi]; rfl
      · intro y hy
        rcases List.mem_append.mp hy with hy | hy
        · exact hn y hy
        · rw [List.mem_singleton.mp hy]; split <;> omega
      · intro b o e
        rw [upd_ne (ne_of_none e (s0.free hD))]
        exact s2 b o e
      · rw [upd_ne nDd]; exact h2
    · rintro H' ⟨cs, hc, hi, hn, s2, h2⟩
      refine ⟨_, rfl, a, _, rfl, .inl (s2.seq hS), _, _, rfl, rfl, h2, stK D 0 0 (7 + ((ns.map V.int).length : Int)), rfl, (by show 4 ≤ 15; decide), ?_⟩
      rw [merge_st]
      have hDd : D ≠ d := fun z => nDd z.symm
      refine k d D _ hd (s0.free hD) ⟨cs, 0, 0, _, upd_same, (by rw [upd_ne hDd]; exact hc), hn, by omega, by omega, ?_, ?_⟩ fun b o e => ?_
      · omega
      · rw [List.length_map]; omega
      · rw [upd_ne (ne_of_none e hd)]
        exact s2 b o e
theorem sc_law_draw : FnScope ["state", "bound", "cell", "number"] ["state", "bound"] (defScope s_law_draw) := ⟨rfl, rfl, rfl, by decide +kernel, rfl, by decide +kernel, by decide +kernel⟩
theorem ok_law_draw {f : Addr} {fd : FuncData} (F : Fun K "_law_draw" "_law_draw" s_law_draw f fd) (T : Txt0 mg) : FnOk P w K mg base CX0 1 f fd ["state", "bound"] (spDraw K) := by
  refine F.ok sc_law_draw (fun vs H Q E h => ?_) (fun cdv A outer s H vs Q E hr h => ?_)
  · obtain ⟨d, c, b, rfl, _⟩ := h
    rfl
  · obtain ⟨d, c, b, rfl, S1, b0, b1, k⟩ := h
    have hu := hu_of hr
    have hm : ∀ x : Int, 0 ≤ x % b ∧ x % b < b := fun x => ⟨Int.emod_nonneg x (by omega), Int.emod_lt_of_pos x b0⟩
    have hmx : ∀ x : Int, 0 ≤ x % 2147483647 ∧ x % 2147483647 < 2147483648 := fun x => by omega
    refine ⟨_, (pss_cons (ps_if (PW.pt (pw_and (pt_cmpR op_eq (pe_dget hu (pv 0) pe_str (fun _ _ => rfl)) pe_int (nomark _)) (pw_and1 (pt_cmpR op_lt (pe_dget hu (pv 0) pe_str (fun _ _ => rfl)) (pe_callB call_len_seq (by rfl) T.len boot_len (pa_cons (pe_dget hu (pv 0) pe_str (fun _ _ => rfl)) pa_nil)) (nomark _))))) (pss_cons (ps_set (i := 2) sc_law_draw.nd rfl (Or.inl rfl) (pe_ix ix_list (pe_dget hu (pv 0) pe_str (fun _ _ => rfl)) (pe_dget hu (pv 0) pe_str (fun _ _ => rfl)) (fun _ _ => rfl)))
    (pss_cons (ps_dput hu (pv 0) pe_str (pe_op op_add (pe_dget hu (pv 0) pe_str (fun _ _ => rfl)) pe_int) rfl)
    (pss_cons (ps_dput hu (pv 0) pe_str (pe_op op_mod (pe_callTy call_int1 (by rfl) T.int boot_int (pa_cons (pe_op op_add (pe_op op_add (pe_op op_mul (pe_dget hu (pv 0) pe_str (fun _ _ => rfl)) pe_int) (pv 2)) pe_int) pa_nil)) pe_int) rfl)
    (pss_cons (ps_if (pt_cmpR op_lt (pv 2) (pe_op op_pow pe_int pe_int) (nomark _)) (pss_one (ps_ret (pe_op op_mod (pe_callTy call_int1 (by rfl) T.int boot_int (pa_cons (pv 2) pa_nil)) (pv 1))))
      pss_nil)
    (pss_one (ps_dput hu (pv 0) pe_str (pv 2) rfl))))))
      pss_nil)
    (pss_cons (ps_if (pt_cmpR op_gt (pe_dget hu (pv 0) pe_str (fun _ _ => rfl)) pe_int (nomark _)) (pss_cons (ps_set (i := 3) sc_law_draw.nd rfl (Or.inl rfl) (pe_op op_mod (pe_callTy call_int1 (by rfl) T.int boot_int (pa_cons (pe_dget hu (pv 0) pe_str (fun _ _ => rfl)) pa_nil)) (pv 1)))
    (pss_cons (ps_dput hu (pv 0) pe_str (pe_op op_fdivW (pe_dget hu (pv 0) pe_str (fun _ _ => rfl)) (pv 1)) rfl)
    (pss_one (ps_ret (pv 3)))))
      pss_nil)
    (pss_cons (ps_dput hu (pv 0) pe_str (pe_op op_mod (pe_callTy call_int1 (by rfl) T.int boot_int (pa_cons (pe_op op_add (pe_op op_mul (pe_dget hu (pv 0) pe_str (fun _ _ => rfl)) pe_int) pe_int) pa_nil)) pe_int) rfl)
    (pss_one (ps_ret (pe_op op_mod (pe_callTy call_int1 (by rfl) T.int boot_int (pa_cons (pe_op op_mod (pe_callTy call_int1 (by rfl) T.int boot_int (pa_cons (pe_op op_add (pe_op op_mul (pe_dget hu (pv 0) pe_str (fun _ _ => rfl)) pe_int) pe_int) pa_nil)) pe_int) pa_nil)) (pv 1))))))), ?_⟩
    refine cut (fun σ' H' => ∃ v2 v3, σ' = [some (.ref d), some (.int b), v2, v3] ∧ St1 K H' d c ∧ Keep d H H') ?_ (fun rest => ?_)
    · -- the rest: from a number that is left, or from the mix
      rintro σ' H' ⟨v2, v3, rfl, ⟨ns, i, l, m, S⟩, kp⟩
      refine ⟨_, rfl, _, _, rfl, dg_left S.dc, _, _, rfl, rfl, _, rfl, ite2 (fun e => ?_) (fun e => ?_)⟩
      · refine ⟨_, rfl, _, _, rfl, dg_left S.dc, .inl ⟨_, rfl, _, rfl, _, _, rfl, rfl, b0, ?_⟩⟩
        refine ⟨_, rfl, _, _, rfl, dg_left S.dc, _, rfl, _, _, rfl, rfl, log_of b0 b1, _, rfl, _, _, rfl, dp_left S.dc, ?_⟩
        refine ⟨_, rfl, ?_⟩
        exact k _ _ (hm l).1 (hm l).2 ⟨_, _, _, _, S.put S.i0 (Int.ediv_nonneg S.l0 (by omega)) S.m0 S.m1⟩ (kp.trans (Keep.upd _ _ _))
      · refine ⟨_, rfl, _, _, rfl, dg_mix S.dc, _, _, rfl, rfl, .inr ⟨by decide, by decide⟩, _, _, rfl, rfl, .inl ⟨_, rfl, _, _, rfl, rfl, (by show (0:Int) < 2147483647; decide), _, rfl, _, _, rfl, dp_mix S.dc, ?_⟩⟩
        have S2 := S.put (i' := i) (l' := l) S.i0 S.l0 (hmx (m * 48271 + 11)).1 (hmx (m * 48271 + 11)).2
        refine ⟨_, rfl, _, _, rfl, dg_mix S2.dc, _, _, rfl, rfl, .inr ⟨by decide, by decide⟩, _, _, rfl, rfl, .inl ⟨_, rfl, _, _, rfl, rfl, (by show (0:Int) < 2147483629; decide), .inl ⟨_, rfl, _, rfl, _, _, rfl, rfl, b0, ?_⟩⟩⟩
        exact k _ _ (hm _).1 (hm _).2 ⟨_, _, _, _, S2⟩ (kp.trans (Keep.upd _ _ _))
    · -- the first if
      obtain ⟨ns, i, l, m, S⟩ := id S1
      refine ⟨_, rfl, _, _, rfl, dg_left S.dc, rfl, _, rfl, ite2 (fun e => ?_) (fun e => ?_)⟩
      · refine ⟨_, rfl, _, _, rfl, dg_at S.dc, _, rfl, _, _, rfl, dg_cells S.dc, _, _, rfl, .inl (.inl (.inl S.cs)), _, _, rfl, rfl, _, rfl, ite2 (fun e => ?_) (fun e => ?_)⟩
        · have hi : i < (ns.length : Int) := by
            have := of_decide_eq_true e
            rw [List.length_map] at this
            exact this
          obtain ⟨j, rfl⟩ : ∃ j : Nat, i = (j : Int) := ⟨i.toNat, by have := S.i0; omega⟩
          have hj : j < ns.length := by omega
          refine ⟨_, rfl, _, _, rfl, dg_cells S.dc, _, rfl, _, _, rfl, dg_at S.dc, _, _, _, _, rfl, rfl, .inl (.inl S.cs), atI_nat (j := j) (v := .int ns[j]) (by simp [hj]), ?_⟩
          have S2 := S.put (i' := (j : Int) + 1) (l' := l) (m' := m) (by omega) S.l0 S.m0 S.m1
          refine ⟨_, rfl, _, _, rfl, dg_at S.dc, _, _, rfl, rfl, _, rfl, _, _, rfl, dp_at S.dc, ?_⟩
          refine ⟨_, rfl, _, _, rfl, dg_mix S2.dc, _, _, rfl, rfl, .inr ⟨by decide, by decide⟩, _, rfl, _, _, rfl, rfl, _, _, rfl, rfl, .inl ⟨_, rfl, _, _, rfl, rfl, (by show (0:Int) < 2147483647; decide), _, rfl, _, _, rfl, dp_mix S2.dc, ?_⟩⟩
          have S3 := S2.put (i' := (j : Int) + 1) (l' := l) S2.i0 S.l0 (hmx (m * 48271 + ns[j] + 11)).1 (hmx (m * 48271 + ns[j] + 11)).2
          refine ⟨_, rfl, _, _, rfl, rfl, ⟨by decide, by decide, by decide⟩, _, _, rfl, rfl, _, rfl, ite2 (fun e => ?_) (fun e => ?_)⟩
          · refine ⟨_, rfl, .inl ⟨_, rfl, _, rfl, _, _, rfl, rfl, b0, ?_⟩⟩
            exact k _ _ (hm _).1 (hm _).2 ⟨_, _, _, _, S3⟩ ((Keep.upd _ _ _).trans (Keep.upd _ _ _))
          · refine ⟨_, rfl, _, rfl, _, _, rfl, dp_left S3.dc, ?_⟩
            have S4 := S3.put (i' := (j : Int) + 1) (l' := ns[j]) S2.i0 (S.nn _ (List.getElem_mem hj)) S3.m0 S3.m1
            exact rest _ _ ⟨_, _, rfl, ⟨_, _, _, _, S4⟩, ((Keep.upd _ _ _).trans (Keep.upd _ _ _)).trans (Keep.upd _ _ _)⟩
        · exact rest _ _ ⟨_, _, rfl, S1, Keep.refl _ _⟩
      · refine iteF ?_
        exact rest _ _ ⟨_, _, rfl, S1, Keep.refl _ _⟩
theorem sc_law_pick : FnScope ["state", "things"] ["state", "things"] (defScope s_law_pick) := ⟨rfl, rfl, rfl, by decide +kernel, rfl, by decide +kernel, by decide +kernel⟩
theorem ok_law_pick {f : Addr} {fd : FuncData} (F : Fun K "_law_pick" "_law_pick" s_law_pick f fd) (T : Txt0 mg) (D_law_draw : Def P w K mg base 1 "_law_draw" ["state", "bound"] (spDraw K)) : FnOk P w K mg base CX0 2 f fd ["state", "things"] (spPick K) := by
  refine F.ok sc_law_pick (fun vs H Q E h => ?_) (fun cdv A outer s H vs Q E hr h => ?_)
  · obtain ⟨d, c, l, xs, rfl, _⟩ := h
    rfl
  · obtain ⟨d, c, l, xs, rfl, S, hl, hn, hz, k⟩ := h
    refine ⟨_, (pss_one (ps_ret (pe_ix ix_list (pv 1) (pe_def D_law_draw (hr.mono (by decide)) (by rfl) (pa_cons (pv 0) (pa_cons (pe_callB call_len_seq (by rfl) T.len boot_len (pa_cons (pv 1) pa_nil)) pa_nil))) (fun _ _ => rfl)))), ?_⟩
    have hp : 0 < xs.length := List.length_pos_iff.mpr hn
    refine ⟨_, rfl, _, rfl, _, rfl, _, _, rfl, .inl hl, d, c, _, rfl, S, by omega, by omega, fun n H' n0 n1 S' kp => ?_⟩
    obtain ⟨kvs, hd⟩ := S.dk
    obtain ⟨j, rfl⟩ : ∃ j : Nat, n = (j : Int) := ⟨n.toNat, by omega⟩
    have hj : j < xs.length := by omega
    refine ⟨_, _, _, _, rfl, rfl, kp.seq hd hl, atI_nat (j := j) (v := xs[j]) (by simp [hj]), ?_⟩
    exact k _ _ (List.getElem_mem hj) S' kp
theorem sc_law_is_number : FnScope ["thing"] ["thing"] (defScope s_law_is_number) := ⟨rfl, rfl, rfl, by decide +kernel, rfl, by decide +kernel, by decide +kernel⟩
theorem ok_law_is_number {f : Addr} {fd : FuncData} (F : Fun K "_law_is_number" "_law_is_number" s_law_is_number f fd) (T : Txt0 mg) : FnOk P w K mg base CX0 1 f fd ["thing"] spIsNum := by
  refine F.ok sc_law_is_number (fun vs H Q E h => ?_) (fun cdv A outer s H vs Q E hr h => ?_)
  · obtain ⟨n, rfl, _⟩ := h
    rfl
  · obtain ⟨n, rfl, k⟩ := h
    refine ⟨_, (pss_one (ps_ret (pe_and (pe_callB call_isi (by rfl) T.isinstance boot_isinstance (pa_cons (pv 0) (pa_cons (pe_bltn (v := .ty "int") (by rfl) T.int boot_int rfl) pa_nil))) (pe_one (pe_not (pe_callB call_isi (by rfl) T.isinstance boot_isinstance (pa_cons (pv 0) (pa_cons (pe_bltn (v := .ty "bool") (by rfl) T.bool boot_bool rfl) pa_nil)))))))), ?_⟩
    refine ⟨_, rfl, _, _, _, _, true, rfl, ClsV.ty _, .base (.int n), kit_ty (by decide +kernel), true, rfl, ?_⟩
    refine iteT ?_
    refine ⟨_, rfl, _, _, _, _, false, rfl, ClsV.ty _, .base (.int n), kit_ty (by decide +kernel), false, rfl, ?_⟩
    exact k
end
end Sk

set_option Elab.async false
set_option linter.all false
set_option maxRecDepth 100000
set_option maxHeartbeats 4000000
namespace Sk
open PySem PySem.Spec PyProof.Rows L2
section
variable {P : Program} {w : World} {K : PySem.W.Frag} {mg : Str → Option Value} {base : Heap}
abbrev s_bytes_of : Stmt := top 9
theorem sc_bytes_of : FnScope ["number", "many", "lowest_first", "_"] ["number", "many"] (defScope s_bytes_of) := ⟨rfl, rfl, rfl, by decide +kernel, rfl, by decide +kernel, by decide +kernel⟩
theorem ok_bytes_of {f : Addr} {fd : FuncData} (F : Fun K "_bytes_of" "_bytes_of" s_bytes_of f fd) (T : TxtA mg) : FnOk P w K mg base CX0 1 f fd ["number", "many"] (spBytes) := by
  refine F.ok sc_bytes_of (fun vs H Q E h => ?_) (fun cdv A outer s H vs Q E hr h => ?_)
  · obtain ⟨n, m, rfl, _⟩ := h
    rfl
  · obtain ⟨n, m, rfl, n0, n1, hm, k⟩ := h
    refine ⟨_, (pss_cons (ps_set (i := 2) sc_bytes_of.nd rfl (Or.inl rfl) (pe_lst pa_nil))
    (pss_cons (ps_for PassesOwn.never rfl (pi_range1 (by rfl) T.range (pa_cons (pv 1) pa_nil)) (pg_name (i := 3) sc_bytes_of.nd rfl (Or.inl rfl))
      (pss_cons (ps_expr (pe_bm PySem.F.plainAttrs_list PySem.F.slot_list_append PySem.F.type_list_append mt_append (pv 2) (pa_cons (pe_op op_mod (pv 0) pe_int) pa_nil)))
    (pss_one (ps_aug (i := 0) sc_bytes_of.nd rfl (Or.inl rfl) pe_int iop_fdivW))))
    (pss_one (ps_ret (pe_back (pv 2) (pe_un un_neg pe_int)))))), ?_⟩
    refine ⟨szOk rfl, fun p hp => ?_⟩
    refine nm ?_
    dsimp only
    refine ⟨_, rfl, (m : Int), rfl, by omega, by omega, for_range (n := ((m : Nat) : Int).toNat) (fun i σ H' => ∃ v3, σ = [some (.int (n / 256 ^ i)), some (.int m), some (.ref p), v3] ∧ Same H H' ∧ H' p = some (.lst ((lowb i n).map V.int))) ⟨none, by rw [Int.pow_zero, Int.ediv_one]; rfl, same_new hp, upd_same⟩ ?_ ?_⟩
    · rintro i σ H' hi ⟨v3, rfl, sm, hb⟩
      have hi : i < m := hi
      refine nm ?_
      dsimp only
      refine ⟨_, rfl, (.inl ⟨rfl, _, .inl (.inl hb)⟩), _, rfl, _, _, rfl, rfl, (by show (0 : Int) < 256; decide), _, _, _, rfl, rfl, hb, small1000 (by rw [List.length_map, lowb_len]; omega), ?_⟩
      refine ⟨_, rfl, _, _, rfl, rfl, log_of (by decide) (by decide), ?_⟩
      refine ⟨some (.int (0 + (i : Int))), ?_, sameU hp sm, ?_⟩
      · show [some (V.int (n / 256 ^ i / 256)), _, _, _] = _
        rw [div_pow]
      · rw [upd_same]
        show some (HO.lst ((lowb i n).map V.int ++ [V.int (n / 256 ^ i % 256)])) = _
        rw [lowb, List.map_append]
        rfl
    · rintro σ H' ⟨v3, rfl, sm, hb⟩
      refine ⟨_, rfl, _, rfl, rfl, _, _, rfl, .inl (.inl hb), fun q hq => ?_⟩
      refine k q _ (sm.free hq) (sm.trans (same_new hq)) ?_
      rw [upd_same, List.map_reverse]
      rfl

abbrev s_frame_of : Stmt := top 6
theorem sc_frame_of : FnScope ["plot", "count", "x", "y", "z", "numbers"] ["plot", "count"] (defScope s_frame_of) := ⟨rfl, rfl, rfl, by decide +kernel, rfl, by decide +kernel, by decide +kernel⟩
theorem ok_frame_of {f : Addr} {fd : FuncData} (F : Fun K "frame_of" "frame_of" s_frame_of f fd) (T : TxtA mg) {tMARK : Tok} (G_MARK : mg "MARK" = some (.int 170 tMARK)) {tHALF : Tok} (G_HALF : mg "HALF" = some (.int 8388608 tHALF)) {tHALF_HEIGHT : Tok} (G_HALF_HEIGHT : mg "HALF_HEIGHT" = some (.int 32768 tHALF_HEIGHT)) {tMODULUS : Tok} (G_MODULUS : mg "MODULUS" = some (.int 251 tMODULUS))
    (D_bytes_of : Def P w K mg base 1 "_bytes_of" ["number", "many"] (spBytes)) : FnOk P w K mg base CX0 2 f fd ["plot", "count"] (spFrame) := by
  refine F.ok sc_frame_of (fun vs H Q E h => ?_) (fun cdv A outer s H vs Q E hr h => ?_)
  · obtain ⟨a, f, rfl, _⟩ := h
    rfl
  · obtain ⟨a, f, rfl, ha, ok, k⟩ := h
    refine ⟨_, (pss_cons (ps_asg (pv 0) (pg_tup (by rfl) (pgs_cons (pg_name (i := 2) sc_frame_of.nd rfl (Or.inl rfl)) (pgs_cons (pg_name (i := 3) sc_frame_of.nd rfl (Or.inl rfl)) (pgs_cons (pg_name (i := 4) sc_frame_of.nd rfl (Or.inl rfl)) pgs_nil)))))
    (pss_cons (ps_set (i := 5) sc_frame_of.nd rfl (Or.inl rfl) (pe_lst (pa_cons (pe_glob (v := .int 170) rfl G_MARK ⟨_, rfl⟩) (StX.pa_star (pe_def D_bytes_of (hr.mono (by decide)) (by rfl) (pa_cons (pe_op op_add (pv 2) (pe_glob (v := .int 8388608) rfl G_HALF ⟨_, rfl⟩)) (pa_cons pe_int pa_nil))) (StX.pa_star (pe_def D_bytes_of (hr.mono (by decide)) (by rfl) (pa_cons (pe_op op_add (pv 3) (pe_glob (v := .int 8388608) rfl G_HALF ⟨_, rfl⟩)) (pa_cons pe_int pa_nil))) (StX.pa_star (pe_def D_bytes_of (hr.mono (by decide)) (by rfl) (pa_cons (pe_op op_add (pv 4) (pe_glob (v := .int 32768) rfl G_HALF_HEIGHT ⟨_, rfl⟩)) (pa_cons pe_int pa_nil))) (pa_cons (pv 1) pa_nil)))))))
    (pss_one (ps_ret (pe_op op_cat (pv 5) (pe_lst (pa_cons (pe_op op_mod (pe_callB (cr_sum rfl) (by rfl) T.sum boot_sum (pa_cons (pv 5) pa_nil)) (pe_glob (v := .int 251) rfl G_MODULUS ⟨_, rfl⟩)) pa_nil))))))), ?_⟩
    obtain ⟨x0, x1, y0, y1, z0, z1, c0, c1⟩ := id ok
    refine ⟨_, rfl, _, _, rfl, .inl (.inl ha), rfl, _, _, rfl, _, _, rfl, _, _, rfl, rfl, ?_⟩
    dsimp only
    refine ⟨_, rfl, _, _, rfl, rfl, f.x + 8388608, 3, rfl, by omega, by omega, by decide, fun p1 H1 hp1 s1 hb1 => ⟨_, _, rfl, .inr (.inl (.inl hb1)), ?_⟩⟩
    refine ⟨_, rfl, _, _, rfl, rfl, f.y + 8388608, 3, rfl, by omega, by omega, by decide, fun p2 H2 hp2 s2 hb2 => ⟨_, _, rfl, .inr (.inl (.inl hb2)), ?_⟩⟩
    refine ⟨_, rfl, _, _, rfl, rfl, f.z + 32768, 2, rfl, by omega, by omega, by decide, fun p3 H3 hp3 s3 hb3 => ⟨_, _, rfl, .inr (.inl (.inl hb3)), ?_⟩⟩
    have eL : (V.int 170 :: ((lowb 3 (f.x + 8388608)).reverse.map V.int ++ ((lowb 3 (f.y + 8388608)).reverse.map V.int ++ ((lowb 2 (f.z + 32768)).reverse.map V.int ++ [V.int f.c])))) = (ten f).map V.int := by
      rw [high3 (by omega) (by omega), high3 (by omega) (by omega), high2 (by omega) (by omega)]
      rfl
    have sm := s1.trans (s2.trans s3)
    refine ⟨_, rfl, Nat.le_of_lt (small1000 (Nat.le_trans (Nat.le_of_eq (congrArg List.length eL)) (by show 10 ≤ 1000; decide))), fun L hL => ?_⟩
    refine nm ?_
    dsimp only
    rw [eL]
    refine ⟨_, rfl, _, rfl, L, ten f, rfl, .inl (.inl upd_same), _, _, rfl, rfl, (by show (0 : Int) < 251; decide), szOk rfl, fun M hM => ?_⟩
    refine ⟨_, _, _, _, rfl, rfl, same_new hM _ _ upd_same, upd_same, Nat.le_of_lt (small1000 (by show 10 + 1 ≤ 1000; decide)), fun p hp => ?_⟩
    have s4 := sm.trans (same_new (o := .lst ((ten f).map V.int)) hL)
    have s5 := s4.trans (same_new (o := .lst [V.int ((ten f).sum % 251)]) hM)
    refine k p _ (s5.free hp) (s5.trans (same_new hp)) ?_
    rw [upd_same]
    rfl

abbrev s_number_of : Stmt := top 12
theorem sc_number_of : FnScope ["numbers", "total", "number"] ["numbers"] (defScope s_number_of) := ⟨rfl, rfl, rfl, by decide +kernel, rfl, by decide +kernel, by decide +kernel⟩
theorem ok_number_of {f : Addr} {fd : FuncData} (F : Fun K "_number_of" "_number_of" s_number_of f fd) (T : TxtA mg) : FnOk P w K mg base CX0 1 f fd ["numbers"] (spNum K) := by
  refine F.ok sc_number_of (fun vs H Q E h => ?_) (fun cdv A outer s H vs Q E hr h => ?_)
  · obtain ⟨a, ns, rfl, _⟩ := h
    rfl
  · obtain ⟨a, ns, rfl, ha, hb, hl, k⟩ := h
    refine ⟨_, (pss_cons (ps_set (i := 1) sc_number_of.nd rfl (Or.inl rfl) pe_int)
    (pss_cons (ps_for PassesOwn.never rfl (pi_list (pv 0)) (pg_name (i := 2) sc_number_of.nd rfl (Or.inl rfl))
      (pss_one (ps_set (i := 1) sc_number_of.nd rfl (Or.inl rfl) (pe_op op_add (pe_op op_mulW (pv 1) pe_int) (pv 2)))))
    (pss_one (ps_ret (pv 1))))), ?_⟩
    refine nm ?_
    dsimp only
    refine ⟨_, rfl, a, rfl, ⟨_, ha⟩, for_list (K := K) (a := a) (xs := ns.map V.int) (fun i σ H' => ∃ v2, σ = [some (.ref a), some (.int (num (ns.take i))), v2] ∧ H' = H) ⟨none, rfl, rfl⟩ (fun i σ H' _ ⟨_, _, e⟩ => e ▸ ha) ?_ ?_⟩
    · rintro i x σ H' hx ⟨v2, rfl, rfl⟩
      obtain ⟨z, rfl, hz, hi, et⟩ := getInt hx
      refine nm ?_
      dsimp only
      have bd := num_bd (ns := ns.take i) (fun n hn => hb n (List.mem_of_mem_take hn)) (by rw [List.length_take]; omega)
      refine ⟨_, rfl, _, _, rfl, rfl, wm (Nat.lt_of_lt_of_le (show (num (ns.take i)).natAbs < 16777216 by omega) (by decide)) (by decide), _, rfl, _, _, rfl, rfl, ?_⟩
      refine ⟨some (.int z), ?_, rfl⟩
      rw [et, num_snoc]
      rfl
    · rintro σ H' ⟨v2, rfl, rfl⟩
      refine ⟨_, rfl, ?_⟩
      rw [List.length_map, List.take_length]
      exact k

abbrev s_is_frame : Stmt := top 10
theorem sc_is_frame : FnScope ["numbers", "at", "last"] ["numbers", "at"] (defScope s_is_frame) := ⟨rfl, rfl, rfl, by decide +kernel, rfl, by decide +kernel, by decide +kernel⟩
theorem ok_is_frame {f : Addr} {fd : FuncData} (F : Fun K "_is_frame" "_is_frame" s_is_frame f fd) (T : TxtA mg) {tSIZE : Tok} (G_SIZE : mg "SIZE" = some (.int 11 tSIZE)) {tMARK : Tok} (G_MARK : mg "MARK" = some (.int 170 tMARK)) {tMODULUS : Tok} (G_MODULUS : mg "MODULUS" = some (.int 251 tMODULUS)) : FnOk P w K mg base CX0 1 f fd ["numbers", "at"] (spIsFr) := by
  refine F.ok sc_is_frame (fun vs H Q E h => ?_) (fun cdv A outer s H vs Q E hr h => ?_)
  · obtain ⟨a, ns, i, rfl, _⟩ := h
    rfl
  · obtain ⟨a, ns, i, rfl, ha, hi, k⟩ := h
    refine ⟨_, (pss_cons (ps_set (i := 2) sc_is_frame.nd rfl (Or.inl rfl) (pe_op op_sub (pe_op op_add (pv 1) (pe_glob (v := .int 11) rfl G_SIZE ⟨_, rfl⟩)) pe_int))
    (pss_one (ps_ret (pe_and (pe_cmpR op_eq (pe_ix (r := rIxL K) ix_list (pv 0) (pv 1) (fun _ _ => rfl)) (pe_glob (v := .int 170) rfl G_MARK ⟨_, rfl⟩) (nomark _)) (pe_one (pe_cmpR op_eq (pe_ix (r := rIxL K) ix_list (pv 0) (pv 2) (fun _ _ => rfl)) (pe_op op_mod (pe_callB (cr_sum rfl) (by rfl) T.sum boot_sum (pa_cons (pe_slice sl_list (pv 0) (po_some (pv 1)) (po_some (pv 2))) pa_nil)) (pe_glob (v := .int 251) rfl G_MODULUS ⟨_, rfl⟩)) (nomark _))))))), ?_⟩
    refine ⟨_, rfl, _, _, rfl, rfl, _, _, rfl, rfl, ?_⟩
    refine nm ?_
    dsimp only
    refine ⟨_, rfl, _, rfl, _, _, _, _, rfl, rfl, .inl (.inl ha), at_drop (i := i) (k := 0) rfl (by omega), rfl, _, rfl, ?_⟩
    rw [dec_v]
    refine ite2 (fun e => ?_) (fun e => ?_)
    · have e := of_decide_eq_true e
      have e11 : (i : Int) + 11 - 1 = ((i + 10 : Nat) : Int) := by omega
      refine ⟨_, rfl, _, rfl, _, _, _, _, rfl, rfl, .inl (.inl ha), at_drop (i := i) (k := 10) e11 (by omega), _, rfl, _, rfl, _, rfl, _, rfl, _, rfl, _, _, rfl, .inl (.inl ha), fun q hq => ?_⟩
      have hc := cut_in (ns := ns) (i := i) (a := 0) (b := 10) (lo := (i : Int)) rfl e11 (by omega) (by omega)
      refine ⟨q, (ns.drop i).take 10, rfl, .inl (.inl (by rw [upd_same, hc]; rfl)), ?_⟩
      refine ⟨_, _, rfl, rfl, (by show (0 : Int) < 251; decide), rfl, ?_⟩
      rw [dec_v]
      have := k _ (same_new (o := .lst (cutV (ns.map V.int) (some (i : Int)) (some ((i : Int) + 11 - 1)))) hq)
      rw [isFr_if e] at this
      exact this
    · have e : ¬ (ns.drop i).getD 0 0 = 170 := fun z => e (decide_eq_true z)
      have := k _ (Same.refl _)
      rw [isFr_no e] at this
      exact this

abbrev s_content_of : Stmt := top 11
theorem sc_content_of : FnScope ["numbers", "at", "x", "y", "z"] ["numbers", "at"] (defScope s_content_of) := ⟨rfl, rfl, rfl, by decide +kernel, rfl, by decide +kernel, by decide +kernel⟩
theorem ok_content_of {f : Addr} {fd : FuncData} (F : Fun K "_content_of" "_content_of" s_content_of f fd) (T : TxtA mg) {tHALF : Tok} (G_HALF : mg "HALF" = some (.int 8388608 tHALF)) {tHALF_HEIGHT : Tok} (G_HALF_HEIGHT : mg "HALF_HEIGHT" = some (.int 32768 tHALF_HEIGHT))
    (D_number_of : Def P w K mg base 1 "_number_of" ["numbers"] (spNum K)) : FnOk P w K mg base CX0 2 f fd ["numbers", "at"] (spCont) := by
  refine F.ok sc_content_of (fun vs H Q E h => ?_) (fun cdv A outer s H vs Q E hr h => ?_)
  · obtain ⟨a, ns, i, rfl, _⟩ := h
    rfl
  · obtain ⟨a, ns, i, rfl, ha, hi, hb, k⟩ := h
    refine ⟨_, (pss_cons (ps_set (i := 2) sc_content_of.nd rfl (Or.inl rfl) (pe_op op_sub (pe_def D_number_of (hr.mono (by decide)) (by rfl) (pa_cons (pe_slice sl_list (pv 0) (po_some (pe_op op_add (pv 1) pe_int)) (po_some (pe_op op_add (pv 1) pe_int))) pa_nil)) (pe_glob (v := .int 8388608) rfl G_HALF ⟨_, rfl⟩)))
    (pss_cons (ps_set (i := 3) sc_content_of.nd rfl (Or.inl rfl) (pe_op op_sub (pe_def D_number_of (hr.mono (by decide)) (by rfl) (pa_cons (pe_slice sl_list (pv 0) (po_some (pe_op op_add (pv 1) pe_int)) (po_some (pe_op op_add (pv 1) pe_int))) pa_nil)) (pe_glob (v := .int 8388608) rfl G_HALF ⟨_, rfl⟩)))
    (pss_cons (ps_set (i := 4) sc_content_of.nd rfl (Or.inl rfl) (pe_op op_sub (pe_def D_number_of (hr.mono (by decide)) (by rfl) (pa_cons (pe_slice sl_list (pv 0) (po_some (pe_op op_add (pv 1) pe_int)) (po_some (pe_op op_add (pv 1) pe_int))) pa_nil)) (pe_glob (v := .int 32768) rfl G_HALF_HEIGHT ⟨_, rfl⟩)))
    (pss_one (ps_ret (pe_tup (pa_cons (pe_tup (pa_cons (pv 2) (pa_cons (pv 3) (pa_cons (pv 4) pa_nil)))) (pa_cons (pe_ix (r := rIxL K) ix_list (pv 0) (pe_op op_add (pv 1) pe_int) (fun _ _ => rfl)) pa_nil)))))))), ?_⟩
    refine ⟨_, rfl, _, rfl, _, _, rfl, rfl, _, rfl, _, rfl, _, _, rfl, rfl, _, rfl, _, _, rfl, .inl (.inl ha), fun qx hqx => ?_⟩
    have hcx := cut_in (ns := ns) (i := i) (a := 1) (b := 4) (lo := (i : Int) + 1) (hi := (i : Int) + 4) rfl rfl (by omega) (by omega)
    refine ⟨qx, ((ns.drop i).drop 1).take 3, rfl, .inl (.inl (by rw [upd_same, hcx])), mem_cut hb, by rw [List.length_take]; omega, ?_⟩
    refine ⟨_, _, rfl, rfl, ?_⟩
    refine nm ?_
    dsimp only
    have sx := same_new (o := .lst (cutV (ns.map V.int) (some ((i : Int) + 1)) (some ((i : Int) + 4)))) hqx
    have hax := sx _ _ ha
    refine ⟨_, rfl, _, rfl, _, _, rfl, rfl, _, rfl, _, rfl, _, _, rfl, rfl, _, rfl, _, _, rfl, .inl (.inl hax), fun qy hqy => ?_⟩
    have hcy := cut_in (ns := ns) (i := i) (a := 4) (b := 7) (lo := (i : Int) + 4) (hi := (i : Int) + 7) rfl rfl (by omega) (by omega)
    refine ⟨qy, ((ns.drop i).drop 4).take 3, rfl, .inl (.inl (by rw [upd_same, hcy])), mem_cut hb, by rw [List.length_take]; omega, ?_⟩
    refine ⟨_, _, rfl, rfl, ?_⟩
    refine nm ?_
    dsimp only
    have sy := sx.trans (same_new (o := .lst (cutV (ns.map V.int) (some ((i : Int) + 4)) (some ((i : Int) + 7)))) hqy)
    have hay := sy _ _ ha
    refine ⟨_, rfl, _, rfl, _, _, rfl, rfl, _, rfl, _, rfl, _, _, rfl, rfl, _, rfl, _, _, rfl, .inl (.inl hay), fun qz hqz => ?_⟩
    have hcz := cut_in (ns := ns) (i := i) (a := 7) (b := 9) (lo := (i : Int) + 7) (hi := (i : Int) + 9) rfl rfl (by omega) (by omega)
    refine ⟨qz, ((ns.drop i).drop 7).take 2, rfl, .inl (.inl (by rw [upd_same, hcz])), mem_cut hb, by rw [List.length_take]; omega, ?_⟩
    refine ⟨_, _, rfl, rfl, ?_⟩
    refine nm ?_
    dsimp only
    have sz := sy.trans (same_new (o := .lst (cutV (ns.map V.int) (some ((i : Int) + 7)) (some ((i : Int) + 9)))) hqz)
    have haz := sz _ _ ha
    refine ⟨_, rfl, _, rfl, _, rfl, szOk rfl, fun q hq => ?_⟩
    have s4 := sz.trans (same_new (o := .tup (frT (cont (ns.drop i)))) hq)
    refine ⟨_, rfl, _, rfl, _, _, rfl, rfl, _, _, _, _, rfl, rfl, .inl (.inl (s4 _ _ ha)), at_drop (i := i) (k := 9) rfl (by omega), szOk rfl, fun p hp => ?_⟩
    exact k p q _ (s4.free hp) (s4.trans (same_new hp)) upd_same (same_new hp _ _ upd_same)

abbrev s_frames_and_rest : Stmt := top 8
theorem sc_frames_and_rest : FnScope ["numbers", "frames", "at"] ["numbers"] (defScope s_frames_and_rest) := ⟨rfl, rfl, rfl, by decide +kernel, rfl, by decide +kernel, by decide +kernel⟩
theorem ok_frames_and_rest {f : Addr} {fd : FuncData} (F : Fun K "frames_and_rest" "frames_and_rest" s_frames_and_rest f fd) (T : TxtA mg) {tSIZE : Tok} (G_SIZE : mg "SIZE" = some (.int 11 tSIZE))
    (D_is_frame : Def P w K mg base 1 "_is_frame" ["numbers", "at"] (spIsFr))
    (D_content_of : Def P w K mg base 2 "_content_of" ["numbers", "at"] (spCont)) : FnOk P w K mg base CX0 3 f fd ["numbers"] (spFrames) := by
  refine F.ok sc_frames_and_rest (fun vs H Q E h => ?_) (fun cdv A outer s H vs Q E hr h => ?_)
  · obtain ⟨a, ns, rfl, _⟩ := h
    rfl
  · obtain ⟨a, ns, rfl, ha, hl, hb, k⟩ := h
    refine ⟨_, (pss_cons (ps_set (i := 1) sc_frames_and_rest.nd rfl (Or.inl rfl) (pe_lst pa_nil))
    (pss_cons (ps_set (i := 2) sc_frames_and_rest.nd rfl (Or.inl rfl) pe_int)
    (pss_cons (ps_while PassesOwn.never (pt_cmpR op_le (pe_op op_add (pv 2) (pe_glob (v := .int 11) rfl G_SIZE ⟨_, rfl⟩)) (pe_callB (r := rLenK K) call_len_seq (by rfl) T.len boot_len (pa_cons (pv 0) pa_nil)) (nomark _))
      (pss_one (ps_if (pt_val (pe_def D_is_frame (hr.mono (by decide)) (by rfl) (pa_cons (pv 0) (pa_cons (pv 2) pa_nil)))) (pss_cons (ps_expr (pe_bm PySem.F.plainAttrs_list PySem.F.slot_list_append PySem.F.type_list_append mt_append (pv 1) (pa_cons (pe_def D_content_of (hr.mono (by decide)) (by rfl) (pa_cons (pv 0) (pa_cons (pv 2) pa_nil))) pa_nil)))
    (pss_one (ps_aug (i := 2) sc_frames_and_rest.nd rfl (Or.inl rfl) (pe_glob (v := .int 11) rfl G_SIZE ⟨_, rfl⟩) ip_add)))
      (pss_one (ps_aug (i := 2) sc_frames_and_rest.nd rfl (Or.inl rfl) pe_int ip_add)))))
    (pss_one (ps_ret (pe_tup (pa_cons (pv 1) (pa_cons (pe_slice sl_list (pv 0) (po_some (pv 2)) po_none) pa_nil)))))))), ?_⟩
    refine ⟨szOk rfl, fun L hL => ?_⟩
    refine nm ?_
    dsimp only
    refine nm ?_
    dsimp only
    refine while_by (fun σ H' => ∃ (i : Nat) (xs : List V) (fs : List Fr), σ = [some (.ref a), some (.ref L), some (.int i)] ∧ i ≤ ns.length ∧ xs.length ≤ i ∧ H' L = some (.lst xs) ∧ Frs H' xs fs ∧ fs ++ rd (ns.drop i) = rd ns ∧ Same H H')
      (fun σ _ => match σ with | _ :: _ :: some (.int z) :: _ => ns.length - z.toNat | _ => 0) ⟨0, [], [], rfl, Nat.zero_le _, Nat.le_refl _, upd_same, .nil, rfl, same_new hL⟩ ?_ (fun σ H Q Q' h => ?_)
    · rintro σ H' ⟨i, xs, fs, rfl, hi, hx, hll, hF, he, sm⟩
      have ha' := sm _ _ ha
      refine ⟨_, rfl, _, _, rfl, rfl, _, rfl, _, _, rfl, (.inl (.inl (.inl ha'))), _, _, rfl, rfl, _, rfl, ite2 (fun e => ?_) (fun e => ?_)⟩
      · have h11 : i + 11 ≤ ns.length := by
          have := of_decide_eq_true e
          rw [List.length_map] at this
          omega
        have hd : 11 ≤ (ns.drop i).length := by rw [List.length_drop]; omega
        refine ⟨_, rfl, _, rfl, a, ns, i, rfl, ha', h11, fun H1 s1 => ?_⟩
        have hl1 := s1 _ _ hll
        have hF1 := hF.move (tupS s1)
        have sm1 := sm.trans s1
        cases ef : isFr (ns.drop i) with
        | true =>
          refine ⟨_, rfl, iteT ?_⟩
          refine ⟨_, rfl, (.inl ⟨rfl, _, .inl (.inl hl1)⟩), _, rfl, _, rfl, a, ns, i, rfl, sm1 _ _ ha, h11, hb, fun p q H2 hp s2 hpt hqt => ?_⟩
          have hl2 := s2 _ _ hl1
          refine ⟨_, _, _, rfl, rfl, hl2, small1000 (by omega), ?_⟩
          refine ⟨_, rfl, _, _, rfl, rfl, ?_⟩
          refine ⟨⟨i + 11, xs ++ [.ref p], fs ++ [cont (ns.drop i)], rfl, h11, by rw [List.length_append]; show xs.length + 1 ≤ i + 11; omega, upd_same, ((hF1.move (tupS s2)).snoc hpt hqt).move (keepT hl2), ?_, sameU hL (sm1.trans s2)⟩, ?_⟩
          · rw [← he, rd_yes hd ef, List.drop_drop, List.append_assoc]
            rfl
          · show ns.length - ((i : Int) + 11).toNat < ns.length - (i : Int).toNat
            omega
        | false =>
          refine ⟨_, rfl, iteF ?_⟩
          refine ⟨_, rfl, _, _, rfl, rfl, ?_⟩
          refine ⟨⟨i + 1, xs, fs, rfl, by omega, by omega, hl1, hF1, ?_, sm1⟩, ?_⟩
          · rw [← he, rd_no hd ef, List.drop_drop]
          · show ns.length - ((i : Int) + 1).toNat < ns.length - (i : Int).toNat
            omega
      · have h11 : ns.length < i + 11 := by
          have : ¬ (i : Int) + 11 ≤ (ns.map V.int).length := fun z => e (decide_eq_true z)
          rw [List.length_map] at this
          omega
        rw [rd_short (by rw [List.length_drop]; omega), List.append_nil] at he
        subst he
        refine ⟨_, rfl, _, rfl, _, rfl, _, rfl, _, _, rfl, .inl (.inl ha'), fun r hr => ?_⟩
        refine ⟨szOk rfl, fun p hp => ?_⟩
        have s2 := sm.trans (same_new (o := .lst (cutV (ns.map V.int) (some (i : Int)) none)) hr)
        exact k p L r xs _ (s2.free hp) hL (s2.trans (same_new hp)) upd_same (same_new hp _ _ (same_new hr _ _ hll)) ((hF.move (tupS (same_new hr))).move (tupS (same_new hp)))
    · rintro ⟨x, e0, i, j, e1, e2, y, e3, p, ys, e4, e5, i2, j2, e6, e7, kb, e8, q⟩
      exact ⟨x, e0, i, j, e1, e2, y, e3, p, ys, e4, e5, i2, j2, e6, e7, kb, e8, h _ _ q⟩

abbrev s_read_stream : Stmt := top 7
theorem sc_read_stream : FnScope ["numbers", "frames", "_"] ["numbers"] (defScope s_read_stream) := ⟨rfl, rfl, rfl, by decide +kernel, rfl, by decide +kernel, by decide +kernel⟩
theorem ok_read_stream {f : Addr} {fd : FuncData} (F : Fun K "read_stream" "read_stream" s_read_stream f fd) (T : TxtA mg)
    (D_frames_and_rest : Def P w K mg base 3 "frames_and_rest" ["numbers"] (spFrames)) : FnOk P w K mg base CX0 4 f fd ["numbers"] (spRead) := by
  refine F.ok sc_read_stream (fun vs H Q E h => ?_) (fun cdv A outer s H vs Q E hr h => ?_)
  · obtain ⟨a, ns, rfl, _⟩ := h
    rfl
  · obtain ⟨a, ns, rfl, ha, hl, hb, k⟩ := h
    refine ⟨_, (pss_cons (ps_asg (pe_def D_frames_and_rest (hr.mono (by decide)) (by rfl) (pa_cons (pv 0) pa_nil)) (pg_tup (by rfl) (pgs_cons (pg_name (i := 1) sc_read_stream.nd rfl (Or.inl rfl)) (pgs_cons (pg_name (i := 2) sc_read_stream.nd rfl (Or.inl rfl)) pgs_nil))))
    (pss_one (ps_ret (pv 1)))), ?_⟩
    refine ⟨_, rfl, a, ns, rfl, ha, hl, hb, fun p l r xs H1 hp hll sm hpt hlx hF => ?_⟩
    refine ⟨_, _, rfl, .inl (.inl hpt), rfl, _, _, rfl, _, _, rfl, rfl, ?_⟩
    dsimp only
    refine ⟨_, rfl, ?_⟩
    exact k l xs _ hll sm hlx hF

end
end Sk

set_option Elab.async false
set_option linter.all false
set_option maxRecDepth 100000
set_option maxHeartbeats 4000000
namespace Sk
open PySem PySem.Spec PyProof.Rows L2
section
variable {P : Program} {w : World} {K : PySem.W.Frag} {mg : Str → Option Value} {base : Heap}
abbrev s_law_ranged : Stmt := top 19
theorem sc_law_ranged : FnScope ["state", "low", "high"] ["state", "low", "high"] (defScope s_law_ranged) := ⟨rfl, rfl, rfl, by decide +kernel, rfl, by decide +kernel, by decide +kernel⟩
theorem ok_law_ranged {f : Addr} {fd : FuncData} (F : Fun K "_law_ranged" "_law_ranged" s_law_ranged f fd) (T : TxtA mg)
    (D_law_draw : Def P w K mg base 1 "_law_draw" ["state", "bound"] (spDraw K))
    (D_law_pick : Def P w K mg base 2 "_law_pick" ["state", "things"] (spPick K)) : FnOk P w K mg base CX0 3 f fd ["state", "low", "high"] (spRanged K) := by
  refine F.ok sc_law_ranged (fun vs H Q E h => ?_) (fun cdv A outer s H vs Q E hr h => ?_)
  · obtain ⟨d, c, lo, hi, rfl, _⟩ := h
    rfl
  · obtain ⟨d, c, lo, hi, rfl, S, l0, h0, l1, h1, k⟩ := h
    refine ⟨_, (pss_one (ps_ret (pe_def D_law_pick (hr.mono (by decide)) (by rfl) (pa_cons (pv 0) (pa_cons (pe_lst (pa_cons (pv 1) (pa_cons (pv 2) (pa_cons pe_int (pa_cons (pe_un un_neg pe_int) (pa_cons pe_int (pa_cons (pe_op op_add (pv 1) (pe_def D_law_draw (hr.mono (by decide)) (by rfl) (pa_cons (pv 0) (pa_cons (pe_op op_add (pe_op op_sub (pv 2) (pv 1)) pe_int) pa_nil)))) (pa_cons (pe_op op_add (pv 1) (pe_def D_law_draw (hr.mono (by decide)) (by rfl) (pa_cons (pv 0) (pa_cons (pe_op op_add (pe_op op_sub (pv 2) (pv 1)) pe_int) pa_nil)))) pa_nil)))))))) pa_nil))))), ?_⟩
    refine ⟨_, rfl, _, rfl, _, rfl, _, rfl, _, rfl, _, rfl, _, rfl, _, rfl, _, _, rfl, rfl, _, _, rfl, rfl, d, c, hi - lo + 1, rfl, S, by omega, by omega, fun x1 H1 x1a x1b S1 kp1 => ?_⟩
    refine ⟨_, _, rfl, rfl, _, rfl, _, rfl, _, rfl, _, rfl, _, _, rfl, rfl, _, _, rfl, rfl, d, c, hi - lo + 1, rfl, S1, by omega, by omega, fun x2 H2 x2a x2b S2 kp2 => ?_⟩
    refine ⟨_, _, rfl, rfl, szOk rfl, fun p hp => ?_⟩
    refine ⟨d, c, _, _, rfl, S2.new hp, .inl (.inl upd_same), (fun z => nomatch z), (by show 7 ≤ 1000; decide), fun v H3 hv S3 kp3 => ?_⟩
    obtain ⟨z, rfl, z0, z1⟩ : ∃ z : Int, v = .int z ∧ lo ≤ z ∧ z ≤ hi := by
      simp only [List.mem_cons, List.not_mem_nil, or_false] at hv
      rcases hv with rfl | rfl | rfl | rfl | rfl | rfl | rfl <;> exact ⟨_, rfl, by omega, by omega⟩
    exact k z H3 z0 z1 S3 (((kp1.trans kp2).trans (Keep.of (same_new hp))).trans kp3)

abbrev s_law_frame : Stmt := top 20
theorem sc_law_frame : FnScope ["plot", "count", "numbers", "number", "height"] ["plot", "count"] (defScope s_law_frame) := ⟨rfl, rfl, rfl, by decide +kernel, rfl, by decide +kernel, by decide +kernel⟩
theorem ok_law_frame {f : Addr} {fd : FuncData} (F : Fun K "_law_frame" "_law_frame" s_law_frame f fd) (T : TxtA mg) : FnOk P w K mg base CX0 1 f fd ["plot", "count"] (spFrame) := by
  refine F.ok sc_law_frame (fun vs H Q E h => ?_) (fun cdv A outer s H vs Q E hr h => ?_)
  · obtain ⟨a, f, rfl, _⟩ := h
    rfl
  · obtain ⟨a, f, rfl, ha, ok, k⟩ := h
    refine ⟨_, (pss_cons (ps_set (i := 2) sc_law_frame.nd rfl (Or.inl rfl) (pe_lst (pa_cons pe_int pa_nil)))
    (pss_cons (ps_for PassesOwn.never rfl (pi_list (pe_lst (pa_cons (pe_op op_add (pe_ix (r := rIxT K) ix_tup (pv 0) pe_int (fun _ _ => rfl)) pe_int) (pa_cons (pe_op op_add (pe_ix (r := rIxT K) ix_tup (pv 0) pe_int (fun _ _ => rfl)) pe_int) pa_nil)))) (pg_name (i := 3) sc_law_frame.nd rfl (Or.inl rfl))
      (pss_one (ps_expr (pe_bm PySem.F.plainAttrs_list PySem.F.slot_list_extend PySem.F.type_list_extend mt_extend (pv 2) (pa_cons (pe_lst (pa_cons (pe_op op_fdivW (pv 3) pe_int) (pa_cons (pe_op op_mod (pe_callTy call_int1 (by rfl) T.int boot_int (pa_cons (pe_op op_fdivW (pv 3) pe_int) pa_nil)) pe_int) (pa_cons (pe_op op_mod (pe_callTy call_int1 (by rfl) T.int boot_int (pa_cons (pv 3) pa_nil)) pe_int) pa_nil)))) pa_nil)))))
    (pss_cons (ps_set (i := 4) sc_law_frame.nd rfl (Or.inl rfl) (pe_op op_add (pe_ix (r := rIxT K) ix_tup (pv 0) pe_int (fun _ _ => rfl)) pe_int))
    (pss_cons (ps_expr (pe_bm PySem.F.plainAttrs_list PySem.F.slot_list_extend PySem.F.type_list_extend mt_extend (pv 2) (pa_cons (pe_lst (pa_cons (pe_op op_fdivW (pv 4) pe_int) (pa_cons (pe_op op_mod (pe_callTy call_int1 (by rfl) T.int boot_int (pa_cons (pv 4) pa_nil)) pe_int) (pa_cons (pv 1) pa_nil)))) pa_nil)))
    (pss_cons (ps_expr (pe_bm PySem.F.plainAttrs_list PySem.F.slot_list_append PySem.F.type_list_append mt_append (pv 2) (pa_cons (pe_op op_mod (pe_callTy call_int1 (by rfl) T.int boot_int (pa_cons (pe_callB (cr_sum rfl) (by rfl) T.sum boot_sum (pa_cons (pv 2) pa_nil)) pa_nil)) pe_int) pa_nil)))
    (pss_one (ps_ret (pv 2)))))))), ?_⟩
    refine ⟨szOk rfl, fun L hL => ?_⟩
    refine nm ?_
    dsimp only
    have s0 : Same H (upd H L (.lst [V.int 170])) := same_new hL
    have ha0 := s0 _ _ ha
    refine ⟨_, rfl, _, _, _, _, rfl, rfl, .inl (.inl ha0), rfl, _, _, rfl, rfl, _, rfl, _, _, _, _, rfl, rfl, .inl (.inl ha0), rfl, _, _, rfl, rfl, szOk rfl, fun M hM => ?_⟩
    have nLM : L ≠ M := fun z => by rw [← z, upd_same] at hM; cases hM
    refine ⟨M, rfl, ⟨_, .inl (.inl upd_same)⟩, for_list (K := K) (a := M) (xs := [.int (f.x + 8388608), .int (f.y + 8388608)]) (fun i σ H' => ∃ v3, σ = [some (.ref a), some (.int f.c), some (.ref L), v3, none] ∧ Same H H' ∧ H' L = some (.lst ((lead (f.x + 8388608) (f.y + 8388608) i).map V.int)) ∧ H' M = some (.lst [.int (f.x + 8388608), .int (f.y + 8388608)]))
      ⟨none, rfl, s0.trans (same_new hM), same_new hM _ _ upd_same, upd_same⟩ (fun i σ H' _ ⟨_, _, _, _, h⟩ => .inl (.inl h)) ?_ ?_⟩
    · rintro i x σ H' hx ⟨v3, rfl, sm, hl, hm⟩
      obtain ⟨z, rfl, ez, el⟩ := lead_step hx
      refine nm ?_
      dsimp only
      refine ⟨_, rfl, (.inl ⟨rfl, _, .inl (.inl hl)⟩), _, rfl, _, _, rfl, rfl, log_of (by decide) (by decide), _, rfl, _, _, rfl, rfl, log_of (by decide) (by decide), .inl ⟨_, rfl, _, _, rfl, rfl, (by show (0 : Int) < 256; decide), _, rfl, .inl ⟨_, rfl, _, _, rfl, rfl, (by show (0 : Int) < 256; decide), szOk rfl, fun R hR => ?_⟩⟩⟩
      refine ⟨_, _, _, _, rfl, rfl, same_new hR _ _ hl, upd_same, Nat.le_of_lt (small1000 (by rw [List.length_map]; show (lead _ _ i).length + 3 ≤ 1000; omega)), ?_⟩
      refine ⟨some (.int z), rfl, sameU hL (sm.trans (same_new hR)), ?_, ?_⟩
      · rw [upd_same, ez, List.map_append]
        rfl
      · rw [upd_ne nLM.symm]
        exact same_new hR _ _ hm
    rintro σ H' ⟨v3, rfl, sm, hl, hm⟩
    have ha1 := sm _ _ ha
    refine ⟨_, rfl, _, _, _, _, rfl, rfl, .inl (.inl ha1), rfl, _, _, rfl, rfl, ?_⟩
    refine nm ?_
    dsimp only
    refine ⟨_, rfl, (.inl ⟨rfl, _, .inl (.inl hl)⟩), _, rfl, _, _, rfl, rfl, log_of (by decide) (by decide), _, rfl, .inl ⟨_, rfl, _, _, rfl, rfl, (by show (0 : Int) < 256; decide), _, rfl, szOk rfl, fun R hR => ?_⟩⟩
    refine ⟨_, _, _, _, rfl, rfl, same_new hR _ _ hl, upd_same, Nat.le_of_lt (small1000 (by rw [List.length_map]; show 7 + 3 ≤ 1000; decide)), ?_⟩
    have s1 : Same H (upd (upd H' R (.lst [V.int ((f.z + 32768) / 256), V.int ((f.z + 32768) % 256), V.int f.c])) L (.lst ((ten f).map V.int))) := sameU hL (sm.trans (same_new hR))
    refine ⟨_, rfl, (.inl ⟨rfl, _, .inl (.inl upd_same)⟩), _, rfl, L, ten f, rfl, .inl (.inl upd_same), .inl ⟨_, rfl, _, _, rfl, rfl, (by show (0 : Int) < 251; decide), _, _, _, rfl, rfl, upd_same, small1000 (by show 10 ≤ 1000; decide), ?_⟩⟩
    refine ⟨_, rfl, ?_⟩
    refine k L _ hL (sameU hL s1) ?_
    rw [upd_same]
    rfl

abbrev s_law_read : Stmt := top 21
theorem sc_law_read : FnScope ["numbers", "found", "at", "k", "frame", "x", "y"] ["numbers"] (defScope s_law_read) := ⟨rfl, rfl, rfl, by decide +kernel, rfl, by decide +kernel, by decide +kernel⟩
theorem ok_law_read {f : Addr} {fd : FuncData} (F : Fun K "_law_read" "_law_read" s_law_read f fd) (T : TxtA mg) : FnOk P w K mg base CX0 1 f fd ["numbers"] (spRead) := by
  refine F.ok sc_law_read (fun vs H Q E h => ?_) (fun cdv A outer s H vs Q E hr h => ?_)
  · obtain ⟨a, ns, rfl, _⟩ := h
    rfl
  · obtain ⟨a, ns, rfl, ha, hl, hb, k⟩ := h
    refine ⟨_, (pss_cons (ps_set (i := 1) sc_law_read.nd rfl (Or.inl rfl) (pe_lst pa_nil))
    (pss_cons (ps_set (i := 2) sc_law_read.nd rfl (Or.inl rfl) pe_int)
    (pss_cons (ps_for PassesOwn.never rfl (pi_range1 (by rfl) T.range (pa_cons (pe_callB (r := rLenK K) call_len_seq (by rfl) T.len boot_len (pa_cons (pv 0) pa_nil)) pa_nil)) (pg_name (i := 3) sc_law_read.nd rfl (Or.inl rfl))
      (pss_cons (ps_if (pt_cmpR op_gt (pe_op op_add (pv 2) pe_int) (pe_callB (r := rLenK K) call_len_seq (by rfl) T.len boot_len (pa_cons (pv 0) pa_nil)) (nomark _)) (pss_one ps_break)
      pss_nil)
    (pss_cons (ps_set (i := 4) sc_law_read.nd rfl (Or.inl rfl) (pe_slice sl_list (pv 0) (po_some (pv 2)) (po_some (pe_op op_add (pv 2) pe_int))))
    (pss_one (ps_if (PW.pt (pw_and (pt_cmpR op_eq (pe_ix (r := rIxL K) ix_list (pv 4) pe_int (fun _ _ => rfl)) pe_int (nomark _)) (pw_and1 (pt_cmpR op_eq (pe_op op_mod (pe_callTy call_int1 (by rfl) T.int boot_int (pa_cons (pe_callB (cr_sum rfl) (by rfl) T.sum boot_sum (pa_cons (pe_slice sl_list (pv 4) po_none (po_some pe_int)) pa_nil)) pa_nil)) pe_int) (pe_ix (r := rIxL K) ix_list (pv 4) pe_int (fun _ _ => rfl)) (nomark _))))) (pss_cons (ps_set (i := 5) sc_law_read.nd rfl (Or.inl rfl) (pe_op op_sub (pe_op op_add (pe_op op_add (pe_op op_mulW (pe_ix (r := rIxL K) ix_list (pv 4) pe_int (fun _ _ => rfl)) pe_int) (pe_op op_mulW (pe_ix (r := rIxL K) ix_list (pv 4) pe_int (fun _ _ => rfl)) pe_int)) (pe_ix (r := rIxL K) ix_list (pv 4) pe_int (fun _ _ => rfl))) pe_int))
    (pss_cons (ps_set (i := 6) sc_law_read.nd rfl (Or.inl rfl) (pe_op op_sub (pe_op op_add (pe_op op_add (pe_op op_mulW (pe_ix (r := rIxL K) ix_list (pv 4) pe_int (fun _ _ => rfl)) pe_int) (pe_op op_mulW (pe_ix (r := rIxL K) ix_list (pv 4) pe_int (fun _ _ => rfl)) pe_int)) (pe_ix (r := rIxL K) ix_list (pv 4) pe_int (fun _ _ => rfl))) pe_int))
    (pss_cons (ps_expr (pe_bm PySem.F.plainAttrs_list PySem.F.slot_list_append PySem.F.type_list_append mt_append (pv 1) (pa_cons (pe_tup (pa_cons (pe_tup (pa_cons (pv 5) (pa_cons (pv 6) (pa_cons (pe_op op_sub (pe_op op_add (pe_op op_mulW (pe_ix (r := rIxL K) ix_list (pv 4) pe_int (fun _ _ => rfl)) pe_int) (pe_ix (r := rIxL K) ix_list (pv 4) pe_int (fun _ _ => rfl))) pe_int) pa_nil)))) (pa_cons (pe_ix (r := rIxL K) ix_list (pv 4) pe_int (fun _ _ => rfl)) pa_nil))) pa_nil)))
    (pss_one (ps_set (i := 2) sc_law_read.nd rfl (Or.inl rfl) (pe_op op_add (pv 2) pe_int))))))
      (pss_one (ps_set (i := 2) sc_law_read.nd rfl (Or.inl rfl) (pe_op op_add (pv 2) pe_int))))))))
    (pss_one (ps_ret (pv 1)))))), ?_⟩
    refine ⟨szOk rfl, fun L hL => ?_⟩
    refine nm ?_
    dsimp only
    refine nm ?_
    dsimp only
    have s0 : Same H (upd H L (.lst [])) := same_new hL
    refine ⟨_, rfl, _, _, rfl, .inl (.inl (.inl (s0 _ _ ha))), ?_⟩
    refine ⟨_, rfl, by rw [List.length_map]; omega, by rw [List.length_map]; omega, for_range (n := (((ns.map V.int).length : Nat) : Int).toNat) (fun i σ H' => ∃ (t : Nat) (xs : List V) (fs : List Fr) (v3 v4 v5 v6 : Option V), σ = [some (.ref a), some (.ref L), some (.int t), v3, v4, v5, v6] ∧ t ≤ ns.length ∧ i ≤ t ∧ xs.length ≤ t ∧ H' L = some (.lst xs) ∧ Frs H' xs fs ∧ fs ++ rd (ns.drop t) = rd ns ∧ Same H H')
      ⟨0, [], [], none, none, none, none, rfl, Nat.zero_le _, Nat.le_refl _, Nat.le_refl _, upd_same, .nil, rfl, s0⟩ ?_ ?_⟩
    · rintro i σ H' hi ⟨t, xs, fs, v3, v4, v5, v6, rfl, ht, hit, hx, hll, hF, he, sm⟩
      refine nm ?_
      dsimp only
      have ha' := sm _ _ ha
      refine ⟨_, rfl, _, _, rfl, rfl, _, rfl, _, _, rfl, (.inl (.inl (.inl ha'))), _, _, rfl, rfl, _, rfl, ite2 (fun e => ?_) (fun e => ?_)⟩
      · have h11 : ns.length < t + 11 := by
          have := of_decide_eq_true e
          rw [List.length_map] at this
          omega
        rw [rd_short (by rw [List.length_drop]; omega), List.append_nil] at he
        subst he
        refine ⟨_, rfl, ?_⟩
        exact k L xs _ hL sm hll hF
      have h11 : t + 11 ≤ ns.length := by
        have : ¬ ((ns.map V.int).length : Int) < (t : Int) + 11 := fun z => e (decide_eq_true z)
        rw [List.length_map] at this
        omega
      have hd : 11 ≤ (ns.drop t).length := by rw [List.length_drop]; omega
      refine ⟨_, rfl, _, rfl, _, rfl, _, rfl, _, _, rfl, rfl, _, rfl, _, _, rfl, .inl (.inl ha'), fun q hq => ?_⟩
      refine nm ?_
      dsimp only
      have hc := cut_in (ns := ns) (i := t) (a := 0) (b := 11) (lo := (t : Int)) (hi := (t : Int) + 11) rfl rfl (by omega) (by omega)
      have sq := sm.trans (same_new (o := .lst (cutV (ns.map V.int) (some (t : Int)) (some ((t : Int) + 11)))) hq)
      have hqv : (upd H' q (.lst (cutV (ns.map V.int) (some (t : Int)) (some ((t : Int) + 11))))) q = some (.lst (((ns.drop t).take 11).map V.int)) := by rw [upd_same, hc]; rfl
      have hl1 := same_new (o := .lst (cutV (ns.map V.int) (some (t : Int)) (some ((t : Int) + 11)))) hq _ _ hll
      have hF1 := hF.move (tupS (same_new (o := .lst (cutV (ns.map V.int) (some (t : Int)) (some ((t : Int) + 11)))) hq))
      generalize upd H' q (.lst (cutV (ns.map V.int) (some (t : Int)) (some ((t : Int) + 11)))) = H1 at sq hqv hl1 hF1 ⊢
      refine ⟨_, rfl, _, _, _, _, rfl, rfl, .inl (.inl hqv), at_ten (k := 0) rfl (by decide) hd, rfl, _, rfl, ?_⟩
      rw [dec_v]
      refine ite2 (fun e0 => ?_) (fun e0 => ?_)
      rotate_left
      · have e0 : ¬ (ns.drop t).getD 0 0 = 170 := fun z => e0 (decide_eq_true z)
        refine ⟨_, rfl, _, _, rfl, rfl, ?_⟩
        refine ⟨t + 1, xs, fs, _, _, _, _, rfl, by omega, by omega, by omega, hl1, hF1, ?_, sq⟩
        rw [← he, rd_no hd (isFr_no e0), List.drop_drop]
      have e0 := of_decide_eq_true e0
      refine ⟨_, rfl, _, rfl, _, _, rfl, .inl (.inl hqv), fun r hr => ?_⟩
      have h10 : cutV (((ns.drop t).take 11).map V.int) none (some 10) = ((ns.drop t).take 10).map V.int := by
        have hz : ((ns.drop t).take 11).length = 11 := by rw [List.length_take]; omega
        have := map_cut ((ns.drop t).take 11) 0 10 (by omega) (by omega)
        rw [List.drop_zero, List.take_take] at this
        exact this
      have sr := sq.trans (same_new (o := .lst (cutV (((ns.drop t).take 11).map V.int) none (some 10))) hr)
      have hrv : (upd H1 r (.lst (cutV (((ns.drop t).take 11).map V.int) none (some 10)))) r = some (.lst (((ns.drop t).take 10).map V.int)) := by rw [upd_same, h10]
      have hqv := same_new (o := .lst (cutV (((ns.drop t).take 11).map V.int) none (some 10))) hr _ _ hqv
      have hl2 := same_new (o := .lst (cutV (((ns.drop t).take 11).map V.int) none (some 10))) hr _ _ hl1
      have hF2 := hF1.move (tupS (same_new (o := .lst (cutV (((ns.drop t).take 11).map V.int) none (some 10))) hr))
      generalize upd H1 r (.lst (cutV (((ns.drop t).take 11).map V.int) none (some 10))) = H2 at sr hrv hqv hl2 hF2 ⊢
      refine ⟨r, (ns.drop t).take 10, rfl, .inl (.inl hrv), .inl ⟨_, rfl, _, _, rfl, rfl, (by show (0 : Int) < 251; decide), _, rfl, _, _, _, _, rfl, rfl, .inl (.inl hqv), at_ten (k := 10) rfl (by decide) hd, rfl, _, rfl, ?_⟩⟩
      rw [dec_v]
      refine ite2 (fun e1 => ?_) (fun e1 => ?_)
      rotate_left
      · have e1 : isFr (ns.drop t) = false := by
          rw [isFr_if e0]
          exact decide_eq_false fun z => e1 (decide_eq_true z.symm)
        refine ⟨_, rfl, _, _, rfl, rfl, ?_⟩
        refine ⟨t + 1, xs, fs, _, _, _, _, rfl, by omega, by omega, by omega, hl2, hF2, ?_, sr⟩
        rw [← he, rd_no hd e1, List.drop_drop]
      have e1 : isFr (ns.drop t) = true := by
        rw [isFr_if e0]
        exact decide_eq_true (of_decide_eq_true e1).symm
      refine ⟨_, rfl, _, _, _, _, rfl, rfl, .inl (.inl hqv), at_ten (k := 1) rfl (by decide) hd, _, _, rfl, rfl, wb (byteD hb t 1) (by decide), _, rfl, _, _, _, _, rfl, rfl, .inl (.inl hqv), at_ten (k := 2) rfl (by decide) hd, _, _, rfl, rfl, wb (byteD hb t 2) (by decide), _, _, rfl, rfl, _, rfl, _, _, _, _, rfl, rfl, .inl (.inl hqv), at_ten (k := 3) rfl (by decide) hd, _, _, rfl, rfl, _, _, rfl, rfl, ?_⟩
      refine nm ?_
      dsimp only
      refine ⟨_, rfl, _, _, _, _, rfl, rfl, .inl (.inl hqv), at_ten (k := 4) rfl (by decide) hd, _, _, rfl, rfl, wb (byteD hb t 4) (by decide), _, rfl, _, _, _, _, rfl, rfl, .inl (.inl hqv), at_ten (k := 5) rfl (by decide) hd, _, _, rfl, rfl, wb (byteD hb t 5) (by decide), _, _, rfl, rfl, _, rfl, _, _, _, _, rfl, rfl, .inl (.inl hqv), at_ten (k := 6) rfl (by decide) hd, _, _, rfl, rfl, _, _, rfl, rfl, ?_⟩
      refine nm ?_
      dsimp only
      refine ⟨_, rfl, (.inl ⟨rfl, _, .inl (.inl hl2)⟩), _, rfl, _, rfl, _, rfl, _, _, _, _, rfl, rfl, .inl (.inl hqv), at_ten (k := 7) rfl (by decide) hd, _, _, rfl, rfl, wb (byteD hb t 7) (by decide), _, rfl, _, _, _, _, rfl, rfl, .inl (.inl hqv), at_ten (k := 8) rfl (by decide) hd, _, _, rfl, rfl, _, _, rfl, rfl, szOk rfl, fun u hu => ?_⟩
      have hce := cont_eq hd
      have hut : (upd H2 u (.tup [V.int ((ns.drop t).getD 1 0 * 65536 + (ns.drop t).getD 2 0 * 256 + (ns.drop t).getD 3 0 - 8388608), V.int ((ns.drop t).getD 4 0 * 65536 + (ns.drop t).getD 5 0 * 256 + (ns.drop t).getD 6 0 - 8388608), V.int ((ns.drop t).getD 7 0 * 256 + (ns.drop t).getD 8 0 - 32768)])) u = some (.tup (frT (cont (ns.drop t)))) := by rw [upd_same, hce]; rfl
      have su := same_new (o := .tup [V.int ((ns.drop t).getD 1 0 * 65536 + (ns.drop t).getD 2 0 * 256 + (ns.drop t).getD 3 0 - 8388608), V.int ((ns.drop t).getD 4 0 * 65536 + (ns.drop t).getD 5 0 * 256 + (ns.drop t).getD 6 0 - 8388608), V.int ((ns.drop t).getD 7 0 * 256 + (ns.drop t).getD 8 0 - 32768)]) hu
      generalize upd H2 u (.tup [V.int ((ns.drop t).getD 1 0 * 65536 + (ns.drop t).getD 2 0 * 256 + (ns.drop t).getD 3 0 - 8388608), V.int ((ns.drop t).getD 4 0 * 65536 + (ns.drop t).getD 5 0 * 256 + (ns.drop t).getD 6 0 - 8388608), V.int ((ns.drop t).getD 7 0 * 256 + (ns.drop t).getD 8 0 - 32768)]) = H3 at hut su ⊢
      have hqv := su _ _ hqv
      have hl3 := su _ _ hl2
      have hF3 := hF2.move (tupS su)
      refine ⟨_, rfl, _, _, _, _, rfl, rfl, .inl (.inl hqv), at_ten (k := 9) rfl (by decide) hd, szOk rfl, fun p hp => ?_⟩
      have hpt : (upd H3 p (.tup [.ref u, .int ((ns.drop t).getD 9 0)])) p = some (.tup [.ref u, .int (cont (ns.drop t)).c]) := by rw [upd_same, hce]
      have sp := same_new (o := .tup [.ref u, .int ((ns.drop t).getD 9 0)]) hp
      have hl4 := sp _ _ hl3
      refine ⟨_, _, _, rfl, rfl, hl4, small1000 (by omega), ?_⟩
      refine ⟨_, rfl, _, _, rfl, rfl, ?_⟩
      refine ⟨t + 11, xs ++ [.ref p], fs ++ [cont (ns.drop t)], _, _, _, _, rfl, h11, by omega, by rw [List.length_append]; show xs.length + 1 ≤ t + 11; omega, upd_same, ((hF3.move (tupS sp)).snoc hpt (sp _ _ hut)).move (keepT hl4), ?_, sameU hL (sr.trans (su.trans sp))⟩
      rw [← he, rd_yes hd e1, List.drop_drop, List.append_assoc]
      rfl
    · rintro σ H' ⟨t, xs, fs, v3, v4, v5, v6, rfl, ht, hit, hx, hll, hF, he, sm⟩
      have hit : ns.length ≤ t := by
        have : ((((ns.map V.int).length : Nat) : Int)).toNat = ns.length := by rw [List.length_map]; rfl
        omega
      rw [rd_short (by rw [List.length_drop]; omega), List.append_nil] at he
      subst he
      refine ⟨_, rfl, ?_⟩
      exact k L xs _ hL sm hll hF

abbrev s_law_noise : Stmt := top 22
theorem sc_law_noise : FnScope ["state", "numbers", "k", "byte"] ["state"] (defScope s_law_noise) := ⟨rfl, rfl, rfl, by decide +kernel, rfl, by decide +kernel, by decide +kernel⟩
theorem ok_law_noise {f : Addr} {fd : FuncData} (F : Fun K "_law_noise" "_law_noise" s_law_noise f fd) (T : TxtA mg)
    (D_law_draw : Def P w K mg base 1 "_law_draw" ["state", "bound"] (spDraw K)) : FnOk P w K mg base CX0 2 f fd ["state"] (spNoise K) := by
  refine F.ok sc_law_noise (fun vs H Q E h => ?_) (fun cdv A outer s H vs Q E hr h => ?_)
  · obtain ⟨d, c, rfl, _⟩ := h
    rfl
  · obtain ⟨d, c, rfl, S, k⟩ := h
    refine ⟨_, (pss_cons (ps_set (i := 1) sc_law_noise.nd rfl (Or.inl rfl) (pe_lst pa_nil))
    (pss_cons (ps_for PassesOwn.never rfl (pi_range1 (by rfl) T.range (pa_cons (pe_def D_law_draw (hr.mono (by decide)) (by rfl) (pa_cons (pv 0) (pa_cons pe_int pa_nil))) pa_nil)) (pg_name (i := 2) sc_law_noise.nd rfl (Or.inl rfl))
      (pss_cons (ps_set (i := 3) sc_law_noise.nd rfl (Or.inl rfl) (pe_def D_law_draw (hr.mono (by decide)) (by rfl) (pa_cons (pv 0) (pa_cons pe_int pa_nil))))
    (pss_one (ps_expr (pe_bm PySem.F.plainAttrs_list PySem.F.slot_list_append PySem.F.type_list_append mt_append (pv 1) (pa_cons (pe_ifExp (pt_cmpR op_lt (pv 3) pe_int (nomark _)) (pv 3) (pe_op op_add (pv 3) pe_int)) pa_nil))))))
    (pss_one (ps_ret (pv 1))))), ?_⟩
    refine ⟨szOk rfl, fun p hp => ?_⟩
    refine nm ?_
    dsimp only
    have hpd := S.nd hp
    have hpc := S.nc hp
    refine ⟨_, rfl, d, c, 13, rfl, S.new hp, (by decide), (by decide), fun x1 H1 x1a x1b S1 kp1 => ?_⟩
    refine ⟨x1, rfl, by omega, by omega, for_range (n := x1.toNat) (fun i σ H' => ∃ (ms : List Int) (v2 v3 : Option V), σ = [some (.ref d), some (.ref p), v2, v3] ∧ H' p = some (.lst (ms.map V.int)) ∧ ms.length = i ∧ (∀ n ∈ ms, Byte n) ∧ (∀ n ∈ ms, n ≠ 170) ∧ St1 K H' d c ∧ Keep d H H')
      ⟨[], none, none, rfl, kp1.l (S.new hp) upd_same, rfl, (fun _ h => nomatch h), (fun _ h => nomatch h), S1, (Keep.of (same_new hp)).trans kp1⟩ ?_ ?_⟩
    · rintro i σ H' hi ⟨ms, v2, v3, rfl, hm, hl, hb, hn, S', kp⟩
      refine nm ?_
      dsimp only
      refine ⟨_, rfl, d, c, 255, rfl, S', (by decide), (by decide), fun x2 H2 x2a x2b S2 kp2 => ?_⟩
      refine nm ?_
      dsimp only
      have hm2 := kp2.l S' hm
      have fin : ∀ z : Int, Byte z → z ≠ 170 → ∃ (ns : List Int) (w2 w3 : Option V), [some (V.ref d), some (.ref p), some (.int (0 + (i : Int))), some (.int x2)] = [some (V.ref d), some (.ref p), w2, w3] ∧ (upd H2 p (.lst (ms.map V.int ++ [.int z]))) p = some (.lst (ns.map V.int)) ∧ ns.length = i + 1 ∧ (∀ n ∈ ns, Byte n) ∧ (∀ n ∈ ns, n ≠ 170) ∧ St1 K (upd H2 p (.lst (ms.map V.int ++ [.int z]))) d c ∧ Keep d H (upd H2 p (.lst (ms.map V.int ++ [.int z]))) := fun z hz1 hz2 =>
        ⟨ms ++ [z], _, _, rfl, by rw [upd_same, List.map_append]; rfl, by rw [List.length_append, hl]; rfl,
          fun n h => by rcases List.mem_append.mp h with h | h; exact hb n h; rw [List.mem_singleton.mp h]; exact hz1,
          fun n h => by rcases List.mem_append.mp h with h | h; exact hn n h; rw [List.mem_singleton.mp h]; exact hz2, S2.put hpd hpc, keepU hp (kp.trans kp2)⟩
      refine ⟨_, rfl, (.inl ⟨rfl, _, .inl (.inl hm2)⟩), _, rfl, _, _, rfl, rfl, _, rfl, ite2 (fun e => ?_) (fun e => ?_)⟩
      · have e := of_decide_eq_true e
        refine ⟨_, rfl, _, _, _, rfl, rfl, hm2, small1000 (by rw [List.length_map]; omega), ?_⟩
        exact fin x2 ⟨by omega, by omega⟩ (by omega)
      · have e : ¬ x2 < 170 := fun z => e (decide_eq_true z)
        refine ⟨_, rfl, _, _, rfl, rfl, _, _, _, rfl, rfl, hm2, small1000 (by rw [List.length_map]; omega), ?_⟩
        exact fin (x2 + 1) ⟨by omega, by omega⟩ (by omega)
    · rintro σ H' ⟨ms, v2, v3, rfl, hm, hl, hb, hn, S', kp⟩
      refine ⟨_, rfl, ?_⟩
      exact k p ms H' hp hpd hpc hm (by omega) hb hn S' kp

end
end Sk

set_option Elab.async false
set_option linter.all false
set_option maxRecDepth 100000
set_option maxHeartbeats 4000000
namespace Sk
open PySem PySem.Spec PyProof.Rows L2
section
variable {P : Program} {w : World} {K : PySem.W.Frag} {mg : Str → Option Value} {base : Heap}
abbrev s_law : Stmt := top 23
theorem sc_law : FnScope ["script", "state", "stream", "sent", "k", "x", "y", "plot", "count", "frame", "at", "kind", "kept", "found"] ["script"] (defScope s_law) := ⟨rfl, rfl, rfl, by decide +kernel, rfl, by decide +kernel, by decide +kernel⟩
theorem ok_law {f : Addr} {fd : FuncData} (F : Fun K "law" "law" s_law f fd) (T : TxtA mg)
    (D_law_start : Def P w K mg base 1 "_law_start" ["script"] (spStart K))
    (D_law_draw : Def P w K mg base 1 "_law_draw" ["state", "bound"] (spDraw K))
    (D_law_pick : Def P w K mg base 2 "_law_pick" ["state", "things"] (spPick K))
    (D_law_ranged : Def P w K mg base 3 "_law_ranged" ["state", "low", "high"] (spRanged K))
    (D_law_frame : Def P w K mg base 1 "_law_frame" ["plot", "count"] (spFrame))
    (D_law_read : Def P w K mg base 1 "_law_read" ["numbers"] (spRead))
    (D_law_noise : Def P w K mg base 2 "_law_noise" ["state"] (spNoise K))
    (D_frame_of : Def P w K mg base 2 "frame_of" ["plot", "count"] (spFrame))
    (D_read_stream : Def P w K mg base 4 "read_stream" ["numbers"] (spRead)) : FnOk P w K mg base CX0 6 f fd ["script"] (spLaw K) := by
  refine F.ok sc_law (fun vs H Q E h => ?_) (fun cdv A outer s H vs Q E hr h => ?_)
  · obtain ⟨a, ns, rfl, _⟩ := h
    rfl
  · obtain ⟨a, ns, rfl, hS, hl, k⟩ := h
    refine ⟨_, (pss_cons (ps_set (i := 1) sc_law.nd rfl (Or.inl rfl) (pe_def D_law_start (hr.mono (by decide)) (by rfl) (pa_cons (pv 0) pa_nil)))
    (pss_cons (ps_set (i := 2) sc_law.nd rfl (Or.inl rfl) (pe_def D_law_noise (hr.mono (by decide)) (by rfl) (pa_cons (pv 1) pa_nil)))
    (pss_cons (ps_set (i := 3) sc_law.nd rfl (Or.inl rfl) (pe_lst pa_nil))
    (pss_cons (ps_for PassesOwn.never rfl (pi_range1 (by rfl) T.range (pa_cons (pe_def D_law_draw (hr.mono (by decide)) (by rfl) (pa_cons (pv 1) (pa_cons pe_int pa_nil))) pa_nil)) (pg_name (i := 4) sc_law.nd rfl (Or.inl rfl))
      (pss_cons (ps_set (i := 5) sc_law.nd rfl (Or.inl rfl) (pe_def D_law_ranged (hr.mono (by decide)) (by rfl) (pa_cons (pv 1) (pa_cons (pe_un un_neg pe_int) (pa_cons pe_int pa_nil)))))
    (pss_cons (ps_set (i := 6) sc_law.nd rfl (Or.inl rfl) (pe_def D_law_ranged (hr.mono (by decide)) (by rfl) (pa_cons (pv 1) (pa_cons (pe_un un_neg pe_int) (pa_cons pe_int pa_nil)))))
    (pss_cons (ps_set (i := 7) sc_law.nd rfl (Or.inl rfl) (pe_tup (pa_cons (pv 5) (pa_cons (pv 6) (pa_cons (pe_def D_law_ranged (hr.mono (by decide)) (by rfl) (pa_cons (pv 1) (pa_cons (pe_un un_neg pe_int) (pa_cons pe_int pa_nil)))) pa_nil)))))
    (pss_cons (ps_set (i := 8) sc_law.nd rfl (Or.inl rfl) (pe_def D_law_draw (hr.mono (by decide)) (by rfl) (pa_cons (pv 1) (pa_cons pe_int pa_nil))))
    (pss_cons (ps_set (i := 9) sc_law.nd rfl (Or.inl rfl) (pe_def D_frame_of (hr.mono (by decide)) (by rfl) (pa_cons (pv 7) (pa_cons (pv 8) pa_nil))))
    (pss_cons (ps_if (PW.pt (pw_or (pt_not (pt_val (pe_callB call_isi (by rfl) T.isinstance boot_isinstance (pa_cons (pv 9) (pa_cons (pe_bltn (v := .ty "list") (by rfl) T.list boot_list rfl) pa_nil))))) (pw_or1 (pt_cmpR (op_neD hr.units) (pv 9) (pe_def D_law_frame (hr.mono (by decide)) (by rfl) (pa_cons (pv 7) (pa_cons (pv 8) pa_nil))) (nomark _))))) (pss_one (ps_ret pe_bl))
      pss_nil)
    (pss_cons (ps_expr (pe_bm PySem.F.plainAttrs_list PySem.F.slot_list_append PySem.F.type_list_append mt_append (pv 3) (pa_cons (pe_tup (pa_cons (pv 7) (pa_cons (pv 8) pa_nil))) pa_nil)))
    (pss_one (ps_set (i := 2) sc_law.nd rfl (Or.inl rfl) (pe_op op_cat (pe_op op_cat (pv 2) (pv 9)) (pe_def D_law_noise (hr.mono (by decide)) (by rfl) (pa_cons (pv 1) pa_nil)))))))))))))
    (pss_cons (ps_if (pt_cmpR (op_neD hr.units) (pe_def D_read_stream (hr.mono (by decide)) (by rfl) (pa_cons (pv 2) pa_nil)) (pv 3) (nomark _)) (pss_one (ps_ret pe_bl))
      pss_nil)
    (pss_cons (ps_for PassesOwn.never rfl (pi_range1 (by rfl) T.range (pa_cons (pe_def D_law_draw (hr.mono (by decide)) (by rfl) (pa_cons (pv 1) (pa_cons pe_int pa_nil))) pa_nil)) (pg_name (i := 4) sc_law.nd rfl (Or.inl rfl))
      (pss_cons (ps_set (i := 10) sc_law.nd rfl (Or.inl rfl) (pe_def D_law_draw (hr.mono (by decide)) (by rfl) (pa_cons (pv 1) (pa_cons (pe_op op_add (pe_callB (r := rLenK K) call_len_seq (by rfl) T.len boot_len (pa_cons (pv 2) pa_nil)) pe_int) pa_nil))))
    (pss_cons (ps_set (i := 11) sc_law.nd rfl (Or.inl rfl) (pe_def D_law_draw (hr.mono (by decide)) (by rfl) (pa_cons (pv 1) (pa_cons pe_int pa_nil))))
    (pss_one (ps_if (pt_cmpR op_eq (pv 11) pe_int (nomark _)) (pss_one (ps_expr (pe_bm PySem.F.plainAttrs_list PySem.F.slot_list_insert PySem.F.type_list_insert mt_insert (pv 2) (pa_cons (pv 10) (pa_cons (pe_def D_law_pick (hr.mono (by decide)) (by rfl) (pa_cons (pv 1) (pa_cons (pe_lst (pa_cons pe_int (pa_cons pe_int (pa_cons pe_int (pa_cons (pe_def D_law_draw (hr.mono (by decide)) (by rfl) (pa_cons (pv 1) (pa_cons pe_int pa_nil))) pa_nil))))) pa_nil))) pa_nil)))))
      (pss_one (ps_if (PW.pt (pw_and (pt_cmpR op_lt (pv 10) (pe_callB (r := rLenK K) call_len_seq (by rfl) T.len boot_len (pa_cons (pv 2) pa_nil)) (nomark _)) (pw_and1 (pt_cmpR op_eq (pv 11) pe_int (nomark _))))) (pss_one (ps_expr (pe_bm PySem.F.plainAttrs_list PySem.F.slot_list_pop PySem.F.type_list_pop mt_popAt (pv 2) (pa_cons (pv 10) pa_nil))))
      (pss_one (ps_if (pt_cmpR op_lt (pv 10) (pe_callB (r := rLenK K) call_len_seq (by rfl) T.len boot_len (pa_cons (pv 2) pa_nil)) (nomark _)) (pss_one (ps_asg (pe_def D_law_pick (hr.mono (by decide)) (by rfl) (pa_cons (pv 1) (pa_cons (pe_lst (pa_cons pe_int (pa_cons pe_int (pa_cons pe_int (pa_cons (pe_def D_law_draw (hr.mono (by decide)) (by rfl) (pa_cons (pv 1) (pa_cons pe_int pa_nil))) pa_nil))))) pa_nil))) (pg_sub (pv 2) (pv 10) set_list)))
      pss_nil)))))))))
    (pss_cons (ps_set (i := 12) sc_law.nd rfl (Or.inl rfl) (pe_callTy call_list_of (by rfl) T.list boot_list (pa_cons (pv 2) pa_nil)))
    (pss_cons (ps_set (i := 13) sc_law.nd rfl (Or.inl rfl) (pe_def D_read_stream (hr.mono (by decide)) (by rfl) (pa_cons (pv 2) pa_nil)))
    (pss_one (ps_ret (pe_and (pe_callB call_isi (by rfl) T.isinstance boot_isinstance (pa_cons (pv 13) (pa_cons (pe_bltn (v := .ty "list") (by rfl) T.list boot_list rfl) pa_nil))) (pe_and (pe_cmpR (op_eqD hr.units) (pv 13) (pe_def D_law_read (hr.mono (by decide)) (by rfl) (pa_cons (pv 2) pa_nil)) (nomark _)) (pe_one (pe_cmpR (op_eqD hr.units) (pv 2) (pv 12) (nomark _))))))))))))))), ?_⟩
    refine ⟨_, rfl, a, ns, rfl, hS, hl, fun d c H0 hd0 hc0 S0 s0 => ?_⟩
    refine nm ?_
    dsimp only
    refine ⟨_, rfl, d, c, rfl, S0, fun ps0 ms0 H1 hp1 hpd1 hpc1 hm1 hl1 hb1 hn1 S1 kp1 => ?_⟩
    refine nm ?_
    dsimp only
    refine ⟨szOk rfl, fun sn hsn => ?_⟩
    refine nm ?_
    dsimp only
    have snd := S1.nd hsn
    have snc := S1.nc hsn
    have snp : sn ≠ ps0 := (ne_of_none hm1 hsn).symm
    refine ⟨_, rfl, d, c, 7, rfl, S1.new hsn, (by decide), (by decide), fun x2 H2 x2a x2b S2 kp2 => ?_⟩
    refine ⟨x2, rfl, by omega, by omega, for_range (n := x2.toNat) (fun i σ H' => ∃ (ps : Addr) (ms : List Int) (xs : List V) (fs : List Fr) (v4 v5 v6 v7 v8 v9 : Option V), σ = [some (.ref a), some (.ref d), some (.ref ps), some (.ref sn), v4, v5, v6, v7, v8, v9, none, none, none, none] ∧
        H' ps = some (.lst (ms.map V.int)) ∧ ms.length ≤ 12 + 23 * i ∧ (∀ n ∈ ms, Byte n) ∧ (∀ ys, rd (ms ++ ys) = fs ++ rd ys) ∧ H' sn = some (.lst xs) ∧ Frs H' xs fs ∧ xs.length = i ∧ St1 K H' d c ∧ ps ≠ d ∧ ps ≠ c ∧ sn ≠ ps)
      ⟨ps0, ms0, [], [], none, none, none, none, none, none, rfl, kp2.l (S1.new hsn) (same_new hsn _ _ hm1), hl1, hb1, fun ys => rd_noise ys hn1, kp2.l (S1.new hsn) upd_same, .nil, rfl, S2, hpd1, hpc1, snp⟩ ?_ ?_⟩
    · rintro i σ H' hi ⟨ps, ms, xs, fs, v4, v5, v6, v7, v8, v9, rfl, hps, hml, hmb, hrd, hsx, hF, hxl, S', pd, pc, sp⟩
      refine nm ?_
      dsimp only
      have hi7 : i < 7 := by omega
      refine ⟨_, rfl, _, rfl, d, c, -8388608, 8388607, rfl, S', by decide, by decide, by decide, by decide, fun x3 H3 x3a x3b S3 kp3 => ?_⟩
      refine nm ?_
      dsimp only
      refine ⟨_, rfl, _, rfl, d, c, -8388608, 8388607, rfl, S3, by decide, by decide, by decide, by decide, fun x4 H4 x4a x4b S4 kp4 => ?_⟩
      refine nm ?_
      dsimp only
      refine ⟨_, rfl, _, rfl, _, rfl, _, rfl, d, c, -32768, 32767, rfl, S4, by decide, by decide, by decide, by decide, fun x5 H5 x5a x5b S5 kp5 => ?_⟩
      refine ⟨szOk rfl, fun pl hpl => ?_⟩
      refine nm ?_
      dsimp only
      have kp35 : Keep d H' H5 := (kp3.trans kp4).trans kp5
      have S5n : St1 K (upd H5 pl (.tup [V.int x3, V.int x4, V.int x5])) d c := S5.new hpl
      have kp5n : Keep d H' (upd H5 pl (.tup [V.int x3, V.int x4, V.int x5])) := kp35.trans (Keep.of (same_new hpl))
      have hplt : (upd H5 pl (.tup [V.int x3, V.int x4, V.int x5])) pl = some (.tup [V.int x3, V.int x4, V.int x5]) := upd_same
      generalize upd H5 pl (.tup [V.int x3, V.int x4, V.int x5]) = G0 at S5n kp5n hplt ⊢
      refine ⟨_, rfl, d, c, 256, rfl, S5n, (by decide), (by decide), fun x6 H6 x6a x6b S6 kp6 => ?_⟩
      refine nm ?_
      dsimp only
      have ok : (Fr.mk x3 x4 x5 x6).Ok := ⟨x3a, x3b, x4a, x4b, x5a, x5b, x6a, x6b⟩
      have hpl6 := kp6.t S5n hplt
      refine ⟨_, rfl, _, rfl, pl, ⟨x3, x4, x5, x6⟩, rfl, hpl6, ok, fun F H7 hF7 s7 hFl => ?_⟩
      refine nm ?_
      dsimp only
      refine ⟨_, rfl, _, _, _, _, true, rfl, ClsV.ty "list", TyX.base (TyOf.lst hFl), kit_ty (by decide +kernel), ?_⟩
      refine ⟨_, rfl, iteF ?_⟩
      refine ⟨_, rfl, _, rfl, _, rfl, pl, ⟨x3, x4, x5, x6⟩, rfl, s7 _ _ hpl6, ok, fun G H8 hG8 s8 hGl => ?_⟩
      refine ⟨_, _, Dp.lst (.inl (.inl (s8 _ _ hFl))) (dpAll_int _), Dp.lst (.inl (.inl hGl)) (dpAll_int _), sh_li _, sh_li _, _, rfl, eqvN (can_li _) ?_⟩
      have kp8 : Keep d H' H8 := (kp5n.trans kp6).trans (Keep.of (s7.trans s8))
      have S8 := S6.same (s7.trans s8)
      have hps8 := kp8.l S' hps
      have hsx8 := kp8.l S' hsx
      have hF8 := hF.move (tupK S' kp8)
      have hpl8 := (s7.trans s8) _ _ hpl6
      have hFl8 := s8 _ _ hFl
      have Fsn : F ≠ sn := (ne_of_none (kp6.l S5n (kp5n.l S' hsx)) hF7).symm
      refine ⟨_, rfl, (.inl ⟨rfl, _, .inl (.inl hsx8)⟩), _, rfl, _, rfl, szOk rfl, fun t ht => ?_⟩
      refine ⟨_, _, _, rfl, rfl, same_new ht _ _ hsx8, small1000 (by omega), ?_⟩
      have S9 : St1 K (upd (upd H8 t (.tup [V.ref pl, V.int x6])) sn (.lst (xs ++ [.ref t]))) d c := (S8.new ht).put snd snc
      have hps9 : (upd (upd H8 t (.tup [V.ref pl, V.int x6])) sn (.lst (xs ++ [.ref t]))) ps = some (.lst (ms.map V.int)) := by rw [upd_ne sp.symm]; exact same_new ht _ _ hps8
      have hFl9 : (upd (upd H8 t (.tup [V.ref pl, V.int x6])) sn (.lst (xs ++ [.ref t]))) F = some (.lst ((fr ⟨x3, x4, x5, x6⟩).map V.int)) := by rw [upd_ne Fsn]; exact same_new ht _ _ hFl8
      have hsx9 : (upd (upd H8 t (.tup [V.ref pl, V.int x6])) sn (.lst (xs ++ [.ref t]))) sn = some (.lst (xs ++ [.ref t])) := upd_same
      have hF9 : Frs (upd (upd H8 t (.tup [V.ref pl, V.int x6])) sn (.lst (xs ++ [.ref t]))) (xs ++ [.ref t]) (fs ++ [⟨x3, x4, x5, x6⟩]) := ((hF8.move (tupS (same_new ht))).snoc upd_same (same_new ht _ _ hpl8)).move (keepT (same_new ht _ _ hsx8))
      generalize upd (upd H8 t (.tup [V.ref pl, V.int x6])) sn (.lst (xs ++ [.ref t])) = G1 at S9 hps9 hFl9 hsx9 hF9 ⊢
      refine ⟨_, rfl, _, rfl, _, _, _, _, rfl, rfl, hps9, hFl9, Nat.le_of_lt (small1000 (by rw [List.length_map]; show ms.length + 11 ≤ 1000; omega)), fun U hU => ?_⟩
      have SU : St1 K (upd G1 U (.lst (ms.map V.int ++ (fr ⟨x3, x4, x5, x6⟩).map V.int))) d c := S9.new hU
      refine ⟨_, rfl, d, c, rfl, SU, fun N nz H10 hN hNd hNc hNl hNlen hNb hNn S10 kp10 => ?_⟩
      have hU10 := kp10.l SU upd_same
      refine ⟨_, _, _, _, rfl, rfl, hU10, hNl, Nat.le_of_lt (small1000 (by rw [List.length_append, List.length_map, List.length_map, List.length_map]; show ms.length + 11 + nz.length ≤ 1000; omega)), fun Z hZ => ?_⟩
      have hsx10 := kp10.l SU (same_new hU _ _ hsx9)
      have hF10 := (hF9.move (tupS (same_new hU))).move (tupK SU kp10)
      refine ⟨Z, ms ++ fr ⟨x3, x4, x5, x6⟩ ++ nz, xs ++ [.ref t], fs ++ [⟨x3, x4, x5, x6⟩], _, _, _, _, _, _, rfl, ?_, ?_, ?_, ?_, same_new hZ _ _ hsx10, hF10.move (tupS (same_new hZ)), ?_, S10.new hZ, S10.nd hZ, S10.nc hZ, ne_of_none hsx10 hZ⟩
      · rw [upd_same, List.map_append, List.map_append]
      · rw [List.length_append, List.length_append]
        show ms.length + 11 + nz.length ≤ _
        omega
      · intro n hn
        rcases List.mem_append.mp hn with hn | hn
        · rcases List.mem_append.mp hn with hn | hn
          · exact hmb n hn
          · exact fr_byte ok n hn
        · exact hNb n hn
      · intro ys
        rw [List.append_assoc, List.append_assoc, hrd, rd_fr ok, rd_noise ys hNn, List.append_assoc]
        rfl
      · rw [List.length_append, hxl]
        rfl
    rintro σ H3 ⟨ps, ms, xs, fs, v4, v5, v6, v7, v8, v9, rfl, hps, hml, hmb, hrd, hsx, hF, hxl, S3, pd, pc, sp⟩
    have hml2 : ms.length ≤ 200 := by omega
    have er : rd ms = fs := by
      have := hrd []
      rw [List.append_nil, rd_short (ys := []) (by decide), List.append_nil] at this
      exact this
    refine ⟨_, rfl, ps, ms, rfl, hps, by omega, hmb, fun l ys H4 hl4 s4 hly hF4 => ?_⟩
    rw [er] at hF4
    refine ⟨_, rfl, _, _, Dp.lst (.inl (.inl hly)) hF4.data, Dp.lst (.inl (.inl (s4 _ _ hsx))) (hF.move (tupS s4)).data, sh_fs _, sh_fs _, _, rfl, eqvN (can_fs _) ?_⟩
    have S4 := S3.same s4
    have hps4 := s4 _ _ hps
    refine ⟨_, rfl, d, c, 3, rfl, S4, (by decide), (by decide), fun x5 H5 x5a x5b S5 kp5 => ?_⟩
    refine ⟨x5, rfl, by omega, by omega, for_range (n := x5.toNat) (fun i σ H' => ∃ (ms : List Int) (v4 v10 v11 : Option V), σ = [some (.ref a), some (.ref d), some (.ref ps), some (.ref sn), v4, v5, v6, v7, v8, v9, v10, v11, none, none] ∧
        H' ps = some (.lst (ms.map V.int)) ∧ ms.length ≤ 200 + i ∧ (∀ n ∈ ms, Byte n) ∧ St1 K H' d c) ⟨ms, _, _, _, rfl, kp5.l S4 hps4, hml2, hmb, S5⟩ ?_ ?_⟩
    · clear hml hmb hrd hF er hF4 hps hps4 hml2
      rintro i σ H' hi ⟨ms, v4, v10, v11, rfl, hps, hml, hmb, S'⟩
      refine nm ?_
      dsimp only
      refine ⟨_, rfl, _, rfl, _, _, rfl, .inl (.inl (.inl hps)), _, _, rfl, rfl, d, c, ((ms.map V.int).length : Int) + 1, rfl, S', by omega, by rw [List.length_map]; omega, fun x6 H6 x6a x6b S6 kp6 => ?_⟩
      rw [List.length_map] at x6b
      have hps6 := kp6.l S' hps
      refine nm ?_
      dsimp only
      refine ⟨_, rfl, d, c, 3, rfl, S6, (by decide), (by decide), fun x7 H7 x7a x7b S7 kp7 => ?_⟩
      have hps7 := kp7.l S6 hps6
      refine nm ?_
      dsimp only
      have picked : ∀ (z x8 : Int), 0 ≤ x8 → x8 < 256 → (z = 170 ∨ z = 0 ∨ z = 255 ∨ z = x8) → Byte z := fun z x8 h0 h1 h => by
        unfold Byte
        omega
      refine ⟨_, rfl, rfl, _, rfl, ite2 (fun e => ?_) (fun e => ?_)⟩
      · refine ⟨_, rfl, (.inl ⟨rfl, _, .inl (.inl hps7)⟩), _, rfl, _, rfl, _, rfl, d, c, 256, rfl, S7, (by decide), (by decide), fun x8 H8 x8a x8b S8 kp8 => ?_⟩
        refine ⟨szOk rfl, fun q hq => ?_⟩
        refine ⟨d, c, _, _, rfl, S8.new hq, .inl (.inl upd_same), (fun z => nomatch z), (by show 4 ≤ 1000; decide), fun v H9 hv S9 kp9 => ?_⟩
        obtain ⟨z, rfl, hz⟩ : ∃ z : Int, v = .int z ∧ Byte z := by
          simp only [List.mem_cons, List.not_mem_nil, or_false] at hv
          rcases hv with rfl | rfl | rfl | rfl
          · exact ⟨_, rfl, by decide, by decide⟩
          · exact ⟨_, rfl, by decide, by decide⟩
          · exact ⟨_, rfl, by decide, by decide⟩
          · exact ⟨_, rfl, x8a, x8b⟩
        have hps9 := kp9.l (S8.new hq) (same_new hq _ _ (kp8.l S7 hps7))
        refine ⟨ps, _, x6, _, rfl, rfl, hps9, small1000 (by rw [List.length_map]; omega), x6a, by omega, ?_⟩
        refine ⟨ms.take x6.toNat ++ [z] ++ ms.drop x6.toNat, _, _, _, rfl, ?_, by rw [len_in]; omega, byte_in hmb hz _, S9.put pd pc⟩
        rw [upd_same, map_in]
      refine ⟨_, rfl, _, rfl, _, _, rfl, .inl (.inl (.inl hps7)), _, _, rfl, rfl, _, rfl, ?_⟩
      rw [List.length_map]
      refine ite2 (fun e1 => ?_) (fun e1 => ?_)
      rotate_left
      · refine ⟨_, rfl, _, rfl, _, _, rfl, .inl (.inl (.inl hps7)), _, _, rfl, rfl, _, rfl, ?_⟩
        rw [List.length_map]
        refine ite2 (fun e2 => absurd e2 e1) (fun e2 => ?_)
        exact ⟨ms, _, _, _, rfl, hps7, by omega, hmb, S7⟩
      have e1' := of_decide_eq_true e1
      refine ⟨_, rfl, rfl, _, rfl, ite2 (fun e2 => ?_) (fun e2 => ?_)⟩
      · obtain ⟨j, rfl⟩ : ∃ j : Nat, x6 = (j : Int) := ⟨x6.toNat, by omega⟩
        have hj : j < ms.length := by omega
        refine ⟨_, rfl, (.inl ⟨rfl, _, .inl (.inl hps7)⟩), _, rfl, ps, _, (j : Int), j, .int ms[j], rfl, rfl, hps7, by omega, by omega, seqIndex_of (by omega) (by rw [List.length_map]; omega), by simp [hj], ?_⟩
        refine ⟨ms.eraseIdx j, _, _, _, rfl, ?_, Nat.le_trans (List.length_eraseIdx_le ..) (by omega), byte_out hmb _, S7.put pd pc⟩
        rw [upd_same, map_out]
      · refine ⟨_, rfl, _, rfl, _, _, rfl, .inl (.inl (.inl hps7)), _, _, rfl, rfl, _, rfl, ?_⟩
        rw [List.length_map]
        refine ite2 (fun e3 => ?_) (fun e3 => absurd e1 e3)
        refine ⟨_, rfl, _, rfl, d, c, 256, rfl, S7, (by decide), (by decide), fun x8 H8 x8a x8b S8 kp8 => ?_⟩
        refine ⟨szOk rfl, fun q hq => ?_⟩
        refine ⟨d, c, _, _, rfl, S8.new hq, .inl (.inl upd_same), (fun z => nomatch z), (by show 4 ≤ 1000; decide), fun v H9 hv S9 kp9 => ?_⟩
        obtain ⟨z, rfl, hz⟩ : ∃ z : Int, v = .int z ∧ Byte z := by
          simp only [List.mem_cons, List.not_mem_nil, or_false] at hv
          rcases hv with rfl | rfl | rfl | rfl
          · exact ⟨_, rfl, by decide, by decide⟩
          · exact ⟨_, rfl, by decide, by decide⟩
          · exact ⟨_, rfl, by decide, by decide⟩
          · exact ⟨_, rfl, x8a, x8b⟩
        have hps9 := kp9.l (S8.new hq) (same_new hq _ _ (kp8.l S7 hps7))
        obtain ⟨j, rfl⟩ : ∃ j : Nat, x6 = (j : Int) := ⟨x6.toNat, by omega⟩
        have hj : j < ms.length := by omega
        refine ⟨_, rfl, _, rfl, ps, _, (j : Int), j, rfl, rfl, hps9, by unfold ixN; rw [if_pos (by omega), List.length_map, if_pos (by omega), Int.toNat_natCast], ?_⟩
        refine ⟨ms.set j z, _, _, _, rfl, ?_, by rw [List.length_set]; omega, byte_set hmb hz _, S9.put pd pc⟩
        rw [upd_same, map_set]
    clear hml hmb hrd hF er hF4 hps hps4 hml2
    rintro σ H6 ⟨ms, v4, v10, v11, rfl, hps, hml, hmb, S6⟩
    have hml : ms.length ≤ 500 := by omega
    refine ⟨_, rfl, _, _, rfl, .inl (.inl (.inl hps)), fun kl hkl => ?_⟩
    refine nm ?_
    dsimp only
    have hps7 := same_new (o := .lst (ms.map V.int)) hkl _ _ hps
    have hk7 : (upd H6 kl (.lst (ms.map V.int))) kl = some (.lst (ms.map V.int)) := upd_same
    generalize upd H6 kl (.lst (ms.map V.int)) = H7 at hps7 hk7 ⊢
    refine ⟨_, rfl, ps, ms, rfl, hps7, hml, hmb, fun l8 ys8 H8 hl8 s8 hly8 hF8 => ?_⟩
    refine nm ?_
    dsimp only
    refine ⟨_, rfl, _, _, _, _, true, rfl, ClsV.ty "list", TyX.base (TyOf.lst hly8), kit_ty (by decide +kernel), ?_⟩
    refine ⟨_, rfl, ?_⟩
    refine iteT ?_
    refine ⟨_, rfl, _, rfl, ps, ms, rfl, s8 _ _ hps7, hml, hmb, fun l9 ys9 H9 hl9 s9 hly9 hF9 => ?_⟩
    refine ⟨_, _, Dp.lst (.inl (.inl (s9 _ _ hly8))) (hF8.move (tupS s9)).data, Dp.lst (.inl (.inl hly9)) hF9.data, sh_fs _, sh_fs _, _, rfl, eqvY (can_fs _) ?_⟩
    have s79 := s8.trans s9
    refine ⟨_, rfl, _, rfl, _, _, Dp.lst (.inl (.inl (s79 _ _ hps7))) (dpAll_int _), Dp.lst (.inl (.inl (s79 _ _ hk7))) (dpAll_int _), sh_li _, sh_li _, ?_⟩
    rw [SeqAt.eqv_refl _ (can_li _)]
    exact k _

end
end Sk

set_option Elab.async false
set_option linter.all false
set_option maxRecDepth 100000
set_option maxHeartbeats 4000000
namespace Sk
open PySem PySem.Spec PyProof.Rows L2
/-! the end -/
theorem all_mk {l : PySem.W.OpenLaw} {w : World} {K : PySem.W.Frag} {h : Heap} {mg : Str → Option Value} {fa f1 f2 f3 f4 f5 f6 f7 f8 f9 f10 f11 f12 f13 f14 f15 : Addr} (X : K.In h) (G : h.Ns mainGlobals mg) (hfa : mg "law" = some (.ref fa))
    {od1 an1 od2 an2 od3 an3 od4 an4 od5 an5 od6 an6 od7 an7 od8 an8 od9 an9 od10 an10 od11 an11 od12 an12 od13 an13 od14 an14 od15 an15 : Option Addr} {sl1 sl2 sl3 sl4 sl5 sl6 sl7 sl8 sl9 sl10 sl11 sl12 sl13 sl14 sl15 : Array (Option Value)} {oc1 kV1 dc1 pm1 cd1 ct1 oc2 kV2 dc2 pm2 cd2 ct2 oc3 kV3 dc3 pm3 cd3 ct3 oc4 kV4 dc4 pm4 cd4 ct4 oc5 kV5 dc5 pm5 cd5 ct5 oc6 kV6 dc6 pm6 cd6 ct6 oc7 kV7 dc7 pm7 cd7 ct7 oc8 kV8 dc8 pm8 cd8 ct8 oc9 kV9 dc9 pm9 cd9 ct9 oc10 kV10 dc10 pm10 cd10 ct10 oc11 kV11 dc11 pm11 cd11 ct11 oc12 kV12 dc12 pm12 cd12 ct12 oc13 kV13 dc13 pm13 cd13 ct13 oc14 kV14 dc14 pm14 cd14 ct14 oc15 kV15 dc15 pm15 cd15 ct15 : Value}
    (a1 : PySem.W.nsIn K mainGlobals "_law_start" = some (some (.ref f1))) (l1 : K.lookup f1 = some ⟨oc1, od1, .func (PySem.W.fnOf "_law_start" "_law_start" (defArgs s_law_start) (defBody s_law_start) (defScope s_law_start) .none kV1 dc1 pm1 an1 cd1 ct1), sl1⟩) (c1 : PySem.W.codeIn K cd1 "_law_start" = true) (k1 : PySem.W.keepIn K (.ref f1) = true)
    (a2 : PySem.W.nsIn K mainGlobals "_law_draw" = some (some (.ref f2))) (l2 : K.lookup f2 = some ⟨oc2, od2, .func (PySem.W.fnOf "_law_draw" "_law_draw" (defArgs s_law_draw) (defBody s_law_draw) (defScope s_law_draw) .none kV2 dc2 pm2 an2 cd2 ct2), sl2⟩) (c2 : PySem.W.codeIn K cd2 "_law_draw" = true) (k2 : PySem.W.keepIn K (.ref f2) = true)
    (a3 : PySem.W.nsIn K mainGlobals "_law_pick" = some (some (.ref f3))) (l3 : K.lookup f3 = some ⟨oc3, od3, .func (PySem.W.fnOf "_law_pick" "_law_pick" (defArgs s_law_pick) (defBody s_law_pick) (defScope s_law_pick) .none kV3 dc3 pm3 an3 cd3 ct3), sl3⟩) (c3 : PySem.W.codeIn K cd3 "_law_pick" = true) (k3 : PySem.W.keepIn K (.ref f3) = true)
    (a4 : PySem.W.nsIn K mainGlobals "_bytes_of" = some (some (.ref f4))) (l4 : K.lookup f4 = some ⟨oc4, od4, .func (PySem.W.fnOf "_bytes_of" "_bytes_of" (defArgs s_bytes_of) (defBody s_bytes_of) (defScope s_bytes_of) .none kV4 dc4 pm4 an4 cd4 ct4), sl4⟩) (c4 : PySem.W.codeIn K cd4 "_bytes_of" = true) (k4 : PySem.W.keepIn K (.ref f4) = true)
    (a5 : PySem.W.nsIn K mainGlobals "frame_of" = some (some (.ref f5))) (l5 : K.lookup f5 = some ⟨oc5, od5, .func (PySem.W.fnOf "frame_of" "frame_of" (defArgs s_frame_of) (defBody s_frame_of) (defScope s_frame_of) .none kV5 dc5 pm5 an5 cd5 ct5), sl5⟩) (c5 : PySem.W.codeIn K cd5 "frame_of" = true) (k5 : PySem.W.keepIn K (.ref f5) = true)
    (a6 : PySem.W.nsIn K mainGlobals "_number_of" = some (some (.ref f6))) (l6 : K.lookup f6 = some ⟨oc6, od6, .func (PySem.W.fnOf "_number_of" "_number_of" (defArgs s_number_of) (defBody s_number_of) (defScope s_number_of) .none kV6 dc6 pm6 an6 cd6 ct6), sl6⟩) (c6 : PySem.W.codeIn K cd6 "_number_of" = true) (k6 : PySem.W.keepIn K (.ref f6) = true)
    (a7 : PySem.W.nsIn K mainGlobals "_is_frame" = some (some (.ref f7))) (l7 : K.lookup f7 = some ⟨oc7, od7, .func (PySem.W.fnOf "_is_frame" "_is_frame" (defArgs s_is_frame) (defBody s_is_frame) (defScope s_is_frame) .none kV7 dc7 pm7 an7 cd7 ct7), sl7⟩) (c7 : PySem.W.codeIn K cd7 "_is_frame" = true) (k7 : PySem.W.keepIn K (.ref f7) = true)
    (a8 : PySem.W.nsIn K mainGlobals "_content_of" = some (some (.ref f8))) (l8 : K.lookup f8 = some ⟨oc8, od8, .func (PySem.W.fnOf "_content_of" "_content_of" (defArgs s_content_of) (defBody s_content_of) (defScope s_content_of) .none kV8 dc8 pm8 an8 cd8 ct8), sl8⟩) (c8 : PySem.W.codeIn K cd8 "_content_of" = true) (k8 : PySem.W.keepIn K (.ref f8) = true)
    (a9 : PySem.W.nsIn K mainGlobals "frames_and_rest" = some (some (.ref f9))) (l9 : K.lookup f9 = some ⟨oc9, od9, .func (PySem.W.fnOf "frames_and_rest" "frames_and_rest" (defArgs s_frames_and_rest) (defBody s_frames_and_rest) (defScope s_frames_and_rest) .none kV9 dc9 pm9 an9 cd9 ct9), sl9⟩) (c9 : PySem.W.codeIn K cd9 "frames_and_rest" = true) (k9 : PySem.W.keepIn K (.ref f9) = true)
    (a10 : PySem.W.nsIn K mainGlobals "read_stream" = some (some (.ref f10))) (l10 : K.lookup f10 = some ⟨oc10, od10, .func (PySem.W.fnOf "read_stream" "read_stream" (defArgs s_read_stream) (defBody s_read_stream) (defScope s_read_stream) .none kV10 dc10 pm10 an10 cd10 ct10), sl10⟩) (c10 : PySem.W.codeIn K cd10 "read_stream" = true) (k10 : PySem.W.keepIn K (.ref f10) = true)
    (a11 : PySem.W.nsIn K mainGlobals "_law_ranged" = some (some (.ref f11))) (l11 : K.lookup f11 = some ⟨oc11, od11, .func (PySem.W.fnOf "_law_ranged" "_law_ranged" (defArgs s_law_ranged) (defBody s_law_ranged) (defScope s_law_ranged) .none kV11 dc11 pm11 an11 cd11 ct11), sl11⟩) (c11 : PySem.W.codeIn K cd11 "_law_ranged" = true) (k11 : PySem.W.keepIn K (.ref f11) = true)
    (a12 : PySem.W.nsIn K mainGlobals "_law_frame" = some (some (.ref f12))) (l12 : K.lookup f12 = some ⟨oc12, od12, .func (PySem.W.fnOf "_law_frame" "_law_frame" (defArgs s_law_frame) (defBody s_law_frame) (defScope s_law_frame) .none kV12 dc12 pm12 an12 cd12 ct12), sl12⟩) (c12 : PySem.W.codeIn K cd12 "_law_frame" = true) (k12 : PySem.W.keepIn K (.ref f12) = true)
    (a13 : PySem.W.nsIn K mainGlobals "_law_read" = some (some (.ref f13))) (l13 : K.lookup f13 = some ⟨oc13, od13, .func (PySem.W.fnOf "_law_read" "_law_read" (defArgs s_law_read) (defBody s_law_read) (defScope s_law_read) .none kV13 dc13 pm13 an13 cd13 ct13), sl13⟩) (c13 : PySem.W.codeIn K cd13 "_law_read" = true) (k13 : PySem.W.keepIn K (.ref f13) = true)
    (a14 : PySem.W.nsIn K mainGlobals "_law_noise" = some (some (.ref f14))) (l14 : K.lookup f14 = some ⟨oc14, od14, .func (PySem.W.fnOf "_law_noise" "_law_noise" (defArgs s_law_noise) (defBody s_law_noise) (defScope s_law_noise) .none kV14 dc14 pm14 an14 cd14 ct14), sl14⟩) (c14 : PySem.W.codeIn K cd14 "_law_noise" = true) (k14 : PySem.W.keepIn K (.ref f14) = true)
    (a15 : PySem.W.nsIn K mainGlobals "law" = some (some (.ref f15))) (l15 : K.lookup f15 = some ⟨oc15, od15, .func (PySem.W.fnOf "law" "law" (defArgs s_law) (defBody s_law) (defScope s_law) .none kV15 dc15 pm15 an15 cd15 ct15), sl15⟩) (c15 : PySem.W.codeIn K cd15 "law" = true) (k15 : PySem.W.keepIn K (.ref f15) = true)
    (z1 : PySem.W.nsIn K mainGlobals "abs" = some none) (z2 : PySem.W.nsIn K mainGlobals "int" = some none) (z3 : PySem.W.nsIn K mainGlobals "len" = some none) (z4 : PySem.W.nsIn K mainGlobals "bool" = some none) (z5 : PySem.W.nsIn K mainGlobals "isinstance" = some none) (z6 : PySem.W.nsIn K mainGlobals "max" = some none) (z7 : PySem.W.nsIn K mainGlobals "min" = some none) (z8 : PySem.W.nsIn K mainGlobals "range" = some none) (z9 : PySem.W.nsIn K mainGlobals "tuple" = some none) (z10 : PySem.W.nsIn K mainGlobals "list" = some none) (z11 : PySem.W.nsIn K mainGlobals "sum" = some none) (z12 : PySem.W.nsIn K mainGlobals "any" = some none) (z13 : PySem.W.nsIn K mainGlobals "all" = some none) (z14 : PySem.W.nsIn K mainGlobals "sorted" = some none) (z15 : PySem.W.nsIn K mainGlobals "dict" = some none) (z16 : PySem.W.nsIn K mainGlobals "enumerate" = some none) {tg1 : Tok} (g1 : PySem.W.nsIn K mainGlobals "HALF" = some (some (.int 8388608 tg1))) {tg2 : Tok} (g2 : PySem.W.nsIn K mainGlobals "HALF_HEIGHT" = some (some (.int 32768 tg2))) {tg3 : Tok} (g3 : PySem.W.nsIn K mainGlobals "MARK" = some (some (.int 170 tg3))) {tg4 : Tok} (g4 : PySem.W.nsIn K mainGlobals "MODULUS" = some (some (.int 251 tg4))) {tg5 : Tok} (g5 : PySem.W.nsIn K mainGlobals "SIZE" = some (some (.int 11 tg5))) :
    ∃ fd : FuncData, (∀ (s : Shared) (v : Value), BindsTo s fd ⟨[v], []⟩ [("script", v)]) ∧ ∀ base : Heap, K.In base → base.Ns mainGlobals mg → FnOk l.prog w K mg base CX0 6 fa fd ["script"] (spLaw K) := by
  have e := hfa.symm.trans (PySem.W.mg_of X G a15)
  cases e
  have F1 := fun_mk (st := s_law_start) l1 c1 k1
  have F2 := fun_mk (st := s_law_draw) l2 c2 k2
  have F3 := fun_mk (st := s_law_pick) l3 c3 k3
  have F4 := fun_mk (st := s_bytes_of) l4 c4 k4
  have F5 := fun_mk (st := s_frame_of) l5 c5 k5
  have F6 := fun_mk (st := s_number_of) l6 c6 k6
  have F7 := fun_mk (st := s_is_frame) l7 c7 k7
  have F8 := fun_mk (st := s_content_of) l8 c8 k8
  have F9 := fun_mk (st := s_frames_and_rest) l9 c9 k9
  have F10 := fun_mk (st := s_read_stream) l10 c10 k10
  have F11 := fun_mk (st := s_law_ranged) l11 c11 k11
  have F12 := fun_mk (st := s_law_frame) l12 c12 k12
  have F13 := fun_mk (st := s_law_read) l13 c13 k13
  have F14 := fun_mk (st := s_law_noise) l14 c14 k14
  have F15 := fun_mk (st := s_law) l15 c15 k15
  have b1 := F1.binds (ps := ["script"]) fun _ _ _ _ _ _ us hl => match us, hl with | [_], _ => rfl
  have b2 := F2.binds (ps := ["state", "bound"]) fun _ _ _ _ _ _ us hl => match us, hl with | [_, _], _ => rfl
  have b3 := F3.binds (ps := ["state", "things"]) fun _ _ _ _ _ _ us hl => match us, hl with | [_, _], _ => rfl
  have b4 := F4.binds (ps := ["number", "many"]) fun _ _ _ _ _ _ us hl => match us, hl with | [_, _], _ => rfl
  have b5 := F5.binds (ps := ["plot", "count"]) fun _ _ _ _ _ _ us hl => match us, hl with | [_, _], _ => rfl
  have b6 := F6.binds (ps := ["numbers"]) fun _ _ _ _ _ _ us hl => match us, hl with | [_], _ => rfl
  have b7 := F7.binds (ps := ["numbers", "at"]) fun _ _ _ _ _ _ us hl => match us, hl with | [_, _], _ => rfl
  have b8 := F8.binds (ps := ["numbers", "at"]) fun _ _ _ _ _ _ us hl => match us, hl with | [_, _], _ => rfl
  have b9 := F9.binds (ps := ["numbers"]) fun _ _ _ _ _ _ us hl => match us, hl with | [_], _ => rfl
  have b10 := F10.binds (ps := ["numbers"]) fun _ _ _ _ _ _ us hl => match us, hl with | [_], _ => rfl
  have b11 := F11.binds (ps := ["state", "low", "high"]) fun _ _ _ _ _ _ us hl => match us, hl with | [_, _, _], _ => rfl
  have b12 := F12.binds (ps := ["plot", "count"]) fun _ _ _ _ _ _ us hl => match us, hl with | [_, _], _ => rfl
  have b13 := F13.binds (ps := ["numbers"]) fun _ _ _ _ _ _ us hl => match us, hl with | [_], _ => rfl
  have b14 := F14.binds (ps := ["state"]) fun _ _ _ _ _ _ us hl => match us, hl with | [_], _ => rfl
  have T : TxtA mg := { abs := PySem.W.mg_none_of X G z1, int := PySem.W.mg_none_of X G z2, len := PySem.W.mg_none_of X G z3, bool := PySem.W.mg_none_of X G z4, isinstance := PySem.W.mg_none_of X G z5, max := PySem.W.mg_none_of X G z6, min := PySem.W.mg_none_of X G z7, range := PySem.W.mg_none_of X G z8, tuple := PySem.W.mg_none_of X G z9, list := PySem.W.mg_none_of X G z10, sum := PySem.W.mg_none_of X G z11, any := PySem.W.mg_none_of X G z12, all := PySem.W.mg_none_of X G z13, sorted := PySem.W.mg_none_of X G z14, dict := PySem.W.mg_none_of X G z15, enumerate := PySem.W.mg_none_of X G z16 }
  have G_HALF : mg "HALF" = some (.int 8388608 tg1) := PySem.W.mg_of X G g1
  have G_HALF_HEIGHT : mg "HALF_HEIGHT" = some (.int 32768 tg2) := PySem.W.mg_of X G g2
  have G_MARK : mg "MARK" = some (.int 170 tg3) := PySem.W.mg_of X G g3
  have G_MODULUS : mg "MODULUS" = some (.int 251 tg4) := PySem.W.mg_of X G g4
  have G_SIZE : mg "SIZE" = some (.int 11 tg5) := PySem.W.mg_of X G g5
  refine ⟨PySem.W.fnOf "law" "law" (defArgs s_law) (defBody s_law) (defScope s_law) .none kV15 dc15 pm15 an15 cd15 ct15, fun s v => .of_eq rfl, fun base _ _ => ?_⟩
  have D1 : Def l.prog w K mg base 1 "_law_start" ["script"] (spStart K) := .mk' F1 b1 (PySem.W.mg_of X G a1) (ok_law_start F1 T.toTxt0)
  have D2 : Def l.prog w K mg base 1 "_law_draw" ["state", "bound"] (spDraw K) := .mk' F2 b2 (PySem.W.mg_of X G a2) (ok_law_draw F2 T.toTxt0)
  have D3 : Def l.prog w K mg base 2 "_law_pick" ["state", "things"] (spPick K) := .mk' F3 b3 (PySem.W.mg_of X G a3) (ok_law_pick F3 T.toTxt0 D2)
  have D4 : Def l.prog w K mg base 1 "_bytes_of" ["number", "many"] (spBytes) := .mk' F4 b4 (PySem.W.mg_of X G a4) (ok_bytes_of F4 T)
  have D5 : Def l.prog w K mg base 2 "frame_of" ["plot", "count"] (spFrame) := .mk' F5 b5 (PySem.W.mg_of X G a5) (ok_frame_of F5 T G_MARK G_HALF G_HALF_HEIGHT G_MODULUS D4)
  have D6 : Def l.prog w K mg base 1 "_number_of" ["numbers"] (spNum K) := .mk' F6 b6 (PySem.W.mg_of X G a6) (ok_number_of F6 T)
  have D7 : Def l.prog w K mg base 1 "_is_frame" ["numbers", "at"] (spIsFr) := .mk' F7 b7 (PySem.W.mg_of X G a7) (ok_is_frame F7 T G_SIZE G_MARK G_MODULUS)
  have D8 : Def l.prog w K mg base 2 "_content_of" ["numbers", "at"] (spCont) := .mk' F8 b8 (PySem.W.mg_of X G a8) (ok_content_of F8 T G_HALF G_HALF_HEIGHT D6)
  have D9 : Def l.prog w K mg base 3 "frames_and_rest" ["numbers"] (spFrames) := .mk' F9 b9 (PySem.W.mg_of X G a9) (ok_frames_and_rest F9 T G_SIZE D7 D8)
  have D10 : Def l.prog w K mg base 4 "read_stream" ["numbers"] (spRead) := .mk' F10 b10 (PySem.W.mg_of X G a10) (ok_read_stream F10 T D9)
  have D11 : Def l.prog w K mg base 3 "_law_ranged" ["state", "low", "high"] (spRanged K) := .mk' F11 b11 (PySem.W.mg_of X G a11) (ok_law_ranged F11 T D2 D3)
  have D12 : Def l.prog w K mg base 1 "_law_frame" ["plot", "count"] (spFrame) := .mk' F12 b12 (PySem.W.mg_of X G a12) (ok_law_frame F12 T)
  have D13 : Def l.prog w K mg base 1 "_law_read" ["numbers"] (spRead) := .mk' F13 b13 (PySem.W.mg_of X G a13) (ok_law_read F13 T)
  have D14 : Def l.prog w K mg base 2 "_law_noise" ["state"] (spNoise K) := .mk' F14 b14 (PySem.W.mg_of X G a14) (ok_law_noise F14 T D2)
  exact ok_law F15 T D1 D2 D3 D11 D12 D13 D14 D5 D10
theorem walk {l : PySem.W.OpenLaw} {q : Program} {loose : List Str} {XP : (Str → Option Value) → Heap → Prop} {YP : World → Heap → Prop} {d : DefRec} {K : Params → PySem.W.Frag} (hn : l.most = some 63) (hdf : d.params.defaults = [])
    (hY : ∀ (w : World) (h : Heap), YP w h → (K w.params).In h)
    (F : ∀ (w : World) (mg : Str → Option Value) (fa : Addr) (h : Heap), (K w.params).In h → h.Ns mainGlobals mg → mg d.name = some (.ref fa) →
      ∃ fd : FuncData, (∀ (s : Shared) (u : Value), BindsTo s fd ⟨[u], []⟩ [("script", u)]) ∧ ∀ base : Heap, (K w.params).In base → base.Ns mainGlobals mg → FnOk l.prog w (K w.params) mg base CX0 6 fa fd ["script"] (spLaw (K w.params))) :
    PySem.W.WalkO q loose XP YP l.row.toRowW d [] (fun f vs => PySem.call f vs) :=
  L2.walk_of (n := 63) (k := 6) (x := "script") (CX := fun _ => CX0) (sp := fun w => spLaw (K w.params)) hn (by decide) hdf ⟨rfl, by decide, by decide⟩ hY F (fun _ _ a ns hl _ hS => ⟨a, ns, rfl, hS, hl, fun _ => rfl⟩) fun _ _ _ _ _ z => z
end Sk
open PySem PySem.W PyProof.Rows
set_option maxRecDepth 100000 in
set_option maxHeartbeats 0 in
theorem PySem.Challenge.cw_skyapart_k33_whole_stream_of_radars_holds : PySem.Challenge.rw_skyapart_k33_whole_stream_of_radars.Holds := by
  w_on; o_law; k_head; (case hw => w_witness2)
  k_fill
  refine Sk.walk (l := PySem.Challenge.rw_skyapart_k33_whole_stream_of_radars) rfl rfl (fun w h Y => PySem.W.kIn_of Y) ?F
  case F =>
    intro w mg fa h KX G hmg
    refine' Sk.all_mk KX G hmg ?a1 ?l1 ?c1 ?k1 ?a2 ?l2 ?c2 ?k2 ?a3 ?l3 ?c3 ?k3 ?a4 ?l4 ?c4 ?k4 ?a5 ?l5 ?c5 ?k5 ?a6 ?l6 ?c6 ?k6 ?a7 ?l7 ?c7 ?k7 ?a8 ?l8 ?c8 ?k8 ?a9 ?l9 ?c9 ?k9 ?a10 ?l10 ?c10 ?k10 ?a11 ?l11 ?c11 ?k11 ?a12 ?l12 ?c12 ?k12 ?a13 ?l13 ?c13 ?k13 ?a14 ?l14 ?c14 ?k14 ?a15 ?l15 ?c15 ?k15 ?z1 ?z2 ?z3 ?z4 ?z5 ?z6 ?z7 ?z8 ?z9 ?z10 ?z11 ?z12 ?z13 ?z14 ?z15 ?z16 ?g1 ?g2 ?g3 ?g4 ?g5
    (case a1 => k_is); (case l1 => k_is); (case c1 => k_is); (case k1 => k_is)
    (case a2 => k_is); (case l2 => k_is); (case c2 => k_is); (case k2 => k_is)
    (case a3 => k_is); (case l3 => k_is); (case c3 => k_is); (case k3 => k_is)
    (case a4 => k_is); (case l4 => k_is); (case c4 => k_is); (case k4 => k_is)
    (case a5 => k_is); (case l5 => k_is); (case c5 => k_is); (case k5 => k_is)
    (case a6 => k_is); (case l6 => k_is); (case c6 => k_is); (case k6 => k_is)
    (case a7 => k_is); (case l7 => k_is); (case c7 => k_is); (case k7 => k_is)
    (case a8 => k_is); (case l8 => k_is); (case c8 => k_is); (case k8 => k_is)
    (case a9 => k_is); (case l9 => k_is); (case c9 => k_is); (case k9 => k_is)
    (case a10 => k_is); (case l10 => k_is); (case c10 => k_is); (case k10 => k_is)
    (case a11 => k_is); (case l11 => k_is); (case c11 => k_is); (case k11 => k_is)
    (case a12 => k_is); (case l12 => k_is); (case c12 => k_is); (case k12 => k_is)
    (case a13 => k_is); (case l13 => k_is); (case c13 => k_is); (case k13 => k_is)
    (case a14 => k_is); (case l14 => k_is); (case c14 => k_is); (case k14 => k_is)
    (case a15 => k_is); (case l15 => k_is); (case c15 => k_is); (case k15 => k_is)
    (case z1 => k_is); (case z2 => k_is); (case z3 => k_is); (case z4 => k_is)
    (case z5 => k_is); (case z6 => k_is); (case z7 => k_is); (case z8 => k_is)
    (case z9 => k_is); (case z10 => k_is); (case z11 => k_is); (case z12 => k_is)
    (case z13 => k_is); (case z14 => k_is); (case z15 => k_is); (case z16 => k_is)
    (case g1 => k_is); (case g2 => k_is); (case g3 => k_is); (case g4 => k_is)
    (case g5 => k_is)
