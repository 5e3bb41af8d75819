import PyProof.Rows.All
import Wide.All
import OpenK.AllK
import Wide.FinOn
import HandS.RepeatKit
import HandS.Zip
import HandS.Conv
import HandS.Base
import HandS.Call
import HandS.List
import HandS.Comp
import HandS.Ends
import HandS.Dict
import HandS.Iter
import HandS.Words
import HandS.WordsList
import HandS.Wide
import HandS.Gcd
import HandS.IsInst
import Flt.RightSqrt
import HandS.GenList
import HandS.AnyAll
import HandS.EndTab
import HandS.Nested
import HandS.Flow
import PyProof.ConsumeS
import KE.LtData
import KE.KMathG
import KE.SortData
import PyProof.TupleOfGen
import HandS.SortRule
import HandS.Walk
import HandS.SortKw
import KE.KMinKey
import PyProof.Rows.SumAny
import PyProof.SumAny
import HandS.Star
import HandS.EndOwn
import KE.KNest
import KE.KExcSuper
import KE.KSuper
import HandS.Exc
import HandS.ExcInit
import HandS.FStr
import HandS.TryOnly
import HandS.ExcOwn
import HandS.WordsExc
import HandS.TupAny
import HandS.Deep
import HandS.DictComp
import HandS.ExcField
import PyProof.Rows.RegStrFacts
import PySem.Challenge.RW_skyapart_k18_landings
set_option Elab.async false
set_option linter.all false
set_option maxRecDepth 100000
set_option maxHeartbeats 4000000
namespace Sk
open PySem PySem.Spec PyProof.Rows L2
/-! itertools.permutations: what the class has -/
theorem pmMro : mroOf (.type "itertools.permutations") = pure [.type "itertools.permutations", .type "object"] := by
  rw [mroOf_type]; kernel_rfl
theorem pmNew : typeLookup (.type "itertools.permutations") "__new__" = pure (some (.builtin "itertools.permutations.__new__")) := by
  rw [typeLookup_type, builtinLookup_eq_fast]; kernel_rfl
theorem pmSub : isSubtype (.type "itertools.permutations") (.type "itertools.permutations") = pure true := by
  rw [isSubtype_type]; kernel_rfl
theorem pmInit : Slot "itertools.permutations" "__init__" "object.__init__" := by
  refine .of (owner := "object") (n := "__init__") ?_ (by decide +kernel) (by decide +kernel) (by decide +kernel) ?_ ?_
  · rw [typeLookup_type, builtinLookup_eq_fast]; kernel_rfl
  · first
      | exact .inl (by decide +kernel)
      | exact .inr (by decide +kernel)
  · rw [isSubtype_type]; kernel_rfl
theorem pmIter : Slot "itertools.permutations" "__iter__" "itertools.permutations.__iter__" := by
  refine .of (owner := "itertools.permutations") (n := "__iter__") ?_ (by decide +kernel) (by decide +kernel) (by decide +kernel) ?_ pmSub
  · rw [typeLookup_type, builtinLookup_eq_fast]; kernel_rfl
  · first
      | exact .inl (by decide +kernel)
      | exact .inr (by decide +kernel)
theorem pmNext : Slot "itertools.permutations" "__next__" "itertools.permutations.__next__" := by
  refine .of (owner := "itertools.permutations") (n := "__next__") ?_ (by decide +kernel) (by decide +kernel) (by decide +kernel) ?_ pmSub
  · rw [typeLookup_type, builtinLookup_eq_fast]; kernel_rfl
  · first
      | exact .inl (by decide +kernel)
      | exact .inr (by decide +kernel)
theorem pmCalled : TypeCalled "itertools.permutations" "itertools.permutations.__new__" "object.__init__" :=
  ⟨by decide +kernel, by decide +kernel, ⟨_, _, pmMro⟩, madeBy_type pmMro pmNew (by decide +kernel), by decide +kernel, pmSub, pmInit⟩
theorem pmTC (a : Value) : checkTypeCall "itertools.permutations" ⟨[a], []⟩ = pure () := by kernel_rfl
theorem pmNC (a : Value) : checkBuiltinCall "itertools.permutations.__new__" ⟨[.type "itertools.permutations", a], []⟩ = pure () := by kernel_rfl
theorem pmEN : entryFor table "itertools.permutations.__new__" = some Builtin.«itertools.permutations.__new__» := entryFor_of_tree (by kernel_rfl)
theorem pmEX : entryFor table "itertools.permutations.__next__" = some Builtin.«itertools.permutations.__next__» := entryFor_of_tree (by kernel_rfl)
theorem pmEI : entryFor table "itertools.permutations.__iter__" = some Builtin.«dict_keyiterator.__iter__» := by
  refine entryFor_alias (id' := "dict_keyiterator.__iter__") (by kernel_rfl) ?_ (by decide +kernel) (by kernel_rfl)
  first
    | rfl
    | decide +kernel
    | (unfold String.splitOn; simp +decide [String.splitOnAux])
def pmName : List Char := ['s', 'n', 'o', 'i', 't', 'a', 't', 'u', 'm', 'r', 'e', 'p', '.', 's', 'l', 'o', 'o', 't', 'r', 'e', 't', 'i']
theorem pmOwn : Manifest.owners.lookup (String.ofList pmName.reverse) = some Manifest.sig_itertools_permutations := by kernel_rfl
theorem pmAI (a : Value) : argsOk "itertools.permutations.__iter__" ⟨[a], []⟩ := by
  unfold argsOk
  rw [signature?_of (id := "itertools.permutations.__iter__") (n := ['_', '_', 'r', 'e', 't', 'i', '_', '_']) (o := pmName) (by kernel_rfl) pmOwn]
  kernel_rfl
theorem pmAX (a : Value) : argsOk "itertools.permutations.__next__" ⟨[a], []⟩ := by
  unfold argsOk
  rw [signature?_of (id := "itertools.permutations.__next__") (n := ['_', '_', 't', 'x', 'e', 'n', '_', '_']) (o := pmName) (by kernel_rfl) pmOwn]
  kernel_rfl
theorem pmDict : typeHasDict (.type "itertools.permutations") = false := by decide +kernel
/-! the order in which they come -/
def nextP (n : Nat) : Nat → List Nat → List Nat → Option (List Nat × List Nat)
  | 0, _, _ => none
  | i + 1, a, b => if (b.getD i 0 - 1 == 0) = true then nextP n i (a.take i ++ a.drop (i + 1) ++ [a.getD i 0]) (b.set i (n - i))
    else some ((a.set i (a.getD (n - (b.getD i 0 - 1)) 0)).set (n - (b.getD i 0 - 1)) (a.getD i 0), b.set i (b.getD i 0 - 1))
theorem nextP_of (N : Nat → Nat → List Nat → List Nat → Option (List Nat × List Nat)) (h0 : ∀ n a b, N n 0 a b = none)
    (h1 : ∀ n i a b, N n (i + 1) a b = if (b.getD i 0 - 1 == 0) = true then N n i (a.take i ++ a.drop (i + 1) ++ [a.getD i 0]) (b.set i (n - i)) else some ((a.set i (a.getD (n - (b.getD i 0 - 1)) 0)).set (n - (b.getD i 0 - 1)) (a.getD i 0), b.set i (b.getD i 0 - 1))) :
    ∀ n i a b, N n i a b = nextP n i a b := by
  intro n i
  induction i with
  | zero => intro a b; exact h0 n a b
  | succ i ih =>
    intro a b
    rw [h1, nextP, ih]
/-- all of them, from one on -/
def seqP (n : Nat) : Nat → List Nat × List Nat → List (List Nat × List Nat)
  | 0, _ => []
  | f + 1, x => x :: match nextP n n x.1 x.2 with
    | some y => seqP n f y
    | none => []
theorem seqP_at {n : Nat} : ∀ {f : Nat} {x : List Nat × List Nat} {i : Nat} {y : List Nat × List Nat}, (seqP n f x)[i]? = some y → (∀ z, (seqP n f x)[i + 1]? = some z → nextP n n y.1 y.2 = some z) ∧ ((seqP n f x).length = i + 1 → i + 1 < f → nextP n n y.1 y.2 = none)
  | 0, x, i, y, h => by cases h
  | f + 1, x, 0, y, h => by
    obtain rfl : x = y := Option.some.inj h
    unfold seqP
    cases e : nextP n n x.1 x.2 with
    | none => exact ⟨fun z hz => (by cases hz), fun _ _ => rfl⟩
    | some w =>
      refine ⟨fun z hz => ?_, fun hl hf => ?_⟩
      · cases f with
        | zero => cases hz
        | succ f => exact congrArg some (Option.some.inj hz)
      · cases f with
        | zero => omega
        | succ f =>
          have : (seqP n (f + 1) w).length = 0 := by simpa using hl
          unfold seqP at this
          simp at this
  | f + 1, x, i + 1, y, h => by
    unfold seqP at h ⊢
    cases e : nextP n n x.1 x.2 with
    | none => rw [e] at h; cases h
    | some w =>
      rw [e] at h
      obtain ⟨a, b⟩ := seqP_at (f := f) (x := w) (i := i) h
      exact ⟨a, fun hl hf => b (by simpa using hl) (by omega)⟩
/-- all orders of n, told apart by the first number first -/
def ordsK (n : Nat) : Nat → List (List Nat)
  | 0 => [[]]
  | k + 1 => (ordsK n k).flatMap fun o => ((List.range n).filter fun i => !o.contains i).map fun i => o ++ [i]
def ords (n : Nat) : List (List Nat) := ordsK n n
def stP (n : Nat) : List (List Nat × List Nat) := seqP n 721 (List.range n, (List.range n).map fun i => n - i)
theorem stP_ords : ∀ n, n ≤ 6 → (stP n).map (·.1) = ords n ∧ (stP n).length < 721 ∧ ((stP n).all fun s => s.1.length == n && s.2.length == n && s.1.all fun i => decide (i < n)) = true
  | 0, _ => by decide +kernel
  | 1, _ => by decide +kernel
  | 2, _ => by decide +kernel
  | 3, _ => by decide +kernel
  | 4, _ => by decide +kernel
  | 5, _ => by decide +kernel
  | 6, _ => by decide +kernel
  | n + 7, h => absurd h (by omega)
end Sk

set_option Elab.async false
set_option linter.all false
set_option maxRecDepth 100000
set_option maxHeartbeats 4000000
namespace Sk
open PySem PySem.Spec PyProof.Rows L2
/-! one permutation after the other -/
def pmF (T : Addr) (b : Int) (n : Nat) (last : Value) (nums : List Nat) : Array Value := #[.ref T, .int b 0, .int (n : Int) 0, last] ++ (nums.map fun (k : Nat) => Value.int (k : Int) 0).toArray
def pmO (T : Addr) (b : Int) (n : Nat) (last : Value) (nums : List Nat) : Obj := { cls := .type "itertools.permutations", data := .fields (pmF T b n last nums) }
def tupO (vs : List Value) : Obj := { cls := .type "tuple", data := .seq vs.toArray }
theorem pmF_nums (T : Addr) (b : Int) (n : Nat) (last : Value) (nums : List Nat) : ((pmF T b n last nums).toList.drop 4).map (fun | .int n _ => n.toNat | _ => 0) = nums := by
  unfold pmF
  rw [Array.toList_append]
  show (List.map _ (nums.map fun (k : Nat) => Value.int (k : Int) 0)) = nums
  rw [List.map_map]
  conv => rhs; rw [← List.map_id nums]
  exact List.map_congr_left fun k _ => Int.toNat_natCast k
theorem pmF_at (T : Addr) (b : Int) (n : Nat) (last : Value) (nums : List Nat) : (pmF T b n last nums)[0]? = some (.ref T) ∧ (pmF T b n last nums)[1]? = some (.int b 0) ∧ (pmF T b n last nums)[2]? = some (.int (n : Int) 0) ∧ (pmF T b n last nums)[3]? = some last := by
  unfold pmF
  simp [Array.getElem?_append]
theorem pmF_put (T : Addr) (b : Int) (n : Nat) (last : Value) (nums xs : List Nat) : (pmF T b n last nums).extract 0 4 ++ (xs.map fun (k : Nat) => rawInt (k : Int)).toArray = pmF T b n last xs := by
  unfold pmF
  apply Array.toList_inj.mp
  simp
  exact fun _ _ => rfl
theorem pmF_set1 (T : Addr) (b : Int) (n : Nat) (last x : Value) (nums : List Nat) : (pmF T b n last nums).setIfInBounds 3 x = pmF T b n x nums := by
  unfold pmF
  apply Array.toList_inj.mp
  simp
theorem pmF_set2 (T : Addr) (b c : Int) (n : Nat) (last : Value) (nums : List Nat) : (pmF T b n last nums).setIfInBounds 1 (rawInt c) = pmF T c n last nums := by
  unfold pmF
  apply Array.toList_inj.mp
  simp
  rfl
theorem pmF_size (T : Addr) (b : Int) (n : Nat) (last : Value) (nums : List Nat) : (pmF T b n last nums).size = 4 + nums.length := by
  unfold pmF
  simp
  omega
section
variable {P : Program} {w : World} {A : Around} {E : Value → Shared → Prop} {s : Shared} {it T : Addr} {b : Int} {n : Nat} {last : Value} {nums : List Nat} {items : List Value}
/-- the tuple that is handed out -/
theorem pm_res {Q : PySem.Fin → Shared → Prop} {a : List Nat} (hit : s.heap.get? it = some (pmO T b n last nums)) (hl : a.length ≤ 100)
    (hQ : ∀ h', h'.get? it = some (pmO T b n (.ref s.heap.objs.size) nums) → h'.get? s.heap.objs.size = some (tupO ((a.take n).map fun i => items.getD i .none)) → (∀ c o, c ≠ it → s.heap.get? c = some o → h'.get? c = some o) → Q (.done (.ret (.ref s.heap.objs.size))) { s with heap := h' }) :
    wpAny (model P w) A (do
      let t ← newTuple (List.map (fun i => items.toArray.getD i Value.none) (List.take n a))
      let before ← field (Value.ref it) 3
      setField (Value.ref it) 3 t
      letGo [before] [t]
      ret t) Q E s := by
  refine wpAny_bind (wpAny_newTuple ?_ (by rw [List.length_map, List.length_take, sizeLine_eq]; omega))
  have h1 : (s.heap.push { cls := .type "tuple", data := .seq (List.map (fun i => items.toArray.getD i Value.none) (List.take n a)).toArray }).get? it = some (pmO T b n last nums) := Heap.get?_push_of_some _ hit
  have hlt := Heap.lt_size hit
  refine wpAny_bind (wpAny_field h1 rfl (pmF_at ..).2.2.2 ?_)
  refine wpAny_bind (wpAny_setField_rec h1 (by rw [pmF_size]; omega) fun h2 g2 sb => ?_)
  refine wpAny_bind (wpAny_letGo ?_)
  rw [pmF_set1] at g2
  refine wpAny_pure (hQ h2 g2 ?_ fun c o nc e => (sb.2 c nc).trans (Heap.get?_push_of_some _ e))
  refine (sb.2 _ (Nat.ne_of_gt hlt)).trans ((Heap.get?_push_size _ rfl).trans ?_)
  unfold tupO
  simp
theorem pm_hand {Q : PySem.Fin → Shared → Prop} {a c : List Nat} (hit : s.heap.get? it = some (pmO T b n last nums)) (hl : a.length + c.length ≤ 100)
    (hQ : ∀ h', h'.get? it = some (pmO T b n (.ref s.heap.objs.size) (a ++ c)) → h'.get? s.heap.objs.size = some (tupO ((a.take n).map fun i => items.getD i .none)) → (∀ c o, c ≠ it → s.heap.get? c = some o → h'.get? c = some o) → Q (.done (.ret (.ref s.heap.objs.size))) { s with heap := h' }) :
    wpAny (model P w) A (do
      Builtin.Itertools.itSetNumbersFrom (Value.ref it) 4 (a ++ c)
      let t ← newTuple (List.map (fun i => items.toArray.getD i Value.none) (List.take n a))
      let before ← field (Value.ref it) 3
      setField (Value.ref it) 3 t
      letGo [before] [t]
      ret t) Q E s := by
  refine wpAny_bind ?_
  unfold Builtin.Itertools.itSetNumbersFrom
  refine wpAny_updateFields hit rfl ?_ (by
    rw [pmF_put, pmF_size, List.length_append, sizeLine_eq]
    omega)
  have g1 : (s.heap.update it (Obj.mapFields fun fs => fs.extract 0 4 ++ ((a ++ c).map fun (k : Nat) => rawInt (k : Int)).toArray)).get? it = some (pmO T b n last (a ++ c)) := by
    rw [Heap.get?_update_self _ hit rfl]
    show some (Obj.mk _ _ (.fields ((pmF T b n last nums).extract 0 4 ++ ((a ++ c).map fun (k : Nat) => rawInt (k : Int)).toArray)) _) = _
    rw [pmF_put]
    rfl
  have z := Heap.size_after_update s.heap it (Obj.mapFields fun fs => fs.extract 0 4 ++ ((a ++ c).map fun (k : Nat) => rawInt (k : Int)).toArray)
  refine pm_res (s := { s with heap := s.heap.update it _ }) g1 (by omega) fun h' g2 g3 k => ?_
  rw [z] at g2 g3 ⊢
  exact hQ h' g2 g3 fun x o nx e => k x o nx ((Heap.get?_update_other _ _ (Ne.symm nx)).trans e)
theorem pm_next {Q : PySem.Fin → Shared → Prop} (hit : s.heap.get? it = some (pmO T 1 n last nums)) (hT : s.heap.get? T = some (tupO items)) (hn : items.length = n) {a c : List Nat} (hx : nextP n n (nums.take n) (nums.drop n) = some (a, c)) (hl : a.length + c.length ≤ 100)
    (hQ : ∀ h', h'.get? it = some (pmO T 1 n (.ref s.heap.objs.size) (a ++ c)) → h'.get? s.heap.objs.size = some (tupO ((a.take n).map fun i => items.getD i .none)) → (∀ c o, c ≠ it → s.heap.get? c = some o → h'.get? c = some o) → Q (.done (.ret (.ref s.heap.objs.size))) { s with heap := h' }) :
    wpAny (model P w) A (Builtin.«itertools.permutations.__next__» ⟨[.ref it], []⟩) Q E s := by
  unfold Builtin.«itertools.permutations.__next__»
  show wpAny _ _ (field (.ref it) 0 >>= _) _ _ s
  refine wpAny_bind (wpAny_field hit rfl (pmF_at ..).1 ?_)
  refine wpAny_bind ?_
  unfold Builtin.Itertools.itPoolItems
  refine wpAny_bind (wpAny_seqItems hT rfl ?_)
  refine wpAny_pure ?_
  show wpAny _ _ (Builtin.Itertools.itIntField (.ref it) 2 >>= _) _ _ s
  refine wpAny_bind ?_
  unfold Builtin.Itertools.itIntField
  refine wpAny_bind (wpAny_field hit rfl (pmF_at ..).2.2.1 ?_)
  refine wpAny_pure ?_
  refine wpAny_bind ?_
  unfold Builtin.Itertools.itNumbersFrom
  refine wpAny_bind (wpAny_load hit ?_)
  dsimp only [pmO]
  refine wpAny_pure ?_
  generalize hN : List.map _ (List.drop 4 (pmF T 1 n last nums).toList) = N
  obtain rfl : N = nums := by rw [← hN]; exact pmF_nums T 1 n last nums
  clear hN
  refine wpAny_bind ?_
  refine wpAny_bind (wpAny_field hit rfl (pmF_at ..).2.1 ?_)
  refine wpAny_pure ?_
  have ei : items.toArray.size = n := by rw [List.size_toArray]; exact hn
  simp only [ei, Int.toNat_natCast]
  split
  · rename_i a' c' heq
    have e := (nextP_of _ (fun _ _ _ => rfl) (fun _ _ _ _ => rfl) _ _ _ _).symm.trans heq
    rw [hx] at e
    obtain ⟨rfl, rfl⟩ := Prod.mk.inj (Option.some.inj e)
    exact pm_hand hit hl hQ
  · rename_i heq
    have e := (nextP_of _ (fun _ _ _ => rfl) (fun _ _ _ _ => rfl) _ _ _ _).symm.trans heq
    rw [hx] at e
    cases e
theorem pm_first {Q : PySem.Fin → Shared → Prop} (hit : s.heap.get? it = some (pmO T 0 n last nums)) (hT : s.heap.get? T = some (tupO items)) (hn : items.length = n) (hl : nums.length ≤ 100)
    (hQ : ∀ h', h'.get? it = some (pmO T 1 n (.ref s.heap.objs.size) nums) → h'.get? s.heap.objs.size = some (tupO ((nums.take n).map fun i => items.getD i .none)) → (∀ c o, c ≠ it → s.heap.get? c = some o → h'.get? c = some o) → Q (.done (.ret (.ref s.heap.objs.size))) { s with heap := h' }) :
    wpAny (model P w) A (Builtin.«itertools.permutations.__next__» ⟨[.ref it], []⟩) Q E s := by
  unfold Builtin.«itertools.permutations.__next__»
  show wpAny _ _ (field (.ref it) 0 >>= _) _ _ s
  refine wpAny_bind (wpAny_field hit rfl (pmF_at ..).1 ?_)
  refine wpAny_bind ?_
  unfold Builtin.Itertools.itPoolItems
  refine wpAny_bind (wpAny_seqItems hT rfl ?_)
  refine wpAny_pure ?_
  show wpAny _ _ (Builtin.Itertools.itIntField (.ref it) 2 >>= _) _ _ s
  refine wpAny_bind ?_
  unfold Builtin.Itertools.itIntField
  refine wpAny_bind (wpAny_field hit rfl (pmF_at ..).2.2.1 ?_)
  refine wpAny_pure ?_
  refine wpAny_bind ?_
  unfold Builtin.Itertools.itNumbersFrom
  refine wpAny_bind (wpAny_load hit ?_)
  dsimp only [pmO]
  refine wpAny_pure ?_
  generalize hN : List.map _ (List.drop 4 (pmF T 0 n last nums).toList) = N
  obtain rfl : N = nums := by rw [← hN]; exact pmF_nums T 0 n last nums
  clear hN
  refine wpAny_bind ?_
  refine wpAny_bind (wpAny_field hit rfl (pmF_at ..).2.1 ?_)
  refine wpAny_pure ?_
  have ei : items.toArray.size = n := by rw [List.size_toArray]; exact hn
  simp only [ei, Int.toNat_natCast]
  refine wpAny_bind (wpAny_setField_rec hit (by rw [pmF_size]; omega) fun h2 g2 sb => ?_)
  rw [pmF_set2] at g2
  have z := sb.1
  refine pm_res (s := { s with heap := h2 }) g2 hl fun h' q2 q3 k => ?_
  rw [z] at q2 q3 ⊢
  exact hQ h' q2 q3 fun x o nx e => k x o nx ((sb.2 x nx).trans e)
theorem pm_end {Q : PySem.Fin → Shared → Prop} (hh : A.handled = none) (hit : s.heap.get? it = some (pmO T 1 n last nums)) (hT : s.heap.get? T = some (tupO items)) (hn : items.length = n) (hx : nextP n n (nums.take n) (nums.drop n) = none)
    (hE : ∀ h' e, (∀ c o, c ≠ it → s.heap.get? c = some o → h'.get? c = some o) → (∃ o, h'.get? e = some o ∧ o.cls = .type "StopIteration") → E (.ref e) { s with heap := h' }) :
    wpAny (model P w) A (Builtin.«itertools.permutations.__next__» ⟨[.ref it], []⟩) Q E s := by
  unfold Builtin.«itertools.permutations.__next__»
  show wpAny _ _ (field (.ref it) 0 >>= _) _ _ s
  refine wpAny_bind (wpAny_field hit rfl (pmF_at ..).1 ?_)
  refine wpAny_bind ?_
  unfold Builtin.Itertools.itPoolItems
  refine wpAny_bind (wpAny_seqItems hT rfl ?_)
  refine wpAny_pure ?_
  show wpAny _ _ (Builtin.Itertools.itIntField (.ref it) 2 >>= _) _ _ s
  refine wpAny_bind ?_
  unfold Builtin.Itertools.itIntField
  refine wpAny_bind (wpAny_field hit rfl (pmF_at ..).2.2.1 ?_)
  refine wpAny_pure ?_
  refine wpAny_bind ?_
  unfold Builtin.Itertools.itNumbersFrom
  refine wpAny_bind (wpAny_load hit ?_)
  dsimp only [pmO]
  refine wpAny_pure ?_
  generalize hN : List.map _ (List.drop 4 (pmF T 1 n last nums).toList) = N
  obtain rfl : N = nums := by rw [← hN]; exact pmF_nums T 1 n last nums
  clear hN
  refine wpAny_bind ?_
  refine wpAny_bind (wpAny_field hit rfl (pmF_at ..).2.1 ?_)
  refine wpAny_pure ?_
  have ei : items.toArray.size = n := by rw [List.size_toArray]; exact hn
  simp only [ei, Int.toNat_natCast]
  split
  · rename_i a' c' heq
    have e := (nextP_of _ (fun _ _ _ => rfl) (fun _ _ _ _ => rfl) _ _ _ _).symm.trans heq
    rw [hx] at e
    cases e
  refine wpAny_bind (wpAny_setField_rec hit (by rw [pmF_size]; omega) fun h2 g2 sb => ?_)
  show wpAny _ _ (newExc (.type "StopIteration") [] >>= _) _ _ _
  refine wpAny_bind ?_
  simp only [newExc, newTuple]
  refine wpAny_bind ?_
  refine wpAny_newObj_type ?_ (by size_fits)
  refine wpAny_bind (m := firstArgMember _ _) (wpAny_of_eq (a := Value.none) ?_ ?_)
  · first
      | rfl
      | (simp only [firstArgMember]; rfl)
  refine wpAny_newObj_type ?_ (by size_fits)
  simp only [raiseNew]
  refine wpAny_bind (wpAny_handled ?_)
  rw [hh]
  refine wpAny_throw ?_
  exact hE _ _ (fun c o nc e => Heap.get?_push_of_some _ (Heap.get?_push_of_some _ ((sb.2 c nc).trans e))) ⟨_, Heap.get?_push_size _ rfl, rfl⟩
end
end Sk

set_option Elab.async false
set_option linter.all false
set_option maxRecDepth 100000
set_option maxHeartbeats 4000000
namespace Sk
open PySem PySem.Spec PyProof.Rows L2
/-! permutations(range(n)) -/
theorem pmPN : plainId "itertools.permutations.__new__" = true := by decide +kernel
def nums0 (n : Nat) : List Nat := List.range n ++ (List.range n).map fun i => n - i
theorem pm_fields (q : Addr) (n : Nat) : ([Value.ref q, rawInt (if ((n : Nat) : Int).toNat > n then 2 else 0), rawInt ((((n : Nat) : Int).toNat : Nat) : Int), Value.none] ++ (List.range n).map (fun (i : Nat) => rawInt (i : Int)) ++ (List.range ((n : Nat) : Int).toNat).map fun (i : Nat) => rawInt ((n : Int) - (i : Int))).toArray = pmF q 0 n .none (nums0 n) := by
  rw [Int.toNat_natCast, if_neg (Nat.lt_irrefl n)]
  unfold pmF nums0
  apply Array.toList_inj.mp
  rw [List.toList_toArray, Array.toList_append, List.toList_toArray, List.map_append, List.map_map, List.append_assoc]
  show _ :: _ :: _ :: _ :: _ = _ :: _ :: _ :: _ :: _
  refine congrArg (Value.ref q :: rawInt 0 :: rawInt (n : Int) :: Value.none :: ·) (congrArg (_ ++ ·) ?_)
  refine List.map_congr_left fun i hi => ?_
  have := List.mem_range.mp hi
  show rawInt ((n : Int) - (i : Int)) = rawInt ((n - i : Nat) : Int)
  rw [Int.ofNat_sub (by omega)]
section
variable {P : Program} {w : World} {A : Around} {E : Value → Shared → Prop} {s : Shared} {r : Addr} {a b : Int} {t u v : Tok} {n : Nat}
theorem pm_code {Q₁ : Value → Shared → Prop} (hh : A.handled = none) (hr : IsRange s.heap r a b 1 t u v) (hs : Builtin.Range.small a b 1 = true) (hn : Builtin.Range.rangeSize a b 1 = n) (hz : n ≤ 100)
    (h : ∀ (h' : Heap) (tk : Nat) (acc : Array Value), (∀ b o, s.heap.get? b = some o → h'.get? b = some o) → ItemsOf (fun i v => ∃ t, v = .int (a + i * 1) t) acc n →
      Q₁ (.ref (h'.objs.size + 1)) { s with heap := (h'.push (tupO acc.toList)).push (pmO h'.objs.size 0 n .none (nums0 n)), toks := tk }) :
    codeAny (model P w) A (.call (.builtin "itertools.permutations.__new__") ⟨[.type "itertools.permutations", .ref r], []⟩) (wants Q₁ E) s := by
  refine codeAny_of_tree ?_
  show wpAny _ A.in1 (checkBuiltinCall "itertools.permutations.__new__" ⟨[.type "itertools.permutations", .ref r], []⟩ >>= fun _ => again (.builtin "itertools.permutations.__new__" ⟨[.type "itertools.permutations", .ref r], []⟩)) _ _ s
  refine wpAny_bind (wpAny_of_eq (pmNC _) ?_)
  refine wpAny_pure ⟨plainId_quiet pmPN _, codeAny_builtin pmEN ?_⟩
  rw [Around.under_plainId pmPN]
  have sub : isSubtype (.type "itertools.permutations") (.type ("itertools." ++ "permutations")) = pure true := by
    rw [show ("itertools." ++ "permutations" : String) = "itertools.permutations" by decide +kernel]
    exact pmSub
  have dic := pmDict
  unfold Builtin.«itertools.permutations.__new__»
  have h1 : A.in1.handled = none := hh
  generalize hC : collect = C
  repeat (first
    | wp_step
    | simp only [List.head?_cons, Option.some_or, List.getElem?_cons_succ, List.getElem?_cons_zero, List.length_cons, List.length_nil, List.forIn_nil, List.forIn_cons, List.zipIdx_cons, List.zipIdx_nil])
  subst hC
  refine collect_range (A := A.in1) h1 hr hs hn (by omega) fun h' tk acc hk hacc => ?_
  have la : acc.toList.length = n := by rw [Array.length_toList]; exact hacc.1
  show wpAny _ _ ((pure ((acc.toList.length : Nat) : Int) : Sem Int) >>= _) _ _ _
  refine wpAny_bind (wpAny_pure ?_)
  rw [la]
  rw [if_neg (by omega), if_neg (by
    unfold Builtin.Itertools.itTooMany
    rw [decide_eq_true_eq]
    omega)]
  refine wpAny_bind (wpAny_newTuple ?_ (by rw [la, sizeLine_eq]; omega))
  unfold Builtin.Itertools.itNewRecord
  rw [pmDict]
  refine wpAny_bind ?_
  rw [if_pos (show (!false) = true from rfl)]
  rw [pm_fields]
  refine wpAny_newObj_type ?_ (by
    show (pmF _ 0 n .none (nums0 n)).size ≤ sizeLine + 2
    rw [pmF_size, sizeLine_eq]
    unfold nums0
    rw [List.length_append, List.length_map, List.length_range]
    omega)
  refine wpAny_pure ?_
  have z := h h' tk acc hk hacc
  rw [← Heap.size_push h' (tupO acc.toList)] at z
  exact z
end
end Sk

set_option Elab.async false
set_option linter.all false
set_option maxRecDepth 100000
set_option maxHeartbeats 4000000
namespace Sk
open PySem PySem.Spec PyProof.Rows L2

/-! a def of the text, ready to be called by its name -/
structure Def (P : Program) (w : World) (K : PySem.W.Frag) (mg : Str → Option Value) (base : Heap) (k : Nat) (x : Str) (ps : List Str) (sp : Sp) : Prop where
  ex : ∃ (f : Addr) (fd : FuncData), FnOk P w K mg base CX0 k f fd ps sp ∧ mg x = some (.ref f) ∧ PySem.W.keepIn K (.ref f) = true ∧ Binds K fd ps []
theorem Def.mk' {P : Program} {w : World} {K : PySem.W.Frag} {mg : Str → Option Value} {base : Heap} {k : Nat} {x qual : Str} {st : Stmt} {f : Addr} {fd : FuncData} {ps : List Str} {sp : Sp}
    (F : Fun K x qual st f fd) (b : Binds K fd ps []) (m : mg x = some (.ref f)) (G : FnOk P w K mg base CX0 k f fd ps sp) : Def P w K mg base k x ps sp := ⟨f, fd, G, m, F.kp, b⟩
theorem pe_def {X : Cx} {k : Nat} {x : Str} {ps : List Str} {sp : Sp} {p pos : Pos} {e : Expr} {es : List Expr} {t : TA} (D : Def X.prog X.w X.K X.mg X.base k x ps sp) (hr : Room k X.A) (hg : Gl X x)
    (ha : PA X (e :: es) t) (hdb : (x == ("__debug__" : Str)) = false := by decide) (he : starEach (e :: es) X.env = (false, eval e X.env) :: starEach es X.env := by rfl) (hpl : (backTo pos (starEach es X.env)).any (·.1) = false := by rfl) :
    PE X (.Call (.Name x p) (e :: es) [] pos) (tCall sp [] E0 t) := by
  obtain ⟨f, fd, F, m, kp, b⟩ := D.ex
  exact pe_call F hr hg m kp b .nil pass0 ha hdb he hpl
/-- a call's reading: the values of the arguments as they are -/
theorem sp_nil {sp : Sp} {vs : List V} {H : Hp} {Q : VK} {E : XK} (h : sp vs H Q E) : sp (vs ++ []) H Q E := by
  rw [List.append_nil]
  exact h

/-! heaps -/
/-- all but what stands at d is as it was -/
def Keep (d : Addr) (H H' : Hp) : Prop := ∀ c o, H c = some o → c ≠ d → H' c = some o
theorem Keep.refl (d : Addr) (H : Hp) : Keep d H H := fun _ _ h _ => h
theorem Keep.trans {d : Addr} {H H1 H2 : Hp} (a : Keep d H H1) (b : Keep d H1 H2) : Keep d H H2 := fun c o h n => b c o (a c o h n) n
theorem Keep.of {d : Addr} {H H1 : Hp} (a : Same H H1) : Keep d H H1 := fun c o h _ => a c o h
theorem Keep.upd (d : Addr) (H : Hp) (o : HO) : Keep d H (upd H d o) := fun c u h n => by
  rw [upd_ne n]
  exact h
theorem same_new {H : Hp} {p : Addr} {o : HO} (h : H p = none) : Same H (upd H p o) := fun b x e => by
  rw [upd_ne (ne_of_none e h)]
  exact e
theorem lst_ne {H : Hp} {a d : Addr} {xs : List V} {o : HO} (h : H d = some (.dK o')) (ha : H a = some (.lst xs)) : a ≠ d := ne_of ha h (by intro z; cases z)
/-- a list to be read stays, if it isn't the dict at d -/
theorem Keep.seq {K : PySem.W.Frag} {d : Addr} {kvs : List (Key × V)} {H H' : Hp} {a : Addr} {xs : List V} (k : Keep d H H') (hd : H d = some (.dK kvs)) (h : SqL K H a xs) : SqL K H' a xs := by
  rcases h with (h | ⟨o, h⟩) | h
  · exact .inl (.inl (k _ _ h (ne_of h hd (by intro z; cases z))))
  · exact .inl (.inr ⟨o, k _ _ h (ne_of h hd (by intro z; cases z))⟩)
  · exact .inr h
theorem Keep.tup {K : PySem.W.Frag} {d : Addr} {kvs : List (Key × V)} {H H' : Hp} {a : Addr} {xs : List V} (k : Keep d H H') (hd : H d = some (.dK kvs)) (h : SqT K H a xs) : SqT K H' a xs := by
  rcases h with (h | ⟨o, h⟩) | h
  · exact .inl (.inl (k _ _ h (ne_of h hd (by intro z; cases z))))
  · exact .inl (.inr ⟨o, k _ _ h (ne_of h hd (by intro z; cases z))⟩)
  · exact .inr h
theorem Keep.lst {d : Addr} {kvs : List (Key × V)} {H H' : Hp} {a : Addr} {xs : List V} (k : Keep d H H') (hd : H d = some (.dK kvs)) (h : H a = some (.lst xs)) : H' a = some (.lst xs) := k _ _ h (ne_of h hd (by intro z; cases z))
theorem Keep.tp {d : Addr} {kvs : List (Key × V)} {H H' : Hp} {a : Addr} {xs : List V} (k : Keep d H H') (hd : H d = some (.dK kvs)) (h : H a = some (.tup xs)) : H' a = some (.tup xs) := k _ _ h (ne_of h hd (by intro z; cases z))
theorem same_tup {K : PySem.W.Frag} {H H' : Hp} {a : Addr} {xs : List V} (e : Same H H') (h : SqT K H a xs) : SqT K H' a xs := by
  rcases h with (h | ⟨o, h⟩) | h
  · exact .inl (.inl (e _ _ h))
  · exact .inl (.inr ⟨o, e _ _ h⟩)
  · exact .inr h

/-! the state of the draws -/
theorem k01 : ¬ ("cells" : Str) = "at" := by decide +kernel
theorem k02 : ¬ ("cells" : Str) = "left" := by decide +kernel
theorem k03 : ¬ ("cells" : Str) = "mix" := by decide +kernel
theorem k10 : ¬ ("at" : Str) = "cells" := by decide +kernel
theorem k12 : ¬ ("at" : Str) = "left" := by decide +kernel
theorem k13 : ¬ ("at" : Str) = "mix" := by decide +kernel
theorem k20 : ¬ ("left" : Str) = "cells" := by decide +kernel
theorem k21 : ¬ ("left" : Str) = "at" := by decide +kernel
theorem k23 : ¬ ("left" : Str) = "mix" := by decide +kernel
theorem k30 : ¬ ("mix" : Str) = "cells" := by decide +kernel
theorem k31 : ¬ ("mix" : Str) = "at" := by decide +kernel
theorem k32 : ¬ ("mix" : Str) = "left" := by decide +kernel
theorem kr {a b : Str} (h : ¬ a = b) : ¬ (Sum.inr a : Key) = Sum.inr b := fun z => h (Sum.inr.inj z)
def stK (c : Addr) (i l m : Int) : List (Key × V) := [(.inr "cells", .ref c), (.inr "at", .int i), (.inr "left", .int l), (.inr "mix", .int m)]
theorem g_cells (c : Addr) (i l m : Int) : valV (stK c i l m) (.inr "cells") = some (.ref c) := valV_pos rfl
theorem g_at (c : Addr) (i l m : Int) : valV (stK c i l m) (.inr "at") = some (.int i) := by
  unfold stK
  rw [valV_neg (kr k01), valV_pos rfl]
theorem g_left (c : Addr) (i l m : Int) : valV (stK c i l m) (.inr "left") = some (.int l) := by
  unfold stK
  rw [valV_neg (kr k02), valV_neg (kr k12), valV_pos rfl]
theorem g_mix (c : Addr) (i l m : Int) : valV (stK c i l m) (.inr "mix") = some (.int m) := by
  unfold stK
  rw [valV_neg (kr k03), valV_neg (kr k13), valV_neg (kr k23), valV_pos rfl]
theorem put_any {kvs : List (Key × V)} {k : Key} {v y : V} (h : valV kvs k = some v) : putK kvs k y = kvs.map (fun kv => if kv.1 = k then (kv.1, y) else kv) := by
  unfold putK
  rw [valV_any, h]
  exact if_pos rfl
theorem p_at (c : Addr) (i l m j : Int) : putK (stK c i l m) (.inr "at") (.int j) = stK c j l m := by
  rw [put_any (g_at c i l m)]
  unfold stK
  simp only [List.map_cons, List.map_nil, if_neg (kr k01), if_neg (kr k21), if_neg (kr k31), if_true]
theorem p_left (c : Addr) (i l m j : Int) : putK (stK c i l m) (.inr "left") (.int j) = stK c i j m := by
  rw [put_any (g_left c i l m)]
  unfold stK
  simp only [List.map_cons, List.map_nil, if_neg (kr k02), if_neg (kr k12), if_neg (kr k32), if_true]
theorem p_mix (c : Addr) (i l m j : Int) : putK (stK c i l m) (.inr "mix") (.int j) = stK c i l j := by
  rw [put_any (g_mix c i l m)]
  unfold stK
  simp only [List.map_cons, List.map_nil, if_neg (kr k03), if_neg (kr k13), if_neg (kr k23), if_true]
theorem merge_st (c : Addr) (i l m : Int) : mergeK [] (stK c i l m) = stK c i l m := by
  have e0 : putK ([] : List (Key × V)) (.inr "cells" : Key) (.ref c) = [((.inr "cells" : Key), V.ref c)] := rfl
  have e1 : putK [((.inr "cells" : Key), V.ref c)] (.inr "at" : Key) (.int i) = [((.inr "cells" : Key), V.ref c), (.inr "at", .int i)] := by
    rw [putK_new _ (by rw [valV_neg (kr k01)]; rfl)]
    all_goals rfl
  have e2 : putK [((.inr "cells" : Key), V.ref c), (.inr "at", .int i)] (.inr "left") (.int l) = [((.inr "cells" : Key), V.ref c), (.inr "at", .int i), (.inr "left", .int l)] := by
    rw [putK_new _ (by rw [valV_neg (kr k02), valV_neg (kr k12)]; rfl)]
    all_goals rfl
  have e3 : putK [((.inr "cells" : Key), V.ref c), (.inr "at", .int i), (.inr "left", .int l)] (.inr "mix") (.int m) = stK c i l m := by
    rw [putK_new _ (by rw [valV_neg (kr k03), valV_neg (kr k13), valV_neg (kr k23)]; rfl)]
    all_goals rfl
  show putK (putK (putK (putK ([] : List (Key × V)) (.inr "cells" : Key) (.ref c)) (.inr "at" : Key) (.int i)) (.inr "left" : Key) (.int l)) (.inr "mix" : Key) (.int m) = stK c i l m
  rw [e0, e1, e2, e3]
/-- the dict of the draws stands at d -/
structure StAt (K : PySem.W.Frag) (H : Hp) (d : Addr) (c : Addr) (ns : List Int) (i l m : Int) : Prop where
  dc : H d = some (.dK (stK c i l m))
  cs : H c = some (.lst (ns.map V.int))
  nn : ∀ x ∈ ns, 0 ≤ x
  i0 : 0 ≤ i
  l0 : 0 ≤ l
  m0 : 0 ≤ m
  m1 : m < 2147483648
def St1 (K : PySem.W.Frag) (H : Hp) (d c : Addr) : Prop := ∃ ns i l m, StAt K H d c ns i l m
theorem St1.dk {K : PySem.W.Frag} {H : Hp} {d c : Addr} (S : St1 K H d c) : ∃ kvs, H d = some (.dK kvs) := let ⟨_, _, _, _, S⟩ := S; ⟨_, S.dc⟩
theorem St1.cl {K : PySem.W.Frag} {H : Hp} {d c : Addr} (S : St1 K H d c) : ∃ xs, H c = some (.lst xs) := let ⟨_, _, _, _, S⟩ := S; ⟨_, S.cs⟩
/-- the state stands on where both its objects stand -/
theorem St1.of {K : PySem.W.Frag} {H H' : Hp} {d c : Addr} (S : St1 K H d c) (e1 : H' d = H d) (e2 : H' c = H c) : St1 K H' d c := by
  obtain ⟨ns, i, l, m, S⟩ := S
  exact ⟨ns, i, l, m, e1.trans S.dc, e2.trans S.cs, S.nn, S.i0, S.l0, S.m0, S.m1⟩
theorem St1.same {K : PySem.W.Frag} {H H' : Hp} {d c : Addr} (S : St1 K H d c) (e : Same H H') : St1 K H' d c := by
  obtain ⟨ns, i, l, m, S⟩ := S
  exact ⟨ns, i, l, m, e _ _ S.dc, e _ _ S.cs, S.nn, S.i0, S.l0, S.m0, S.m1⟩
theorem St1.new {K : PySem.W.Frag} {H : Hp} {d c a : Addr} {o : HO} (S : St1 K H d c) (h : H a = none) : St1 K (upd H a o) d c := S.same (same_new h)
theorem St1.nd {K : PySem.W.Frag} {H : Hp} {d c a : Addr} (S : St1 K H d c) (h : H a = none) : a ≠ d := let ⟨_, e⟩ := S.dk; (ne_of_none e h).symm
theorem St1.nc {K : PySem.W.Frag} {H : Hp} {d c a : Addr} (S : St1 K H d c) (h : H a = none) : a ≠ c := let ⟨_, e⟩ := S.cl; (ne_of_none e h).symm
theorem St1.put {K : PySem.W.Frag} {H : Hp} {d c a : Addr} {o : HO} (S : St1 K H d c) (h1 : a ≠ d) (h2 : a ≠ c) : St1 K (upd H a o) d c := S.of (upd_ne h1.symm) (upd_ne h2.symm)
theorem StAt.put {K : PySem.W.Frag} {H : Hp} {d c : Addr} {ns : List Int} {i l m i' l' m' : Int} (S : StAt K H d c ns i l m) (h0 : 0 ≤ i') (h1 : 0 ≤ l') (h2 : 0 ≤ m') (h3 : m' < 2147483648) :
    StAt K (upd H d (.dK (stK c i' l' m'))) d c ns i' l' m' := ⟨upd_same, (Keep.upd d H _).lst S.dc S.cs, S.nn, h0, h1, h2, h3⟩
section
variable {H : Hp} {d c : Addr} {i l m j : Int}
theorem dg_cells (h : H d = some (.dK (stK c i l m))) : DGet H d (.str "cells") (some (.ref c)) := g_cells c i l m ▸ DGet.k (k := .inr "cells") h
theorem dg_at (h : H d = some (.dK (stK c i l m))) : DGet H d (.str "at") (some (.int i)) := g_at c i l m ▸ DGet.k (k := .inr "at") h
theorem dg_left (h : H d = some (.dK (stK c i l m))) : DGet H d (.str "left") (some (.int l)) := g_left c i l m ▸ DGet.k (k := .inr "left") h
theorem dg_mix (h : H d = some (.dK (stK c i l m))) : DGet H d (.str "mix") (some (.int m)) := g_mix c i l m ▸ DGet.k (k := .inr "mix") h
theorem st_few : (stK c i l m).length < sizeLine := Nat.lt_of_le_of_lt (show 4 ≤ 1000 by decide) (by decide)
theorem dp_at (h : H d = some (.dK (stK c i l m))) : DPut H d (.str "at") (.int j) (upd H d (.dK (stK c j l m))) := p_at c i l m j ▸ DPut.k (k := .inr "at") h st_few
theorem dp_left (h : H d = some (.dK (stK c i l m))) : DPut H d (.str "left") (.int j) (upd H d (.dK (stK c i j m))) := p_left c i l m j ▸ DPut.k (k := .inr "left") h st_few
theorem dp_mix (h : H d = some (.dK (stK c i l m))) : DPut H d (.str "mix") (.int j) (upd H d (.dK (stK c i l j))) := p_mix c i l m j ▸ DPut.k (k := .inr "mix") h st_few
end
/-! what follows is shown once, for both ways of an if ahead of it -/
theorem cut {t u : TS} {D : Ends} {σ : L2.St} {H : Hp} (I : L2.St → Hp → Prop) (h2 : ∀ σ' H', I σ' H' → u D σ' H') (h1 : (∀ σ' H', I σ' H' → u D σ' H') → t { D with nx := u D } σ H) : tSeq t u D σ H := h1 h2

/-! the promises of the draws -/
/-- the bound's bound -/
def big : Int := 10000000000000000000000000000000000000000000000000000000000000000000000
def spStart (K : PySem.W.Frag) : Sp := fun vs H Q _ => ∃ (a : Addr) (ns : List Int), vs = [.ref a] ∧ SqL K H a (ns.map V.int) ∧ ns.length ≤ 63 ∧ ∀ d c H', H d = none → H c = none → St1 K H' d c → Same H H' → Q (.ref d) H'
def spDraw (K : PySem.W.Frag) : Sp := fun vs H Q _ => ∃ (d c : Addr) (b : Int), vs = [.ref d, .int b] ∧ St1 K H d c ∧ 0 < b ∧ b ≤ 10000000000000000000000000000000000000000000000000000000000000000000000 ∧
  ∀ n H', 0 ≤ n → n < b → St1 K H' d c → Keep d H H' → Q (.int n) H'
def spPick (K : PySem.W.Frag) : Sp := fun vs H Q _ => ∃ (d c l : Addr) (xs : List V), vs = [.ref d, .ref l] ∧ St1 K H d c ∧ SqL K H l xs ∧ xs ≠ [] ∧ xs.length ≤ 1000 ∧
  ∀ v H', v ∈ xs → St1 K H' d c → Keep d H H' → Q v H'
/-- a value's kind -/
def isInt : V → Bool | .int _ => true | _ => false
def isBl : V → Bool | .bl _ => true | _ => false
def spIsNum : Sp := fun vs H Q _ => ∃ n : Int, vs = [.int n] ∧ Q (.bl true) H
theorem log_of {b : Int} (h0 : 0 < b) (h1 : b ≤ 10000000000000000000000000000000000000000000000000000000000000000000000) : CDivW l b := wide_div (b := 300) h0 (by
  have : (b.natAbs : Int) = b := by omega
  have e : (2 : Nat) ^ 300 = 2037035976334486086268445688409378161051468393665936250636140449354381299763336706183397376 := by decide +kernel
  rw [e]
  omega) (by decide) (by decide)
/-! tests whose answer is known -/
theorem ifN {c A B : Prop} [Decidable c] (h : ¬ c) (q : B) : if decide c = true then A else B := by
  rw [decide_eq_false h]
  exact iteF q
theorem ifY {c A B : Prop} [Decidable c] (h : c) (q : A) : if decide c = true then A else B := by
  rw [decide_eq_true h]
  exact iteT q
theorem wm {i j : Int} (hi : i.natAbs < 2 ^ 250) (hj : j.natAbs < 2 ^ 250) : CMulW i j := wide_mul hi hj (by decide) (by decide) (by decide)
theorem ltge (a b : Int) : a < b ∨ b ≤ a := by omega
theorem nm {i : Nat} {x : V} {σ : L2.St} {H : Hp} {k : L2.St → Hp → Prop} (h : k (σ.set i (some x)) H) : gName i x σ H k := h
/-! math.isqrt -/
def rIsqrt : List V → Hp → VK → Prop := fun vs H Q => ∃ n : Int, vs = [.int n] ∧ 0 ≤ n ∧ n.natAbs < 2 ^ 250 ∧ ∀ r : Int, 0 ≤ r → r * r ≤ n → n < (r + 1) * (r + 1) → Q (.int r) H
theorem cr_isqrt {X : Cx} : CallR X (.builtin "math.isqrt") rIsqrt := by
  intro pins s σ H vs us Q I r h
  obtain ⟨a, rfl, h0, h1, q⟩ := h
  obtain ⟨u, rfl, t, rfl⟩ := vals1 r
  have hl : a.toNat.log2 < 250 := by
    have e : a.toNat = a.natAbs := by omega
    rw [e]
    exact PySem.Flt.log2_lt_of (by decide) h1
  obtain ⟨z1, z2⟩ := PySem.Float64.isqrt_spec a.toNat
  refine call_function_meets PySem.W.MGF.kind_isqrt PySem.W.MGF.plain_isqrt PySem.W.MGF.entry_isqrt (PySem.W.MGF.args_isqrt _) (PySem.W.mg_run_isqrt a t (by omega) (by omega) (by omega)).meets ?_
  refine ⟨.int ((Float64.isqrt a.toNat : Nat) : Int), H, I.tok _, ⟨_, rfl⟩, q _ (Int.natCast_nonneg _) ?_ ?_⟩
  · have := Int.ofNat_le.mpr z1
    rw [Int.natCast_mul] at this
    omega
  · have := Int.ofNat_lt.mpr z2
    rw [Int.natCast_mul, Int.natCast_add] at this
    have e : ((a.toNat : Nat) : Int) = a := by omega
    rw [e] at this
    exact this
theorem szOk {xs : List V} (h : Nat.ble xs.length 1000 = true) : xs.length ≤ sizeLine := Nat.le_trans (Nat.le_of_ble_eq_true h) (by decide)
theorem eqN {a b : Int} {A B : Prop} (h : a ≠ b) (q : B) : if decide (V.int a = V.int b) = true then A else B := ifN (fun z => h (V.int.inj z)) q
theorem eqY {a b : Int} {A B : Prop} (h : a = b) (q : A) : if decide (V.int a = V.int b) = true then A else B := ifY (congrArg V.int h) q
theorem neN {a b : Int} {A B : Prop} (h : a = b) (q : B) : if (!decide (V.int a = V.int b)) = true then A else B := iteNS (congrArg V.int h) q
/-! tracked things behind a call that changes the state alone -/
section
variable {K : PySem.W.Frag} {d c : Addr} {H H' : Hp}
theorem Keep.l (k : Keep d H H') (S : St1 K H d c) {a : Addr} {xs : List V} (h : H a = some (.lst xs)) : H' a = some (.lst xs) := let ⟨_, e⟩ := S.dk; k.lst e h
theorem Keep.t (k : Keep d H H') (S : St1 K H d c) {a : Addr} {xs : List V} (h : H a = some (.tup xs)) : H' a = some (.tup xs) := let ⟨_, e⟩ := S.dk; k.tp e h
theorem Keep.sl (k : Keep d H H') (S : St1 K H d c) {a : Addr} {xs : List V} (h : SqL K H a xs) : SqL K H' a xs := let ⟨_, e⟩ := S.dk; k.seq e h
theorem Keep.st (k : Keep d H H') (S : St1 K H d c) {a : Addr} {xs : List V} (h : SqT K H a xs) : SqT K H' a xs := let ⟨_, e⟩ := S.dk; k.tup e h
end
theorem sq0 (x : Int) : 0 ≤ x * x := by
  rcases ltge x 0 with z | z
  · have := Int.mul_nonneg (show 0 ≤ -x by omega) (show 0 ≤ -x by omega)
    rw [Int.neg_mul_neg] at this
    exact this
  · exact Int.mul_nonneg z z
theorem atI0 {α : Type} {xs : List α} {j : Nat} {v : α} (h : xs[j]? = some v) : atI xs (0 + (j : Int)) = some v := by
  rw [Int.zero_add]
  exact atI_nat h
theorem atI_back {α : Type} {xs : List α} {v : α} (h : xs.getLast? = some v) : atI xs (-1) = some v := by
  obtain ⟨ys, rfl⟩ := List.getLast?_eq_some_iff.mp h
  exact atI_last ys v
theorem eqvN {d : PyData} {A B : Prop} (h : d.canLay0 = true) (q : B) : if (!PyData.eqv d d) = true then A else B := by
  rw [SeqAt.eqv_refl d h]
  exact q
theorem getInt {ns : List Int} {i : Nat} {y : V} (h : (ns.map V.int)[i]? = some y) : ∃ x, y = .int x ∧ x ∈ ns ∧ i < ns.length ∧ ns.take (i + 1) = ns.take i ++ [x] := by
  rw [List.getElem?_map] at h
  cases e : ns[i]? with
  | none => rw [e] at h; cases h
  | some x =>
    rw [e] at h
    exact ⟨x, (Option.some.inj h).symm, List.mem_of_getElem? e, (List.getElem?_eq_some_iff.mp e).1, by rw [List.take_add_one, e]; rfl⟩
/-- the built-in names that the text has not bound -/
structure Txt0 (mg : Str → Option Value) : Prop where
  abs : mg "abs" = none
  int : mg "int" = none
  len : mg "len" = none
  bool : mg "bool" = none
  isinstance : mg "isinstance" = none
structure TxtA (mg : Str → Option Value) : Prop extends Txt0 mg where
  max : mg "max" = none
  min : mg "min" = none
  range : mg "range" = none
  tuple : mg "tuple" = none
  list : mg "list" = none
  sum : mg "sum" = none
  any : mg "any" = none
  all : mg "all" = none
  sorted : mg "sorted" = none
  dict : mg "dict" = none
  enumerate : mg "enumerate" = none
theorem getMap {α : Type} {f : α → V} {ns : List α} {i : Nat} {y : V} (h : (ns.map f)[i]? = some y) : ∃ x, y = f x ∧ x ∈ ns ∧ i < ns.length ∧ ns.take (i + 1) = ns.take i ++ [x] := by
  rw [List.getElem?_map] at h
  cases e : ns[i]? with
  | none => rw [e] at h; cases h
  | some x =>
    rw [e] at h
    exact ⟨x, (Option.some.inj h).symm, List.mem_of_getElem? e, (List.getElem?_eq_some_iff.mp e).1, by rw [List.take_add_one, e]; rfl⟩
theorem sq_le {x b : Int} (h0 : -b ≤ x) (h1 : x ≤ b) : x * x ≤ b * b := by
  rcases ltge x 0 with z | z
  · have := Int.mul_le_mul (show -x ≤ b by omega) (show -x ≤ b by omega) (show 0 ≤ -x by omega) (show 0 ≤ b by omega)
    rw [Int.neg_mul_neg] at this
    exact this
  · exact Int.mul_le_mul h1 h1 z (by omega)
/-- 2 ^ (24 - i) -/
def pw (i : Nat) : Int := (2 ^ (24 - i) : Nat)
theorem pw_step {i : Nat} (h : i < 24) : pw i = 2 * pw (i + 1) := by
  unfold pw
  rw [show 24 - i = (24 - (i + 1)) + 1 by omega, Nat.pow_succ]
  omega
theorem mapAt {α : Type} {f : α → V} {ns : List α} {i : Nat} (h : i < ns.length) : (ns.map f)[i]? = some (f ns[i]) := by simp [h]
theorem at_mod {α : Type} {f : α → V} {ns : List α} {z m : Int} (hm : m = (ns.length : Int)) (h : 0 < ns.length) : ∃ x, x ∈ ns ∧ atI (ns.map f) (z % m) = some (f x) := by
  obtain ⟨j, hj⟩ : ∃ j : Nat, z % m = (j : Int) := ⟨(z % m).toNat, by have := Int.emod_nonneg z (show m ≠ 0 by omega); omega⟩
  have hj2 : j < ns.length := by have := Int.emod_lt_of_pos z (show 0 < m by omega); omega
  exact ⟨ns[j], List.getElem_mem hj2, by rw [hj]; exact atI_nat (mapAt hj2)⟩
/-- all that stood, but at d -/
theorem Keep.none {d a : Addr} {H H' : Hp} (k : Keep d H H') (n : a ≠ d) (h : H' a = none) : H a = none := by
  cases e : H a with
  | none => rfl
  | some o => rw [k _ _ e n] at h; cases h
theorem atI_lastn {α : Type} {xs : List α} {v : α} {m : Int} (hm : m = (xs.length : Int) - 1) (h : xs.getLast? = some v) : atI xs m = some v := by
  obtain ⟨ys, rfl⟩ := List.getLast?_eq_some_iff.mp h
  rw [hm, List.length_append, List.length_singleton]
  have e : ((ys.length + 1 : Nat) : Int) - 1 = ((ys.length : Nat) : Int) := by omega
  rw [e]
  exact atI_nat (by simp)
theorem sq_swap (a b : Int) : (a - b) * (a - b) = (b - a) * (b - a) := by
  have e : a - b = -(b - a) := by omega
  rw [e, Int.neg_mul_neg]
def rLenK (K : PySem.W.Frag) : List V → Hp → VK → Prop := fun xs H Q => ∃ p ys, xs = [V.ref p] ∧ (SqL K H p ys ∨ SqT K H p ys) ∧ Q (.int ys.length) H
end Sk

set_option Elab.async false
set_option linter.all false
set_option maxRecDepth 100000
set_option maxHeartbeats 4000000
namespace Sk
open PySem PySem.Spec PyProof.Rows L2
/-! for order in permutations(range(n)) -/
section
variable {P : Program} {w : World} {A : Around} {E : Value → Shared → Prop} {s : Shared} {it T r : Addr} {b : Int} {n : Nat} {last : Value} {nums : List Nat} {items : List Value} {t u v : Tok}
theorem pm_ty {h : Heap} (hit : h.get? it = some (pmO T b n last nums)) : Shared.TypeIs { s with heap := h } (.ref it) "itertools.permutations" := ⟨_, hit, rfl⟩
theorem pm_self {Q : Value → Shared → Prop} (hit : s.heap.get? it = some (pmO T b n last nums)) (h : Q (.ref it) s) : wpAny (model P w) A (pyIter (.ref it)) Q E s := by
  have hT : s.TypeIs (.ref it) "itertools.permutations" := ⟨_, hit, rfl⟩
  refine wpAny_pyIter_slot hT pmIter ?_
  refine wpAny_call_entry pmIter hT pmEI ?_ (pmAI _)
  show wpAny _ _ (ret (.ref it)) _ _ s
  exact wpAny_pure ⟨_, rfl, "itertools.permutations", _, hT, pmNext.lookup, h⟩
theorem pm_item1 {Q : Option Value → Shared → Prop} (hit : s.heap.get? it = some (pmO T 0 n last nums)) (hT : s.heap.get? T = some (tupO items)) (hn : items.length = n) (hl : nums.length ≤ 100)
    (hQ : ∀ h', h'.get? it = some (pmO T 1 n (.ref s.heap.objs.size) nums) → h'.get? s.heap.objs.size = some (tupO ((nums.take n).map fun i => items.getD i .none)) → (∀ c o, c ≠ it → s.heap.get? c = some o → h'.get? c = some o) → Q (some (.ref s.heap.objs.size)) { s with heap := h' }) :
    wpAny (model P w) A (pyNext (.ref it)) Q E s := by
  have ty : s.TypeIs (.ref it) "itertools.permutations" := ⟨_, hit, rfl⟩
  unfold pyNext
  refine wpAny_bind (wpAny_attempt ?_)
  refine wpAny_callSpecial?_slot (name := Str.ofString "__next__") ty pmNext ?_
  refine wpAny_call_entry pmNext ty pmEX ?_ (pmAX _)
  exact pm_first hit hT hn hl fun h' a1 a2 a3 => ⟨_, rfl, wpAny_pure (hQ h' a1 a2 a3)⟩
theorem pm_item2 {Q : Option Value → Shared → Prop} (hit : s.heap.get? it = some (pmO T 1 n last nums)) (hT : s.heap.get? T = some (tupO items)) (hn : items.length = n) {a c : List Nat} (hx : nextP n n (nums.take n) (nums.drop n) = some (a, c)) (hl : a.length + c.length ≤ 100)
    (hQ : ∀ h', h'.get? it = some (pmO T 1 n (.ref s.heap.objs.size) (a ++ c)) → h'.get? s.heap.objs.size = some (tupO ((a.take n).map fun i => items.getD i .none)) → (∀ c o, c ≠ it → s.heap.get? c = some o → h'.get? c = some o) → Q (some (.ref s.heap.objs.size)) { s with heap := h' }) :
    wpAny (model P w) A (pyNext (.ref it)) Q E s := by
  have ty : s.TypeIs (.ref it) "itertools.permutations" := ⟨_, hit, rfl⟩
  unfold pyNext
  refine wpAny_bind (wpAny_attempt ?_)
  refine wpAny_callSpecial?_slot (name := Str.ofString "__next__") ty pmNext ?_
  refine wpAny_call_entry pmNext ty pmEX ?_ (pmAX _)
  exact pm_next hit hT hn hx hl fun h' a1 a2 a3 => ⟨_, rfl, wpAny_pure (hQ h' a1 a2 a3)⟩
theorem pm_done {Q : Option Value → Shared → Prop} (hh : A.handled = none) (hit : s.heap.get? it = some (pmO T 1 n last nums)) (hT : s.heap.get? T = some (tupO items)) (hn : items.length = n) (hx : nextP n n (nums.take n) (nums.drop n) = none)
    (hQ : ∀ h', (∀ c o, c ≠ it → s.heap.get? c = some o → h'.get? c = some o) → Q none { s with heap := h' }) : wpAny (model P w) A (pyNext (.ref it)) Q E s := by
  have ty : s.TypeIs (.ref it) "itertools.permutations" := ⟨_, hit, rfl⟩
  unfold pyNext
  refine wpAny_bind (wpAny_attempt ?_)
  refine wpAny_callSpecial?_slot (name := Str.ofString "__next__") ty pmNext ?_
  refine wpAny_call_entry pmNext ty pmEX ?_ (pmAX _)
  refine pm_end (by simp [hh]) hit hT hn hx fun h' e k he => ?_
  obtain ⟨o, ho, hc⟩ := he
  refine wpAny_bind (wpAny_isInstance (T := "StopIteration") (b := true) ⟨o, ho, hc⟩ isSubtype_stop ?_)
  exact wpAny_pure (hQ _ k)
theorem pm_make {a b : Int} {Q : Value → Shared → Prop} (hh : A.handled = none) (hr : IsRange s.heap r a b 1 t u v) (hs : Builtin.Range.small a b 1 = true) (hn : Builtin.Range.rangeSize a b 1 = n) (hz : n ≤ 100)
    (h : ∀ (h' : Heap) (tk : Nat) (acc : Array Value), (∀ b o, s.heap.get? b = some o → h'.get? b = some o) → ItemsOf (fun i v => ∃ t, v = .int (a + i * 1) t) acc n →
      Q (.ref (h'.objs.size + 1)) { s with heap := (h'.push (tupO acc.toList)).push (pmO h'.objs.size 0 n .none (nums0 n)), toks := tk }) :
    wpAny (model P w) A (call (.type "itertools.permutations") [.ref r]) Q E s := by
  refine callType_codes (Q₁ := fun obj s₁ => s₁.TypeIs obj "itertools.permutations" ∧ Q obj s₁) pmCalled (pmTC _) F.entry_object_init ?_ fun obj s₁ h₁ => ?_
  · refine pm_code (A := A.in1) (by simp [hh]) hr hs hn hz fun h' tk acc hk hacc => ⟨⟨pmO h'.objs.size 0 n .none (nums0 n), ?_, rfl⟩, h h' tk acc hk hacc⟩
    rw [← Heap.size_push h' (tupO acc.toList)]
    exact Heap.get?_push_size _ rfl
  · exact ⟨h₁.1, F.args_object_init_2 obj _, object_init_meets pmCalled.init.lookup pmCalled.made (by decide) P w A.in1 _ s₁ ⟨h₁.1, rfl, h₁.2⟩⟩
end
/-- the orders, one by one, in new tuples -/
def Itp (n : Nat) : It := ⟨fun i _ => i < (ords n).length, fun i H x H' => ∃ q o, x = .ref q ∧ H q = none ∧ (ords n)[i]? = some o ∧ H' = upd H q (.tup (o.map fun (j : Nat) => V.int (j : Int))), fun i _ => i = (ords n).length⟩
theorem stP0 (n : Nat) : (stP n)[0]? = some (List.range n, (List.range n).map fun i => n - i) := rfl
theorem vals_pick {n : Nat} {acc : List Value} (hl : acc.length = n) (hv : ∀ j, j < n → ∃ t, acc.getD j .none = .int (j : Int) t) : ∀ o : List Nat, (∀ j ∈ o, j < n) → Vals (o.map fun (j : Nat) => V.int (j : Int)) (o.map fun i => acc.getD i .none)
  | [], _ => .nil
  | j :: o, h => .cons (hv j (h j List.mem_cons_self)) (vals_pick hl hv o fun k m => h k (List.mem_cons_of_mem _ m))
theorem turn_perm {P : Program} {w : World} {K : PySem.W.Frag} {tg : Expr} {n : Nat} (h6 : n ≤ 6) {it T : Addr} (nT : T ≠ it) {acc : List Value} (hl : acc.length = n) (hv : ∀ j, j < n → ∃ t, acc.getD j .none = .int (j : Int) t) :
    Turn P w K tg (Itp n) [it, T] it (fun i h => h.get? T = some (tupO acc) ∧ ∃ last, (i = 0 ∧ h.get? it = some (pmO T 0 n last (nums0 n))) ∨ ∃ x, 1 ≤ i ∧ (stP n)[i - 1]? = some x ∧ h.get? it = some (pmO T 1 n last (x.1 ++ x.2))) where
  mem := List.mem_cons_self
  obj := fun i h st c hc => by
    obtain ⟨hT, last, st⟩ := st
    rcases List.mem_cons.mp hc with e | e
    · rw [e]
      rcases st with ⟨_, h1⟩ | ⟨x, _, _, h1⟩
      · exact ⟨_, h1, fun v q => nomatch q⟩
      · exact ⟨_, h1, fun v q => nomatch q⟩
    · rw [List.mem_singleton.mp e]
      exact ⟨_, hT, fun v q => nomatch q⟩
  keep := fun i h h' st k => by
    obtain ⟨hT, last, st⟩ := st
    refine ⟨k T (by simp) _ hT, last, ?_⟩
    rcases st with ⟨e, h1⟩ | ⟨x, e1, e2, h1⟩
    · exact .inl ⟨e, k it (by simp) _ h1⟩
    · exact .inr ⟨x, e1, e2, k it (by simp) _ h1⟩
  item := by
    intro X hP hw hK hc i pins s σ H E I hf st hg
    subst hP hw hK
    obtain ⟨e1, e2, e3⟩ := stP_ords n h6
    have ol : (ords n).length = (stP n).length := by rw [← e1, List.length_map]
    have hg : i < (ords n).length := hg
    obtain ⟨hT, last, st⟩ := st
    have al := List.all_eq_true.mp e3
    have each : ∀ y, (stP n)[i]? = some y → y.1.length = n ∧ y.2.length = n ∧ (∀ j ∈ y.1, j < n) ∧ (ords n)[i]? = some y.1 := fun y hy => by
      have := al y (List.mem_of_getElem? hy)
      simp only [Bool.and_eq_true, beq_iff_eq, List.all_eq_true, decide_eq_true_eq] at this
      exact ⟨this.1.1, this.1.2, this.2, by rw [← e1, List.getElem?_map, hy]; rfl⟩
    have hy : (stP n)[i]? = some (stP n)[i] := List.getElem?_eq_getElem (by omega)
    generalize (stP n)[i] = y at hy
    obtain ⟨l1, l2, lt, oy⟩ := each y hy
    have til : y.1.take n = y.1 := List.take_of_length_le (by omega)
    have key : ∀ h', h'.get? it = some (pmO T 1 n (.ref s.heap.objs.size) (y.1 ++ y.2)) → h'.get? s.heap.objs.size = some (tupO (y.1.map fun i => acc.getD i .none)) → (∀ c o, c ≠ it → s.heap.get? c = some o → h'.get? c = some o) →
        ∃ u, some (Value.ref s.heap.objs.size) = some u ∧ wpAny (model X.prog X.w) X.A (letOwnedTupleGo tg (.ref it) u) (fun _ s2 => ∃ x H', Inv X pins σ H' s2 ∧ RelV x u ∧ (Itp n).yld i H x H' ∧ ((s2.heap.get? T = some (tupO acc) ∧ ∃ last, (i + 1 = 0 ∧ s2.heap.get? it = some (pmO T 0 n last (nums0 n))) ∨ ∃ x, 1 ≤ i + 1 ∧ (stP n)[i + 1 - 1]? = some x ∧ s2.heap.get? it = some (pmO T 1 n last (x.1 ++ x.2)))) ∧ ∀ b ∈ [it, T], H' b = none) E { s with heap := h' } := fun h' g1 g2 k => by
      have hn : H s.heap.objs.size = none := I.hok.fresh (Nat.le_refl _)
      have new : ObjOk X.prog X.w (upd H s.heap.objs.size (.tup (y.1.map fun (j : Nat) => V.int (j : Int)))) h' s.heap.objs.size (.tup (y.1.map fun (j : Nat) => V.int (j : Int))) :=
        ⟨by rw [List.length_map, sizeLine_eq]; omega, _, vals_pick hl hv y.1 lt, ⟨_, g2, rfl, _, rfl⟩⟩
      have I1 : Inv X pins σ (upd H s.heap.objs.size (.tup (y.1.map fun (j : Nat) => V.int (j : Int)))) { s with heap := h' } :=
        I.turnedNew (t' := s.toks) (ch := [it, T]) (fun c o hb q => k c o (fun z => hb (by simp [z])) q) hf (Nat.le_refl _) new
      refine ⟨_, rfl, go_of (s := { s with heap := h' }) g1 rfl rfl (by decide) ⟨.ref s.heap.objs.size, _, I1, rfl, ⟨_, y.1, rfl, hn, oy, rfl⟩, ⟨k T _ nT hT, _, .inr ⟨y, by omega, by rw [Nat.add_sub_cancel]; exact hy, g1⟩⟩, fun c hcm => ?_⟩⟩
      have hlt : c < s.heap.objs.size := by
        rcases List.mem_cons.mp hcm with e | e
        · rw [e]
          rcases st with ⟨_, h1⟩ | ⟨x, _, _, h1⟩
          · exact Heap.lt_size h1
          · exact Heap.lt_size h1
        · rw [List.mem_singleton.mp e]
          exact Heap.lt_size hT
      rw [upd_ne (Nat.ne_of_lt hlt)]
      exact (hf c hcm).1
    rcases st with ⟨e, h1⟩ | ⟨x, e0, e4, h1⟩
    · subst e
      obtain rfl := Option.some.inj ((stP0 n).symm.trans hy)
      have tn : (nums0 n).take n = List.range n := by
        unfold nums0
        rw [List.take_append_of_le_length (by rw [List.length_range]; exact Nat.le_refl _)]
        exact til
      refine pm_item1 h1 hT hl (by unfold nums0; rw [List.length_append, List.length_map, List.length_range]; omega) fun h' g1 g2 k => key h' g1 ?_ k
      rw [tn] at g2
      exact g2
    · have sq := seqP_at (n := n) (f := 721) (x := (List.range n, (List.range n).map fun i => n - i)) (i := i - 1) (y := x) e4
      have nx : nextP n n x.1 x.2 = some y := sq.1 y (by rw [show i - 1 + 1 = i by omega]; exact hy)
      have xl := al x (List.mem_of_getElem? e4)
      simp only [Bool.and_eq_true, beq_iff_eq] at xl
      have t1 : (x.1 ++ x.2).take n = x.1 := by rw [List.take_append_of_le_length (by omega)]; exact List.take_of_length_le (by omega)
      have t2 : (x.1 ++ x.2).drop n = x.2 := by rw [← xl.1.1]; exact List.drop_left
      refine pm_item2 h1 hT hl (a := y.1) (c := y.2) (by rw [t1, t2]; exact nx) (by omega) fun h' g1 g2 k => key h' g1 ?_ k
      rw [til] at g2
      exact g2
  done := by
    intro X hP hw hK hc i pins s σ H E I hf st hg
    subst hP hw hK
    obtain ⟨e1, e2, e3⟩ := stP_ords n h6
    have ol : (ords n).length = (stP n).length := by rw [← e1, List.length_map]
    have hg : i = (ords n).length := hg
    obtain ⟨hT, last, st⟩ := st
    have al := List.all_eq_true.mp e3
    have lp : 0 < (stP n).length := (List.getElem?_eq_some_iff.mp (stP0 n)).1
    rcases st with ⟨e, h1⟩ | ⟨x, e0, e4, h1⟩
    · omega
    have sq := seqP_at (n := n) (f := 721) (x := (List.range n, (List.range n).map fun i => n - i)) (i := i - 1) (y := x) e4
    have nx : nextP n n x.1 x.2 = none := sq.2 (show (stP n).length = i - 1 + 1 by omega) (by omega)
    have xl := al x (List.mem_of_getElem? e4)
    simp only [Bool.and_eq_true, beq_iff_eq] at xl
    have t1 : (x.1 ++ x.2).take n = x.1 := by rw [List.take_append_of_le_length (by omega)]; exact List.take_of_length_le (by omega)
    have t2 : (x.1 ++ x.2).drop n = x.2 := by rw [← xl.1.1]; exact List.drop_left
    exact pm_done (I.ok.hd hc) h1 hT hl (by rw [t1, t2]; exact nx) fun h' k => ⟨rfl, I.turnedL (t' := s.toks) (ch := [it, T]) (fun c o hb q => k c o (fun z => hb (by simp [z])) q) hf⟩
  self := fun A i s Q E st h => by
    obtain ⟨_, last, st⟩ := st
    rcases st with ⟨_, h1⟩ | ⟨x, _, _, h1⟩
    · exact pm_self h1 h
    · exact pm_self h1 h
def iPerm (te : L2.St → Hp → (Int → Int → Hp → Prop) → Prop) : TI := fun σ H R => te σ H fun a b H1 => ∃ n : Nat, a = 0 ∧ b = (n : Int) ∧ n ≤ 6 ∧ R (Itp n) H1
theorem pi_perm {X : Cx} {tg e : Expr} {te : L2.St → Hp → (Int → Int → Hp → Prop) → Prop} {x : Str} {p pos : Pos} (hc : X.calm = true) (hg : Gl X x) (hm : X.mg x = some (.type "itertools.permutations")) (he : PRg X e te)
    (hdb : (x == ("__debug__" : Str)) = false := by decide) (na : starEach [e] X.env = (false, eval e X.env) :: starEach [] X.env := by rfl) : PI X tg (.Call (.Name x p) [e] [] pos) (iPerm te) := by
  refine ⟨fun pins s σ H R I h => ?_⟩
  refine Call_ (ld_glob I hg hm ?_ hdb)
  refine PyProof.Rows.callWith_type1 (args_cons (thn (he pins s σ H _ I h) fun x s1 ⟨r, a, b, t, u, v, H1, ex, hr, I1, q⟩ => args_nil ?_) na) na
  subst ex
  obtain ⟨n, rfl, rfl, h6, q⟩ := q
  refine pm_make (n := n) (I1.ok.hd hc) hr (small_one (by omega) (by omega) (by omega) (by omega)) (by rw [rangeSize_nat]; omega) (by omega) fun h' tk acc hk hacc => ?_
  have la : acc.toList.length = n := by rw [Array.length_toList]; exact hacc.1
  have h1 : ((h'.push (tupO acc.toList)).push (pmO h'.objs.size 0 n .none (nums0 n))).get? (h'.objs.size + 1) = some (pmO h'.objs.size 0 n .none (nums0 n)) := by
    rw [← Heap.size_push h' (tupO acc.toList)]
    exact Heap.get?_push_size _ rfl
  have hT : ((h'.push (tupO acc.toList)).push (pmO h'.objs.size 0 n .none (nums0 n))).get? h'.objs.size = some (tupO acc.toList) := Heap.get?_push_of_some _ (Heap.get?_push_size _ rfl)
  refine pm_self (s := { s1 with heap := (h'.push (tupO acc.toList)).push (pmO h'.objs.size 0 n .none (nums0 n)), toks := tk }) h1 ?_
  have I2 : Inv X pins σ H1 { s1 with heap := h', toks := tk } := I1.kept hk
  have I3 : Inv X pins σ H1 { s1 with heap := (h'.push (tupO acc.toList)).push (pmO h'.objs.size 0 n .none (nums0 n)), toks := tk } := I2.kept (t' := tk) fun b o e => Heap.get?_push_of_some _ (Heap.get?_push_of_some _ e)
  refine ⟨h'.objs.size + 1, [h'.objs.size + 1, h'.objs.size], _, Itp n, H1, rfl, I3, turn_perm h6 (Nat.ne_of_lt (Nat.lt_succ_self _)) la (fun j hj => ?_), ⟨hT, _, .inl ⟨rfl, h1⟩⟩, fun c hcm => ?_, q⟩
  · have hj' : j < acc.size := by rw [hacc.1]; exact hj
    obtain ⟨t, e⟩ := hacc.2 j acc[j] (Array.getElem?_eq_getElem hj')
    refine ⟨t, ?_⟩
    rw [List.getD_eq_getElem?_getD, Array.getElem?_toList, Array.getElem?_eq_getElem hj']
    show acc[j] = _
    rw [e]
    congr 1
    omega
  · have hle : h'.objs.size ≤ c := by
      rcases List.mem_cons.mp hcm with e | e
      · rw [e]; exact Nat.le_succ _
      · rw [List.mem_singleton.mp e]; exact Nat.le_refl _
    exact I2.fpOk hle (I2.hok.fresh hle)
/-- a loop over all orders -/
theorem for_perm {n : Nat} {g : TG} {tb : TS} {D : Ends} {σ : L2.St} {H : Hp} (Pv : Nat → L2.St → Hp → Prop) (h0 : Pv 0 σ H)
    (hs : ∀ (i : Nat) (o : List Nat) (q : Addr) (σ : L2.St) (H : Hp), (ords n)[i]? = some o → Pv i σ H → H q = none → g (.ref q) σ (upd H q (.tup (o.map fun (j : Nat) => V.int (j : Int)))) fun σ2 H2 => tb { D with nx := Pv (i + 1), ct := Pv (i + 1), bk := D.nx } σ2 H2) (hd : ∀ σ H, Pv (ords n).length σ H → D.nx σ H) :
    ∃ W : Nat → Nat → L2.St → Hp → Prop, (∃ m, W 0 m σ H) ∧ ∀ i m σ H, W i m σ H →
      ((Itp n).stop i H ∧ D.nx σ H) ∨ ((Itp n).go i H ∧ ∃ N : L2.St → Hp → Prop, (∀ σ' H', N σ' H' → ∃ m', m' < m ∧ W (i + 1) m' σ' H') ∧ ∀ v H', (Itp n).yld i H v H' → g v σ H' fun σ2 H2 => tb { D with nx := N, ct := N, bk := D.nx } σ2 H2) := by
  refine ⟨fun i m σ H => m = (ords n).length - i ∧ i ≤ (ords n).length ∧ Pv i σ H, ⟨(ords n).length, rfl, Nat.zero_le _, h0⟩, ?_⟩
  rintro i m σ H ⟨rfl, hi, p⟩
  by_cases hlt : i < (ords n).length
  · refine .inr ⟨hlt, Pv (i + 1), fun σ' H' p' => ⟨(ords n).length - (i + 1), by omega, rfl, hlt, p'⟩, fun v H' y => ?_⟩
    obtain ⟨q, o, rfl, hq, ho, rfl⟩ := y
    exact hs i o q σ H ho p hq
  · obtain rfl : i = (ords n).length := by omega
    exact .inl ⟨rfl, hd σ H p⟩
end Sk

set_option Elab.async false
set_option linter.all false
set_option maxRecDepth 100000
set_option maxHeartbeats 4000000
namespace Sk
open PySem PySem.Spec PyProof.Rows L2 GenW GxR
/-! generator expressions whose elements may call own defs -/
/-! ### one run of a generator's code -/
def Run1 (M : Model) (A : Around) (Z : End → Shared → Prop) (c : Code) (t : Sem PySem.Fin) (fs : List Frame) (s : Shared) : Prop :=
  ∀ (Γ : PySem.Ctx) (p : Pos), Γ.code = c → Γ.Woken A → ∃ e s', Runs M Γ p t fs s e s' ∧ Z e s'
section
variable {M : Model} {A : Around} {Z : End → Shared → Prop} {c : Code} {fs : List Frame} {s : Shared}
theorem run1_wrap {α : Type} {m : Sem α} {K : α → Sem PySem.Fin} {J : Value → Sem PySem.Fin} {gd lv}
    (h : wpAny M (A.over c fs) m (fun a s' => Run1 M A Z c (K a) fs s') (fun x s' => Run1 M A Z c (J x) fs s') s) : Run1 M A Z c (m.wrap K J gd lv) fs s := by
  intro Γ p e w
  subst e
  exact runs_wrap_of_wp K J gd lv m (h (Γ.over fs) p (w.over fs)) (fun a p' s' q => q Γ p' rfl w) fun x p' s' q => q Γ p' rfl w
theorem run1_bind {α β : Type} {m : Sem α} {K : α → Sem β} {K' : β → Sem PySem.Fin} {J' : Value → Sem PySem.Fin} {gd lv}
    (h : wpAny M (A.over c fs) m (fun a s' => Run1 M A Z c ((K a).wrap K' J' gd lv) fs s') (fun x s' => Run1 M A Z c (J' x) fs s') s) : Run1 M A Z c ((m >>= K).wrap K' J' gd lv) fs s := by
  rw [Sem.bind_eq_wrap', Sem.wrap_wrap]
  exact run1_wrap h
theorem run1_at {p' : Pos} {k : Unit → Sem PySem.Fin} (h : Run1 M A Z c (k ()) fs s) : Run1 M A Z c (.at p' k) fs s :=
  run1_wrap (m := standAt p') (K := k) (J := .raise) (gd := id) (lv := id) (wpAny_standAt h)
theorem run1_again {c' : Code} (q : c'.quiet = true) (h : Run1 M A Z c' (M.den c') fs s) : Run1 M A Z c (.pure (.again c')) fs s := by
  intro Γ p e w
  subst e
  obtain ⟨e, s', r, z⟩ := h (Γ.goto c') p rfl (w.goto c')
  exact ⟨e, s', Runs.head (c₁ := c') (fun _ _ x => .again q x) r, z⟩
theorem run1_end (r : Result) (h : Z (.ret r) s) : Run1 M A Z c (leafOf r) [] s := by
  intro Γ p e w
  exact ⟨.ret r, s, Runs.leaf r, h⟩
theorem run1_yield {v g l} {k : Resume → Sem PySem.Fin} (hfs : splitAtGen fs = none) (h : ∀ p, Z (.susp v g l k c p fs) s) : Run1 M A Z c (.yield v g l k) fs s := by
  intro Γ p e w
  subst e
  exact ⟨_, s, Runs.yield' fs hfs, h p⟩
end
/-- a generator's state, woken by None -/
def Goes1 (M : Model) (A : Around) (Z : End → Shared → Prop) (gs : GenState) (s : Shared) : Prop :=
  match gs with
  | .fresh c => Run1 M A Z c (M.den c) [] s
  | .suspended k _ c _ fs _ => Run1 M A Z c (k (.send .none)) fs s
  | _ => False
theorem bare_of {e : End} (h : e.quiet = true) : e.genState.bare = true := End.bare_of_quiet h
theorem wp_resume1 {M : Model} {A : Around} {Z : End → Shared → Prop} {E : Value → Shared → Prop} {s : Shared} {g : Nat} {gs : GenState} {l : List Value} {α : Type} {k : GenResult → Sem α} {Q : α → Shared → Prop} (hg : s.gens[g]? = some gs)
    (go : Goes1 M A Z gs (s.setGen g .running)) (hZ : ∀ e s1, Z e s1 → s.gens.size ≤ s1.gens.size → e.quiet = true ∧ wpAny M A (k e.result) Q E (s1.setGen g e.genState)) : wpAny M A (.resume g (.send .none) l k) Q E s := by
  intro Γ p hΓ
  rw [Sem.wp_resume]
  have wk : ∀ c, (Γ.wake c p).Woken A := fun c => hΓ.wake c p
  have sz : (s.setGen g .running).gens.size = s.gens.size := setGen_size s g .running
  cases gs with
  | fresh c =>
    obtain ⟨e, s1, r, z⟩ := go (Γ.wake c p) p rfl (wk c)
    obtain ⟨q1, q2⟩ := hZ e s1 z (by have := runs_gsz r; rw [sz] at this; exact this)
    exact ⟨_, _, by unfold Wakes; rw [hg]; exact ⟨e, s1, r, q1, rfl, rfl⟩, q2 Γ p hΓ⟩
  | suspended k0 l0 c p0 fs cl =>
    obtain ⟨e, s1, r, z⟩ := go (Γ.wake c p) p0 rfl (wk c)
    obtain ⟨q1, q2⟩ := hZ e s1 z (by have := runs_gsz r; rw [sz] at this; exact this)
    exact ⟨_, _, by unfold Wakes; rw [hg]; exact ⟨e, s1, r, q1, rfl, rfl⟩, q2 Γ p hΓ⟩
  | running => exact go.elim
  | finished => exact go.elim
/-- next(g): what the code's run comes to -/
theorem next1 {P : Program} {w : World} {A : Around} {E : Value → Shared → Prop} {s : Shared} {a : Addr} {g : Nat} {gs : GenState} {Z : End → Shared → Prop} {Q : Option Value → Shared → Prop} (hh : A.handled = none) (hl : s.heap.NoLimit) (hroom : A.depth < recursionLimit)
    (hg : s.heap.IsGen a g) (hgs : s.gens[g]? = some gs) (go : Goes1 (model P w) A.in1 Z gs (s.setGen g .running))
    (hY : ∀ e s1, Z e s1 → s.gens.size ≤ s1.gens.size → (e = .ret (.ok .next) ∧ ∀ h', (∀ b o, s1.heap.get? b = some o → h'.get? b = some o) → Q none { s1.setGen g .finished with heap := h' }) ∨
      (∃ v l k c p fs, e = .susp v false l k c p fs ∧ e.quiet = true ∧ Q (some v) (s1.setGen g e.genState))) : wpAny (model P w) A (pyNext (.ref a)) Q E s := by
  unfold pyNext
  refine wpAny_bind (wpAny_attempt (wpAny_callSpecial?_slot (name := Str.ofString "__next__") hg.typeIs slot_gen_next (wpAny_call_entry slot_gen_next hg.typeIs entry_gen_next ?_ (args_gen_next _))))
  show wpAny _ A.in1 (Builtin.Generator.genWake (.ref a) (.send .none)) _ _ s
  unfold Builtin.Generator.genWake
  refine wpAny_bind (wpAny_holding (wpAny_genNumber hg (wpAny_bind (wpAny_genState hgs ?_))))
  cases gs with
  | running => exact go.elim
  | finished => exact go.elim
  | _ =>
    refine wpAny_bind (wpAny_roomToWake hl hroom ?_)
    show wpAny _ A.in1 (.resume g (.send .none) [] _) _ _ s
    refine wp_resume1 hgs go fun e s1 z hsz => ?_
    rcases hY e s1 z hsz with ⟨rfl, q⟩ | ⟨v, l, k, c, p, fs, rfl, q1, q⟩
    · refine ⟨rfl, ?_⟩
      show wpAny _ A.in1 (newExc (.type "StopIteration") [] >>= _) _ _ _
      refine wpAny_bind ?_
      simp only [newExc, newTuple]
      refine wpAny_bind (wpAny_newObj_type ?_ (by size_fits))
      refine wpAny_bind (m := firstArgMember _ _) (wpAny_of_eq (a := Value.none) (by first | rfl | (simp only [firstArgMember]; rfl)) ?_)
      refine wpAny_newObj_type ?_ (by size_fits)
      simp only [raiseNew]
      refine wpAny_bind (wpAny_bind (wpAny_handled ?_))
      first | rw [show A.in1.handled = none from hh] | rw [hh]
      refine wpAny_throw ?_
      refine wpAny_bind (wpAny_isInstance (T := "StopIteration") (b := true) ⟨_, Heap.get?_push_size _ rfl, rfl⟩ isSubtype_stop ?_)
      exact wpAny_pure (q _ fun b o hb => Heap.get?_push_of_some _ (Heap.get?_push_of_some _ hb))
    · exact ⟨q1, wpAny_pure ⟨v, rfl, wpAny_pure q⟩⟩

/-! ### the generator's frame -/
abbrev gcx (X : Cx) (s : Shared) (H : Hp) (cenv : Env) (fp : List Addr) (A : Around) : Cx :=
  { X with A := A, s_0 := s, H_0 := H, env := cenv, outer := X.stack, stack := cenv :: X.stack, ex := fp, fn := fun _ => false, calm := true, pn := [], xe := fun _ _ => False }
/-- its scope: no cells of its own -/
structure GScp (scope : Scope) : Prop where
  co : scope.isCoroutine = false
  kind : scope.kind = .function
  nocell : ∀ y ∈ scope.names, y.2 ≠ .cell
  dot : scope.names.lookup (".0" : Str) = some NameKind.local
section
variable {X : Cx} {pins : List (Addr × Obj)} {σ : L2.St} {H : Hp} {s : Shared}
theorem blk_free {N : List Str} {scope : Scope} {own : List (Str × Nat)} (ok : BlkOk N X.env.scope scope own) (o : X.Ok) : ∀ y ∈ scope.names, y.2 = .free → ∃ c, X.env.cells.lookup y.1 = some c := fun y hy e =>
  (ok.free y hy e).elim (fun z => o.has _ (.inl z)) fun z => o.has _ (.inr z)
theorem gen_start {scope : Scope} {own : List (Str × Nat)} {fp : List Addr} {code : Value} {A : Around} {h' : Heap} {g' : Array GenState} {d' : Drawn} {t' : Nat} {m : Str → Option Value} (I : Inv X pins σ H s) (ok : BlkOk X.N X.env.scope scope own) (G : GScp scope) (hN : X.N.Nodup)
    (hfp : ∀ b ∈ fp, FpOk X pins H b ∧ b < s.heap.objs.size) (hd : A.handled = none) (hfr : A.frames = some (genEnv scope (cloFrom X.env.cells scope.names []) s.heap.objs.size code builtinsNs X.env :: X.stack))
    (hns : h'.Ns s.heap.objs.size m) (kp : ∀ b o, s.heap.get? b = some o → h'.get? b = some o) (hg : AllBare g') :
    Inv (gcx X s H (genEnv scope (cloFrom X.env.cells scope.names []) s.heap.objs.size code builtinsNs X.env) fp A) [] (wipe σ (own.map (·.2))) H { s with heap := h', gens := g', drawn := d', toks := t' } := by
  have hfree := blk_free ok I.ok
  have cm : ∀ {y c}, (cloFrom X.env.cells scope.names []).lookup y = some c → X.env.cells.lookup y = some c := fun e => NdefX.clo_cm hfree e
  have frk : ∀ y, scope.names.lookup y = some .free → ∃ c, (cloFrom X.env.cells scope.names []).lookup y = some c ∧ X.env.cells.lookup y = some c := fun y e => by
    have hy : (y, NameKind.free) ∈ scope.names := PySem.mem_of_lookup e
    obtain ⟨c, hc⟩ := hfree _ hy rfl
    exact ⟨c, NdefX.clo_has hfree hy hc, hc⟩
  have okG : (gcx X s H (genEnv scope (cloFrom X.env.cells scope.names []) s.heap.objs.size code builtinsNs X.env) fp A).Ok :=
    { mod := I.ok.mod, kind := G.kind, glob := I.ok.glob, blt := rfl, above := Nat.le_refl _
      inj := fun y z c e1 e2 => I.ok.inj y z c (cm e1) (cm e2)
      has := fun y hy => by
        have hy : scope.names.lookup y = some .cell ∨ scope.names.lookup y = some .free := hy
        rcases hy with hy | hy
        · exact absurd rfl (G.nocell _ (PySem.mem_of_lookup hy))
        · obtain ⟨c, e, _⟩ := frk y hy
          exact ⟨c, e⟩
      cab := fun y c z _ => by cases z
      hd := fun _ => hd
      frames := hfr
      stk := .inr ⟨rfl, rfl⟩
      exf := fun b hb => ⟨Nat.ne_of_lt (hfp b hb).2, fun y c e => (hfp b hb).1.2.2.2.2.1 y c (cm e)⟩
      bs := I.bs
      bsz := Nat.le_trans I.ok.bsz I.sz
      noex := fun b o e hb => by
        rcases (hfp b hb).1.2.2.2.1 with z | z
        · exact I.ok.noex b o e z
        · exact Nat.lt_irrefl _ (Nat.lt_of_lt_of_le (Heap.lt_size e) (Nat.le_trans I.ok.bsz z))
      exfs := fun b hb z => by
        rcases List.mem_cons.mp (I.stkSub b z) with z | z
        · exact (hfp b hb).1.2.1 z
        · exact (hfp b hb).1.2.2.1 z
      funs := I.stack
      frf := I.stkFree }
  refine ⟨okG, rfl, hg, Un.kept kp, ⟨m, hns, fun i y v e1 e2 e3 => ?_⟩, fun y c e => ?_, I.hok.fresh (Nat.le_refl _), fun y c e => I.freeC y c (cm e), fun p hp => absurd (show p ∈ ([] : List (Addr × Obj)) ++ [] from hp) (by simp), I.hok.kept kp, by rw [wipe_length]; exact I.len⟩
  · obtain ⟨e2, hne⟩ := wipe_some e2
    have no : ∀ k, scope.names.lookup y = some k → k = .local ∨ k = .cell → False := fun k hk hh => by
      rcases ok.own _ (PySem.mem_of_lookup hk) hh with z | z
      · obtain ⟨p, hp, hpy⟩ := List.mem_map.mp z
        have q := ok.ix p hp
        have hpy : p.1 = y := hpy
        rw [hpy] at q
        exact hne (List.mem_map.mpr ⟨p, hp, nodup_ix hN q e1⟩)
      · exact z (List.mem_of_getElem? e1)
    have e3 : scope.names.lookup y = some .local ∨ scope.names.lookup y = some .cell ∨ scope.names.lookup y = some .free := e3
    have hfr2 : scope.names.lookup y = some .free := by
      rcases e3 with z | z | z
      · exact (no _ z (.inl rfl)).elim
      · exact (no _ z (.inr rfl)).elim
      · exact z
    obtain ⟨c, c1, c2⟩ := frk y hfr2
    obtain ⟨m0, hn0, hl⟩ := I.loc
    have k := ok.free _ (PySem.mem_of_lookup hfr2) rfl
    obtain ⟨u, r, q⟩ := hl i y v e1 e2 (k.elim (fun z => .inr (.inl z)) fun z => .inr (.inr z))
    refine ⟨u, r, .inr ⟨.inr hfr2, c, c1, ?_⟩⟩
    rcases q with ⟨z, _⟩ | ⟨_, c', e', z⟩
    · have z : X.env.scope.names.lookup y = some .local := z
      rcases k with k | k <;> rw [show X.env.scope.names.lookup y = _ from k] at z <;> cases z
    · rw [c2] at e'
      cases e'
      exact z.keeps kp
  · obtain ⟨v, z⟩ := I.cell y c (cm e)
    exact ⟨v, z.keeps kp⟩
end

/-! ### asleep and awake -/
/-- what the consumer may do while the generator sleeps: its own objects at Sx, new objects -/
structure Aft (Sx : List Addr) (s s' : Shared) : Prop where
  os : s'.os = s.os
  bare : AllBare s'.gens
  keep : ∀ b o, b ∉ Sx → s.heap.get? b = some o → s'.heap.get? b = some o
  own : ∀ b ∈ Sx, ∃ o, s'.heap.get? b = some o ∧ ∀ v, o.data ≠ .cell v
/-- the consumer's word: what is out so far, the next value, the heap, going on -/
abbrev Eats := List V → V → Hp → Prop → Prop
structure GEx where
  X : Cx
  s4 : Shared
  H1 : Hp
  cenv : Env
  fp : List Addr
  B : Around
  σ0 : L2.St
  ge : Expr
  it : Addr
  a : Addr
  g : Nat
  Sx : List Addr
  C : Eats
  F : List V → Hp → Prop
abbrev GEx.loop (Y : GEx) : Code := .compLoop Y.ge 0 (.ref Y.it) .none Y.cenv
abbrev GEx.Xg (Y : GEx) : Cx := gcx Y.X Y.s4 Y.H1 Y.cenv Y.fp (Y.B.over Y.loop [])
abbrev GEx.pn (Y : GEx) (s : Shared) : List (Addr × Obj) := pinsAt (Y.a :: Y.Sx) s.heap
abbrev GEx.M (Y : GEx) : Model := model Y.X.prog Y.X.w
/-- a run's end: over, or a value is handed out and R holds of what sleeps -/
def GEx.Z (Y : GEx) (R : List V → Hp → GenState → Shared → Prop) (ys : List V) (s0 : Shared) (e : End) (s1 : Shared) : Prop :=
  (e = .ret (.ok .next) ∧ ∃ σ' H', Inv Y.Xg (Y.pn s0) σ' H' s1 ∧ Y.F ys H') ∨
  ∃ v l k c p fs y σ' H', e = .susp v false l k c p fs ∧ e.quiet = true ∧ Inv Y.Xg (Y.pn s0) σ' H' s1 ∧ RelV y v ∧ Y.C ys y H' (R (ys ++ [y]) H' e.genState s1)
/-- asleep: at most n more values -/
def GEx.Rdy (Y : GEx) : Nat → List V → Hp → GenState → Shared → Prop
  | 0 => fun ys H gs s => ∀ s', Aft Y.Sx s s' → Goes1 Y.M Y.B (Y.Z (fun _ _ _ _ => False) ys s') gs (s'.setGen Y.g .running)
  | n + 1 => fun ys H gs s => ∀ s', Aft Y.Sx s s' → Goes1 Y.M Y.B (Y.Z (Y.Rdy n) ys s') gs (s'.setGen Y.g .running)
def GEx.Rp (Y : GEx) : Nat → List V → Hp → GenState → Shared → Prop
  | 0 => fun _ _ _ _ => False
  | n + 1 => Y.Rdy n
theorem GEx.rdy_iff (Y : GEx) (n : Nat) (ys : List V) (H : Hp) (gs : GenState) (s : Shared) : Y.Rdy n ys H gs s ↔ ∀ s', Aft Y.Sx s s' → Goes1 Y.M Y.B (Y.Z (Y.Rp n) ys s') gs (s'.setGen Y.g .running) := by
  cases n <;> rfl
/-- the addresses are new -/
structure GEx.Ok (Y : GEx) : Prop where
  new : ∀ b ∈ Y.a :: Y.Sx, Y.s4.heap.objs.size < b
  loc : Y.cenv.locals = Y.s4.heap.objs.size
  cel : ∀ y c, Y.cenv.cells.lookup y = some c → c < Y.s4.heap.objs.size
  fps : ∀ b ∈ Y.fp, b < Y.s4.heap.objs.size
  aS : Y.a ∉ Y.Sx
  co : Y.cenv.scope.isCoroutine = false
theorem setGen_os (s : Shared) (g : Nat) (x : GenState) : (s.setGen g x).os = s.os := rfl
theorem setGen_heap (s : Shared) (g : Nat) (x : GenState) : (s.setGen g x).heap = s.heap := rfl
section
variable {Y : GEx} {σ σ' : L2.St} {H : Hp} {s s0 s1 : Shared} {pins : List (Addr × Obj)}
theorem GEx.Ok.fpOk (O : Y.Ok) (I : Inv Y.Xg (Y.pn s0) σ H s) (hn : ∀ b ∈ Y.fp, H b = none) : ∀ b ∈ Y.fp, FpOk Y.Xg (Y.pn s0) H b := fun b hb =>
  ⟨hn b hb, (I.ok.exf b hb).1, I.ok.exfs b hb, .inl hb, fun x c e => (I.ok.exf b hb).2 x c e, fun p hp => by
    have hp : p ∈ Y.pn s0 := by
      rcases List.mem_append.mp hp with z | z
      · cases z
      · exact z
    have h1 := O.new p.1 (of_pinsAt hp).1
    have h2 := O.fps b hb
    exact fun z => Nat.lt_irrefl _ (Nat.lt_trans h2 (z ▸ h1))⟩
/-- what is pinned while it runs -/
theorem GEx.Ok.pinned (O : Y.Ok) (I : Inv Y.Xg (Y.pn s0) σ H s) {b : Addr} {o : Obj} (hb : b ∈ Y.a :: Y.Sx) (e : s0.heap.get? b = some o) : s.heap.get? b = some o ∧ H b = none :=
  let z := I.pin (b, o) (List.mem_append_right _ (mem_pinsAt hb e))
  ⟨z.1, z.2.1⟩
/-- woken again -/
theorem GEx.Ok.woken (O : Y.Ok) (I : Inv Y.Xg (Y.pn s0) σ H s) (there : ∀ b ∈ Y.a :: Y.Sx, ∃ o, s0.heap.get? b = some o) (ag : ∃ o, s0.heap.get? Y.a = some o ∧ ∀ v, o.data ≠ .cell v) (A : Aft Y.Sx s s1) (x : GenState) (hx : x.bare = true) :
    Inv Y.Xg (Y.pn s1) σ H (s1.setGen Y.g x) := by
  have hT : ∀ b ∈ Y.a :: Y.Sx, H b = none := fun b hb => by
    obtain ⟨o, e⟩ := there b hb
    exact (O.pinned I hb e).2
  have I0 : Inv Y.Xg [] σ H s := I.pins_of fun p hp => absurd (show p ∈ ([] : List (Addr × Obj)) ++ [] from hp) (by simp)
  have nt : ∀ b u, H b = some u → b ∉ Y.Sx := fun b u q hb => by rw [hT b (List.mem_cons_of_mem _ hb)] at q; cases q
  obtain ⟨z1, z2, z3, z4⟩ := A
  obtain ⟨hh, g', d, t, o⟩ := s1
  have ho : o = s.os := z1
  subst ho
  have J : Inv Y.Xg [] σ H { s with heap := hh, gens := (({ heap := hh, gens := g', drawn := d, toks := t, os := s.os } : Shared).setGen Y.g x).gens, drawn := d, toks := t } := by
    refine I0.step (h' := hh) (g' := (({ heap := hh, gens := g', drawn := d, toks := t, os := s.os } : Shared).setGen Y.g x).gens) (t' := t) (d' := d) (ch := Y.Sx) (fun b hb => ?_) (fun b ob _ _ hc q _ => z3 b ob hc q) (fun b ob _ _ hc q _ => ⟨ob.slots, z3 b ob hc q⟩)
      (fun _ _ _ _ n => n) (fun b ob hc q => ⟨ob, z3 b ob hc q⟩) (fun _ _ q => q) (fun _ _ _ q => q) (fun b ps q => ⟨#[], by rw [q]; simp⟩) (fun m hm => ?_) (fun b u q => ?_) (allBare_setGen z2 hx)
    · have h1 := O.new b (List.mem_cons_of_mem _ hb)
      refine ⟨.inr (Nat.le_of_lt h1), fun z => ?_, fun y c e z => ?_, fun p hp => absurd (show p ∈ ([] : List (Addr × Obj)) ++ [] from hp) (by simp)⟩
      · have z : b = Y.cenv.locals := z
        rw [z, O.loc] at h1
        exact Nat.lt_irrefl _ h1
      · have h2 := O.cel y c e
        rw [z] at h2
        exact Nat.lt_irrefl _ (Nat.lt_trans h1 h2)
    · obtain ⟨ob, es, ep, ho, r⟩ := hm
      refine ⟨ob, es, ep, z3 _ ob (fun hb => ?_) ho, r⟩
      have h1 := O.new _ (List.mem_cons_of_mem _ hb)
      have h1 : Y.s4.heap.objs.size < Y.cenv.locals := h1
      rw [O.loc] at h1
      exact Nat.lt_irrefl _ h1
    · refine (I0.hok b u q).stay (fun c v hc y => z3 c v ?_ y) (fun _ y => y) fun _ _ y => y
      rcases hc with y | y
      · rw [y]; exact nt b u q
      · exact nt c _ y
  refine J.pins_of fun p hp => ?_
  have hp : p ∈ pinsAt (Y.a :: Y.Sx) hh := hp
  obtain ⟨hb, e⟩ := of_pinsAt hp
  have h1 := O.new _ hb
  refine ⟨e, hT _ hb, fun z => ?_, fun z => ?_, ?_⟩
  · have z : p.1 = Y.cenv.locals := z
    rw [z, O.loc] at h1
    exact Nat.lt_irrefl _ h1
  · obtain ⟨_, ob, hob, _⟩ := J.ok.funs.mem z
    exact absurd (Nat.lt_trans h1 (Heap.lt_size hob)) (Nat.lt_irrefl _)
  · rcases List.mem_cons.mp hb with z | z
    · obtain ⟨oa, ea, da⟩ := ag
      have q := (O.pinned I List.mem_cons_self ea).1
      have q2 := z3 _ oa O.aS q
      rw [z] at e
      rw [e] at q2
      cases q2
      exact da
    · obtain ⟨ob, eb, db⟩ := z4 _ z
      have eb : hh.get? p.1 = some ob := eb
      rw [e] at eb
      cases eb
      exact db
end

/-! ### the turns -/
def GStep (W : Nat → Nat → List V → Hp → Prop) (J : It) (g : TG) (tt : TT) (te : TE) (vs : List Nat) (σ0 : L2.St) (C : Eats) (F : List V → Hp → Prop) : Prop :=
  ∀ i m ys H, W i m ys H → (J.stop i H ∧ F ys H) ∨ (J.go i H ∧ ∃ Nx : List V → Hp → Prop, (∀ ys' H', Nx ys' H' → ∃ m', m' < m ∧ W (i + 1) m' ys' H') ∧
    ∀ x H', J.yld i H x H' → g x σ0 H' fun σ2 H2 => wipe σ2 vs = σ0 ∧ tt σ2 H2 fun b H3 => if b = true then te σ2 H3 fun y H4 => C ys y H4 (Nx (ys ++ [y]) H4) else Nx ys H3)
def EatsMono (C : Eats) : Prop := ∀ ys y H (p q : Prop), (p → q) → C ys y H p → C ys y H q
section
variable {ge elt iter tg : Expr} {cs : List Comprehension} {ifs : List Expr} {scope : Scope} {gpos : Pos}
theorem turn_one {it acc : Value} {env : Env} (h : ge = .GeneratorExp elt cs scope gpos) : compTurn ge 0 it acc env = compTurn (.GeneratorExp elt cs scope gpos) 0 it acc env := by rw [h]
theorem den_one {P : Program} {w : World} {it acc : Value} {env : Env} (h : ge = .GeneratorExp elt cs scope gpos) : (model P w).den (.compLoop ge 0 it acc env) = (compTurn ge 0 it acc env).onRaise (leaving env) := by subst h; rfl
theorem den_start {P : Program} {w : World} {it acc : Value} {env : Env} (h : ge = .GeneratorExp elt cs scope gpos) : (model P w).den (.compStart ge 0 it acc env) = (compStart ge 0 it acc env).onRaise (leaving env) := by subst h; rfl
theorem quiet_loop {d : Nat} {it acc : Value} {env : Env} : (Code.compLoop ge d it acc env).quiet = true := by rfl
end
theorem gen_turns {Y : GEx} {elt tg iter : Expr} {ifs : List Expr} {scope : Scope} {gpos : Pos} (hge : Y.ge = .GeneratorExp elt [⟨tg, iter, ifs, 0⟩] scope gpos) {J : It} {tn : Nat → Heap → Prop} {g : TG} {tt : TT} {te : TE} {vs : List Nat} {W : Nat → Nat → List V → Hp → Prop} (O : Y.Ok) (T : Turn Y.X.prog Y.X.w Y.X.K tg J Y.fp Y.it tn) (hg : PG Y.Xg tg g) (ht : PTs Y.Xg ifs tt) (he : PE Y.Xg elt te)
    (hC : EatsMono Y.C) (st : GStep W J g tt te vs Y.σ0 Y.C Y.F) : ∀ (m n : Nat) (i : Nat) (ys : List V) (H : Hp) (s0 s : Shared), m ≤ n → (∀ b ∈ Y.a :: Y.Sx, ∃ o, s0.heap.get? b = some o) → (∃ o, s0.heap.get? Y.a = some o ∧ ∀ v, o.data ≠ .cell v) → Inv Y.Xg (Y.pn s0) Y.σ0 H s → tn i s.heap → (∀ b ∈ Y.fp, H b = none) → W i m ys H →
      Run1 Y.M Y.B (Y.Z (Y.Rp n) ys s0) Y.loop (Y.M.den Y.loop) [] s := by
  intro m
  induction m using Nat.strongRecOn with
  | ind m ih =>
    intro n i ys H s0 s hmn there ag I stt fr w
    have hco := O.co
    rw [den_one hge, turn_one hge, compTurn_gen, ← hge, Sem.onRaise_eq_wrap]
    refine run1_bind (wpAny_standAt ?_)
    rcases st i m ys H w with ⟨stop, fin⟩ | ⟨go, Nx, hN, step⟩
    · refine run1_bind (wpAny_mono (T.done Y.Xg rfl rfl rfl rfl i (Y.pn s0) s Y.σ0 H (fun _ _ => False) I (O.fpOk I fr) stt stop) (fun r s1 ⟨hr, I1⟩ => ?_) fun _ _ z => z.elim)
      subst hr
      exact run1_end (.ok .next) (.inl ⟨rfl, Y.σ0, H, I1, fin⟩)
    · refine run1_bind (wpAny_mono (T.item Y.Xg rfl rfl rfl rfl i (Y.pn s0) s Y.σ0 H (fun _ _ => False) I (O.fpOk I fr) stt go) (fun r s1 ⟨u, hr, h1⟩ => ?_) fun _ _ z => z.elim)
      subst hr
      refine run1_bind (wpAny_mono h1 (fun _ s2 ⟨x, H2, I2, r2, y2, st2, fr2⟩ => ?_) fun _ _ z => z.elim)
      have I2' := I2.pinned (O.fpOk I2 fr2) (T.obj _ _ st2)
      refine run1_bind (wpAny_mono (hg.run _ s2 Y.σ0 H2 x u _ I2' r2 (step x H2 y2)) (fun _ s3 ⟨σ3, H3, I3, hw3, q3⟩ => ?_) fun _ _ z => z.elim)
      refine run1_bind (wpAny_mono (ht.run _ s3 σ3 H3 _ I3 q3) (fun b s4 ⟨H4, I4, q4⟩ => ?_) fun _ _ z => z.elim)
      have fpin : ∀ {s' : Shared} {H' : Hp}, Inv Y.Xg (Y.pn s0 ++ pinsAt Y.fp s2.heap) σ3 H' s' → tn (i + 1) s'.heap ∧ ∀ b ∈ Y.fp, H' b = none := fun {s' H'} I' => by
        have pin' : ∀ b ∈ Y.fp, ∀ o, s2.heap.get? b = some o → s'.heap.get? b = some o ∧ H' b = none := fun b hb o e =>
          let z := I'.pin (b, o) (List.mem_append_right _ (List.mem_append_right _ (mem_pinsAt hb e)))
          ⟨z.1, z.2.1⟩
        refine ⟨T.keep _ _ _ st2 fun b hb o e => (pin' b hb o e).1, fun b hb => ?_⟩
        obtain ⟨o, e, _⟩ := T.obj _ _ st2 b hb
        exact (pin' b hb o e).2
      have wk : ∀ {s' : Shared} {H' : Hp} {pins : List (Addr × Obj)}, Inv Y.Xg pins σ3 H' s' → Inv Y.Xg pins Y.σ0 H' s' := fun {s' H' pins} I' => by
        have hl : Y.σ0.length = σ3.length := by rw [← hw3, wipe_length]
        refine I'.weak hl fun j v e => ?_
        rw [← hw3] at e
        exact (wipe_some e).1
      cases b with
      | false =>
        simp only [Bool.false_eq_true, if_false] at q4 ⊢
        obtain ⟨m', hm, w'⟩ := hN ys H4 q4
        exact run1_again rfl (ih m' hm n (i + 1) ys H4 s0 s4 (by omega) there ag (wk I4.unpinned) (fpin I4).1 (fpin I4).2 w')
      | true =>
        simp only [if_true] at q4 ⊢
        have hy : ∀ v, yieldOut Y.cenv v = yieldValue v := fun v => by simp only [yieldOut, hco, Bool.false_eq_true, if_false]
        simp only [hy]
        rw [Sem.bind_eq_wrap', Sem.bind_eq_wrap', Sem.wrap_wrap, Sem.wrap_wrap]
        refine run1_wrap (wpAny_mono (he.run _ s4 σ3 H4 _ I4 q4) (fun v s5 ⟨y, H5, I5, r5, c5⟩ => ?_) fun _ _ z => z.elim)
        refine run1_at (run1_yield rfl fun p => .inr ⟨v, _, _, _, p, _, y, σ3, H5, rfl, rfl, I5.unpinned, r5, hC _ _ _ _ _ (fun nx => ?_) c5⟩)
        obtain ⟨m', hm, w'⟩ := hN _ H5 nx
        obtain ⟨n', rfl⟩ : ∃ k, n = k + 1 := ⟨n - 1, by omega⟩
        refine (Y.rdy_iff n' _ _ _ _).mpr fun s6 A6 => ?_
        have there6 : ∀ b ∈ Y.a :: Y.Sx, ∃ o, s6.heap.get? b = some o := fun b hb => by
          rcases List.mem_cons.mp hb with z | z
          · obtain ⟨o, e⟩ := there b hb
            exact ⟨o, A6.keep b o (by rw [z]; exact O.aS) (O.pinned I5.unpinned hb e).1⟩
          · obtain ⟨o, e, _⟩ := A6.own b z
            exact ⟨o, e⟩
        have ag6 : ∃ o, s6.heap.get? Y.a = some o ∧ ∀ v, o.data ≠ .cell v := by
          obtain ⟨o, e, d⟩ := ag
          exact ⟨o, A6.keep _ o O.aS (O.pinned I5.unpinned List.mem_cons_self e).1, d⟩
        have I6 := O.woken (wk I5.unpinned) there ag A6 .running rfl
        show Run1 _ _ _ _ _ [] _
        have st6 : tn (i + 1) s6.heap := T.keep _ _ _ (fpin I5).1 fun b hb o e => A6.keep b o (fun z => Nat.lt_irrefl _ (Nat.lt_trans (O.fps b hb) (O.new b (List.mem_cons_of_mem _ z)))) e
        exact run1_again rfl (ih m' hm n' (i + 1) _ H5 s6 (s6.setGen Y.g .running) (by omega) there6 ag6 I6 st6 (fpin I5).2 w')
/-! ### two clauses -/
theorem run1_call {M : Model} {A : Around} {Z : End → Shared → Prop} {c c' : Code} {fs : List Frame} {s : Shared} {h g l} {k : Result → Sem PySem.Fin} (hc : ∀ p, Run1 M A Z c' (M.den c') (.ret k h g l c p [] :: fs) s) : Run1 M A Z c (.call c' h g l k) fs s := by
  intro Γ p e w
  subst e
  obtain ⟨e, s', r, z⟩ := hc p (Γ.goto c') p rfl (w.goto c')
  exact ⟨e, s', runs_call_seg r, z⟩
theorem run1_leaf {M : Model} {A : Around} {Z : End → Shared → Prop} {c c1 : Code} {fs : List Frame} {s : Shared} {k h g l p1 kp} (r : Result) (hk : Run1 M A Z c1 (k r) fs s) : Run1 M A Z c (leafOf r) (.ret k h g l c1 p1 kp :: fs) s := by
  intro Γ p e w
  subst e
  obtain ⟨e, s', hr, z⟩ := hk (Γ.goto c1) p1 rfl (w.goto c1)
  exact ⟨e, s', Runs.pop r hr, z⟩
section
variable {ge elt : Expr} {cs : List Comprehension} {scope : Scope} {gpos : Pos}
theorem den_in {P : Program} {w : World} {it acc : Value} {env : Env} (h : ge = .GeneratorExp elt cs scope gpos) : (model P w).den (.compLoop ge 1 it acc env) = (compTurn ge 1 it acc env).onRaise (fun x => do noteFrame x env; theTreesLotGoes x) := by subst h; rfl
theorem den_in0 {P : Program} {w : World} {it acc : Value} {env : Env} (h : ge = .GeneratorExp elt cs scope gpos) : (model P w).den (.compStart ge 1 it acc env) = (compStart ge 1 it acc env).onRaise (fun x => do noteFrame x env; standAt theWindowsPlace) := by subst h; rfl
theorem over_in {B : Around} {it it1 acc acc1 : Value} {env : Env} {fs : List Frame} {k : Result → Sem PySem.Fin} {g : Bool} {l kp : List Value} {p : Pos} (h : ge = .GeneratorExp elt cs scope gpos) :
    B.over (.compLoop ge 1 it1 acc1 env) (.ret k none g l (.compLoop ge 0 it acc env) p kp :: fs) = B.over (.compLoop ge 0 it acc env) fs ∧ B.over (.compStart ge 1 it1 acc1 env) (.ret k none g l (.compLoop ge 0 it acc env) p kp :: fs) = B.over (.compLoop ge 0 it acc env) fs := by
  subst h
  exact ⟨over_loop rfl rfl, over_loop rfl rfl⟩
end
def GStep2 (W : Nat → Nat → List V → Hp → Prop) (J : It) (g : TG) (tt : TT) (wi1 : TI) (g1 : TG) (tt1 : TT) (te : TE) (vs vs1 : List Nat) (σ0 : L2.St) (C : Eats) (F : List V → Hp → Prop) : Prop :=
  ∀ i m ys H, W i m ys H → (J.stop i H ∧ F ys H) ∨ (J.go i H ∧ ∀ x H', J.yld i H x H' → g x σ0 H' fun σ2 H2 => wipe σ2 vs = σ0 ∧ tt σ2 H2 fun b H3 => if b = true then wi1 σ2 H3 fun J1 H4 =>
      ∃ W1 : Nat → Nat → List V → Hp → Prop, (∃ m1, m1 < m ∧ W1 0 m1 ys H4) ∧ ∀ i1 m1 ys H, W1 i1 m1 ys H → (J1.stop i1 H ∧ ∃ m', m' ≤ m1 ∧ m' < m ∧ W (i + 1) m' ys H) ∨ (J1.go i1 H ∧ ∃ N1 : List V → Hp → Prop, (∀ ys' H', N1 ys' H' → ∃ m', m' < m1 ∧ W1 (i1 + 1) m' ys' H') ∧
        ∀ x1 H', J1.yld i1 H x1 H' → g1 x1 (wipe σ2 vs1) H' fun σ3 H5 => wipe σ3 vs1 = wipe σ2 vs1 ∧ tt1 σ3 H5 fun b1 H6 => if b1 = true then te σ3 H6 fun y H7 => C ys y H7 (N1 (ys ++ [y]) H7) else N1 ys H6)
    else ∃ m', m' < m ∧ W (i + 1) m' ys H3)
/-- what stays true of the inner iterator -/
structure InIt (Y : GEx) (fp1 : List Addr) : Prop where
  loc : ∀ b ∈ fp1, b ≠ Y.cenv.locals
  fs : ∀ b ∈ fp1, b ∉ frs Y.X.stack
  sz : ∀ b ∈ fp1, b ∈ Y.fp ∨ Y.s4.heap.objs.size ≤ b
  cel : ∀ b ∈ fp1, ∀ x c, Y.cenv.cells.lookup x = some c → c ≠ b
  own : ∀ b ∈ fp1, b ∉ Y.a :: Y.Sx
  out : ∀ b ∈ fp1, b ∉ Y.fp
section
variable {Y : GEx} {σ : L2.St} {H : Hp} {s s0 : Shared} {fp1 : List Addr}
theorem InIt.fpOk (N : InIt Y fp1) {h : Heap} (hn : ∀ b ∈ fp1, H b = none) : ∀ b ∈ fp1, FpOk Y.Xg (Y.pn s0 ++ pinsAt Y.fp h) H b := fun b hb =>
  ⟨hn b hb, N.loc b hb, N.fs b hb, N.sz b hb, N.cel b hb, fun p hp z => by
    have hp : p ∈ Y.pn s0 ++ pinsAt Y.fp h := by
      rcases List.mem_append.mp hp with y | y
      · cases y
      · exact y
    rcases List.mem_append.mp hp with y | y
    · exact N.own b hb (z ▸ (of_pinsAt y).1)
    · exact N.out b hb (z ▸ (of_pinsAt y).1)⟩
end
theorem gen_inner {Y : GEx} {elt tg iter tg1 iter1 : Expr} {ifs ifs1 : List Expr} {scope : Scope} {gpos : Pos} (hge : Y.ge = .GeneratorExp elt [⟨tg, iter, ifs, 0⟩, ⟨tg1, iter1, ifs1, 0⟩] scope gpos) {J J1 : It} {tn tn1 : Nat → Heap → Prop} {g1 : TG} {tt1 : TT} {te : TE} {vs vs1 : List Nat} {fp1 : List Addr} {it1 : Addr} {i : Nat} {σ2 : L2.St}
    {W1 : Nat → Nat → List V → Hp → Prop} {Wo : Nat → List V → Hp → Prop} {k : Result → Sem PySem.Fin} {l kp : List Value} {p : Pos} (O : Y.Ok) (T : Turn Y.X.prog Y.X.w Y.X.K tg J Y.fp Y.it tn) (T1 : Turn Y.X.prog Y.X.w Y.X.K tg1 J1 fp1 it1 tn1) (N : InIt Y fp1) (hσ : wipe σ2 vs = Y.σ0) (hvs : ∀ v ∈ vs1, v ∈ vs) (hg : PG Y.Xg tg1 g1) (ht : PTs Y.Xg ifs1 tt1) (he : PE Y.Xg elt te) (hC : EatsMono Y.C)
    (st : ∀ i1 m1 ys H, W1 i1 m1 ys H → (J1.stop i1 H ∧ ∃ m', m' ≤ m1 ∧ Wo m' ys H) ∨ (J1.go i1 H ∧ ∃ N1 : List V → Hp → Prop, (∀ ys' H', N1 ys' H' → ∃ m', m' < m1 ∧ W1 (i1 + 1) m' ys' H') ∧
        ∀ x1 H', J1.yld i1 H x1 H' → g1 x1 (wipe σ2 vs1) H' fun σ3 H5 => wipe σ3 vs1 = wipe σ2 vs1 ∧ tt1 σ3 H5 fun b1 H6 => if b1 = true then te σ3 H6 fun y H7 => Y.C ys y H7 (N1 (ys ++ [y]) H7) else N1 ys H6))
    (cont : ∀ (m' n : Nat) (ys : List V) (H : Hp) (s0 s : Shared), m' ≤ n → (∀ b ∈ Y.a :: Y.Sx, ∃ o, s0.heap.get? b = some o) → (∃ o, s0.heap.get? Y.a = some o ∧ ∀ v, o.data ≠ .cell v) → Inv Y.Xg (Y.pn s0) Y.σ0 H s → tn i s.heap → (∀ b ∈ Y.fp, H b = none) → Wo m' ys H → Run1 Y.M Y.B (Y.Z (Y.Rp n) ys s0) Y.loop (k (.ok .next)) [] s) :
    ∀ (m1 n i1 : Nat) (ys : List V) (H : Hp) (s0 s : Shared), m1 ≤ n → (∀ b ∈ Y.a :: Y.Sx, ∃ o, s0.heap.get? b = some o) → (∃ o, s0.heap.get? Y.a = some o ∧ ∀ v, o.data ≠ .cell v) → Inv Y.Xg (Y.pn s0) (wipe σ2 vs1) H s → tn i s.heap → (∀ b ∈ Y.fp, H b = none) → tn1 i1 s.heap → (∀ b ∈ fp1, H b = none) → W1 i1 m1 ys H →
      Run1 Y.M Y.B (Y.Z (Y.Rp n) ys s0) (.compLoop Y.ge 1 (.ref it1) .none Y.cenv) (Y.M.den (.compLoop Y.ge 1 (.ref it1) .none Y.cenv)) [.ret k none false l Y.loop p kp] s := by
  intro m1
  induction m1 using Nat.strongRecOn with
  | ind m1 ih =>
    intro n i1 ys H s0 s hmn there ag I stt fr st1 fr1 w
    have hco := O.co
    have ov := over_in (B := Y.B) (it := .ref Y.it) (it1 := .ref it1) (acc := .none) (acc1 := .none) (env := Y.cenv) (fs := []) (k := k) (g := false) (l := l) (kp := kp) (p := p) hge
    rw [den_in hge, Sem.onRaise_eq_wrap]
    have ct : compTurn Y.ge 1 (.ref it1) .none Y.cenv = compTurn (.GeneratorExp elt [⟨tg, iter, ifs, 0⟩, ⟨tg1, iter1, ifs1, 0⟩] scope gpos) 1 (.ref it1) .none Y.cenv := by rw [← hge]
    rw [ct]
    unfold compTurn
    simp only [List.getElem?_cons_succ, List.getElem?_cons_zero, List.getElem?_nil, bne_self_eq_false, Bool.false_eq_true, if_false]
    rw [← hge]
    have II := I.pinned (O.fpOk I fr) (T.obj _ _ stt)
    refine run1_bind (wpAny_standAt ?_)
    rcases st i1 m1 ys H w with ⟨stop, m', hm', wo⟩ | ⟨go, N1, hN, step⟩
    · refine run1_bind ?_
      rw [ov.1]
      refine wpAny_mono (T1.done Y.Xg rfl rfl rfl rfl i1 _ s _ H (fun _ _ => False) II (N.fpOk fr1) st1 stop) (fun r s1 ⟨hr, I1⟩ => ?_) fun _ _ z => z.elim
      subst hr
      have J1 : Inv Y.Xg (Y.pn s0) Y.σ0 H s1 := by
        refine (I1.unpinned).weak (by rw [← hσ, wipe_length, wipe_length]) fun j v e => ?_
        rw [← hσ] at e
        obtain ⟨e, hv⟩ := wipe_some e
        rw [wipe_out fun z => hv (hvs j z)]
        exact e
      have pin' : ∀ b ∈ Y.fp, ∀ o, s.heap.get? b = some o → s1.heap.get? b = some o := fun b hb o e => (I1.pin (b, o) (List.mem_append_right _ (List.mem_append_right _ (mem_pinsAt hb e)))).1
      exact run1_leaf (.ok .next) (cont m' n ys H s0 s1 (by omega) there ag J1 (T.keep _ _ _ stt pin') fr wo)
    · refine run1_bind ?_
      rw [ov.1]
      refine wpAny_mono (T1.item Y.Xg rfl rfl rfl rfl i1 _ s _ H (fun _ _ => False) II (N.fpOk fr1) st1 go) (fun r s1 ⟨u, hr, h1⟩ => ?_) fun _ _ z => z.elim
      subst hr
      refine run1_bind ?_
      rw [ov.1]
      refine wpAny_mono h1 (fun _ s2 ⟨x, H2, I2, r2, y2, st2, fr2⟩ => ?_) fun _ _ z => z.elim
      have I2' := I2.pinned (N.fpOk fr2) (T1.obj _ _ st2)
      refine run1_bind ?_
      rw [ov.1]
      refine wpAny_mono (hg.run _ s2 _ H2 x u _ I2' r2 (step x H2 y2)) (fun _ s3 ⟨σ3, H3, I3, hw3, q3⟩ => ?_) fun _ _ z => z.elim
      refine run1_bind ?_
      rw [ov.1]
      refine wpAny_mono (ht.run _ s3 σ3 H3 _ I3 q3) (fun b s4 ⟨H4, I4, q4⟩ => ?_) fun _ _ z => z.elim
      -- behind the turn
      have back : ∀ {s' : Shared} {H' : Hp}, Inv Y.Xg ((Y.pn s0 ++ pinsAt Y.fp s.heap) ++ pinsAt fp1 s2.heap) σ3 H' s' → Inv Y.Xg (Y.pn s0) (wipe σ2 vs1) H' s' ∧ tn i s'.heap ∧ (∀ b ∈ Y.fp, H' b = none) ∧ tn1 (i1 + 1) s'.heap ∧ ∀ b ∈ fp1, H' b = none := fun {s' H'} I' => by
        have p0 : ∀ b ∈ Y.fp, ∀ o, s.heap.get? b = some o → s'.heap.get? b = some o ∧ H' b = none := fun b hb o e => by
          have z := I'.pin (b, o) (List.mem_append_right _ (List.mem_append_left _ (List.mem_append_right _ (mem_pinsAt hb e))))
          exact ⟨z.1, z.2.1⟩
        have p1 : ∀ b ∈ fp1, ∀ o, s2.heap.get? b = some o → s'.heap.get? b = some o ∧ H' b = none := fun b hb o e => by
          have z := I'.pin (b, o) (List.mem_append_right _ (List.mem_append_right _ (mem_pinsAt hb e)))
          exact ⟨z.1, z.2.1⟩
        refine ⟨(I'.unpinned.unpinned).weak (by rw [← hw3, wipe_length]) fun j v e => ?_, T.keep _ _ _ stt fun b hb o e => (p0 b hb o e).1, fun b hb => ?_, T1.keep _ _ _ st2 fun b hb o e => (p1 b hb o e).1, fun b hb => ?_⟩
        · rw [← hw3] at e
          exact (wipe_some e).1
        · obtain ⟨o, e, _⟩ := T.obj _ _ stt b hb
          exact (p0 b hb o e).2
        · obtain ⟨o, e, _⟩ := T1.obj _ _ st2 b hb
          exact (p1 b hb o e).2
      cases b with
      | false =>
        simp only [Bool.false_eq_true, if_false] at q4 ⊢
        obtain ⟨m', hm, w'⟩ := hN ys H4 q4
        obtain ⟨b1, b2, b3, b4, b5⟩ := back I4
        exact run1_again rfl (ih m' hm n (i1 + 1) ys H4 s0 s4 (by omega) there ag b1 b2 b3 b4 b5 w')
      | true =>
        simp only [if_true] at q4 ⊢
        have hy : ∀ v, yieldOut Y.cenv v = yieldValue v := fun v => by simp only [yieldOut, hco, Bool.false_eq_true, if_false]
        simp only [hy]
        rw [Sem.bind_eq_wrap', Sem.bind_eq_wrap', Sem.wrap_wrap, Sem.wrap_wrap]
        refine run1_wrap ?_
        rw [ov.1]
        refine wpAny_mono (he.run _ s4 σ3 H4 _ I4 q4) (fun v s5 ⟨y, H5, I5, r5, c5⟩ => ?_) fun _ _ z => z.elim
        refine run1_at (run1_yield rfl fun p => .inr ⟨v, _, _, _, p, _, y, σ3, H5, rfl, rfl, I5.unpinned.unpinned, r5, hC _ _ _ _ _ (fun nx => ?_) c5⟩)
        obtain ⟨m', hm, w'⟩ := hN _ H5 nx
        obtain ⟨n', rfl⟩ : ∃ k, n = k + 1 := ⟨n - 1, by omega⟩
        obtain ⟨b1, b2, b3, b4, b5⟩ := back I5
        refine (Y.rdy_iff n' _ _ _ _).mpr fun s6 A6 => ?_
        have there6 : ∀ b ∈ Y.a :: Y.Sx, ∃ o, s6.heap.get? b = some o := fun b hb => by
          rcases List.mem_cons.mp hb with z | z
          · obtain ⟨o, e⟩ := there b hb
            exact ⟨o, A6.keep b o (by rw [z]; exact O.aS) (O.pinned b1 hb e).1⟩
          · obtain ⟨o, e, _⟩ := A6.own b z
            exact ⟨o, e⟩
        have ag6 : ∃ o, s6.heap.get? Y.a = some o ∧ ∀ v, o.data ≠ .cell v := by
          obtain ⟨o, e, d⟩ := ag
          exact ⟨o, A6.keep _ o O.aS (O.pinned b1 List.mem_cons_self e).1, d⟩
        have I6 := O.woken b1 there ag A6 .running rfl
        have st6 : tn i s6.heap := T.keep _ _ _ b2 fun b hb o e => A6.keep b o (fun z => Nat.lt_irrefl _ (Nat.lt_trans (O.fps b hb) (O.new b (List.mem_cons_of_mem _ z)))) e
        have st7 : tn1 (i1 + 1) s6.heap := T1.keep _ _ _ b4 fun b hb o e => A6.keep b o (fun z => N.own b hb (List.mem_cons_of_mem _ z)) e
        exact run1_again rfl (ih m' hm n' (i1 + 1) _ H5 s6 (s6.setGen Y.g .running) (by omega) there6 ag6 I6 st6 b3 st7 b5 w')
theorem gen_turns2 {Y : GEx} {elt tg iter tg1 iter1 : Expr} {ifs ifs1 : List Expr} {scope : Scope} {gpos : Pos} (hge : Y.ge = .GeneratorExp elt [⟨tg, iter, ifs, 0⟩, ⟨tg1, iter1, ifs1, 0⟩] scope gpos) {J : It} {tn : Nat → Heap → Prop} {g g1 : TG} {tt tt1 : TT} {te : TE} {wi1 : TI} {vs vs1 : List Nat} {W : Nat → Nat → List V → Hp → Prop}
    (O : Y.Ok) (T : Turn Y.X.prog Y.X.w Y.X.K tg J Y.fp Y.it tn) (hvs : ∀ v ∈ vs1, v ∈ vs) (hg : PG Y.Xg tg g) (ht : PTs Y.Xg ifs tt) (hi1 : PI Y.Xg tg1 iter1 wi1) (hs1 : ∀ x, foldedSetIterable iter1 Y.cenv x = pure x) (hg1 : PG Y.Xg tg1 g1) (ht1 : PTs Y.Xg ifs1 tt1) (he : PE Y.Xg elt te) (hC : EatsMono Y.C)
    (st : GStep2 W J g tt wi1 g1 tt1 te vs vs1 Y.σ0 Y.C Y.F) : ∀ (m n : Nat) (i : Nat) (ys : List V) (H : Hp) (s0 s : Shared), m ≤ n → (∀ b ∈ Y.a :: Y.Sx, ∃ o, s0.heap.get? b = some o) → (∃ o, s0.heap.get? Y.a = some o ∧ ∀ v, o.data ≠ .cell v) → Inv Y.Xg (Y.pn s0) Y.σ0 H s → tn i s.heap → (∀ b ∈ Y.fp, H b = none) → W i m ys H →
      Run1 Y.M Y.B (Y.Z (Y.Rp n) ys s0) Y.loop (Y.M.den Y.loop) [] s := by
  intro m
  induction m using Nat.strongRecOn with
  | ind m ih =>
    intro n i ys H s0 s hmn there ag I stt fr w
    rw [den_one hge, Sem.onRaise_eq_wrap]
    have ct : compTurn Y.ge 0 (.ref Y.it) .none Y.cenv = compTurn (.GeneratorExp elt [⟨tg, iter, ifs, 0⟩, ⟨tg1, iter1, ifs1, 0⟩] scope gpos) 0 (.ref Y.it) .none Y.cenv := by rw [← hge]
    rw [ct]
    unfold compTurn
    simp only [List.getElem?_cons_succ, List.getElem?_cons_zero, List.getElem?_nil, bne_self_eq_false, Bool.false_eq_true, if_false]
    rw [← hge]
    refine run1_bind (wpAny_standAt ?_)
    rcases st i m ys H w with ⟨stop, fin⟩ | ⟨go, step⟩
    · refine run1_bind (wpAny_mono (T.done Y.Xg rfl rfl rfl rfl i (Y.pn s0) s Y.σ0 H (fun _ _ => False) I (O.fpOk I fr) stt stop) (fun r s1 ⟨hr, I1⟩ => ?_) fun _ _ z => z.elim)
      subst hr
      exact run1_end (.ok .next) (.inl ⟨rfl, Y.σ0, H, I1, fin⟩)
    · refine run1_bind (wpAny_mono (T.item Y.Xg rfl rfl rfl rfl i (Y.pn s0) s Y.σ0 H (fun _ _ => False) I (O.fpOk I fr) stt go) (fun r s1 ⟨u, hr, h1⟩ => ?_) fun _ _ z => z.elim)
      subst hr
      refine run1_bind (wpAny_mono h1 (fun _ s2 ⟨x, H2, I2, r2, y2, st2, fr2⟩ => ?_) fun _ _ z => z.elim)
      have I2' := I2.pinned (O.fpOk I2 fr2) (T.obj _ _ st2)
      refine run1_bind (wpAny_mono (hg.run _ s2 Y.σ0 H2 x u _ I2' r2 (step x H2 y2)) (fun _ s3 ⟨σ3, H3, I3, hw3, q3⟩ => ?_) fun _ _ z => z.elim)
      refine run1_bind (wpAny_mono (ht.run _ s3 σ3 H3 _ I3 q3) (fun b s4 ⟨H4, I4, q4⟩ => ?_) fun _ _ z => z.elim)
      have fpin : ∀ {s' : Shared} {H' : Hp}, Inv Y.Xg (Y.pn s0 ++ pinsAt Y.fp s2.heap) σ3 H' s' → tn (i + 1) s'.heap ∧ ∀ b ∈ Y.fp, H' b = none := fun {s' H'} I' => by
        have pin' : ∀ b ∈ Y.fp, ∀ o, s2.heap.get? b = some o → s'.heap.get? b = some o ∧ H' b = none := fun b hb o e => by
          have z := I'.pin (b, o) (List.mem_append_right _ (List.mem_append_right _ (mem_pinsAt hb e)))
          exact ⟨z.1, z.2.1⟩
        refine ⟨T.keep _ _ _ st2 fun b hb o e => (pin' b hb o e).1, fun b hb => ?_⟩
        obtain ⟨o, e, _⟩ := T.obj _ _ st2 b hb
        exact (pin' b hb o e).2
      have wk : ∀ {s' : Shared} {H' : Hp} {pins : List (Addr × Obj)}, Inv Y.Xg pins σ3 H' s' → Inv Y.Xg pins Y.σ0 H' s' := fun {s' H' pins} I' => by
        have hl : Y.σ0.length = σ3.length := by rw [← hw3, wipe_length]
        refine I'.weak hl fun j v e => ?_
        rw [← hw3] at e
        exact (wipe_some e).1
      cases b with
      | false =>
        simp only [Bool.false_eq_true, if_false] at q4 ⊢
        obtain ⟨m', hm, w'⟩ := q4
        exact run1_again rfl (ih m' hm n (i + 1) ys H4 s0 s4 (by omega) there ag (wk I4.unpinned) (fpin I4).1 (fpin I4).2 w')
      | true =>
        simp only [if_true] at q4 ⊢
        refine run1_bind (wpAny_mono (hi1.run _ s4 σ3 H4 _ I4 q4) (fun xv s5 h5 => ?_) fun _ _ z => z.elim)
        refine run1_bind (wpAny_standAt (run1_bind (wpAny_of_eq (hs1 xv) (run1_bind (wpAny_holding (wpAny_mono h5 (fun itv s6 h6 => ?_) fun _ _ z => z.elim))))))
        obtain ⟨it1, fp1, tn1, J1, H6, rfl, I6, T1, st1, f1, W1, ⟨m1, hm1, w1⟩, st'⟩ := h6
        have N : InIt Y fp1 :=
          { loc := fun b hb => (f1 b hb).2.1
            fs := fun b hb => (f1 b hb).2.2.1
            sz := fun b hb => (f1 b hb).2.2.2.1
            cel := fun b hb => (f1 b hb).2.2.2.2.1
            own := fun b hb z => by
              obtain ⟨o, e⟩ := there b z
              exact (f1 b hb).2.2.2.2.2 (b, o) (List.mem_append_right _ (List.mem_append_left _ (mem_pinsAt z e))) rfl
            out := fun b hb z => by
              obtain ⟨o, e, _⟩ := T.obj _ _ st2 b z
              exact (f1 b hb).2.2.2.2.2 (b, o) (List.mem_append_right _ (List.mem_append_right _ (mem_pinsAt z e))) rfl }
        have I7 : Inv Y.Xg (Y.pn s0) (wipe σ3 vs1) H6 s6 := (I6.unpinned).weak (wipe_length _ _) fun j v e => (wipe_some e).1
        rw [Sem.bind_eq_wrap', Sem.wrap_wrap]
        unfold runOwn run
        rw [Sem.onRaise_eq_wrap, Sem.wrap_wrap]
        show Run1 _ _ _ _ (.call (.compStart Y.ge 1 (.ref it1) .none Y.cenv) none false [] _) [] s6
        refine run1_call fun p => ?_
        have inner := fun (k : Result → Sem PySem.Fin) hk => gen_inner (Wo := fun m' ys H => m' < m ∧ W (i + 1) m' ys H) (k := k) (l := []) (kp := []) (p := p) hge O T T1 N hw3 hvs hg1 ht1 he hC (fun i1 m1 ys H w1 => by
          rcases st' i1 m1 ys H w1 with ⟨z1, m', z2, z3, z4⟩ | z
          · exact .inl ⟨z1, m', z2, z3, z4⟩
          · exact .inr z) hk m1 n 0 ys H6 s0 s6 (by omega) there ag I7 (fpin I6).1 (fpin I6).2 st1 (fun b hb => (f1 b hb).1) w1
        rw [den_in0 hge]
        have e : (clausesOf Y.ge)[1]? = some ⟨tg1, iter1, ifs1, 0⟩ := by rw [hge]; rfl
        unfold compStart
        rw [Sem.onRaise_eq_wrap, e]
        refine run1_bind (wpAny_askSetting ?_)
        split
        · exact run1_again rfl (inner _ fun m' n' ys' H' s0' s' h1 h2 h3 h4 h5 h6 h7 => run1_again rfl (ih m' h7.1 n' (i + 1) ys' H' s0' s' h1 h2 h3 h4 h5 h6 h7.2))
        · refine run1_bind (wpAny_rule (run1_bind (wpAny_standAt (run1_bind (T1.self _ 0 s6 _ _ st1 (run1_again rfl (inner _ fun m' n' ys' H' s0' s' h1 h2 h3 h4 h5 h6 h7 => ?_)))))))
          exact run1_again rfl (ih m' h7.1 n' (i + 1) ys' H' s0' s' h1 h2 h3 h4 h5 h6 h7.2)
/-- from the start -/
theorem gen_first {Y : GEx} {elt tg iter : Expr} {ifs : List Expr} {scope : Scope} {gpos : Pos} {cs : List Comprehension} (hge : Y.ge = .GeneratorExp elt (⟨tg, iter, ifs, 0⟩ :: cs) scope gpos) {J : It} {tn : Nat → Heap → Prop} {Z : End → Shared → Prop} (T : Turn Y.X.prog Y.X.w Y.X.K tg J Y.fp Y.it tn) (s : Shared) (stt : tn 0 s.heap)
    (loop : Run1 Y.M Y.B Z Y.loop (Y.M.den Y.loop) [] s) : Run1 Y.M Y.B Z (.compStart Y.ge 0 (.ref Y.it) .none Y.cenv) (Y.M.den (.compStart Y.ge 0 (.ref Y.it) .none Y.cenv)) [] s := by
  rw [den_start hge]
  have e : (clausesOf Y.ge)[0]? = some ⟨tg, iter, ifs, 0⟩ := by rw [hge]; rfl
  unfold compStart
  rw [Sem.onRaise_eq_wrap, e]
  show Run1 _ _ _ _ ((ask >>= _).wrap _ _ _ _) [] s
  refine run1_bind (wpAny_askSetting ?_)
  split
  · exact run1_again rfl loop
  · first
      | exact run1_bind (wpAny_rule (run1_bind (wpAny_standAt (run1_bind (T.self _ 0 s _ _ stt (run1_again rfl loop))))))
      | (refine run1_bind (wpAny_rule ?_); show Run1 _ _ _ _ ((standAt iter.pos >>= _).wrap _ _ _ _) [] s; exact run1_bind (wpAny_standAt (run1_bind (T.self _ 0 s _ _ stt (run1_again rfl loop)))))

/-! ### making it -/
/-- the generator a (number g) in s5, made at s4 over the iterator it -/
structure Made (X : Cx) (pins : List (Addr × Obj)) (σ : L2.St) (ge tg : Expr) (scope : Scope) (J : It) (H2 : Hp) (s4 : Shared) (cenv : Env) (fp : List Addr) (it : Addr) (tn : Nat → Heap → Prop) (a g : Addr) (s5 : Shared) : Prop where
  inv : Inv X pins σ H2 s4
  fps : ∀ b ∈ fp, FpOk X pins H2 b ∧ b < s4.heap.objs.size
  turn : Turn X.prog X.w X.K tg J fp it tn
  at0 : tn 0 s4.heap
  env : ∃ code, cenv = genEnv scope (cloFrom X.env.cells scope.names []) s4.heap.objs.size code builtinsNs X.env
  os : s5.os = s4.os
  gens : s5.gens = s4.gens.push (.fresh (.compStart ge 0 (.ref it) .none cenv))
  num : g = s4.gens.size
  drawn : s5.drawn = s4.drawn
  isg : s5.heap.IsGen a g
  new : s4.heap.objs.size < a
  lt : s5.heap.objs.size = a + 1
  keep : ∀ b o, s4.heap.get? b = some o → s5.heap.get? b = some o
  ns : ∃ m, s5.heap.Ns s4.heap.objs.size m
section
variable {X : Cx} {pins : List (Addr × Obj)} {σ : L2.St} {H : Hp} {s : Shared}
theorem make_any {M : Model} {A : Around} {E : Value → Shared → Prop} {s : Shared} {env : Env} {elt tg iter : Expr} {ifs : List Expr} {cs : List Comprehension} {scope : Scope} {cl : List (Str × Addr)} {pos : Pos} {Q : Value → Shared → Prop} (G : GScp scope) (hcl : closureFor scope env = pure cl) (hroom : A.depth < recursionLimit)
    (h : wpAny M A (eval iter env) (fun xv s1 => wpAny M A (pyIter xv) (fun it s2 => s2.heap.NoLimit ∧ wpAny M A (genexprCode env pos (env.qual ++ "<genexpr>") scope) (fun code s3 => wpAny M A (builtinsFor env.globals env.builtins) (fun bi s4 =>
      ∀ h', h'.Ns s4.heap.objs.size (fun y => if y = ".0" then some it else none) → Heap.SameBut s4.heap.objs.size (s4.heap.push { cls := .type "frame", data := .dict #[] }) h' →
        Q (.ref h'.objs.size) { s4 with gens := s4.gens.push (.fresh (.compStart (.GeneratorExp elt (⟨tg, iter, ifs, 0⟩ :: cs) scope pos) 0 it .none (genEnv scope cl s4.heap.objs.size code bi env))), toks := s4.toks + 1 + 1 + 1, heap := h'.push { cls := .type "generator", data := .fields #[.int s4.gens.size 0, .str "<genexpr>" (s4.toks + 1), .str (env.qual ++ "<genexpr>") (s4.toks + 1 + 1)] } }) E s3) E s2) E s1) E s)
    (hs : ∀ x, genFold iter env x = pure x) : wpAny M A (eval (.GeneratorExp elt (⟨tg, iter, ifs, 0⟩ :: cs) scope pos) env) Q E s := by
  rw [arm_eval_GeneratorExp]
  simp only [G.co, Bool.false_eq_true, if_false]
  refine wpAny_bind (thn h fun xv s1 h1 => wpAny_bind (wpAny_standAt (wpAny_bind (wpAny_of_eq (a := xv) ?_ ?_))))
  · have := hs xv
    unfold genFold at this
    cases iter <;> exact this
  refine wpAny_bind (wpAny_holding (thn h1 fun it s2 h2 => wpAny_bind (wpAny_enterFrame h2.1 hroom ?_)))
  rw [hcl]
  refine wpAny_bind (wpAny_pure (wpAny_bind (thn h2.2 fun code s3 h3 => wpAny_bind (thn h3 fun bi s4 h4 => ?_))))
  have hb : ∀ y ∈ ([((".0" : Str), it)] : List (Str × Value)), scope.names.lookup y.1 = some NameKind.local := fun y hy => by
    rw [List.mem_singleton.mp hy]
    exact G.dot
  refine wpAny_bind (wpAny_newFunctionEnv G.nocell hb (fun h' hn' hs' => ?_) G.kind)
  have e : (fun y : Str => ([((".0" : Str), it)] : List (Str × Value)).reverse.lookup y) = fun y : Str => if y = (".0" : Str) then some it else none := by
    funext y
    by_cases hy : y = ".0"
    · subst hy
      simp
    · have : (y == (".0" : Str)) = false := by simpa using hy
      simp [List.lookup, this, hy]
  rw [e] at hn'
  simp only [newGenerator, newFields]
  exact wpAny_bind (wpAny_newGen (wpAny_bind (wpAny_mkText (wpAny_bind (wpAny_mkText (wpAny_newObj_type (h4 h' hn' hs') (by size_fits)))))))
theorem gen_made {c P : Addr} {elt tg iter : Expr} {ifs : List Expr} {cs : List Comprehension} {scope : Scope} {own : List (Str × Nat)} {gpos : Pos} {wi : TI} {k : Nat} {R : It → Hp → Prop} {Q' : Value → Shared → Prop} (hr : Room k X.A) (TB : LamX.TabB X.base X.mg c P) (hcode : X.env.code = .ref c)
    (G : GScp scope) (ok : BlkOk X.N X.env.scope scope own) (hi : PI X tg iter wi) (hs : ∀ v, genFold iter X.env v = pure v) (I : Inv X pins σ H s) (h : wi σ H fun J H1 => TabG H1 P ∧ R J H1)
    (hQ : ∀ J H1 H2 s4 cenv fp it tn a g s5, R J H1 → Tabbed P H1 H2 → Made X pins σ (.GeneratorExp elt (⟨tg, iter, ifs, 0⟩ :: cs) scope gpos) tg scope J H2 s4 cenv fp it tn a g s5 → Q' (.ref a) s5) :
    wpAny (model X.prog X.w) X.A (eval (.GeneratorExp elt (⟨tg, iter, ifs, 0⟩ :: cs) scope gpos) X.env) Q' X.xe s := by
  refine make_any G (closure_ok (blk_free ok I.ok)) hr.depth ?_ hs
  refine thn (hi.run pins s σ H _ I h) fun xv s1 h1 => thn h1 fun itv s2 h2 => ?_
  obtain ⟨it, fp, tn, J, H1, rfl, I2, T, st2, f2, ⟨ps, hP, htr⟩, q⟩ := h2
  refine ⟨I2.nolimit, ?_⟩
  have hPs : s2.heap.get? P = some { cls := .none, data := .fields ps } := I2.hok P _ hP
  have cd : PySem.W.CodeHd s2.heap c P := TB.code.keeps fun b u e => I2.bk b u e
  have nfP : ∀ b ∈ fp, b ≠ P := fun b hb z => by
    have e := (f2 b hb).1
    rw [z, hP] at e
    cases e
  have cont : ∀ (code : Value) (h3 : Heap) (tk : Nat) (ps' : Array Value), Heap.ExtBut P s2.heap h3 → h3.get? P = some { cls := .none, data := .fields ps' } → (∃ more, ps' = ps ++ more) → TriplesOk ps'.toList →
      wpAny (model X.prog X.w) X.A (builtinsFor X.env.globals X.env.builtins) (fun bi s₄ => ∀ h', h'.Ns s₄.heap.objs.size (fun y => if y = ".0" then some (.ref it) else none) → Heap.SameBut s₄.heap.objs.size (s₄.heap.push { cls := .type "frame", data := .dict #[] }) h' →
          Q' (.ref h'.objs.size) { s₄ with
            gens := s₄.gens.push (.fresh (.compStart (.GeneratorExp elt (⟨tg, iter, ifs, 0⟩ :: cs) scope gpos) 0 (.ref it) .none (genEnv scope (cloFrom X.env.cells scope.names []) s₄.heap.objs.size code bi X.env))),
            toks := s₄.toks + 1 + 1 + 1,
            heap := h'.push { cls := .type "generator", data := .fields #[.int s₄.gens.size 0, .str "<genexpr>" (s₄.toks + 1), .str (X.env.qual ++ "<genexpr>") (s₄.toks + 1 + 1)] } }) X.xe { s2 with heap := h3, toks := tk } := by
    intro code h3 tk ps' hx hP3 hmore ht3
    obtain ⟨bm, ob, e1, e2, e3, e4, e5, e6, e7, e8⟩ := TB.bm
    have keep3 : ∀ b u, b ≠ P → s2.heap.get? b = some u → h3.get? b = some u := fun b u hb e => hx b u hb e
    refine wpAny_builtinsFor (m := X.mg) (by rw [I2.ok.glob]; exact (I2.mod.glob.keeps I2.bk).extBut hx TB.gP) e1 e2 (keep3 _ _ e4 (I2.bk _ _ e5)) e6 e7 e8 ?_
    intro h' hn' hs'
    obtain ⟨more, em⟩ := hmore
    have J4 := inv_tab (more := more) (h' := h3) (g' := s2.gens) (d' := s2.drawn) (t' := tk) I2 hP (fun b u hb e => keep3 b u hb e) (by rw [← em]; exact hP3) I2.bare
    have J4 : Inv X pins σ (upd H1 P (.tbl (ps ++ more))) { s2 with heap := h3, toks := tk } := J4
    have keep' : ∀ b o, h3.get? b = some o → h'.get? b = some o := fun b o e => hs'.extBut b o (Nat.ne_of_lt (Heap.lt_size e)) (Heap.get?_push_of_some _ e)
    have hsz : h'.objs.size = h3.objs.size + 1 := by rw [hs'.1, Heap.size_push]
    have nfpH : ∀ b ∈ fp, upd H1 P (.tbl (ps ++ more)) b = none := fun b hb => by rw [upd_ne (nfP b hb)]; exact (f2 b hb).1
    refine hQ J H1 (upd H1 P (.tbl (ps ++ more))) { s2 with heap := h3, toks := tk } (genEnv scope (cloFrom X.env.cells scope.names []) h3.objs.size code builtinsNs X.env) fp it tn _ s2.gens.size _ q ⟨⟨ps ++ more, upd_same, by rw [← em]; exact ht3⟩, fun b hb => upd_ne hb⟩
      { inv := J4, fps := fun b hb => ?_, turn := T, at0 := ?_, env := ⟨code, rfl⟩, os := rfl, gens := rfl, num := rfl, drawn := rfl, isg := ⟨_, _, _, Heap.get?_push_size _ rfl, rfl, rfl, rfl⟩, new := ?_, lt := ?_, keep := fun b o e => Heap.get?_push_of_some _ (keep' b o e), ns := ⟨_, hn'.push _⟩ }
    · obtain ⟨o, e, _⟩ := T.obj _ _ st2 b hb
      exact ⟨⟨nfpH b hb, (f2 b hb).2⟩, Heap.lt_size (keep3 b o (nfP b hb) e)⟩
    · exact T.keep _ _ _ st2 fun b hb o e => keep3 b o (nfP b hb) e
    · show h3.objs.size < h'.objs.size
      rw [hsz]; exact Nat.lt_succ_self _
    · exact Heap.size_push ..
  cases hf : codeAmong gpos ps.toList with
  | none =>
    refine wpAny_genexprCodeX hcode (cd.code hPs htr) (cd.tab hPs) hf fun c' h' tk hx hge hlt hco' _ htab' _ => ?_
    obtain ⟨o1, vs, f1, tf, fl, tg, inF, tx, tt, op, _, _, _, _, _, _, _, _, _, htr', _⟩ := hco'
    exact cont _ h' tk _ hx htab'.2 ⟨_, rfl⟩ htr'
  | some cv =>
    refine wpAny_genexprCode_hit hcode (cd.code hPs htr) hf ?_
    exact cont cv s2.heap s2.toks ps (Heap.ExtBut.refl _ _) hPs ⟨#[], by simp⟩ htr
end

/-! ### ready -/
theorem Aft.refl {s : Shared} (hb : AllBare s.gens) : Aft [] s s := ⟨rfl, hb, fun _ _ _ e => e, fun b z => by cases z⟩
theorem over_fr {B : Around} {ge elt : Expr} {cs : List Comprehension} {scope : Scope} {gpos : Pos} {it : Value} {cenv : Env} {l : List Env} (hge : ge = .GeneratorExp elt cs scope gpos) (h : B.frames = some l) :
    (B.over (.compLoop ge 0 it .none cenv) []).frames = some (cenv :: l) := by
  subst hge
  obtain ⟨b1, b2, b3, b4, b5⟩ := B
  cases h
  rfl
/-- room in the generator's frame -/
structure NearA (B A : Around) : Prop where
  hd : B.handled = A.handled
  fr : B.frames = A.frames
  dp : B.depth ≤ A.depth + 2
  un : B.units ≤ A.units + 12
theorem NearA.room {B A : Around} {k : Nat} {ge elt : Expr} {cs : List Comprehension} {scope : Scope} {gpos : Pos} {it : Value} {cenv : Env} (hge : ge = .GeneratorExp elt cs scope gpos) (n : NearA B A) (r : Room (k + 1) A) : Room k (B.over (.compLoop ge 0 it .none cenv) []) := by
  subst hge
  obtain ⟨n1, n2, n3, n4⟩ := n
  obtain ⟨r1, r2, r3⟩ := r
  refine ⟨?_, ?_, ?_⟩
  · show B.handled = none
    rw [n1]; exact r1
  · show B.depth + 0 + 1 + 3 * k + 5 < _
    omega
  · show B.units + 0 + 3 + 16 * k + 200 < _
    omega
theorem nearA2 (A : Around) : NearA A.in1.in1 A := ⟨rfl, rfl, Nat.le_add_right _ _, by show A.units + 1 + 1 ≤ _; omega⟩
section
variable {X : Cx} {pins : List (Addr × Obj)} {σ : L2.St} {H2 : Hp} {s4 s5 : Shared}
abbrev mkY (X : Cx) (s4 : Shared) (H2 : Hp) (cenv : Env) (fp : List Addr) (B : Around) (σ0 : L2.St) (ge : Expr) (it a : Addr) (g : Nat) (Sx : List Addr) (C : Eats) (F : List V → Hp → Prop) : GEx :=
  ⟨X, s4, H2, cenv, fp, B, σ0, ge, it, a, g, Sx, C, F⟩
theorem gen_rdy0 {ge elt tg iter : Expr} {ifs : List Expr} {cs : List Comprehension} {scope : Scope} {own : List (Str × Nat)} {gpos : Pos} {J : It} {cenv : Env} {fp : List Addr} {it a g : Addr} {tn : Nat → Heap → Prop} {B : Around} {k : Nat} {C : Eats} {F : List V → Hp → Prop} {Sx : List Addr} (hge : ge = .GeneratorExp elt (⟨tg, iter, ifs, 0⟩ :: cs) scope gpos)
    (hr : Room (k + 1) X.A) (hB : NearA B X.A) (G : GScp scope) (ok : BlkOk X.N X.env.scope scope own) (hN : X.N.Nodup) (M : Made X pins σ ge tg scope J H2 s4 cenv fp it tn a g s5)
    (hS : ∀ b ∈ Sx, a < b) (m : Nat) (turns : (mkY X s4 H2 cenv fp B (wipe σ (own.map (·.2))) ge it a g Sx C F).Ok → Room k (B.over (.compLoop ge 0 (.ref it) .none cenv) []) → ∀ s0 s, (∀ b ∈ a :: Sx, ∃ o, s0.heap.get? b = some o) → (∃ o, s0.heap.get? a = some o ∧ ∀ v, o.data ≠ .cell v) →
      Inv (mkY X s4 H2 cenv fp B (wipe σ (own.map (·.2))) ge it a g Sx C F).Xg ((mkY X s4 H2 cenv fp B (wipe σ (own.map (·.2))) ge it a g Sx C F).pn s0) (wipe σ (own.map (·.2))) H2 s → tn 0 s.heap → (∀ b ∈ fp, H2 b = none) →
      Run1 (model X.prog X.w) B ((mkY X s4 H2 cenv fp B (wipe σ (own.map (·.2))) ge it a g Sx C F).Z ((mkY X s4 H2 cenv fp B (wipe σ (own.map (·.2))) ge it a g Sx C F).Rp m) [] s0) (.compLoop ge 0 (.ref it) .none cenv) ((model X.prog X.w).den (.compLoop ge 0 (.ref it) .none cenv)) [] s) :
    (mkY X s4 H2 cenv fp B (wipe σ (own.map (·.2))) ge it a g Sx C F).Ok ∧
    (mkY X s4 H2 cenv fp B (wipe σ (own.map (·.2))) ge it a g Sx C F).Rdy m [] H2 (.fresh (.compStart ge 0 (.ref it) .none cenv)) s5 := by
  obtain ⟨code, hce⟩ := M.env
  have hfree := blk_free ok M.inv.ok
  have O : (mkY X s4 H2 cenv fp B (wipe σ (own.map (·.2))) ge it a g Sx C F).Ok :=
    { new := fun b hb => by
        rcases List.mem_cons.mp hb with z | z
        · rw [z]; exact M.new
        · exact Nat.lt_trans M.new (hS b z)
      loc := by
        show cenv.locals = _
        rw [hce]; rfl
      cel := fun y c e => by
        have e : cenv.cells.lookup y = some c := e
        rw [hce] at e
        obtain ⟨v, z⟩ := M.inv.cell y c (NdefX.clo_cm hfree e)
        exact z.lt
      fps := fun b hb => (M.fps b hb).2
      aS := fun z => Nat.lt_irrefl _ (hS _ z)
      co := by
        show cenv.scope.isCoroutine = false
        rw [hce]; exact G.co }
  refine ⟨O, (GEx.rdy_iff _ m _ _ _ _).mpr fun s6 A6 => ?_⟩
  have R := hB.room (k := k) (it := Value.ref it) (cenv := cenv) hge hr
  have hfrm : (B.over (.compLoop ge 0 (.ref it) .none cenv) []).frames = some (cenv :: X.stack) := over_fr hge (by rw [hB.fr]; exact M.inv.ok.frames)
  have hS2 : ∀ b o, s5.heap.get? b = some o → b < a + 1 := fun b o e => by
    have := Heap.lt_size e
    rw [M.lt] at this
    exact this
  have kp5 : ∀ b o, s5.heap.get? b = some o → s6.heap.get? b = some o := fun b o e => A6.keep b o (fun z => by
    have h1 := hS b z
    have h2 := hS2 b o e
    exact Nat.lt_irrefl _ (Nat.lt_of_lt_of_le h1 (Nat.le_of_lt_succ h2))) e
  have kp : ∀ b o, s4.heap.get? b = some o → s6.heap.get? b = some o := fun b o e => kp5 b o (M.keep b o e)
  have agn : ∃ o, s6.heap.get? a = some o ∧ ∀ v, o.data ≠ .cell v := by
    obtain ⟨o, n1, n2, e, c, d, _⟩ := M.isg
    exact ⟨o, kp5 _ _ e, fun v z => by rw [d] at z; cases z⟩
  have there : ∀ b ∈ a :: Sx, ∃ o, s6.heap.get? b = some o := fun b hb => by
    rcases List.mem_cons.mp hb with z | z
    · obtain ⟨o, e, _⟩ := agn
      exact ⟨o, by rw [z]; exact e⟩
    · obtain ⟨o, e, _⟩ := A6.own b z
      exact ⟨o, e⟩
  obtain ⟨mm, hns⟩ := M.ns
  have hns6 : s6.heap.Ns s4.heap.objs.size mm := by
    obtain ⟨ob, es, ep, ho, r⟩ := hns
    exact ⟨ob, es, ep, kp5 _ ob ho, r⟩
  have ho6 : s6.os = s4.os := A6.os.trans M.os
  have I0 := gen_start (code := code) (A := B.over (.compLoop ge 0 (.ref it) .none cenv) []) (g' := (s6.setGen g .running).gens) (d' := s6.drawn) (t' := s6.toks) M.inv ok G hN M.fps R.hd (by rw [← hce]; exact hfrm) hns6 kp (allBare_setGen A6.bare rfl)
  rw [← hce] at I0
  have I1 : Inv (mkY X s4 H2 cenv fp B (wipe σ (own.map (·.2))) ge it a g Sx C F).Xg [] (wipe σ (own.map (·.2))) H2 (s6.setGen g .running) := by
    obtain ⟨h6, g6, d6, t6, o6⟩ := s6
    have ho6 : o6 = s4.os := ho6
    subst ho6
    exact I0
  have I2 : Inv (mkY X s4 H2 cenv fp B (wipe σ (own.map (·.2))) ge it a g Sx C F).Xg ((mkY X s4 H2 cenv fp B (wipe σ (own.map (·.2))) ge it a g Sx C F).pn s6) (wipe σ (own.map (·.2))) H2 (s6.setGen g .running) := by
    refine I1.pins_of fun p hp => ?_
    have hp : p ∈ pinsAt (a :: Sx) s6.heap := hp
    obtain ⟨hb, e⟩ := of_pinsAt hp
    have h1 := O.new _ hb
    refine ⟨e, M.inv.hok.fresh (Nat.le_of_lt h1), fun z => ?_, fun z => ?_, ?_⟩
    · have z : p.1 = cenv.locals := z
      rw [z, show cenv.locals = _ from O.loc] at h1
      exact Nat.lt_irrefl _ h1
    · obtain ⟨_, ob, hob, _⟩ := I1.ok.funs.mem z
      exact absurd (Nat.lt_trans h1 (Heap.lt_size hob)) (Nat.lt_irrefl _)
    · rcases List.mem_cons.mp hb with z | z
      · obtain ⟨oa, ea, da⟩ := agn
        rw [z, ea] at e
        cases e
        exact da
      · obtain ⟨ob, eb, db⟩ := A6.own _ z
        rw [e] at eb
        cases eb
        exact db
  have st6 := M.turn.keep _ _ _ M.at0 fun b hb o e => kp b o e
  have stY : tn 0 (s6.setGen g .running).heap := st6
  exact gen_first (Y := mkY X s4 H2 cenv fp B (wipe σ (own.map (·.2))) ge it a g Sx C F) hge M.turn (s6.setGen g .running) stY (turns O R s6 (s6.setGen g .running) there agn I2 stY fun b hb => (M.fps b hb).1.1)
theorem gen_rdy {elt tg iter : Expr} {ifs : List Expr} {scope : Scope} {own : List (Str × Nat)} {gpos : Pos} {J : It} {cenv : Env} {fp : List Addr} {it a g : Addr} {tn : Nat → Heap → Prop} {B : Around} {k : Nat} {gt : TG} {tt : TT} {te : TE} {W : Nat → Nat → List V → Hp → Prop} {C : Eats} {F : List V → Hp → Prop} {Sx : List Addr}
    (hr : Room (k + 1) X.A) (hB : NearA B X.A) (G : GScp scope) (ok : BlkOk X.N X.env.scope scope own) (hN : X.N.Nodup) (M : Made X pins σ (.GeneratorExp elt [⟨tg, iter, ifs, 0⟩] scope gpos) tg scope J H2 s4 cenv fp it tn a g s5)
    (hg : ∀ A, Room k A → PG (gcx X s4 H2 cenv fp A) tg gt) (ht : ∀ A, Room k A → PTs (gcx X s4 H2 cenv fp A) ifs tt) (he : ∀ A, Room k A → PE (gcx X s4 H2 cenv fp A) elt te)
    (hS : ∀ b ∈ Sx, a < b) (hC : EatsMono C) (st : GStep W J gt tt te (own.map (·.2)) (wipe σ (own.map (·.2))) C F) (m : Nat) (w0 : W 0 m [] H2) :
    (mkY X s4 H2 cenv fp B (wipe σ (own.map (·.2))) (.GeneratorExp elt [⟨tg, iter, ifs, 0⟩] scope gpos) it a g Sx C F).Ok ∧
    (mkY X s4 H2 cenv fp B (wipe σ (own.map (·.2))) (.GeneratorExp elt [⟨tg, iter, ifs, 0⟩] scope gpos) it a g Sx C F).Rdy m [] H2 (.fresh (.compStart (.GeneratorExp elt [⟨tg, iter, ifs, 0⟩] scope gpos) 0 (.ref it) .none cenv)) s5 :=
  gen_rdy0 rfl hr hB G ok hN M hS m fun O R s0 s th ag I stt fr =>
    gen_turns (Y := mkY X s4 H2 cenv fp B (wipe σ (own.map (·.2))) (.GeneratorExp elt [⟨tg, iter, ifs, 0⟩] scope gpos) it a g Sx C F) rfl O M.turn (hg _ R) (ht _ R) (he _ R) hC st m m 0 [] H2 s0 s (Nat.le_refl _) th ag I stt fr w0
theorem gen_rdy2 {elt tg iter tg1 iter1 : Expr} {ifs ifs1 : List Expr} {scope : Scope} {own : List (Str × Nat)} {vs1 : List Nat} {gpos : Pos} {J : It} {cenv : Env} {fp : List Addr} {it a g : Addr} {tn : Nat → Heap → Prop} {B : Around} {k : Nat} {gt g1 : TG} {tt tt1 : TT} {te : TE} {wi1 : TI} {W : Nat → Nat → List V → Hp → Prop} {C : Eats} {F : List V → Hp → Prop} {Sx : List Addr}
    (hr : Room (k + 1) X.A) (hB : NearA B X.A) (G : GScp scope) (ok : BlkOk X.N X.env.scope scope own) (hN : X.N.Nodup) (hvs : ∀ v ∈ vs1, v ∈ own.map (·.2)) (M : Made X pins σ (.GeneratorExp elt [⟨tg, iter, ifs, 0⟩, ⟨tg1, iter1, ifs1, 0⟩] scope gpos) tg scope J H2 s4 cenv fp it tn a g s5)
    (hg : ∀ A, Room k A → PG (gcx X s4 H2 cenv fp A) tg gt) (ht : ∀ A, Room k A → PTs (gcx X s4 H2 cenv fp A) ifs tt) (hi1 : ∀ A, Room k A → PI (gcx X s4 H2 cenv fp A) tg1 iter1 wi1) (hs1 : ∀ x, foldedSetIterable iter1 cenv x = pure x) (hg1 : ∀ A, Room k A → PG (gcx X s4 H2 cenv fp A) tg1 g1) (ht1 : ∀ A, Room k A → PTs (gcx X s4 H2 cenv fp A) ifs1 tt1) (he : ∀ A, Room k A → PE (gcx X s4 H2 cenv fp A) elt te)
    (hS : ∀ b ∈ Sx, a < b) (hC : EatsMono C) (st : GStep2 W J gt tt wi1 g1 tt1 te (own.map (·.2)) vs1 (wipe σ (own.map (·.2))) C F) (m : Nat) (w0 : W 0 m [] H2) :
    (mkY X s4 H2 cenv fp B (wipe σ (own.map (·.2))) (.GeneratorExp elt [⟨tg, iter, ifs, 0⟩, ⟨tg1, iter1, ifs1, 0⟩] scope gpos) it a g Sx C F).Ok ∧
    (mkY X s4 H2 cenv fp B (wipe σ (own.map (·.2))) (.GeneratorExp elt [⟨tg, iter, ifs, 0⟩, ⟨tg1, iter1, ifs1, 0⟩] scope gpos) it a g Sx C F).Rdy m [] H2 (.fresh (.compStart (.GeneratorExp elt [⟨tg, iter, ifs, 0⟩, ⟨tg1, iter1, ifs1, 0⟩] scope gpos) 0 (.ref it) .none cenv)) s5 :=
  gen_rdy0 rfl hr hB G ok hN M hS m fun O R s0 s th ag I stt fr =>
    gen_turns2 (Y := mkY X s4 H2 cenv fp B (wipe σ (own.map (·.2))) (.GeneratorExp elt [⟨tg, iter, ifs, 0⟩, ⟨tg1, iter1, ifs1, 0⟩] scope gpos) it a g Sx C F) rfl O M.turn hvs (hg _ R) (ht _ R) (hi1 _ R) hs1 (hg1 _ R) (ht1 _ R) (he _ R) hC st m m 0 [] H2 s0 s (Nat.le_refl _) th ag I stt fr w0
end
/-- out of the generator's frame -/
theorem GEx.out {Y : GEx} {pins ps : List (Addr × Obj)} {σ σ' : L2.St} {H' : Hp} {s1 s2 : Shared} (I4 : Inv Y.X pins σ Y.H1 Y.s4) (hf : ∀ b ∈ Y.fp, FpOk Y.X pins Y.H1 b) (I : Inv Y.Xg ps σ' H' s1) (A : Aft [] s1 s2) : Inv Y.X pins σ H' s2 := by
  have k : ∀ b o, s1.heap.get? b = some o → s2.heap.get? b = some o := fun b o e => A.keep b o (by simp) e
  exact I4.call' (ch := Y.fp) (A.os.trans I.os) (I.base.trans (Un.kept k)) (I.hok.kept k) A.bare fun b hb => ⟨(hf b hb).2.2.2.1, (hf b hb).2.1, (hf b hb).2.2.2.2.1, (hf b hb).2.2.2.2.2⟩
/-- next(g) -/
theorem GEx.next {Y : GEx} {A : Around} {Q : Option Value → Shared → Prop} {E : Value → Shared → Prop} {n : Nat} {ys : List V} {H : Hp} {gs : GenState} {sp s : Shared} (O : Y.Ok) (hB : Y.B = A.in1) (hh : A.handled = none) (hroom : A.depth < recursionLimit) (nl : s.heap.NoLimit)
    (rd : Y.Rdy n ys H gs sp) (af : Aft Y.Sx sp s) (hg : s.heap.IsGen Y.a Y.g) (hgs : s.gens[Y.g]? = some gs) (hlt : Y.g < s.gens.size)
    (qN : ∀ σ' H' s1 s2, Inv Y.Xg (Y.pn s) σ' H' s1 → Y.F ys H' → Aft [] s1 s2 → Q none s2)
    (qS : ∀ v y σ' H' s1 gs', Inv Y.Xg (Y.pn s) σ' H' s1 → RelV y v → Y.C ys y H' (Y.Rp n (ys ++ [y]) H' gs' s1) → gs'.bare = true → s.gens.size ≤ s1.gens.size → Q (some v) (s1.setGen Y.g gs')) : wpAny Y.M A (pyNext (.ref Y.a)) Q E s := by
  have go := (GEx.rdy_iff Y n ys H gs sp).mp rd s af
  rw [hB] at go
  refine next1 hh nl hroom hg hgs go fun e s1 z hsz => ?_
  rcases z with ⟨rfl, σ', H', I, f⟩ | ⟨v, l, k, c, p, fs, y, σ', H', rfl, q, I, r, cc⟩
  · exact .inl ⟨rfl, fun h' kk => qN σ' H' s1 _ I f ⟨rfl, allBare_setGen I.bare rfl, fun b o _ e => kk b o e, fun b z => by cases z⟩⟩
  · exact .inr ⟨v, l, k, c, p, fs, rfl, q, qS v y σ' H' s1 _ I r cc (bare_of q) hsz⟩

/-! ### all, any -/
/-- stop at the first value that is e -/
def eTill (e : Bool) (Qd : Bool → Hp → Prop) : Eats := fun _ y H go => ∃ b, y = .bl b ∧ if b = e then Qd e H else go
theorem eTill_mono {e : Bool} {Qd : Bool → Hp → Prop} : EatsMono (eTill e Qd) := fun ys y H p q h ⟨b, hb, z⟩ => ⟨b, hb, by
  by_cases hbe : b = e
  · rw [if_pos hbe] at z ⊢; exact z
  · rw [if_neg hbe] at z ⊢; exact h z⟩
section
variable {Y : GEx} {Qd : Bool → Hp → Prop} {R : Result → Shared → Prop} {A : Around}
theorem all_loop1 (O : Y.Ok) (hB : Y.B = A.in1.in1) (hS : Y.Sx = []) (hC : Y.C = eTill false Qd) (hF : Y.F = fun _ H => Qd true H) (hh : A.handled = none) (hroom : A.depth < recursionLimit)
    (hR : ∀ k ps σ' H' s1 s2, Inv Y.Xg ps σ' H' s1 → Aft [] s1 s2 → Qd k H' → R (.ok (.ret (.bool k))) s2) : ∀ (n : Nat) (ys : List V) (H : Hp) (gs : GenState) (sp s : Shared), Y.Rdy n ys H gs sp → Aft Y.Sx sp s → s.heap.IsGen Y.a Y.g → s.gens[Y.g]? = some gs → s.heap.NoLimit →
      codeAny Y.M A (.builtin "all.loop" ⟨[.ref Y.a], []⟩) R s := by
  intro n
  induction n with
  | zero =>
    intro ys H gs sp s rd af hg hgs nl
    refine codeAny_builtin PySem.F.entry_all_loop ?_
    rw [Around.under_plainId PySem.F.plain_all_loop _]
    show wpAny _ A.in1 (pyNext (.ref Y.a) >>= _) _ _ s
    refine wpAny_bind (GEx.next O hB hh hroom nl rd af hg hgs (Array.getElem?_eq_some_iff.mp hgs).1 (fun σ' H' s1 s2 I f a => ?_) fun v y σ' H' s1 gs' I r c hb hsz => ?_)
    · rw [hF] at f
      exact wpAny_bind (wpAny_rule (wpAny_pure (hR true _ σ' H' s1 s2 I a f)))
    · rw [hC] at c
      obtain ⟨b, rfl, c⟩ := c
      obtain rfl : v = .bool b := r
      refine wpAny_bind (wpAny_holding (wpAny_truthy_bool ?_))
      refine wpAny_bind (wpAny_letGo ?_)
      cases b with
      | true => exact (show False from c).elim
      | false =>
        simp only [Bool.false_eq_true, if_false]
        exact wpAny_bind (wpAny_rule (wpAny_pure (hR false _ σ' H' s1 _ I ⟨rfl, allBare_setGen I.bare hb, fun _ _ _ e => e, fun b z => by cases z⟩ c)))
  | succ n ih =>
    intro ys H gs sp s rd af hg hgs nl
    refine codeAny_builtin PySem.F.entry_all_loop ?_
    rw [Around.under_plainId PySem.F.plain_all_loop _]
    show wpAny _ A.in1 (pyNext (.ref Y.a) >>= _) _ _ s
    refine wpAny_bind (GEx.next O hB hh hroom nl rd af hg hgs (Array.getElem?_eq_some_iff.mp hgs).1 (fun σ' H' s1 s2 I f a => ?_) fun v y σ' H' s1 gs' I r c hb hsz => ?_)
    · rw [hF] at f
      exact wpAny_bind (wpAny_rule (wpAny_pure (hR true _ σ' H' s1 s2 I a f)))
    · rw [hC] at c
      obtain ⟨b, rfl, c⟩ := c
      obtain rfl : v = .bool b := r
      refine wpAny_bind (wpAny_holding (wpAny_truthy_bool ?_))
      refine wpAny_bind (wpAny_letGo ?_)
      cases b with
      | true =>
        simp only [if_true]
        obtain ⟨o, n1, n2, e, r⟩ := hg
        refine wpAny_pure ⟨plainId_quiet PySem.F.plain_all_loop _, ih _ H' gs' s1 (s1.setGen Y.g gs') c (by rw [hS]; exact ⟨rfl, allBare_setGen I.bare hb, fun _ _ _ e => e, fun b z => by cases z⟩) ⟨o, n1, n2, (O.pinned I List.mem_cons_self e).1, r⟩ (setGen_at (Nat.lt_of_lt_of_le (Array.getElem?_eq_some_iff.mp hgs).1 hsz)) I.nolimit⟩
      | false =>
        simp only [Bool.false_eq_true, if_false]
        exact wpAny_bind (wpAny_rule (wpAny_pure (hR false _ σ' H' s1 _ I ⟨rfl, allBare_setGen I.bare hb, fun _ _ _ e => e, fun b z => by cases z⟩ c)))
theorem any_loop1 (O : Y.Ok) (hB : Y.B = A.in1.in1) (hS : Y.Sx = []) (hC : Y.C = eTill true Qd) (hF : Y.F = fun _ H => Qd false H) (hh : A.handled = none) (hroom : A.depth < recursionLimit)
    (hR : ∀ k ps σ' H' s1 s2, Inv Y.Xg ps σ' H' s1 → Aft [] s1 s2 → Qd k H' → R (.ok (.ret (.bool k))) s2) : ∀ (n : Nat) (ys : List V) (H : Hp) (gs : GenState) (sp s : Shared), Y.Rdy n ys H gs sp → Aft Y.Sx sp s → s.heap.IsGen Y.a Y.g → s.gens[Y.g]? = some gs → s.heap.NoLimit →
      codeAny Y.M A (.builtin "any.loop" ⟨[.ref Y.a], []⟩) R s := by
  intro n
  induction n with
  | zero =>
    intro ys H gs sp s rd af hg hgs nl
    refine codeAny_builtin PySem.F.entry_any_loop ?_
    rw [Around.under_plainId PySem.F.plain_any_loop _]
    show wpAny _ A.in1 (pyNext (.ref Y.a) >>= _) _ _ s
    refine wpAny_bind (GEx.next O hB hh hroom nl rd af hg hgs (Array.getElem?_eq_some_iff.mp hgs).1 (fun σ' H' s1 s2 I f a => ?_) fun v y σ' H' s1 gs' I r c hb hsz => ?_)
    · rw [hF] at f
      exact wpAny_bind (wpAny_rule (wpAny_pure (hR false _ σ' H' s1 s2 I a f)))
    · rw [hC] at c
      obtain ⟨b, rfl, c⟩ := c
      obtain rfl : v = .bool b := r
      refine wpAny_bind (wpAny_holding (wpAny_truthy_bool ?_))
      refine wpAny_bind (wpAny_letGo ?_)
      cases b with
      | false => exact (show False from c).elim
      | true =>
        simp only [if_true]
        exact wpAny_bind (wpAny_rule (wpAny_pure (hR true _ σ' H' s1 _ I ⟨rfl, allBare_setGen I.bare hb, fun _ _ _ e => e, fun b z => by cases z⟩ c)))
  | succ n ih =>
    intro ys H gs sp s rd af hg hgs nl
    refine codeAny_builtin PySem.F.entry_any_loop ?_
    rw [Around.under_plainId PySem.F.plain_any_loop _]
    show wpAny _ A.in1 (pyNext (.ref Y.a) >>= _) _ _ s
    refine wpAny_bind (GEx.next O hB hh hroom nl rd af hg hgs (Array.getElem?_eq_some_iff.mp hgs).1 (fun σ' H' s1 s2 I f a => ?_) fun v y σ' H' s1 gs' I r c hb hsz => ?_)
    · rw [hF] at f
      exact wpAny_bind (wpAny_rule (wpAny_pure (hR false _ σ' H' s1 s2 I a f)))
    · rw [hC] at c
      obtain ⟨b, rfl, c⟩ := c
      obtain rfl : v = .bool b := r
      refine wpAny_bind (wpAny_holding (wpAny_truthy_bool ?_))
      refine wpAny_bind (wpAny_letGo ?_)
      cases b with
      | false =>
        simp only [Bool.false_eq_true, if_false]
        obtain ⟨o, n1, n2, e, r⟩ := hg
        refine wpAny_pure ⟨plainId_quiet PySem.F.plain_any_loop _, ih _ H' gs' s1 (s1.setGen Y.g gs') c (by rw [hS]; exact ⟨rfl, allBare_setGen I.bare hb, fun _ _ _ e => e, fun b z => by cases z⟩) ⟨o, n1, n2, (O.pinned I List.mem_cons_self e).1, r⟩ (setGen_at (Nat.lt_of_lt_of_le (Array.getElem?_eq_some_iff.mp hgs).1 hsz)) I.nolimit⟩
      | true =>
        simp only [if_true]
        exact wpAny_bind (wpAny_rule (wpAny_pure (hR true _ σ' H' s1 _ I ⟨rfl, allBare_setGen I.bare hb, fun _ _ _ e => e, fun b z => by cases z⟩ c)))
end
section
variable {X : Cx}
/-- all (e = false), any (e = true) of elt for target in iter if ..; the running def's table at P may have grown -/
def tTill (e : Bool) (P : Addr) (wi : TI) (g : TG) (tt : TT) (te : TE) (vs : List Nat) : TE := fun σ H Q => wi σ H fun J H1 => TabG H1 P ∧ ∀ H2, Tabbed P H1 H2 →
  ∃ W : Nat → Nat → Hp → Prop, (∃ m, W 0 m H2) ∧ ∀ i m H, W i m H → (J.stop i H ∧ Q (.bl (!e)) H) ∨ (J.go i H ∧ ∃ Nx : Hp → Prop, (∀ H', Nx H' → ∃ m', m' < m ∧ W (i + 1) m' H') ∧
    ∀ x H', J.yld i H x H' → g x (wipe σ vs) H' fun σ2 H2 => wipe σ2 vs = wipe σ vs ∧ tt σ2 H2 fun b H3 => if b = true then te σ2 H3 fun y H4 => ∃ b, y = .bl b ∧ if b = e then Q (.bl e) H4 else Nx H4 else Nx H3)
abbrev RetQ (Q : Value → Shared → Prop) (E : Value → Shared → Prop) : Result → Shared → Prop := fun r s' => match r with | .ok (.ret v) => Q v s' | .ok _ => False | .error e => E e s'
theorem call_allP {P : Program} {w : World} {A : Around} {Q : Value → Shared → Prop} {E : Value → Shared → Prop} {s : Shared} {a g : Addr} (hg : s.heap.IsGen a g)
    (h : codeAny (model P w) A (.builtin "all.loop" ⟨[.ref a], []⟩) (RetQ Q E) s) : wpAny (model P w) A (call (.builtin "all") [.ref a]) Q E s := by
  refine call_function_tree PySem.F.kind_all PySem.F.plain_all PySem.F.entry_all (PySem.F.args_all1 _) ?_
  unfold Builtin.«all»
  refine wpAny_bind (wpAny_pure ?_)
  exact wpAny_bind (wpAny_pyIter_gen hg (wpAny_pure ⟨plainId_quiet PySem.F.plain_all_loop _, h⟩))
theorem call_anyP {P : Program} {w : World} {A : Around} {Q : Value → Shared → Prop} {E : Value → Shared → Prop} {s : Shared} {a g : Addr} (hg : s.heap.IsGen a g)
    (h : codeAny (model P w) A (.builtin "any.loop" ⟨[.ref a], []⟩) (RetQ Q E) s) : wpAny (model P w) A (call (.builtin "any") [.ref a]) Q E s := by
  refine call_function_tree PySem.F.kind_any PySem.F.plain_any PySem.F.entry_any (PySem.F.args_any1 _) ?_
  unfold Builtin.«any»
  refine wpAny_bind (wpAny_pure ?_)
  exact wpAny_bind (wpAny_pyIter_gen hg (wpAny_pure ⟨plainId_quiet PySem.F.plain_any_loop _, h⟩))
/-- the places where the generator's frame may stand -/
abbrev GPG (X : Cx) (k : Nat) (scope : Scope) (tg : Expr) (g : TG) : Prop := ∀ (s : Shared) (H : Hp) (C : Addr) (cl : List (Str × Addr)) (code : Value) (fp : List Addr) (A : Around), Room k A → PG (gcx X s H (genEnv scope cl C code builtinsNs X.env) fp A) tg g
abbrev GPT (X : Cx) (k : Nat) (scope : Scope) (ifs : List Expr) (t : TT) : Prop := ∀ (s : Shared) (H : Hp) (C : Addr) (cl : List (Str × Addr)) (code : Value) (fp : List Addr) (A : Around), Room k A → PTs (gcx X s H (genEnv scope cl C code builtinsNs X.env) fp A) ifs t
abbrev GPE (X : Cx) (k : Nat) (scope : Scope) (e : Expr) (t : TE) : Prop := ∀ (s : Shared) (H : Hp) (C : Addr) (cl : List (Str × Addr)) (code : Value) (fp : List Addr) (A : Around), Room k A → PE (gcx X s H (genEnv scope cl C code builtinsNs X.env) fp A) e t
theorem tTill_step {e : Bool} {J : It} {g : TG} {tt : TT} {te : TE} {vs : List Nat} {σ : L2.St} {Q : VK} {W : Nat → Nat → Hp → Prop}
    (h : ∀ i m H, W i m H → (J.stop i H ∧ Q (.bl (!e)) H) ∨ (J.go i H ∧ ∃ Nx : Hp → Prop, (∀ H', Nx H' → ∃ m', m' < m ∧ W (i + 1) m' H') ∧
      ∀ x H', J.yld i H x H' → g x (wipe σ vs) H' fun σ2 H2 => wipe σ2 vs = wipe σ vs ∧ tt σ2 H2 fun b H3 => if b = true then te σ2 H3 fun y H4 => ∃ b, y = .bl b ∧ if b = e then Q (.bl e) H4 else Nx H4 else Nx H3)) :
    GStep (fun i m _ H => W i m H) J g tt te vs (wipe σ vs) (eTill e fun b H => Q (.bl b) H) (fun _ H => Q (.bl (!e)) H) := fun i m ys H w => by
  rcases h i m H w with z | ⟨go, Nx, hN, st⟩
  · exact .inl z
  · exact .inr ⟨go, fun _ H => Nx H, fun _ H' nx => hN H' nx, st⟩
section
variable {c P : Addr} {elt tg iter : Expr} {ifs : List Expr} {scope : Scope} {own : List (Str × Nat)} {p pos gpos : Pos} {wi : TI} {g : TG} {tt : TT} {te : TE} {k : Nat}
theorem pe_allG (hr : Room (k + 1) X.A) (hn : X.N.Nodup) (hgl : Gl X "all") (hm : X.mg "all" = none) (TB : LamX.TabB X.base X.mg c P) (hcode : X.env.code = .ref c) (G : GScp scope) (ok : BlkOk X.N X.env.scope scope own) (hi : PI X tg iter wi)
    (hg : GPG X k scope tg g) (ht : GPT X k scope ifs tt) (he : GPE X k scope elt te) (hb : bootBuiltins "all" = some (.builtin "all") := by first | rfl | decide +kernel) (hs : ∀ v, genFold iter X.env v = pure v := by intro _; rfl)
    (hst : starEach [.GeneratorExp elt [⟨tg, iter, ifs, 0⟩] scope gpos] X.env = (false, eval (.GeneratorExp elt [⟨tg, iter, ifs, 0⟩] scope gpos) X.env) :: starEach [] X.env := by rfl) :
    PE X (.Call (.Name "all" p) [.GeneratorExp elt [⟨tg, iter, ifs, 0⟩] scope gpos] [] pos) (tTill false P wi g tt te (own.map (·.2))) := by
  refine ⟨fun pins s σ H Q I h => ?_⟩
  refine wpAny_Call_Name_kw (ld_blt I hgl hm hb ?_)
  refine PyProof.Rows.callWith_builtin1 ?_ hst (by rfl)
  rw [hst]
  show wpAny _ _ (spliced ((false, eval (.GeneratorExp elt [⟨tg, iter, ifs, 0⟩] scope gpos) X.env) :: backTo pos (starEach [] X.env))) _ _ s
  refine Calls.spliced_cons (gen_made (R := fun J H1 => _) hr TB hcode G ok hi hs I h fun J H1 H2 s4 cenv fp it tn a gn s5 q tb M => ?_)
  refine Calls.spliced_nil (call_allP M.isg ?_)
  obtain ⟨W, ⟨m, w0⟩, st⟩ := q H2 tb
  obtain ⟨code, hce⟩ := M.env
  subst hce
  obtain ⟨O, rd⟩ := gen_rdy (B := X.A.in1.in1) (Sx := []) hr (nearA2 _) G ok hn M (fun A r => hg _ _ _ _ _ _ A r) (fun A r => ht _ _ _ _ _ _ A r) (fun A r => he _ _ _ _ _ _ A r) (fun b z => by cases z) eTill_mono (tTill_step st) m w0
  refine all_loop1 (Qd := fun b H => Q (.bl b) H) (Y := mkY X s4 H2 _ fp X.A.in1.in1 (wipe σ (own.map (·.2))) (.GeneratorExp elt [⟨tg, iter, ifs, 0⟩] scope gpos) it a gn [] (eTill false fun b H => Q (.bl b) H) (fun _ H => Q (.bl (!false)) H)) O rfl rfl rfl rfl hr.hd hr.depth (fun k ps σ' H' s1 s2 I' af q => ?_) m [] H2 _ s5 s5 rd (Aft.refl ?_) M.isg ?_ ?_
  · exact ⟨.bl k, H', GEx.out (Y := mkY X s4 H2 _ fp X.A.in1.in1 (wipe σ (own.map (·.2))) (.GeneratorExp elt [⟨tg, iter, ifs, 0⟩] scope gpos) it a gn [] (eTill false fun b H => Q (.bl b) H) (fun _ H => Q (.bl (!false)) H)) M.inv (fun b hb => (M.fps b hb).1) I' af, rfl, q⟩
  · rw [M.gens]
    exact M.inv.bare.push rfl
  · show s5.gens[gn]? = _
    rw [M.gens, M.num]
    simp
  · exact M.inv.nolimit.keeps M.keep
theorem pe_anyG (hr : Room (k + 1) X.A) (hn : X.N.Nodup) (hgl : Gl X "any") (hm : X.mg "any" = none) (TB : LamX.TabB X.base X.mg c P) (hcode : X.env.code = .ref c) (G : GScp scope) (ok : BlkOk X.N X.env.scope scope own) (hi : PI X tg iter wi)
    (hg : GPG X k scope tg g) (ht : GPT X k scope ifs tt) (he : GPE X k scope elt te) (hb : bootBuiltins "any" = some (.builtin "any") := by first | rfl | decide +kernel) (hs : ∀ v, genFold iter X.env v = pure v := by intro _; rfl)
    (hst : starEach [.GeneratorExp elt [⟨tg, iter, ifs, 0⟩] scope gpos] X.env = (false, eval (.GeneratorExp elt [⟨tg, iter, ifs, 0⟩] scope gpos) X.env) :: starEach [] X.env := by rfl) :
    PE X (.Call (.Name "any" p) [.GeneratorExp elt [⟨tg, iter, ifs, 0⟩] scope gpos] [] pos) (tTill true P wi g tt te (own.map (·.2))) := by
  refine ⟨fun pins s σ H Q I h => ?_⟩
  refine wpAny_Call_Name_kw (ld_blt I hgl hm hb ?_)
  refine PyProof.Rows.callWith_builtin1 ?_ hst (by rfl)
  rw [hst]
  show wpAny _ _ (spliced ((false, eval (.GeneratorExp elt [⟨tg, iter, ifs, 0⟩] scope gpos) X.env) :: backTo pos (starEach [] X.env))) _ _ s
  refine Calls.spliced_cons (gen_made (R := fun J H1 => _) hr TB hcode G ok hi hs I h fun J H1 H2 s4 cenv fp it tn a gn s5 q tb M => ?_)
  refine Calls.spliced_nil (call_anyP M.isg ?_)
  obtain ⟨W, ⟨m, w0⟩, st⟩ := q H2 tb
  obtain ⟨code, hce⟩ := M.env
  subst hce
  obtain ⟨O, rd⟩ := gen_rdy (B := X.A.in1.in1) (Sx := []) hr (nearA2 _) G ok hn M (fun A r => hg _ _ _ _ _ _ A r) (fun A r => ht _ _ _ _ _ _ A r) (fun A r => he _ _ _ _ _ _ A r) (fun b z => by cases z) eTill_mono (tTill_step st) m w0
  refine any_loop1 (Qd := fun b H => Q (.bl b) H) (Y := mkY X s4 H2 _ fp X.A.in1.in1 (wipe σ (own.map (·.2))) (.GeneratorExp elt [⟨tg, iter, ifs, 0⟩] scope gpos) it a gn [] (eTill true fun b H => Q (.bl b) H) (fun _ H => Q (.bl (!true)) H)) O rfl rfl rfl rfl hr.hd hr.depth (fun k ps σ' H' s1 s2 I' af q => ?_) m [] H2 _ s5 s5 rd (Aft.refl ?_) M.isg ?_ ?_
  · exact ⟨.bl k, H', GEx.out (Y := mkY X s4 H2 _ fp X.A.in1.in1 (wipe σ (own.map (·.2))) (.GeneratorExp elt [⟨tg, iter, ifs, 0⟩] scope gpos) it a gn [] (eTill true fun b H => Q (.bl b) H) (fun _ H => Q (.bl (!true)) H)) M.inv (fun b hb => (M.fps b hb).1) I' af, rfl, q⟩
  · rw [M.gens]
    exact M.inv.bare.push rfl
  · show s5.gens[gn]? = _
    rw [M.gens, M.num]
    simp
  · exact M.inv.nolimit.keeps M.keep
end
/-- .. of two clauses -/
def tTill2 (e : Bool) (P : Addr) (wi : TI) (g : TG) (tt : TT) (wi1 : TI) (g1 : TG) (tt1 : TT) (te : TE) (vs vs1 : List Nat) : TE := fun σ H Q => wi σ H fun J H1 => TabG H1 P ∧ ∀ H2, Tabbed P H1 H2 →
  ∃ W : Nat → Nat → Hp → Prop, (∃ m, W 0 m H2) ∧ ∀ i m H, W i m H → (J.stop i H ∧ Q (.bl (!e)) H) ∨ (J.go i H ∧ ∀ x H', J.yld i H x H' → g x (wipe σ vs) H' fun σ2 H2 => wipe σ2 vs = wipe σ vs ∧ tt σ2 H2 fun b H3 => if b = true then wi1 σ2 H3 fun J1 H4 =>
      ∃ W1 : Nat → Nat → Hp → Prop, (∃ m1, m1 < m ∧ W1 0 m1 H4) ∧ ∀ i1 m1 H, W1 i1 m1 H → (J1.stop i1 H ∧ ∃ m', m' ≤ m1 ∧ m' < m ∧ W (i + 1) m' H) ∨ (J1.go i1 H ∧ ∃ N1 : Hp → Prop, (∀ H', N1 H' → ∃ m', m' < m1 ∧ W1 (i1 + 1) m' H') ∧
        ∀ x1 H', J1.yld i1 H x1 H' → g1 x1 (wipe σ2 vs1) H' fun σ3 H5 => wipe σ3 vs1 = wipe σ2 vs1 ∧ tt1 σ3 H5 fun b1 H6 => if b1 = true then te σ3 H6 fun y H7 => ∃ b, y = .bl b ∧ if b = e then Q (.bl e) H7 else N1 H7 else N1 H6)
    else ∃ m', m' < m ∧ W (i + 1) m' H3)
theorem tTill2_step {e : Bool} {J : It} {wi1 : TI} {g g1 : TG} {tt tt1 : TT} {te : TE} {vs vs1 : List Nat} {σ : L2.St} {Q : VK} {W : Nat → Nat → Hp → Prop}
    (h : ∀ i m H, W i m H → (J.stop i H ∧ Q (.bl (!e)) H) ∨ (J.go i H ∧ ∀ x H', J.yld i H x H' → g x (wipe σ vs) H' fun σ2 H2 => wipe σ2 vs = wipe σ vs ∧ tt σ2 H2 fun b H3 => if b = true then wi1 σ2 H3 fun J1 H4 =>
      ∃ W1 : Nat → Nat → Hp → Prop, (∃ m1, m1 < m ∧ W1 0 m1 H4) ∧ ∀ i1 m1 H, W1 i1 m1 H → (J1.stop i1 H ∧ ∃ m', m' ≤ m1 ∧ m' < m ∧ W (i + 1) m' H) ∨ (J1.go i1 H ∧ ∃ N1 : Hp → Prop, (∀ H', N1 H' → ∃ m', m' < m1 ∧ W1 (i1 + 1) m' H') ∧
        ∀ x1 H', J1.yld i1 H x1 H' → g1 x1 (wipe σ2 vs1) H' fun σ3 H5 => wipe σ3 vs1 = wipe σ2 vs1 ∧ tt1 σ3 H5 fun b1 H6 => if b1 = true then te σ3 H6 fun y H7 => ∃ b, y = .bl b ∧ if b = e then Q (.bl e) H7 else N1 H7 else N1 H6)
    else ∃ m', m' < m ∧ W (i + 1) m' H3)) (hmono : ∀ σ2 H3 (R R' : It → Hp → Prop), (∀ J H, R J H → R' J H) → wi1 σ2 H3 R → wi1 σ2 H3 R')
    (gm : ∀ v σ H (R R' : L2.St → Hp → Prop), (∀ σ H, R σ H → R' σ H) → g v σ H R → g v σ H R') (tm : ∀ σ H (R R' : Bool → Hp → Prop), (∀ b H, R b H → R' b H) → tt σ H R → tt σ H R') :
    GStep2 (fun i m _ H => W i m H) J g tt wi1 g1 tt1 te vs vs1 (wipe σ vs) (eTill e fun b H => Q (.bl b) H) (fun _ H => Q (.bl (!e)) H) := fun i m ys H w => by
  rcases h i m H w with z | ⟨go, st⟩
  · exact .inl z
  · refine .inr ⟨go, fun x H' y => gm _ _ _ _ _ (fun σ2 H2 q => ⟨q.1, tm _ _ _ _ (fun b H3 q2 => ?_) q.2⟩) (st x H' y)⟩
    cases b with
    | false => exact q2
    | true =>
      refine hmono _ _ _ _ (fun J1 H4 q3 => ?_) q2
      obtain ⟨W1, ⟨m1, h1, w1⟩, st1⟩ := q3
      refine ⟨fun i m _ H => W1 i m H, ⟨m1, h1, w1⟩, fun i1 m2 ys2 H5 w2 => ?_⟩
      rcases st1 i1 m2 H5 w2 with z | ⟨go1, N1, hN, s1⟩
      · exact .inl z
      · exact .inr ⟨go1, fun _ H => N1 H, fun _ H' n => hN H' n, s1⟩
section
variable {c P : Addr} {elt tg iter tg1 iter1 : Expr} {ifs ifs1 : List Expr} {scope : Scope} {own : List (Str × Nat)} {vs1 : List Nat} {p pos gpos : Pos} {wi wi1 : TI} {g g1 : TG} {tt tt1 : TT} {te : TE} {k : Nat}
/-- the places where the second clause's iterator is made -/
abbrev GPI (X : Cx) (k : Nat) (scope : Scope) (tg e : Expr) (t : TI) : Prop := ∀ (s : Shared) (H : Hp) (C : Addr) (cl : List (Str × Addr)) (code : Value) (fp : List Addr) (A : Around), Room k A → PI (gcx X s H (genEnv scope cl C code builtinsNs X.env) fp A) tg e t
theorem pe_anyG2 (hr : Room (k + 1) X.A) (hn : X.N.Nodup) (hgl : Gl X "any") (hm : X.mg "any" = none) (TB : LamX.TabB X.base X.mg c P) (hcode : X.env.code = .ref c) (G : GScp scope) (ok : BlkOk X.N X.env.scope scope own) (hvs : ∀ v ∈ vs1, v ∈ own.map (·.2)) (hi : PI X tg iter wi)
    (hg : GPG X k scope tg g) (ht : GPT X k scope ifs tt) (hi1 : GPI X k scope tg1 iter1 wi1) (hg1 : GPG X k scope tg1 g1) (ht1 : GPT X k scope ifs1 tt1) (he : GPE X k scope elt te)
    (hmono : ∀ σ2 H3 (R R' : It → Hp → Prop), (∀ J H, R J H → R' J H) → wi1 σ2 H3 R → wi1 σ2 H3 R') (gm : ∀ v σ H (R R' : L2.St → Hp → Prop), (∀ σ H, R σ H → R' σ H) → g v σ H R → g v σ H R') (tm : ∀ σ H (R R' : Bool → Hp → Prop), (∀ b H, R b H → R' b H) → tt σ H R → tt σ H R')
    (hb : bootBuiltins "any" = some (.builtin "any") := by first | rfl | decide +kernel) (hs : ∀ v, genFold iter X.env v = pure v := by intro _; rfl) (hs1 : ∀ (C : Addr) (cl : List (Str × Addr)) (code : Value) x, foldedSetIterable iter1 (genEnv scope cl C code builtinsNs X.env) x = pure x := by intro _ _ _ _; rfl)
    (hst : starEach [.GeneratorExp elt [⟨tg, iter, ifs, 0⟩, ⟨tg1, iter1, ifs1, 0⟩] scope gpos] X.env = (false, eval (.GeneratorExp elt [⟨tg, iter, ifs, 0⟩, ⟨tg1, iter1, ifs1, 0⟩] scope gpos) X.env) :: starEach [] X.env := by rfl) :
    PE X (.Call (.Name "any" p) [.GeneratorExp elt [⟨tg, iter, ifs, 0⟩, ⟨tg1, iter1, ifs1, 0⟩] scope gpos] [] pos) (tTill2 true P wi g tt wi1 g1 tt1 te (own.map (·.2)) vs1) := by
  refine ⟨fun pins s σ H Q I h => ?_⟩
  refine wpAny_Call_Name_kw (ld_blt I hgl hm hb ?_)
  refine PyProof.Rows.callWith_builtin1 ?_ hst (by rfl)
  rw [hst]
  show wpAny _ _ (spliced ((false, eval (.GeneratorExp elt [⟨tg, iter, ifs, 0⟩, ⟨tg1, iter1, ifs1, 0⟩] scope gpos) X.env) :: backTo pos (starEach [] X.env))) _ _ s
  refine Calls.spliced_cons (gen_made (R := fun J H1 => _) hr TB hcode G ok hi hs I h fun J H1 H2 s4 cenv fp it tn a gn s5 q tb M => ?_)
  refine Calls.spliced_nil (call_anyP M.isg ?_)
  obtain ⟨W, ⟨m, w0⟩, st⟩ := q H2 tb
  obtain ⟨code, hce⟩ := M.env
  subst hce
  obtain ⟨O, rd⟩ := gen_rdy2 (B := X.A.in1.in1) (Sx := []) hr (nearA2 _) G ok hn hvs M (fun A r => hg _ _ _ _ _ _ A r) (fun A r => ht _ _ _ _ _ _ A r) (fun A r => hi1 _ _ _ _ _ _ A r) (hs1 _ _ _) (fun A r => hg1 _ _ _ _ _ _ A r) (fun A r => ht1 _ _ _ _ _ _ A r) (fun A r => he _ _ _ _ _ _ A r) (fun b z => by cases z) eTill_mono (tTill2_step st hmono gm tm) m w0
  refine any_loop1 (Qd := fun b H => Q (.bl b) H) (Y := mkY X s4 H2 _ fp X.A.in1.in1 (wipe σ (own.map (·.2))) (.GeneratorExp elt [⟨tg, iter, ifs, 0⟩, ⟨tg1, iter1, ifs1, 0⟩] scope gpos) it a gn [] (eTill true fun b H => Q (.bl b) H) (fun _ H => Q (.bl (!true)) H)) O rfl rfl rfl rfl hr.hd hr.depth (fun k ps σ' H' s1 s2 I' af q => ?_) m [] H2 _ s5 s5 rd (Aft.refl ?_) M.isg ?_ ?_
  · exact ⟨.bl k, H', GEx.out (Y := mkY X s4 H2 _ fp X.A.in1.in1 (wipe σ (own.map (·.2))) (.GeneratorExp elt [⟨tg, iter, ifs, 0⟩, ⟨tg1, iter1, ifs1, 0⟩] scope gpos) it a gn [] (eTill true fun b H => Q (.bl b) H) (fun _ H => Q (.bl (!true)) H)) M.inv (fun b hb => (M.fps b hb).1) I' af, rfl, q⟩
  · rw [M.gens]
    exact M.inv.bare.push rfl
  · show s5.gens[gn]? = _
    rw [M.gens, M.num]
    simp
  · exact M.inv.nolimit.keeps M.keep
end
end

/-! ### the forms one uses -/
def gscpB (sc : Scope) : Bool := !sc.isCoroutine && decide (sc.kind = .function) && (sc.names.all fun y => !decide (y.2 = .cell)) && decide (sc.names.lookup (".0" : Str) = some NameKind.local)
theorem gscp_by {sc : Scope} (h : gscpB sc = true) : GScp sc := by
  unfold gscpB at h
  simp only [Bool.and_eq_true, Bool.not_eq_true', decide_eq_true_eq, List.all_eq_true, decide_eq_false_iff_not] at h
  obtain ⟨⟨⟨h1, h2⟩, h3⟩, h4⟩ := h
  exact ⟨h1, h2, h3, h4⟩
section
variable {e : Bool} {K : PySem.W.Frag} {a : Addr} {xs : List V} {g : TG} {tt : TT} {te : TE} {vs : List Nat} {σ : L2.St} {H2 : Hp} {Q : VK}
/-- over a list that the element leaves as it is -/
theorem till_list (Pv : Nat → Hp → Prop) (h0 : Pv 0 H2) (hl : ∀ i H, i ≤ xs.length → Pv i H → SqL K H a xs)
    (hs : ∀ i x H, xs[i]? = some x → Pv i H → g x (wipe σ vs) H fun σ2 H2 => wipe σ2 vs = wipe σ vs ∧ tt σ2 H2 fun b H3 => if b = true then te σ2 H3 fun y H4 => ∃ b, y = .bl b ∧ if b = e then Q (.bl e) H4 else Pv (i + 1) H4 else Pv (i + 1) H3) (hd : ∀ H, Pv xs.length H → Q (.bl (!e)) H) :
    ∃ W : Nat → Nat → Hp → Prop, (∃ m, W 0 m H2) ∧ ∀ i m H, W i m H → ((Itl K a).stop i H ∧ Q (.bl (!e)) H) ∨ ((Itl K a).go i H ∧ ∃ Nx : Hp → Prop, (∀ H', Nx H' → ∃ m', m' < m ∧ W (i + 1) m' H') ∧
      ∀ x H', (Itl K a).yld i H x H' → g x (wipe σ vs) H' fun σ2 H2 => wipe σ2 vs = wipe σ vs ∧ tt σ2 H2 fun b H3 => if b = true then te σ2 H3 fun y H4 => ∃ b, y = .bl b ∧ if b = e then Q (.bl e) H4 else Nx H4 else Nx H3) := by
  refine ⟨fun i m H => m = xs.length - i ∧ i ≤ xs.length ∧ Pv i H, ⟨xs.length, by simp, Nat.zero_le _, h0⟩, fun i m H w => ?_⟩
  obtain ⟨hm, hi, p⟩ := w
  have q := hl i H hi p
  rcases Nat.lt_or_ge i xs.length with z | z
  · refine .inr ⟨⟨xs, xs[i], q, by simp [z]⟩, Pv (i + 1), fun H' p' => ⟨xs.length - (i + 1), by omega, rfl, z, p'⟩, fun x H' y => ?_⟩
    obtain ⟨rfl, y⟩ := y
    exact hs i x _ (y xs q) p
  · obtain rfl : i = xs.length := by omega
    exact .inl ⟨⟨xs, q, Nat.le_refl _⟩, hd H p⟩
/-- over a tuple -/
theorem till_tup (Pv : Nat → Hp → Prop) (h0 : Pv 0 H2) (hl : ∀ i H, i ≤ xs.length → Pv i H → SqT K H a xs)
    (hs : ∀ i x H, xs[i]? = some x → Pv i H → g x (wipe σ vs) H fun σ2 H2 => wipe σ2 vs = wipe σ vs ∧ tt σ2 H2 fun b H3 => if b = true then te σ2 H3 fun y H4 => ∃ b, y = .bl b ∧ if b = e then Q (.bl e) H4 else Pv (i + 1) H4 else Pv (i + 1) H3) (hd : ∀ H, Pv xs.length H → Q (.bl (!e)) H) :
    ∃ W : Nat → Nat → Hp → Prop, (∃ m, W 0 m H2) ∧ ∀ i m H, W i m H → ((Itt K a).stop i H ∧ Q (.bl (!e)) H) ∨ ((Itt K a).go i H ∧ ∃ Nx : Hp → Prop, (∀ H', Nx H' → ∃ m', m' < m ∧ W (i + 1) m' H') ∧
      ∀ x H', (Itt K a).yld i H x H' → g x (wipe σ vs) H' fun σ2 H2 => wipe σ2 vs = wipe σ vs ∧ tt σ2 H2 fun b H3 => if b = true then te σ2 H3 fun y H4 => ∃ b, y = .bl b ∧ if b = e then Q (.bl e) H4 else Nx H4 else Nx H3) := by
  refine ⟨fun i m H => m = xs.length - i ∧ i ≤ xs.length ∧ Pv i H, ⟨xs.length, by simp, Nat.zero_le _, h0⟩, fun i m H w => ?_⟩
  obtain ⟨hm, hi, p⟩ := w
  have q := hl i H hi p
  rcases Nat.lt_or_ge i xs.length with z | z
  · refine .inr ⟨⟨xs, xs[i], q, by simp [z]⟩, Pv (i + 1), fun H' p' => ⟨xs.length - (i + 1), by omega, rfl, z, p'⟩, fun x H' y => ?_⟩
    obtain ⟨rfl, y⟩ := y
    exact hs i x _ (y xs q) p
  · obtain rfl : i = xs.length := by omega
    exact .inl ⟨⟨xs, q, Nat.le_refl _⟩, hd H p⟩
/-- two clauses, both over lists: the outer one -/
def W2 (n ny : Nat) (Pv : Nat → Hp → Prop) (i m : Nat) (H : Hp) : Prop := i ≤ n ∧ m = (n - i) * (ny + 2) ∧ Pv i H
variable {wi1 : TI} {g1 : TG} {tt1 : TT} {vs1 : List Nat} {ny : Nat}
theorem till2_list (ny : Nat) (Pv : Nat → Hp → Prop) (h0 : Pv 0 H2) (hl : ∀ i H, i ≤ xs.length → Pv i H → SqL K H a xs)
    (hs : ∀ i x H, i < xs.length → xs[i]? = some x → Pv i H → g x (wipe σ vs) H fun σ2 H2 => wipe σ2 vs = wipe σ vs ∧ tt σ2 H2 fun b H3 => if b = true then wi1 σ2 H3 fun J1 H4 =>
      ∃ W1 : Nat → Nat → Hp → Prop, (∃ m1, m1 < (xs.length - i) * (ny + 2) ∧ W1 0 m1 H4) ∧ ∀ i1 m1 H, W1 i1 m1 H → (J1.stop i1 H ∧ ∃ m', m' ≤ m1 ∧ m' < (xs.length - i) * (ny + 2) ∧ W2 xs.length ny Pv (i + 1) m' H) ∨ (J1.go i1 H ∧ ∃ N1 : Hp → Prop, (∀ H', N1 H' → ∃ m', m' < m1 ∧ W1 (i1 + 1) m' H') ∧
        ∀ x1 H', J1.yld i1 H x1 H' → g1 x1 (wipe σ2 vs1) H' fun σ3 H5 => wipe σ3 vs1 = wipe σ2 vs1 ∧ tt1 σ3 H5 fun b1 H6 => if b1 = true then te σ3 H6 fun y H7 => ∃ b, y = .bl b ∧ if b = e then Q (.bl e) H7 else N1 H7 else N1 H6)
      else ∃ m', m' < (xs.length - i) * (ny + 2) ∧ W2 xs.length ny Pv (i + 1) m' H3) (hd : ∀ H, Pv xs.length H → Q (.bl (!e)) H) :
    ∃ W : Nat → Nat → Hp → Prop, (∃ m, W 0 m H2) ∧ ∀ i m H, W i m H → ((Itl K a).stop i H ∧ Q (.bl (!e)) H) ∨ ((Itl K a).go i H ∧ ∀ x H', (Itl K a).yld i H x H' → g x (wipe σ vs) H' fun σ2 H2 => wipe σ2 vs = wipe σ vs ∧ tt σ2 H2 fun b H3 => if b = true then wi1 σ2 H3 fun J1 H4 =>
      ∃ W1 : Nat → Nat → Hp → Prop, (∃ m1, m1 < m ∧ W1 0 m1 H4) ∧ ∀ i1 m1 H, W1 i1 m1 H → (J1.stop i1 H ∧ ∃ m', m' ≤ m1 ∧ m' < m ∧ W (i + 1) m' H) ∨ (J1.go i1 H ∧ ∃ N1 : Hp → Prop, (∀ H', N1 H' → ∃ m', m' < m1 ∧ W1 (i1 + 1) m' H') ∧
        ∀ x1 H', J1.yld i1 H x1 H' → g1 x1 (wipe σ2 vs1) H' fun σ3 H5 => wipe σ3 vs1 = wipe σ2 vs1 ∧ tt1 σ3 H5 fun b1 H6 => if b1 = true then te σ3 H6 fun y H7 => ∃ b, y = .bl b ∧ if b = e then Q (.bl e) H7 else N1 H7 else N1 H6)
    else ∃ m', m' < m ∧ W (i + 1) m' H3) := by
  refine ⟨W2 xs.length ny Pv, ⟨_, Nat.zero_le _, rfl, h0⟩, fun i m H w => ?_⟩
  obtain ⟨hi, hm, p⟩ := w
  subst hm
  have q := hl i H hi p
  rcases Nat.lt_or_ge i xs.length with z | z
  · refine .inr ⟨⟨xs, xs[i], q, by simp [z]⟩, fun x H' y => ?_⟩
    obtain ⟨rfl, y⟩ := y
    exact hs i x _ z (y xs q) p
  · obtain rfl : i = xs.length := by omega
    exact .inl ⟨⟨xs, q, Nat.le_refl _⟩, hd H p⟩
/-- .. the inner one -/
theorem till2_in {n i : Nat} {b : Addr} {ys : List V} {σ2 : L2.St} {H4 : Hp} {Pv : Nat → Hp → Prop} (hi : i < n) (Pw : Nat → Hp → Prop) (h0 : Pw 0 H4) (hl : ∀ j H, j ≤ ys.length → Pw j H → SqL K H b ys)
    (hs : ∀ j x H, ys[j]? = some x → Pw j H → g1 x (wipe σ2 vs1) H fun σ3 H5 => wipe σ3 vs1 = wipe σ2 vs1 ∧ tt1 σ3 H5 fun b1 H6 => if b1 = true then te σ3 H6 fun y H7 => ∃ b, y = .bl b ∧ if b = e then Q (.bl e) H7 else Pw (j + 1) H7 else Pw (j + 1) H6) (hd : ∀ H, Pw ys.length H → Pv (i + 1) H) :
    ∃ W1 : Nat → Nat → Hp → Prop, (∃ m1, m1 < (n - i) * (ys.length + 2) ∧ W1 0 m1 H4) ∧ ∀ i1 m1 H, W1 i1 m1 H → ((Itl K b).stop i1 H ∧ ∃ m', m' ≤ m1 ∧ m' < (n - i) * (ys.length + 2) ∧ W2 n ys.length Pv (i + 1) m' H) ∨ ((Itl K b).go i1 H ∧ ∃ N1 : Hp → Prop, (∀ H', N1 H' → ∃ m', m' < m1 ∧ W1 (i1 + 1) m' H') ∧
        ∀ x1 H', (Itl K b).yld i1 H x1 H' → g1 x1 (wipe σ2 vs1) H' fun σ3 H5 => wipe σ3 vs1 = wipe σ2 vs1 ∧ tt1 σ3 H5 fun b1 H6 => if b1 = true then te σ3 H6 fun y H7 => ∃ b, y = .bl b ∧ if b = e then Q (.bl e) H7 else N1 H7 else N1 H6) := by
  have e1 : (n - i) * (ys.length + 2) = (n - (i + 1)) * (ys.length + 2) + (ys.length + 2) := by
    rw [show n - i = (n - (i + 1)) + 1 by omega, Nat.add_mul, Nat.one_mul]
  refine ⟨fun j m1 H => j ≤ ys.length ∧ m1 = (n - (i + 1)) * (ys.length + 2) + (ys.length - j) + 1 ∧ Pw j H, ⟨_, ?_, Nat.zero_le _, rfl, h0⟩, fun j m1 H w => ?_⟩
  · rw [e1]; omega
  · obtain ⟨hj, hm, p⟩ := w
    have q := hl j H hj p
    rcases Nat.lt_or_ge j ys.length with z | z
    · refine .inr ⟨⟨ys, ys[j], q, by simp [z]⟩, Pw (j + 1), fun H' p' => ⟨_, ?_, z, rfl, p'⟩, fun x H' y => ?_⟩
      · rw [hm]; omega
      · obtain ⟨rfl, y⟩ := y
        exact hs j x _ (y ys q) p
    · obtain rfl : j = ys.length := by omega
      exact .inl ⟨⟨ys, q, Nat.le_refl _⟩, (n - (i + 1)) * (ys.length + 2), by omega, by rw [e1]; omega, hi, rfl, hd H p⟩
end
theorem tYes_mono : ∀ (σ : L2.St) (H : Hp) (R R' : Bool → Hp → Prop), (∀ b H, R b H → R' b H) → tYes σ H R → tYes σ H R' := fun _ _ _ _ h q => h _ _ q
theorem gName_mono {i : Nat} : ∀ (v : V) (σ : L2.St) (H : Hp) (R R' : L2.St → Hp → Prop), (∀ σ H, R σ H → R' σ H) → gName i v σ H R → gName i v σ H R' := fun _ _ _ _ _ h q => h _ _ q
theorem iListV_mono {K : PySem.W.Frag} {i : Nat} : ∀ (σ : L2.St) (H : Hp) (R R' : It → Hp → Prop), (∀ J H, R J H → R' J H) → iList K (tVar i) σ H R → iList K (tVar i) σ H R' := fun _ _ _ _ h ⟨v, e, a, ea, s, q⟩ => ⟨v, e, a, ea, s, h _ _ q⟩
theorem yes_if {σ : L2.St} {H : Hp} {A B : Hp → Prop} (h : A H) : tYes σ H (fun b H3 => if b = true then A H3 else B H3) := by
  show (if true = true then A H else B H)
  exact (if_pos rfl).mpr h
end Sk

set_option Elab.async false
set_option linter.all false
set_option maxRecDepth 100000
set_option maxHeartbeats 4000000
namespace Sk
open PySem PySem.Spec PyProof.Rows L2 GenW GxR
/-! min over a generator expression whose element may call own defs -/
/-- the least of some -/
def mins : List Int → Int
  | [] => 0
  | z :: zs => zs.foldl (fun b z => if z < b then z else b) z
theorem mins_app {zs : List Int} {z : Int} (h : zs ≠ []) : mins (zs ++ [z]) = if z < mins zs then z else mins zs := by
  cases zs with
  | nil => exact absurd rfl h
  | cons y ys =>
    show (ys ++ [z]).foldl _ y = _
    rw [List.foldl_append]
    rfl
theorem mins_spec : ∀ {zs : List Int}, zs ≠ [] → mins zs ∈ zs ∧ ∀ z ∈ zs, mins zs ≤ z := by
  have go : ∀ (ys : List Int) (y : Int), ((ys.foldl (fun b z => if z < b then z else b) y) = y ∨ (ys.foldl (fun b z => if z < b then z else b) y) ∈ ys) ∧ (ys.foldl (fun b z => if z < b then z else b) y) ≤ y ∧ ∀ z ∈ ys, (ys.foldl (fun b z => if z < b then z else b) y) ≤ z := by
    intro ys
    induction ys with
    | nil => intro y; exact ⟨.inl rfl, Int.le_refl _, fun _ h => nomatch h⟩
    | cons x ys ih =>
      intro y
      obtain ⟨a, b, c⟩ := ih (if x < y then x else y)
      show (ys.foldl _ (if x < y then x else y) = y ∨ ys.foldl _ (if x < y then x else y) ∈ x :: ys) ∧ ys.foldl _ (if x < y then x else y) ≤ y ∧ _
      refine ⟨?_, Int.le_trans b (by split <;> omega), fun z hz => ?_⟩
      · rcases a with a | a
        · rw [a]
          split
          · exact .inr List.mem_cons_self
          · exact .inl rfl
        · exact .inr (List.mem_cons_of_mem _ a)
      · rcases List.mem_cons.mp hz with rfl | hz
        · exact Int.le_trans b (by split <;> omega)
        · exact c z hz
  intro zs h
  cases zs with
  | nil => exact absurd rfl h
  | cons y ys =>
    obtain ⟨a, b, c⟩ := go ys y
    refine ⟨?_, fun z hz => ?_⟩
    · rcases a with a | a
      · show ys.foldl _ y ∈ _
        rw [a]; exact List.mem_cons_self
      · exact List.mem_cons_of_mem _ a
    · rcases List.mem_cons.mp hz with rfl | hz
      · exact b
      · exact c z hz
/-- every value is a number -/
def eInt : Eats := fun _ y _ go => (∃ z, y = .int z) ∧ go
theorem eInt_mono : EatsMono eInt := fun _ _ _ _ _ f h => ⟨h.1, f h.2⟩
theorem int_inj {xs ys : List Int} (h : xs.map V.int = ys.map V.int) : xs = ys := (List.map_inj_right (fun a b e => V.int.inj e)).mp h
section
variable {Y : GEx} {σ : L2.St} {H : Hp} {s s0 s1 : Shared}
/-- the frame's state goes past what the consumer did -/
theorem GEx.Ok.past (O : Y.Ok) (I : Inv Y.Xg (Y.pn s0) σ H s) (there : ∀ b ∈ Y.a :: Y.Sx, ∃ o, s0.heap.get? b = some o) (A : Aft Y.Sx s s1) : Inv Y.Xg [] σ H s1 := by
  have hT : ∀ b ∈ Y.a :: Y.Sx, H b = none := fun b hb => by
    obtain ⟨o, e⟩ := there b hb
    exact (O.pinned I hb e).2
  have I0 : Inv Y.Xg [] σ H s := I.pins_of fun p hp => absurd (show p ∈ ([] : List (Addr × Obj)) ++ [] from hp) (by simp)
  have nt : ∀ b u, H b = some u → b ∉ Y.Sx := fun b u q hb => by rw [hT b (List.mem_cons_of_mem _ hb)] at q; cases q
  obtain ⟨z1, z2, z3, z4⟩ := A
  obtain ⟨hh, g', d, t, o⟩ := s1
  have ho : o = s.os := z1
  subst ho
  refine I0.step (h' := hh) (g' := g') (t' := t) (d' := d) (ch := Y.Sx) (fun b hb => ?_) (fun b ob _ _ hc q _ => z3 b ob hc q) (fun b ob _ _ hc q _ => ⟨ob.slots, z3 b ob hc q⟩)
      (fun _ _ _ _ n => n) (fun b ob hc q => ⟨ob, z3 b ob hc q⟩) (fun _ _ q => q) (fun _ _ _ q => q) (fun b ps q => ⟨#[], by rw [q]; simp⟩) (fun m hm => ?_) (fun b u q => ?_) z2
  · have h1 := O.new b (List.mem_cons_of_mem _ hb)
    refine ⟨.inr (Nat.le_of_lt h1), fun z => ?_, fun y c e z => ?_, fun p hp => absurd (show p ∈ ([] : List (Addr × Obj)) ++ [] from hp) (by simp)⟩
    · have z : b = Y.cenv.locals := z
      rw [z, O.loc] at h1
      exact Nat.lt_irrefl _ h1
    · have h2 := O.cel y c e
      rw [z] at h2
      exact Nat.lt_irrefl _ (Nat.lt_trans h1 h2)
  · obtain ⟨ob, es, ep, ho, r⟩ := hm
    refine ⟨ob, es, ep, z3 _ ob (fun hb => ?_) ho, r⟩
    have h1 := O.new _ (List.mem_cons_of_mem _ hb)
    have h1 : Y.s4.heap.objs.size < Y.cenv.locals := h1
    rw [O.loc] at h1
    exact Nat.lt_irrefl _ h1
  · refine (I0.hok b u q).stay (fun c v hc y => z3 c v ?_ y) (fun _ y => y) fun _ _ y => y
    rcases hc with y | y
    · rw [y]; exact nt b u q
    · exact nt c _ y
end
abbrev bestL (vs : Array Value) (c : Nat) : Obj := { cls := .type "list", dict := none, data := .seq vs c, slots := #[] }
section
variable {Y : GEx} {A : Around} {R : Result → Shared → Prop} {Qd : Int → Hp → Prop} {S : Addr}
theorem aft_put {s1 s2 : Shared} {x y : Array Value} {c : Nat} (hos : s2.os = s1.os) (hb : AllBare s2.gens) (e : s1.heap.get? S = some (bestL x c)) (hh : s2.heap = s1.heap.update S (Obj.mapSeq fun _ => y)) : Aft [S] s1 s2 := by
  refine ⟨hos, hb, fun b o n e' => ?_, fun b hb => ?_⟩
  · rw [hh]
    exact (Heap.get?_update_other _ _ (fun h : S = b => n (by rw [h]; exact List.mem_singleton.mpr rfl))).trans e'
  · rw [List.mem_singleton.mp hb, hh, Heap.get?_update_self _ e rfl]
    exact ⟨_, rfl, fun v z => by cases z⟩
theorem aft_id {s1 s2 : Shared} {x : Array Value} {c : Nat} (hos : s2.os = s1.os) (hb : AllBare s2.gens) (e : s1.heap.get? S = some (bestL x c)) (hh : s2.heap = s1.heap) : Aft [S] s1 s2 := by
  refine ⟨hos, hb, fun b o n e' => by rw [hh]; exact e', fun b hb => ?_⟩
  rw [List.mem_singleton.mp hb, hh, e]
  exact ⟨_, rfl, fun v z => by cases z⟩
theorem min_loop1 (O : Y.Ok) (hB : Y.B = A.in1.in1) (hS : Y.Sx = [S]) (hC : Y.C = eInt) (hF : Y.F = fun ys H => ∃ zs, ys = zs.map V.int ∧ zs ≠ [] ∧ Qd (mins zs) H) (hh : A.handled = none) (hroom : A.depth < recursionLimit)
    (hR : ∀ k t σ' H' s1, Inv Y.Xg [] σ' H' s1 → Qd k H' → R (.ok (.ret (.int k t))) s1) : ∀ (n : Nat) (zs : List Int) (H : Hp) (gs : GenState) (sp s : Shared) (t : Tok) (c : Nat), zs ≠ [] → Y.Rdy n (zs.map V.int) H gs sp → Aft Y.Sx sp s → s.heap.IsGen Y.a Y.g → s.gens[Y.g]? = some gs → s.heap.NoLimit →
      s.heap.get? S = some (bestL #[.int (mins zs) t, .int (mins zs) t] c) → codeAny Y.M A (.builtin "min.loop" ⟨[.ref Y.a, .none, .ref S], []⟩) R s := by
  have hname : (toString "min" ++ toString ".loop" : String) = "min.loop" := by decide
  have hSm : S ∈ Y.a :: Y.Sx := by rw [hS]; simp
  have main : ∀ (n : Nat) (zs : List Int) (H : Hp) (gs : GenState) (sp s : Shared) (t : Tok) (c : Nat), zs ≠ [] → Y.Rdy n (zs.map V.int) H gs sp → Aft Y.Sx sp s → s.heap.IsGen Y.a Y.g → s.gens[Y.g]? = some gs → s.heap.NoLimit →
      s.heap.get? S = some (bestL #[.int (mins zs) t, .int (mins zs) t] c) →
      (∀ (zs' : List Int) (H' : Hp) (gs' : GenState) (sp' s' : Shared) (t' : Tok) (c' : Nat), zs' ≠ [] → Y.Rp n (zs'.map V.int) H' gs' sp' → Aft Y.Sx sp' s' → s'.heap.IsGen Y.a Y.g → s'.gens[Y.g]? = some gs' → s'.heap.NoLimit →
        s'.heap.get? S = some (bestL #[.int (mins zs') t', .int (mins zs') t'] c') → codeAny Y.M A (.builtin "min.loop" ⟨[.ref Y.a, .none, .ref S], []⟩) R s') → codeAny Y.M A (.builtin "min.loop" ⟨[.ref Y.a, .none, .ref S], []⟩) R s := by
    intro n zs H gs sp s t c hne rd af hg hgs nl hSo ih
    have there : ∀ b ∈ Y.a :: Y.Sx, ∃ o, s.heap.get? b = some o := fun b hb => by
      rcases List.mem_cons.mp hb with z | z
      · obtain ⟨o, n1, n2, e, r⟩ := hg
        exact ⟨o, by rw [z]; exact e⟩
      · rw [hS] at z
        exact ⟨_, by rw [List.mem_singleton.mp z]; exact hSo⟩
    refine codeAny_builtin F.entry_min_loop ?_
    rw [Around.under_plainId F.plain_min_loop _]
    show wpAny _ A.in1 (seqItems? (.ref S) >>= _) _ _ s
    refine wpAny_bind (wpAny_seqItems hSo rfl ?_)
    show wpAny _ A.in1 (tryCatch (pyNext (.ref Y.a)) _ >>= _) _ _ s
    refine wpAny_bind (wpAny_tryCatch (GEx.next O hB hh hroom nl rd af hg hgs (Array.getElem?_eq_some_iff.mp hgs).1 (fun σ' H' s1 s2 I f a => ?_) fun v y σ' H' s1 gs' I r cc hb hsz => ?_))
    · rw [hF] at f
      obtain ⟨zs', ez, _, f⟩ := f
      obtain rfl := int_inj ez
      have e1 := (O.pinned I hSm hSo).1
      have e2 := a.keep _ _ (by simp) e1
      show wpAny _ A.in1 (updateSeq S (fun _ => #[]) >>= _) _ _ _
      refine wpAny_bind ?_
      refine wpAny_updateSeq e2 rfl (wpAny_bind (wpAny_letGo (wpAny_pure ?_)))
      refine hR _ t σ' H' _ (O.past I there ?_) f
      rw [hS]
      refine ⟨a.os, a.bare, fun b o n e' => ?_, fun b hb => ?_⟩
      · exact (Heap.get?_update_other _ _ (fun h : S = b => n (by rw [h]; exact List.mem_singleton.mpr rfl))).trans (a.keep _ _ (by simp) e')
      · rw [List.mem_singleton.mp hb]
        exact ⟨_, Heap.get?_update_self _ e2 rfl, fun v z => by cases z⟩
    · rw [hC] at cc
      obtain ⟨⟨z, rfl⟩, cc⟩ := cc
      obtain ⟨t', rfl⟩ : ∃ t', v = .int z t' := r
      have e1 := (O.pinned I hSm hSo).1
      have e2 : (s1.setGen Y.g gs').heap.get? S = _ := e1
      rw [show zs.map V.int ++ [V.int z] = (zs ++ [z]).map V.int by rw [List.map_append]; rfl] at cc
      have hg1 : (s1.setGen Y.g gs').heap.IsGen Y.a Y.g := by
        obtain ⟨o, n1, n2, e, r⟩ := hg
        exact ⟨o, n1, n2, (O.pinned I List.mem_cons_self e).1, r⟩
      have hgs1 := setGen_at (x := gs') (Nat.lt_of_lt_of_le (Array.getElem?_eq_some_iff.mp hgs).1 hsz)
      have hna : S ≠ Y.a := fun z => O.aS (by rw [← z, hS]; simp)
      show wpAny _ A.in1 (tryCatch (holding [.int z t', .int z t'] (richCompare .Lt (.int z t') (.int (mins zs) t) >>= _)) _ >>= _) _ _ _
      refine wpAny_bind (wpAny_tryCatch (wpAny_holding (wpAny_bind (CmpOf.ints_lt (P := fun j v => ∃ t, v = .int (if j = 0 then z else mins zs) t) (fun j => if j = 0 then z else mins zs) (fun j v h => h) 0 1 _ _ _ _ _ ⟨t', rfl⟩ ⟨t, rfl⟩ ?_))))
      refine wpAny_bind (wpAny_holding (wpAny_truthy_bool ?_))
      refine wpAny_bind (wpAny_letGo (wpAny_pure ?_))
      have em := mins_app (z := z) hne
      show wpAny _ A.in1 (if decide (z < mins zs) = true then _ else _) _ _ _
      by_cases hlt : z < mins zs
      · rw [if_pos (decide_eq_true hlt)]
        rw [if_pos hlt] at em
        refine wpAny_bind ?_
        refine wpAny_updateSeq e2 rfl (wpAny_bind (wpAny_letGo ?_))
        rw [hname]
        refine wpAny_pure ⟨plainId_quiet F.plain_min_loop _, ih (zs ++ [z]) H' gs' s1 _ t' c (by simp) cc ?_ ?_ hgs1 ?_ ?_⟩
        · rw [hS]
          exact aft_put (s2 := { (s1.setGen Y.g gs') with heap := s1.heap.update S (Obj.mapSeq fun _ => #[Value.int z t', Value.int z t']) }) rfl (allBare_setGen I.bare hb) e1 rfl
        · obtain ⟨o, n1, n2, e, r⟩ := hg1
          exact ⟨o, n1, n2, (Heap.get?_update_other _ _ hna).trans e, r⟩
        · exact (O.past (s1 := { (s1.setGen Y.g gs') with heap := s1.heap.update S (Obj.mapSeq fun _ => #[Value.int z t', Value.int z t']) }) I there (by rw [hS]; exact aft_put rfl (allBare_setGen I.bare hb) e1 rfl)).nolimit
        · rw [em]
          exact Heap.get?_update_self _ e2 rfl
      · rw [if_neg (by rw [decide_eq_false hlt]; exact Bool.false_ne_true)]
        rw [if_neg hlt] at em
        refine wpAny_bind (wpAny_letGo ?_)
        rw [hname]
        refine wpAny_pure ⟨plainId_quiet F.plain_min_loop _, ih (zs ++ [z]) H' gs' s1 _ t c (by simp) cc ?_ hg1 hgs1 I.nolimit ?_⟩
        · rw [hS]
          exact aft_id rfl (allBare_setGen I.bare hb) e1 rfl
        · rw [em]
          exact e2
  intro n
  induction n with
  | zero =>
    intro zs H gs sp s t c hne rd af hg hgs nl hSo
    exact main 0 zs H gs sp s t c hne rd af hg hgs nl hSo fun _ _ _ _ _ _ _ _ q => (show False from q).elim
  | succ n ih =>
    intro zs H gs sp s t c hne rd af hg hgs nl hSo
    exact main (n + 1) zs H gs sp s t c hne rd af hg hgs nl hSo fun zs' H' gs' sp' s' t' c' a1 a2 a3 a4 a5 a6 a7 => ih zs' H' gs' sp' s' t' c' a1 a2 a3 a4 a5 a6 a7
/-- .. from the start -/
theorem min_first (O : Y.Ok) (hB : Y.B = A.in1.in1) (hS : Y.Sx = [S]) (hC : Y.C = eInt) (hF : Y.F = fun ys H => ∃ zs, ys = zs.map V.int ∧ zs ≠ [] ∧ Qd (mins zs) H) (hh : A.handled = none) (hroom : A.depth < recursionLimit)
    (hR : ∀ k t σ' H' s1, Inv Y.Xg [] σ' H' s1 → Qd k H' → R (.ok (.ret (.int k t))) s1) (n : Nat) (H : Hp) (gs : GenState) (sp s : Shared) (c : Nat) (rd : Y.Rdy n [] H gs sp) (af : Aft Y.Sx sp s) (hg : s.heap.IsGen Y.a Y.g) (hgs : s.gens[Y.g]? = some gs) (nl : s.heap.NoLimit)
    (hSo : s.heap.get? S = some (bestL #[] c)) : codeAny Y.M A (.builtin "min.loop" ⟨[.ref Y.a, .none, .ref S], []⟩) R s := by
  have hname : (toString "min" ++ toString ".loop" : String) = "min.loop" := by decide
  have hSm : S ∈ Y.a :: Y.Sx := by rw [hS]; simp
  have there : ∀ b ∈ Y.a :: Y.Sx, ∃ o, s.heap.get? b = some o := fun b hb => by
    rcases List.mem_cons.mp hb with z | z
    · obtain ⟨o, n1, n2, e, r⟩ := hg
      exact ⟨o, by rw [z]; exact e⟩
    · rw [hS] at z
      exact ⟨_, by rw [List.mem_singleton.mp z]; exact hSo⟩
  refine codeAny_builtin F.entry_min_loop ?_
  rw [Around.under_plainId F.plain_min_loop _]
  show wpAny _ A.in1 (seqItems? (.ref S) >>= _) _ _ s
  refine wpAny_bind (wpAny_seqItems hSo rfl ?_)
  show wpAny _ A.in1 (tryCatch (pyNext (.ref Y.a)) _ >>= _) _ _ s
  refine wpAny_bind (wpAny_tryCatch (GEx.next O hB hh hroom nl rd af hg hgs (Array.getElem?_eq_some_iff.mp hgs).1 (fun σ' H' s1 s2 I f a => ?_) fun v y σ' H' s1 gs' I r cc hb hsz => ?_))
  · rw [hF] at f
    obtain ⟨zs', ez, ne, f⟩ := f
    cases zs' with
    | nil => exact absurd rfl ne
    | cons u us => cases ez
  · rw [hC] at cc
    obtain ⟨⟨z, rfl⟩, cc⟩ := cc
    obtain ⟨t', rfl⟩ : ∃ t', v = .int z t' := r
    have e1 := (O.pinned I hSm hSo).1
    have e2 : (s1.setGen Y.g gs').heap.get? S = _ := e1
    have hg1 : (s1.setGen Y.g gs').heap.IsGen Y.a Y.g := by
      obtain ⟨o, n1, n2, e, r⟩ := hg
      exact ⟨o, n1, n2, (O.pinned I List.mem_cons_self e).1, r⟩
    have hgs1 := setGen_at (x := gs') (Nat.lt_of_lt_of_le (Array.getElem?_eq_some_iff.mp hgs).1 hsz)
    have hna : S ≠ Y.a := fun z => O.aS (by rw [← z, hS]; simp)
    have put : Aft [S] s1 { (s1.setGen Y.g gs') with heap := s1.heap.update S (Obj.mapSeq fun _ => #[Value.int z t', Value.int z t']) } := aft_put rfl (allBare_setGen I.bare hb) e1 rfl
    show wpAny _ A.in1 (updateSeq S (fun _ => #[.int z t', .int z t']) >>= _) _ _ _
    refine wpAny_bind ?_
    refine wpAny_updateSeq e2 rfl ?_
    rw [hname]
    cases n with
    | zero => exact (show False from cc).elim
    | succ n =>
      refine wpAny_pure ⟨plainId_quiet F.plain_min_loop _, min_loop1 O hB hS hC hF hh hroom hR n [z] H' gs' s1 _ t' (c + 1) (by simp) cc (by rw [hS]; exact put) ?_ hgs1 (O.past I there (by rw [hS]; exact put)).nolimit ?_⟩
      · obtain ⟨o, n1, n2, e, r⟩ := hg1
        exact ⟨o, n1, n2, (Heap.get?_update_other _ _ hna).trans e, r⟩
      · have e3 := Heap.get?_update_self (Obj.mapSeq fun _ => #[Value.int z t', Value.int z t']) e2 rfl
        exact e3
end
section
variable {X : Cx}
theorem call_minP {P : Program} {w : World} {A : Around} {Q : Value → Shared → Prop} {E : Value → Shared → Prop} {s : Shared} {a g : Addr} (hg : s.heap.IsGen a g)
    (h : codeAny (model P w) A (.builtin "min.loop" ⟨[.ref a, .none, .ref s.heap.objs.size], []⟩) (RetQ Q E) { s with heap := s.heap.push (bestL #[] 0) }) : wpAny (model P w) A (call (.builtin "min") [.ref a]) Q E s := by
  have hname : (toString "min" ++ toString ".loop" : String) = "min.loop" := by decide
  refine call_function_tree F.kind_min F.plain_min F.entry_min (F.args_min1 _) ?_
  show wpAny _ A.in1 (Builtin.Builtins.bindParams "min" ["key", "default"] 0 ⟨[], []⟩ >>= _) _ _ s
  refine wpAny_bind (wpAny_of_eq (show Builtin.Builtins.bindParams "min" ["key", "default"] 0 ⟨[], []⟩ = pure [none, none] from rfl) ?_)
  refine wpAny_bind (wpAny_pure ?_)
  refine wpAny_bind (wpAny_pyIter_gen hg ?_)
  refine wpAny_bind (wpAny_newObj_type ?_)
  rw [hname]
  exact wpAny_pure ⟨plainId_quiet F.plain_min_loop _, h⟩
/-- one more value is out -/
def MN (Nx : List Int → Hp → Prop) (zs : List Int) (y : V) (H : Hp) : Prop := (∃ z, y = .int z) ∧ ∃ zs', zs.map V.int ++ [y] = zs'.map V.int ∧ Nx zs' H
theorem MN.of {Nx : List Int → Hp → Prop} {zs : List Int} {z : Int} {H : Hp} (h : Nx (zs ++ [z]) H) : MN Nx zs (.int z) H := ⟨⟨z, rfl⟩, zs ++ [z], by rw [List.map_append]; rfl, h⟩
def MZ (Nx : List Int → Hp → Prop) (zs : List Int) (H : Hp) : Prop := ∃ zs', zs.map V.int = zs'.map V.int ∧ Nx zs' H
/-- min of elt for target in iter if ..; W carries what is out so far -/
def tMinG (P : Addr) (wi : TI) (g : TG) (tt : TT) (te : TE) (vs : List Nat) : TE := fun σ H Q => wi σ H fun J H1 => TabG H1 P ∧ ∀ H2, Tabbed P H1 H2 →
  ∃ W : Nat → Nat → List Int → Hp → Prop, (∃ m, W 0 m [] H2) ∧ ∀ i m zs H, W i m zs H → (J.stop i H ∧ zs ≠ [] ∧ Q (.int (mins zs)) H) ∨ (J.go i H ∧ ∃ Nx : List Int → Hp → Prop, (∀ zs' H', Nx zs' H' → ∃ m', m' < m ∧ W (i + 1) m' zs' H') ∧
    ∀ x H', J.yld i H x H' → g x (wipe σ vs) H' fun σ2 H2 => wipe σ2 vs = wipe σ vs ∧ tt σ2 H2 fun b H3 => if b = true then te σ2 H3 fun y H4 => MN Nx zs y H4 else MZ Nx zs H3)
theorem tMinG_step {J : It} {g : TG} {tt : TT} {te : TE} {vs : List Nat} {σ : L2.St} {Q : VK} {W : Nat → Nat → List Int → Hp → Prop}
    (h : ∀ i m zs H, W i m zs H → (J.stop i H ∧ zs ≠ [] ∧ Q (.int (mins zs)) H) ∨ (J.go i H ∧ ∃ Nx : List Int → Hp → Prop, (∀ zs' H', Nx zs' H' → ∃ m', m' < m ∧ W (i + 1) m' zs' H') ∧
      ∀ x H', J.yld i H x H' → g x (wipe σ vs) H' fun σ2 H2 => wipe σ2 vs = wipe σ vs ∧ tt σ2 H2 fun b H3 => if b = true then te σ2 H3 fun y H4 => MN Nx zs y H4 else MZ Nx zs H3)) :
    GStep (fun i m ys H => ∃ zs, ys = zs.map V.int ∧ W i m zs H) J g tt te vs (wipe σ vs) eInt (fun ys H => ∃ zs, ys = zs.map V.int ∧ zs ≠ [] ∧ Q (.int (mins zs)) H) := fun i m ys H ⟨zs, ey, w⟩ => by
  subst ey
  rcases h i m zs H w with ⟨z1, z2, z3⟩ | ⟨go, Nx, hN, st⟩
  · exact .inl ⟨z1, zs, rfl, z2, z3⟩
  · exact .inr ⟨go, fun ys H => ∃ zs, ys = zs.map V.int ∧ Nx zs H, fun ys' H' ⟨zs', e', nx⟩ => by
      obtain ⟨m', h1, h2⟩ := hN zs' H' nx
      exact ⟨m', h1, zs', e', h2⟩, st⟩
section
variable {c P : Addr} {elt tg iter : Expr} {ifs : List Expr} {scope : Scope} {own : List (Str × Nat)} {p pos gpos : Pos} {wi : TI} {g : TG} {tt : TT} {te : TE} {k : Nat}
theorem pe_minG (hr : Room (k + 1) X.A) (hn : X.N.Nodup) (hgl : Gl X "min") (hm : X.mg "min" = none) (TB : LamX.TabB X.base X.mg c P) (hcode : X.env.code = .ref c) (G : GScp scope) (ok : BlkOk X.N X.env.scope scope own) (hi : PI X tg iter wi)
    (hg : GPG X k scope tg g) (ht : GPT X k scope ifs tt) (he : GPE X k scope elt te)
    (hb : bootBuiltins "min" = some (.builtin "min") := by first | rfl | decide +kernel) (hs : ∀ v, genFold iter X.env v = pure v := by intro _; rfl)
    (hst : starEach [.GeneratorExp elt [⟨tg, iter, ifs, 0⟩] scope gpos] X.env = (false, eval (.GeneratorExp elt [⟨tg, iter, ifs, 0⟩] scope gpos) X.env) :: starEach [] X.env := by rfl) :
    PE X (.Call (.Name "min" p) [.GeneratorExp elt [⟨tg, iter, ifs, 0⟩] scope gpos] [] pos) (tMinG P wi g tt te (own.map (·.2))) := by
  refine ⟨fun pins s σ H Q I h => ?_⟩
  refine wpAny_Call_Name_kw (ld_blt I hgl hm hb ?_)
  refine PyProof.Rows.callWith_builtin1 ?_ hst (by rfl)
  rw [hst]
  show wpAny _ _ (spliced ((false, eval (.GeneratorExp elt [⟨tg, iter, ifs, 0⟩] scope gpos) X.env) :: backTo pos (starEach [] X.env))) _ _ s
  refine Calls.spliced_cons (gen_made (R := fun J H1 => _) hr TB hcode G ok hi hs I h fun J H1 H2 s4 cenv fp it tn a gn s5 q tb M => ?_)
  refine Calls.spliced_nil (call_minP M.isg ?_)
  obtain ⟨W, ⟨m, w0⟩, st⟩ := q H2 tb
  obtain ⟨code, hce⟩ := M.env
  subst hce
  have hlt : a < s5.heap.objs.size := by rw [M.lt]; exact Nat.lt_succ_self a
  obtain ⟨O, rd⟩ := gen_rdy (B := X.A.in1.in1) (Sx := [s5.heap.objs.size]) hr (nearA2 _) G ok hn M (fun A r => hg _ _ _ _ _ _ A r) (fun A r => ht _ _ _ _ _ _ A r) (fun A r => he _ _ _ _ _ _ A r) (fun b z => by rw [List.mem_singleton.mp z]; exact hlt) eInt_mono (tMinG_step st) m ⟨[], rfl, w0⟩
  have hpush : ∀ b o, s5.heap.get? b = some o → (s5.heap.push (bestL #[] 0)).get? b = some o := fun b o e => Heap.get?_push_of_some _ e
  refine min_first (Qd := fun k H => Q (.int k) H) (S := s5.heap.objs.size) (Y := mkY X s4 H2 _ fp X.A.in1.in1 (wipe σ (own.map (·.2))) (.GeneratorExp elt [⟨tg, iter, ifs, 0⟩] scope gpos) it a gn [s5.heap.objs.size] eInt (fun ys H => ∃ zs, ys = zs.map V.int ∧ zs ≠ [] ∧ Q (.int (mins zs)) H)) O rfl rfl rfl rfl hr.hd hr.depth (fun k t σ' H' s1 I' q => ?_) m H2 _ s5 _ 0 rd ?_ ?_ ?_ ?_ (Heap.get?_push_size _ rfl)
  · exact ⟨.int k, H', GEx.out (Y := mkY X s4 H2 _ fp X.A.in1.in1 (wipe σ (own.map (·.2))) (.GeneratorExp elt [⟨tg, iter, ifs, 0⟩] scope gpos) it a gn [s5.heap.objs.size] eInt (fun ys H => ∃ zs, ys = zs.map V.int ∧ zs ≠ [] ∧ Q (.int (mins zs)) H)) M.inv (fun b hb => (M.fps b hb).1) I' (Aft.refl I'.bare), ⟨t, rfl⟩, q⟩
  · refine ⟨rfl, ?_, fun b o _ e => hpush b o e, fun b hb => ?_⟩
    · show AllBare s5.gens
      rw [M.gens]
      exact M.inv.bare.push rfl
    · rw [List.mem_singleton.mp hb]
      exact ⟨_, Heap.get?_push_size _ rfl, fun v z => by cases z⟩
  · obtain ⟨o, n1, n2, e, r⟩ := M.isg
    exact ⟨o, n1, n2, hpush _ _ e, r⟩
  · show s5.gens[gn]? = _
    rw [M.gens, M.num]
    simp
  · exact (M.inv.nolimit.keeps M.keep).push _
end
end
section
variable {K : PySem.W.Frag} {a : Addr} {xs : List V} {g : TG} {tt : TT} {te : TE} {vs : List Nat} {σ : L2.St} {H2 : Hp} {Q : VK}
/-- over a list that the element leaves as it is -/
theorem min_list (Pv : Nat → List Int → Hp → Prop) (h0 : Pv 0 [] H2) (hl : ∀ i zs H, i ≤ xs.length → Pv i zs H → SqL K H a xs)
    (hs : ∀ i zs x H, xs[i]? = some x → Pv i zs H → g x (wipe σ vs) H fun σ2 H2 => wipe σ2 vs = wipe σ vs ∧ tt σ2 H2 fun b H3 => if b = true then te σ2 H3 fun y H4 => MN (Pv (i + 1)) zs y H4 else MZ (Pv (i + 1)) zs H3) (hd : ∀ zs H, Pv xs.length zs H → zs ≠ [] ∧ Q (.int (mins zs)) H) :
    ∃ W : Nat → Nat → List Int → Hp → Prop, (∃ m, W 0 m [] H2) ∧ ∀ i m zs H, W i m zs H → ((Itl K a).stop i H ∧ zs ≠ [] ∧ Q (.int (mins zs)) H) ∨ ((Itl K a).go i H ∧ ∃ Nx : List Int → Hp → Prop, (∀ zs' H', Nx zs' H' → ∃ m', m' < m ∧ W (i + 1) m' zs' H') ∧
      ∀ x H', (Itl K a).yld i H x H' → g x (wipe σ vs) H' fun σ2 H2 => wipe σ2 vs = wipe σ vs ∧ tt σ2 H2 fun b H3 => if b = true then te σ2 H3 fun y H4 => MN Nx zs y H4 else MZ Nx zs H3) := by
  refine ⟨fun i m zs H => m = xs.length - i ∧ i ≤ xs.length ∧ Pv i zs H, ⟨xs.length, by simp, Nat.zero_le _, h0⟩, fun i m zs H w => ?_⟩
  obtain ⟨hm, hi, p⟩ := w
  have q := hl i zs H hi p
  rcases Nat.lt_or_ge i xs.length with z | z
  · refine .inr ⟨⟨xs, xs[i], q, by simp [z]⟩, Pv (i + 1), fun zs' H' p' => ⟨xs.length - (i + 1), by omega, rfl, z, p'⟩, fun x H' y => ?_⟩
    obtain ⟨rfl, y⟩ := y
    exact hs i zs x _ (y xs q) p
  · obtain rfl : i = xs.length := by omega
    exact .inl ⟨⟨xs, q, Nat.le_refl _⟩, hd zs H p⟩
end
end Sk

set_option Elab.async false
set_option linter.all false
set_option maxRecDepth 100000
set_option maxHeartbeats 4000000
namespace Sk
/-! heaps in lists, and what a sift does to them -/
section
variable {α : Type}
/-- a strict order whose complement is transitive -/
structure Ord' (lt : α → α → Bool) : Prop where
  asym : ∀ x y, lt x y = true → lt y x = false
  neg : ∀ x y z, lt x y = false → lt y z = false → lt x z = false
theorem Ord'.tr {lt : α → α → Bool} (O : Ord' lt) {x y z : α} (h : lt x y = true) (k : lt y z = true) : lt x z = true := by
  cases e : lt x z with
  | true => rfl
  | false =>
    have := O.neg x z y e (O.asym _ _ k)
    rw [h] at this; cases this
def par (i : Nat) : Nat := (i - 1) / 2
def IsHeap (lt : α → α → Bool) (zs : List α) : Prop := ∀ i x y, 0 < i → zs[i]? = some x → zs[par i]? = some y → lt x y = false
def Up (lt : α → α → Bool) (zs : List α) (p : Nat) : Prop := (∀ i x y, 0 < i → i ≠ p → zs[i]? = some x → zs[par i]? = some y → lt x y = false) ∧ ∀ c x y, 0 < c → par c = p → 0 < p → zs[c]? = some x → zs[par p]? = some y → lt x y = false
def Down (lt : α → α → Bool) (zs : List α) (p : Nat) : Prop := (∀ i x y, 0 < i → i ≠ p → par i ≠ p → zs[i]? = some x → zs[par i]? = some y → lt x y = false) ∧ ∀ c x y, 0 < c → par c = p → 0 < p → zs[c]? = some x → zs[par p]? = some y → lt x y = false
/-- x stands at i, y at j: exchanged -/
def swp (zs : List α) (i j : Nat) (x y : α) : List α := (zs.set i y).set j x
theorem swp_len (zs : List α) (i j : Nat) (x y : α) : (swp zs i j x y).length = zs.length := by unfold swp; rw [List.length_set, List.length_set]
theorem swp_perm {zs : List α} {i j : Nat} {x y : α} (hi : zs[i]? = some x) (hj : zs[j]? = some y) (n : i ≠ j) : (swp zs i j x y).Perm zs := by
  obtain ⟨li, rfl⟩ := List.getElem?_eq_some_iff.mp hi
  obtain ⟨lj, rfl⟩ := List.getElem?_eq_some_iff.mp hj
  unfold swp
  exact List.set_set_perm li lj
theorem swp_i {zs : List α} {i j : Nat} {x y : α} (hi : i < zs.length) (n : i ≠ j) : (swp zs i j x y)[i]? = some y := by
  unfold swp
  rw [List.getElem?_set_ne (Ne.symm n), List.getElem?_set_self hi]
theorem swp_j {zs : List α} {i j : Nat} {x y : α} (hj : j < zs.length) : (swp zs i j x y)[j]? = some x := by
  unfold swp
  rw [List.getElem?_set_self (by rw [List.length_set]; exact hj)]
theorem swp_k {zs : List α} {i j k : Nat} {x y : α} (n1 : k ≠ i) (n2 : k ≠ j) : (swp zs i j x y)[k]? = zs[k]? := by
  unfold swp
  rw [List.getElem?_set_ne (Ne.symm n2), List.getElem?_set_ne (Ne.symm n1)]
variable {lt : α → α → Bool}
theorem up_done {zs : List α} {p : Nat} (U : Up lt zs p) (h : p = 0 ∨ ∀ x y, zs[p]? = some x → zs[par p]? = some y → lt x y = false) : IsHeap lt zs := fun i x y i0 hx hy => by
  by_cases e : i = p
  · subst e
    rcases h with h | h
    · omega
    · exact h x y hx hy
  · exact U.1 i x y i0 e hx hy
theorem par_lt {i : Nat} (h : 0 < i) : par i < i := by unfold par; omega
theorem hup_step (O : Ord' lt) {zs : List α} {p : Nat} {x y : α} (U : Up lt zs p) (p0 : 0 < p) (hx : zs[p]? = some x) (hy : zs[par p]? = some y) (h : lt x y = true) : Up lt (swp zs (par p) p y x) (par p) := by
  have pl := par_lt p0
  have lp := (List.getElem?_eq_some_iff.mp hx).1
  have lq := (List.getElem?_eq_some_iff.mp hy).1
  have nq : par p ≠ p := by omega
  have ep : (swp zs (par p) p y x)[p]? = some y := swp_j lp
  have eq : (swp zs (par p) p y x)[par p]? = some x := swp_i lq nq
  refine ⟨fun i a b i0 ni ha hb => ?_, fun c a b c0 hc q0 ha hb => ?_⟩
  · by_cases e1 : i = p
    · subst e1
      rw [ep] at ha
      rw [eq] at hb
      cases ha
      cases hb
      exact O.asym _ _ h
    · rw [swp_k ni e1] at ha
      by_cases e2 : par i = p
      · rw [e2, ep] at hb
        cases hb
        exact U.2 i a y i0 e2 p0 ha hy
      · by_cases e3 : par i = par p
        · rw [e3, eq] at hb
          cases hb
          have z := U.1 i a y i0 e1 ha (by rw [e3]; exact hy)
          cases ea : lt a x with
          | false => rfl
          | true =>
            rw [O.tr ea h] at z
            cases z
        · rw [swp_k e3 e2] at hb
          exact U.1 i a b i0 e1 ha hb
  · have r1 : par (par p) ≠ par p := by have := par_lt q0; omega
    have r2 : par (par p) ≠ p := by have := par_lt q0; omega
    rw [swp_k r1 r2] at hb
    have z := U.1 (par p) y b q0 nq hy hb
    by_cases e1 : c = p
    · subst e1
      rw [ep] at ha
      cases ha
      exact z
    · have nc : c ≠ par p := by
        intro e
        rw [e] at hc
        exact r1 hc
      rw [swp_k nc e1] at ha
      have w := U.1 c a y c0 e1 ha (by rw [hc]; exact hy)
      exact O.neg _ _ _ w z
theorem par_of {i p : Nat} (h : 0 < i) (e : par i = p) : i = 2 * p + 1 ∨ i = 2 * p + 2 := by unfold par at e; omega
theorem down_end {zs : List α} {p : Nat} (D : Down lt zs p) (h : zs.length ≤ 2 * p + 1) : Up lt zs p := by
  refine ⟨fun i x y i0 ni hx hy => ?_, D.2⟩
  by_cases e : par i = p
  · have := (List.getElem?_eq_some_iff.mp hx).1
    rcases par_of i0 e with z | z <;> omega
  · exact D.1 i x y i0 ni e hx hy
theorem hdown_step {zs : List α} {p c : Nat} {x y : α} (D : Down lt zs p) (hc : par c = p) (c0 : 0 < c) (hx : zs[c]? = some x) (hy : zs[p]? = some y) (least : ∀ d z, 0 < d → d ≠ c → par d = p → zs[d]? = some z → lt z x = false) : Down lt (swp zs c p x y) c := by
  have pl := par_lt c0
  rw [hc] at pl
  have ncp : c ≠ p := by omega
  have lc := (List.getElem?_eq_some_iff.mp hx).1
  have lp := (List.getElem?_eq_some_iff.mp hy).1
  have ec : (swp zs c p x y)[c]? = some y := swp_i lc ncp
  have ep : (swp zs c p x y)[p]? = some x := swp_j lp
  refine ⟨fun i a b i0 ni np ha hb => ?_, fun d a b d0 hd _ ha hb => ?_⟩
  · by_cases e1 : i = p
    · subst e1
      rw [ep] at ha
      cases ha
      have r2 : par i ≠ i := by have := par_lt i0; omega
      rw [swp_k np r2] at hb
      exact D.2 c x b c0 hc i0 hx hb
    · rw [swp_k ni e1] at ha
      by_cases e2 : par i = p
      · rw [e2, ep] at hb
        cases hb
        exact least i a i0 ni e2 ha
      · rw [swp_k np e2] at hb
        exact D.1 i a b i0 e1 e2 ha hb
  · rw [hc, ep] at hb
    cases hb
    have dl := par_lt d0
    rw [hd] at dl
    rw [swp_k (by omega) (by omega)] at ha
    exact D.1 d a x d0 (by omega) (by omega) ha (by rw [hd]; exact hx)
theorem heap_push {zs : List α} {x : α} (H : IsHeap lt zs) : Up lt (zs ++ [x]) zs.length := by
  refine ⟨fun i a b i0 ni ha hb => ?_, fun c a b c0 hc q0 ha hb => ?_⟩
  · have := (List.getElem?_eq_some_iff.mp ha).1
    rw [List.length_append, List.length_singleton] at this
    have pl := par_lt i0
    rw [List.getElem?_append_left (by omega)] at ha
    rw [List.getElem?_append_left (by omega)] at hb
    exact H i a b i0 ha hb
  · have := (List.getElem?_eq_some_iff.mp ha).1
    rw [List.length_append, List.length_singleton] at this
    have := par_lt c0
    omega
theorem heap_pop {zs : List α} {l : α} (H : IsHeap lt (zs ++ [l])) (h : zs ≠ []) : Down lt (zs.set 0 l) 0 := by
  refine ⟨fun i a b i0 _ np ha hb => ?_, fun c a b c0 hc q0 ha hb => absurd q0 (by omega)⟩
  have la := (List.getElem?_eq_some_iff.mp ha).1
  rw [List.length_set] at la
  have pl := par_lt i0
  rw [List.getElem?_set_ne (by omega)] at ha
  rw [List.getElem?_set_ne (by omega)] at hb
  refine H i a b i0 (by rw [List.getElem?_append_left la]; exact ha) (by rw [List.getElem?_append_left (by omega)]; exact hb)
theorem heap_min (O : Ord' lt) {zs : List α} (H : IsHeap lt zs) {m : α} (h0 : zs[0]? = some m) (irr : ∀ x, lt x x = false) : ∀ (i : Nat) (x : α), zs[i]? = some x → lt x m = false := by
  intro i
  induction i using Nat.strongRecOn with
  | ind i ih =>
    intro x hx
    rcases Nat.eq_zero_or_pos i with e | e
    · subst e
      rw [h0] at hx
      cases hx
      exact irr _
    · have pl := par_lt e
      have li := (List.getElem?_eq_some_iff.mp hx).1
      have hy : zs[par i]? = some zs[par i] := List.getElem?_eq_getElem (by omega)
      exact O.neg _ _ _ (H i x _ e hx hy) (ih _ pl _ hy)
theorem heap_nil : IsHeap lt ([] : List α) := fun i x y _ h => by cases h
theorem heap_one (x : α) : IsHeap lt [x] := fun i y z i0 h => by
  have := (List.getElem?_eq_some_iff.mp h).1
  rw [List.length_singleton] at this
  omega
theorem heap_init {zs : List α} {l : α} (H : IsHeap lt (zs ++ [l])) : IsHeap lt zs := fun i a b i0 ha hb => by
  have la := (List.getElem?_eq_some_iff.mp ha).1
  have pl := par_lt i0
  exact H i a b i0 (by rw [List.getElem?_append_left la]; exact ha) (by rw [List.getElem?_append_left (by omega)]; exact hb)
end
end Sk

set_option Elab.async false
set_option linter.all false
set_option maxRecDepth 100000
set_option maxHeartbeats 4000000
namespace Sk
open PySem PySem.Spec PyProof.Rows L2 PySem.SeqAt PySem.W
/-! heappush, heappop over items that are data -/
theorem hq_kind_push : builtinKind "_heapq.heappush" = none := by kernel_rfl
theorem hq_kind_pop : builtinKind "_heapq.heappop" = none := by kernel_rfl
theorem hq_plain_push : plainId "_heapq.heappush" = true := by decide +kernel
theorem hq_plain_pop : plainId "_heapq.heappop" = true := by decide +kernel
theorem hq_plain_sift : plainId "_heapq.heapify.sift" = true := by decide +kernel
theorem hq_entry_push : entryFor table "_heapq.heappush" = some Builtin.«_heapq.heappush» := entryFor_of_tree (by kernel_rfl)
theorem hq_entry_pop : entryFor table "_heapq.heappop" = some Builtin.«_heapq.heappop» := entryFor_of_tree (by kernel_rfl)
theorem hq_entry_sift : entryFor table "_heapq.heapify.sift" = some Builtin.«_heapq.heapify.sift» := entryFor_of_tree (by kernel_rfl)
theorem hq_args_push (a b : Value) : argsOk "_heapq.heappush" ⟨[a, b], []⟩ := by unfold argsOk; kernel_rfl
theorem hq_args_pop (a : Value) : argsOk "_heapq.heappop" ⟨[a], []⟩ := by unfold argsOk; kernel_rfl
abbrev Zd := V × PyData
def ltz (x y : Zd) : Bool := dataLt x.2 y.2
theorem ltz_asym (x y : Zd) (h : ltz x y = true) : ltz y x = false := by
  cases e : ltz y x with
  | false => rfl
  | true =>
    have := lex_trans _ _ _ h e
    rw [lex_irrefl] at this
    cases this
theorem ltz_neg (x y z : Zd) (h : ltz x y = false) (k : ltz y z = false) : ltz x z = false := by
  cases e : ltz x z with
  | false => rfl
  | true =>
    rcases lex_negTrans _ (keyToks y.2) _ e with w | w
    · rw [show ltz x y = true from w] at h; cases h
    · rw [show ltz y z = true from w] at k; cases k
theorem ord_ltz : Ord' ltz := ⟨ltz_asym, ltz_neg⟩
theorem irr_ltz (x : Zd) : ltz x x = false := lex_irrefl _
section
variable {X : Cx} {pins : List (Addr × Obj)} {σ : L2.St} {H : Hp} {a : Addr}
theorem upd_upd (H : Hp) (a : Addr) (o o' : HO) : upd (upd H a o) a o' = upd H a o' := by
  funext b
  by_cases e : b = a
  · rw [e, upd_same, upd_same]
  · rw [upd_ne e, upd_ne e, upd_ne e]
theorem upd_self {H : Hp} {a : Addr} {o : HO} (h : H a = some o) : upd H a o = H := by
  funext b
  by_cases e : b = a
  · rw [e, upd_same, h]
  · rw [upd_ne e]
/-- what is known of the items, however they stand in the list -/
structure ZOk (K : PySem.W.Frag) (H : Hp) (a : Addr) (zs : List Zd) : Prop where
  dp : ∀ z ∈ zs, ∀ ys, Dp K (upd H a (.lst ys)) z.1 z.2
  al : ∀ z ∈ zs, ∀ w ∈ zs, alike z.2 w.2 = true
  nn : ∀ z ∈ zs, z.2 ≠ .none
  dep : ∀ z ∈ zs, z.2.depth ≤ 50
theorem ZOk.perm {K : PySem.W.Frag} {zs ws : List Zd} (h : ZOk K H a zs) (p : ws.Perm zs) : ZOk K H a ws :=
  ⟨fun z hz => h.dp z (p.mem_iff.mp hz), fun z hz w hw => h.al z (p.mem_iff.mp hz) w (p.mem_iff.mp hw), fun z hz => h.nn z (p.mem_iff.mp hz), fun z hz => h.dep z (p.mem_iff.mp hz)⟩
theorem opt_run {M : Model} {A : Around} {E : Value → Shared → Prop} {Q : Value → Shared → Prop} {s : Shared} {o : Option Value} {u : Value} {g : Sem Value} (ho : o = some u) (h : Q u s) : wpAny M A (match o with | some v => pure v | none => g) Q E s := by
  rw [ho]
  exact wpAny_pure h
theorem up_run {R : Result → Shared → Prop} (hu : X.A.units + 60 < cLine) (res : Value) : ∀ (m : Nat) (zs : List Zd) (p : Nat) (s : Shared), p = m → Inv X pins σ (upd H a (.lst (zs.map (·.1)))) s → ZOk X.K H a zs → Up ltz zs p → p < zs.length →
    (∀ zs' s', zs'.Perm zs → IsHeap ltz zs' → Inv X pins σ (upd H a (.lst (zs'.map (·.1)))) s' → R (.ok (.ret res)) s') →
    codeAny (model X.prog X.w) X.A (.builtin "_heapq.heapify.sift" ⟨[.ref a, .bool false, .bool false, rawInt p, rawInt 0, res, rawInt (-1)], []⟩) R s := by
  intro m
  induction m using Nat.strongRecOn with
  | ind m ih =>
    intro zs p s hm I Z U hp k
    refine codeAny_builtin hq_entry_sift ?_
    rw [Around.under_plainId hq_plain_sift _]
    unfold Builtin.«_heapq.heapify.sift»
    obtain ⟨zl, its, n, r, hl, e⟩ := I.lstM upd_same
    dsimp only [rawInt]
    refine wpAny_bind ?_
    refine wpAny_bind (wpAny_seqItems e rfl ?_)
    refine wpAny_pure ?_
    rw [if_neg Bool.false_ne_true]
    simp only [Int.toNat_natCast]
    by_cases p0 : 0 < p
    · rw [if_pos (show p > Int.toNat 0 from p0)]
      have hx : zs[p]? = some zs[p] := List.getElem?_eq_getElem hp
      have hq : par p < zs.length := Nat.lt_trans (par_lt p0) hp
      have hy : zs[par p]? = some zs[par p] := List.getElem?_eq_getElem hq
      generalize zs[p] = x at hx
      generalize zs[par p] = y at hy
      obtain ⟨u, hu', ru⟩ := r.get (i := p) (x := x.1) (by rw [List.getElem?_map, hx]; rfl)
      obtain ⟨v, hv', rv⟩ := r.get (i := par p) (x := y.1) (by rw [List.getElem?_map, hy]; rfl)
      refine wpAny_bind (opt_run (o := its.toArray[p]?) (u := u) (by rw [List.getElem?_toArray]; exact hu') ?_)
      refine wpAny_bind (opt_run (o := its.toArray[(p - 1) / 2]?) (u := v) (by rw [List.getElem?_toArray]; exact hv') ?_)
      rw [if_neg Bool.false_ne_true]
      obtain ⟨as, ra⟩ := Dp.reads I x.2 x.1 u (Z.dp x (List.mem_of_getElem? hx) _) ru
      obtain ⟨bs, rb⟩ := Dp.reads I y.2 y.1 v (Z.dp y (List.mem_of_getElem? hy) _) rv
      have dx := Z.dep x (List.mem_of_getElem? hx)
      refine wpAny_bind ?_
      refine wpAny_bind (wpAny_holding (wpAny_bind (rcLt_alike x.2 y.2 X.A.in1 s u v as bs ra rb (Z.al x (List.mem_of_getElem? hx) y (List.mem_of_getElem? hy)) (Z.nn x (List.mem_of_getElem? hx)) (by show X.A.units + 1 + _ < cLine; omega) _ _ _ _ (wpAny_truthy_bool ?_))))
      refine wpAny_bind (wpAny_bind (wpAny_seqItems e rfl (wpAny_pure ?_)))
      rw [if_neg (by simp)]
      refine wpAny_pure ?_
      cases lt : dataLt x.2 y.2 with
      | true =>
        rw [if_pos rfl]
        refine wpAny_bind ?_
        refine wpAny_bind (wpAny_bind (wpAny_seqItems e rfl (wpAny_pure ?_)))
        refine wpAny_bind (opt_run (o := its.toArray[(p - 1) / 2]?) (u := v) (by rw [List.getElem?_toArray]; exact hv') ?_)
        refine wpAny_bind (opt_run (o := its.toArray[p]?) (u := u) (by rw [List.getElem?_toArray]; exact hu') ?_)
        refine wpAny_updateSeq e rfl ?_
        have I' := I.lset (l := a) (t' := s.toks) (f := fun xs => (xs.setIfInBounds ((p - 1) / 2) u).setIfInBounds p v) (its' := (its.set (par p) u).set p v) (ys := (swp zs (par p) p y x).map (·.1)) upd_same e (by simp [par]) (by
          unfold swp
          rw [List.map_set, List.map_set]
          exact (r.set ru (par p)).set rv p) (by rw [List.length_map, swp_len]; rw [List.length_map] at zl; exact zl)
        rw [upd_upd] at I'
        have nq : par p ≠ p := by have := par_lt p0; omega
        exact wpAny_pure ⟨plainId_quiet hq_plain_sift _, ih (par p) (by rw [← hm]; exact par_lt p0) (swp zs (par p) p y x) (par p) _ rfl I' (Z.perm (swp_perm hy hx nq)) (hup_step ord_ltz U p0 hx hy lt) (by rw [swp_len]; exact hq) fun zs' s' pz h I => k zs' s' (pz.trans (swp_perm hy hx nq)) h I⟩
      | false =>
        rw [if_neg Bool.false_ne_true, if_pos (by decide)]
        exact wpAny_pure (k zs s (List.Perm.refl _) (up_done U (.inr fun x' y' hx' hy' => by
          rw [hx] at hx'
          rw [hy] at hy'
          cases hx'
          cases hy'
          exact lt)) I)
    · rw [if_neg (show ¬ p > Int.toNat 0 from p0), if_pos (by decide)]
      exact wpAny_pure (k zs s (List.Perm.refl _) (up_done U (.inl (by omega))) I)
theorem down_run {R : Result → Shared → Prop} (hu : X.A.units + 60 < cLine) (res : Value) : ∀ (m : Nat) (zs : List Zd) (p : Nat) (s : Shared), zs.length - p = m → Inv X pins σ (upd H a (.lst (zs.map (·.1)))) s → ZOk X.K H a zs → Down ltz zs p → p < zs.length →
    (∀ zs' s', zs'.Perm zs → IsHeap ltz zs' → Inv X pins σ (upd H a (.lst (zs'.map (·.1)))) s' → R (.ok (.ret res)) s') →
    codeAny (model X.prog X.w) X.A (.builtin "_heapq.heapify.sift" ⟨[.ref a, .bool false, .bool true, rawInt p, rawInt 0, res, rawInt (-1)], []⟩) R s := by
  intro m
  induction m using Nat.strongRecOn with
  | ind m ih =>
    intro zs p s hm I Z D hp k
    refine codeAny_builtin hq_entry_sift ?_
    rw [Around.under_plainId hq_plain_sift _]
    unfold Builtin.«_heapq.heapify.sift»
    obtain ⟨zl, its, n, r, hl, e⟩ := I.lstM upd_same
    have hl : zs.length = its.length := by rw [List.length_map] at hl; exact hl
    dsimp only [rawInt]
    refine wpAny_bind ?_
    refine wpAny_bind (wpAny_seqItems e rfl ?_)
    refine wpAny_pure ?_
    rw [if_pos rfl]
    simp only [Int.toNat_natCast, List.size_toArray, ← hl]
    -- the child c with x goes up, y goes down
    have step : ∀ (c : Nat) (x y : Zd) (u v : Value), par c = p → 0 < c → zs[c]? = some x → zs[p]? = some y → its[c]? = some u → its[p]? = some v → L2.RelV x.1 u → L2.RelV y.1 v → (∀ d z, 0 < d → d ≠ c → par d = p → zs[d]? = some z → ltz z x = false) →
        ∀ s', s' = ({ s with heap := s.heap.update a (Obj.mapSeq fun xs => (xs.setIfInBounds c v).setIfInBounds p u) } : Shared) → codeAny (model X.prog X.w) X.A (.builtin "_heapq.heapify.sift" ⟨[.ref a, .bool false, .bool true, rawInt c, rawInt 0, res, rawInt (-1)], []⟩) R s' := by
      rintro c x y u v hc c0 hx hy hcu hpv ru rv least s' rfl
      have I' := I.lset (l := a) (t' := s.toks) (f := fun xs => (xs.setIfInBounds c v).setIfInBounds p u) (its' := (its.set c v).set p u) (ys := (swp zs c p x y).map (·.1)) upd_same e (by simp) (by
          unfold swp
          rw [List.map_set, List.map_set]
          exact (r.set rv c).set ru p) (by rw [List.length_map, swp_len]; rw [List.length_map] at zl; exact zl)
      rw [upd_upd] at I'
      have pl := par_lt c0
      have lc := (List.getElem?_eq_some_iff.mp hx).1
      exact ih (zs.length - c) (by omega) (swp zs c p x y) c _ (by rw [swp_len]) I' (Z.perm (swp_perm hx hy (by omega))) (hdown_step D hc c0 hx hy least) (by rw [swp_len]; exact lc) fun zs' s' pz h I => k zs' s' (pz.trans (swp_perm hx hy (by omega))) h I
    have hy : zs[p]? = some zs[p] := List.getElem?_eq_getElem hp
    generalize zs[p] = y at hy
    obtain ⟨v, hv', rv⟩ := r.get (i := p) (x := y.1) (by rw [List.getElem?_map, hy]; rfl)
    by_cases ph : p < zs.length / 2
    · rw [if_pos ph]
      have hl1 : 2 * p + 1 < zs.length := by omega
      have hx1 : zs[2 * p + 1]? = some zs[2 * p + 1] := List.getElem?_eq_getElem hl1
      generalize zs[2 * p + 1] = x1 at hx1
      obtain ⟨u1, hu1, ru1⟩ := r.get (i := 2 * p + 1) (x := x1.1) (by rw [List.getElem?_map, hx1]; rfl)
      by_cases h2 : 2 * p + 1 + 1 < zs.length
      · rw [if_pos h2]
        have hx2 : zs[2 * p + 1 + 1]? = some zs[2 * p + 1 + 1] := List.getElem?_eq_getElem h2
        generalize zs[2 * p + 1 + 1] = x2 at hx2
        obtain ⟨u2, hu2, ru2⟩ := r.get (i := 2 * p + 1 + 1) (x := x2.1) (by rw [List.getElem?_map, hx2]; rfl)
        refine wpAny_bind (opt_run (o := its.toArray[2 * p + 1]?) (u := u1) (by rw [List.getElem?_toArray]; exact hu1) ?_)
        refine wpAny_bind (opt_run (o := its.toArray[2 * p + 1 + 1]?) (u := u2) (by rw [List.getElem?_toArray]; exact hu2) ?_)
        rw [if_neg Bool.false_ne_true]
        obtain ⟨as, ra⟩ := Dp.reads I x1.2 x1.1 u1 (Z.dp x1 (List.mem_of_getElem? hx1) _) ru1
        obtain ⟨bs, rb⟩ := Dp.reads I x2.2 x2.1 u2 (Z.dp x2 (List.mem_of_getElem? hx2) _) ru2
        have dx := Z.dep x1 (List.mem_of_getElem? hx1)
        refine wpAny_bind ?_
        refine wpAny_bind (wpAny_holding (wpAny_bind (rcLt_alike x1.2 x2.2 X.A.in1 s u1 u2 as bs ra rb (Z.al x1 (List.mem_of_getElem? hx1) x2 (List.mem_of_getElem? hx2)) (Z.nn x1 (List.mem_of_getElem? hx1)) (by show X.A.units + 1 + _ < cLine; omega) _ _ _ _ (wpAny_truthy_bool ?_))))
        refine wpAny_bind (wpAny_bind (wpAny_seqItems e rfl (wpAny_pure ?_)))
        rw [if_neg (by rw [List.size_toArray, hl]; simp)]
        refine wpAny_pure ?_
        cases lt : dataLt x1.2 x2.2 with
        | true =>
          rw [if_neg (by decide)]
          refine wpAny_bind ?_
          refine wpAny_bind (wpAny_bind (wpAny_seqItems e rfl (wpAny_pure ?_)))
          refine wpAny_bind (opt_run (o := its.toArray[2 * p + 1]?) (u := u1) (by rw [List.getElem?_toArray]; exact hu1) ?_)
          refine wpAny_bind (opt_run (o := its.toArray[p]?) (u := v) (by rw [List.getElem?_toArray]; exact hv') ?_)
          refine wpAny_updateSeq e rfl ?_
          refine wpAny_pure ⟨plainId_quiet hq_plain_sift _, step (2 * p + 1) x1 y u1 v (by unfold par; omega) (by omega) hx1 hy hu1 hv' ru1 rv (fun d z d0 nd hd hz => ?_) _ rfl⟩
          rcases par_of d0 hd with q | q
          · exact absurd q nd
          · rw [q] at hz
            rw [show 2 * p + 2 = 2 * p + 1 + 1 by omega, hx2] at hz
            cases hz
            exact ltz_asym _ _ lt
        | false =>
          rw [if_pos (show (!false) = true from rfl)]
          refine wpAny_bind ?_
          refine wpAny_bind (wpAny_bind (wpAny_seqItems e rfl (wpAny_pure ?_)))
          refine wpAny_bind (opt_run (o := its.toArray[2 * p + 1 + 1]?) (u := u2) (by rw [List.getElem?_toArray]; exact hu2) ?_)
          refine wpAny_bind (opt_run (o := its.toArray[p]?) (u := v) (by rw [List.getElem?_toArray]; exact hv') ?_)
          refine wpAny_updateSeq e rfl ?_
          refine wpAny_pure ⟨plainId_quiet hq_plain_sift _, step (2 * p + 1 + 1) x2 y u2 v (by unfold par; omega) (by omega) hx2 hy hu2 hv' ru2 rv (fun d z d0 nd hd hz => ?_) _ rfl⟩
          rcases par_of d0 hd with q | q
          · rw [q, hx1] at hz
            cases hz
            exact lt
          · exact absurd q nd
      · rw [if_neg h2]
        refine wpAny_bind ?_
        refine wpAny_bind (wpAny_bind (wpAny_seqItems e rfl (wpAny_pure ?_)))
        refine wpAny_bind (opt_run (o := its.toArray[2 * p + 1]?) (u := u1) (by rw [List.getElem?_toArray]; exact hu1) ?_)
        refine wpAny_bind (opt_run (o := its.toArray[p]?) (u := v) (by rw [List.getElem?_toArray]; exact hv') ?_)
        refine wpAny_updateSeq e rfl ?_
        refine wpAny_pure ⟨plainId_quiet hq_plain_sift _, step (2 * p + 1) x1 y u1 v (by unfold par; omega) (by omega) hx1 hy hu1 hv' ru1 rv (fun d z d0 nd hd hz => ?_) _ rfl⟩
        rcases par_of d0 hd with q | q
        · exact absurd q nd
        · have := (List.getElem?_eq_some_iff.mp hz).1
          omega
    · rw [if_neg ph]
      exact wpAny_pure ⟨plainId_quiet hq_plain_sift _, up_run hu res p zs p s rfl I Z (down_end D (by omega)) hp k⟩
end
end Sk

set_option Elab.async false
set_option linter.all false
set_option maxRecDepth 100000
set_option maxHeartbeats 4000000
namespace Sk
open PySem PySem.Spec PyProof.Rows L2 PySem.SeqAt PySem.W
theorem sub_ll : isSubtype (.type "list") (.type "list") = pure true := by rw [isSubtype_type]; kernel_rfl
theorem call_fn_in {prog : Program} {w : World} {A : Around} {E : Value → Shared → Prop} {s : Shared} {id : String} {B : Builtin} {args : List Value} {Q : Value → Shared → Prop} (kind : builtinKind id = none) (plain : plainId id = true)
    (entry : entryFor table id = some B) (ok : argsOk id ⟨args, []⟩)
    (h : wpAny (model prog w) A.in1 (B ⟨args, []⟩) (fun fin s' => match fin with | .done f => wants Q E (.ok f) s' | .again c' => c'.quiet = true ∧ codeAny (model prog w) A c' (wants Q E) s') (fun e s' => wants Q E (.error e) s') s) : wpAny (model prog w) A (call (.builtin id) args) Q E s := by
  refine wpAny_call (codeAny_call_builtin plain entry ?_)
  simp only [checkBuiltinCall, kind]
  cases hsig : Manifest.signature? id with
  | none => exact wpAny_pure h
  | some sig =>
    simp only [argsOk, hsig] at ok
    have h2 : Bind.checkArgs id sig ⟨args, []⟩ = pure () := ok
    show wpAny _ _ (Bind.checkArgs id sig ⟨args, []⟩) _ _ s
    rw [h2]; exact wpAny_pure h
def rPush (K : PySem.W.Frag) : List V → Hp → VK → Prop := fun vs H Q => ∃ (a : Addr) (x : V) (d : PyData) (zs : List Zd), vs = [.ref a, x] ∧ H a = some (.lst (zs.map (·.1))) ∧ IsHeap ltz zs ∧ ZOk K H a (zs ++ [(x, d)]) ∧ zs.length ≤ 10000 ∧
  ∀ zs', zs'.Perm (zs ++ [(x, d)]) → IsHeap ltz zs' → Q .non (upd H a (.lst (zs'.map (·.1))))
theorem cr_push {X : Cx} (hu : X.A.units + 60 < cLine) : CallR X (.builtin "_heapq.heappush") (rPush X.K) := by
  intro pins s σ H vs us Q I r h
  obtain ⟨a, x, d, zs, rfl, ha, hh, Z, hz, k⟩ := h
  obtain ⟨u, v, rfl, ru, rv⟩ := vals2 r
  obtain rfl : u = Value.ref a := ru
  obtain ⟨zl, its, n, r, hl, e⟩ := I.lstM ha
  have hl : zs.length = its.length := by rw [List.length_map] at hl; exact hl
  refine call_fn_in hq_kind_push hq_plain_push hq_entry_push (hq_args_push _ _) ?_
  unfold Builtin.«_heapq.heappush»
  refine wpAny_bind ?_
  refine wpAny_bind (wpAny_pure ?_)
  refine wpAny_bind (wpAny_pure ?_)
  dsimp only
  refine wpAny_bind ?_
  refine wpAny_bind (wpAny_isInstance (b := true) ⟨_, e, rfl⟩ sub_ll ?_)
  rw [if_pos rfl]
  dsimp only
  refine wpAny_pure ?_
  refine wpAny_pure ?_
  dsimp only
  refine wpAny_bind (wpAny_updateSeq e rfl ?_)
  have I1 := I.lset (l := a) (t' := s.toks) (f := fun x => x.push v) (its' := its ++ [v]) (ys := (zs ++ [(x, d)]).map (·.1)) ha e (by simp) (by
    rw [List.map_append]
    exact r.append (.cons rv .nil)) (by rw [List.length_map, List.length_append, sizeLine_eq]; show zs.length + 1 ≤ _; omega)
  obtain ⟨zl2, its2, n2, r2, hl2, e2⟩ := I1.lstM upd_same
  have hs : its2.toArray.size - 1 = zs.length := by
    rw [List.size_toArray, ← hl2, List.length_map, List.length_append, List.length_singleton]
    omega
  refine wpAny_bind (wpAny_bind (wpAny_seqItems e2 rfl (wpAny_pure ?_)))
  rw [hs]
  exact wpAny_pure ⟨plainId_quiet hq_plain_sift _, up_run (pins := pins) (σ := σ) (H := H) (a := a) hu .none zs.length (zs ++ [(x, d)]) zs.length _ rfl I1 Z (heap_push hh) (by rw [List.length_append, List.length_singleton]; omega) fun zs' s' pz h I' => ⟨.non, _, I', rfl, k zs' pz h⟩⟩
def rPop (K : PySem.W.Frag) : List V → Hp → VK → Prop := fun vs H Q => ∃ (a : Addr) (zs : List Zd), vs = [.ref a] ∧ H a = some (.lst (zs.map (·.1))) ∧ IsHeap ltz zs ∧ ZOk K H a zs ∧ zs ≠ [] ∧
  ∀ z zs', (z :: zs').Perm zs → IsHeap ltz zs' → (∀ w ∈ zs', ltz w z = false) → Q z.1 (upd H a (.lst (zs'.map (·.1))))
theorem cr_pop {X : Cx} (hu : X.A.units + 60 < cLine) : CallR X (.builtin "_heapq.heappop") (rPop X.K) := by
  intro pins s σ H vs us Q I r h
  obtain ⟨a, zs, rfl, ha, hh, Z, hne, k⟩ := h
  obtain ⟨u, rfl, ru⟩ := vals1 r
  obtain rfl : u = Value.ref a := ru
  obtain ⟨zi, l, rfl⟩ : ∃ zi l, zs = zi ++ [l] := ⟨zs.dropLast, zs.getLast hne, (List.dropLast_concat_getLast hne).symm⟩
  obtain ⟨zl, its, n, r, hl, e⟩ := I.lstM ha
  have hl : zi.length + 1 = its.length := by rw [List.length_map, List.length_append] at hl; exact hl
  have zl : zi.length + 1 ≤ sizeLine := by rw [List.length_map, List.length_append] at zl; exact zl
  obtain ⟨v, hv, rv⟩ := r.get (i := zi.length) (x := l.1) (by simp)
  have hb : its.toArray.back? = some v := by
    rw [Array.back?, List.size_toArray, ← hl]
    simpa using hv
  refine call_fn_in hq_kind_pop hq_plain_pop hq_entry_pop (hq_args_pop _) ?_
  unfold Builtin.«_heapq.heappop»
  refine wpAny_bind ?_
  refine wpAny_bind (wpAny_pure ?_)
  refine wpAny_bind ?_
  refine wpAny_bind (wpAny_isInstance (b := true) ⟨_, e, rfl⟩ sub_ll ?_)
  rw [if_pos rfl]
  refine wpAny_pure ?_
  refine wpAny_pure ?_
  refine wpAny_bind (wpAny_bind (wpAny_seqItems e rfl (wpAny_pure ?_)))
  rw [hb]
  refine wpAny_bind (wpAny_updateSeq e rfl ?_)
  have I1 := I.lset (l := a) (t' := s.toks) (f := fun x => x.pop) (its' := its.dropLast) (ys := zi.map (·.1)) ha e (by simp) (by
    have := r.dropLast
    rw [List.map_append] at this
    simpa using this) (by rw [List.length_map]; omega)
  by_cases h1 : zi = []
  · rw [if_pos (by rw [List.size_toArray, ← hl, h1]; rfl)]
    subst h1
    exact wpAny_pure ⟨l.1, _, I1, rv, k l [] (List.Perm.refl _) heap_nil (fun _ h => nomatch h)⟩
  rw [if_neg (by
    rw [List.size_toArray, ← hl]
    have : zi.length ≠ 0 := fun z => h1 (List.length_eq_zero_iff.mp z)
    simp [this])]
  obtain ⟨f, zt, rfl⟩ : ∃ f zt, zi = f :: zt := by
    cases zi with
    | nil => exact absurd rfl h1
    | cons f zt => exact ⟨f, zt, rfl⟩
  obtain ⟨w, hw, rw_⟩ := r.get (i := 0) (x := f.1) rfl
  refine wpAny_bind (opt_run (o := its.toArray[0]?) (u := w) (by rw [List.getElem?_toArray]; exact hw) ?_)
  obtain ⟨zl2, its2, n2, r2, hl2, e2⟩ := I1.lstM upd_same
  refine wpAny_bind (wpAny_updateSeq e2 rfl ?_)
  have I2 := I1.lset (l := a) (t' := s.toks) (f := fun x => x.setIfInBounds 0 v) (its' := its2.set 0 v) (ys := ((f :: zt).set 0 l).map (·.1)) upd_same e2 (by simp) (by
    rw [List.map_set]
    exact r2.set rv 0) (by rw [List.length_map, List.length_set]; omega)
  rw [upd_upd] at I2
  have pz : ((f :: zt).set 0 l).Perm (zt ++ [l]) := by
    show (l :: zt).Perm (zt ++ [l])
    exact (List.perm_append_singleton l zt).symm
  have Z2 : ZOk X.K H a ((f :: zt).set 0 l) := by
    have sub : ∀ z ∈ (f :: zt).set 0 l, z ∈ (f :: zt) ++ [l] := fun z hz => by
      have := pz.mem_iff.mp hz
      rcases List.mem_append.mp this with h | h
      · exact List.mem_append_left _ (List.mem_cons_of_mem _ h)
      · exact List.mem_append_right _ h
    exact ⟨fun z hz => Z.dp z (sub z hz), fun z hz w hw => Z.al z (sub z hz) w (sub w hw), fun z hz => Z.nn z (sub z hz), fun z hz => Z.dep z (sub z hz)⟩
  exact wpAny_pure ⟨plainId_quiet hq_plain_sift _, down_run (pins := pins) (σ := σ) (H := H) (a := a) hu w _ ((f :: zt).set 0 l) 0 _ rfl I2 Z2 (heap_pop hh h1) (by rw [List.length_set]; exact Nat.succ_pos _) fun zs' s' pz' h I' => ⟨f.1, _, I', rw_, by
    have p2 : zs'.Perm (zt ++ [l]) := pz'.trans pz
    refine k f zs' (List.Perm.cons f p2) h fun w hw => ?_
    have hm : w ∈ (f :: zt) ++ [l] := List.mem_cons_of_mem _ (p2.mem_iff.mp hw)
    obtain ⟨i, hi⟩ := List.getElem?_of_mem hm
    exact heap_min ord_ltz hh (m := f) rfl irr_ltz i w hi⟩⟩
end Sk

set_option Elab.async false
set_option linter.all false
set_option maxRecDepth 100000
set_option maxHeartbeats 4000000
namespace Sk
open PySem PySem.Spec PyProof.Rows L2 PySem.SeqAt PySem.W
/-! sorted over items that are data -/
theorem vals_each {zs : List Zd} : ∀ {us : List Value}, Vals (zs.map (·.1)) us → EachIs (fun v (z : Zd) => RelV z.1 v) us zs := by
  induction zs with
  | nil => intro us r; cases r; exact .nil
  | cons z zs ih =>
    intro us r
    rw [List.map_cons] at r
    cases r with
    | cons a b => exact .cons a (ih b)
theorem each_vals {zs : List Zd} : ∀ {us : List Value}, EachIs (fun v (z : Zd) => RelV z.1 v) us zs → Vals (zs.map (·.1)) us := by
  induction zs with
  | nil => intro us r; cases r; exact .nil
  | cons z zs ih =>
    intro us r
    cases r with
    | cons a b => exact .cons a (ih b)
theorem each_mono_mem {α β : Type} {R S : α → β → Prop} : ∀ {as : List α} {bs : List β}, EachIs R as bs → (∀ a b, b ∈ bs → R a b → S a b) → EachIs S as bs
  | _, _, .nil, _ => .nil
  | _, _, .cons r t, h => .cons (h _ _ List.mem_cons_self r) (each_mono_mem t fun a b m => h a b (List.mem_cons_of_mem _ m))
def rSortZ (K : PySem.W.Frag) : List V → Hp → VK → Prop := fun vs H Q => ∃ (a : Addr) (zs : List Zd), vs = [.ref a] ∧ SqL K H a (zs.map (·.1)) ∧ (∀ z ∈ zs, Dp K H z.1 z.2) ∧ (∀ z ∈ zs, ∀ w ∈ zs, alike z.2 w.2 = true) ∧ (∀ z ∈ zs, (∃ x r, z.2 = .tuple (x :: r)) ∧ z.2.depth ≤ 50) ∧
  ∀ (zs' : List Zd) (p : Addr), zs'.Perm zs → zs'.Pairwise (fun x y => ltz y x = false) → H p = none → Q (.ref p) (upd H p (.lst (zs'.map (·.1))))
theorem cr_sortZ {X : Cx} (hu : X.A.units + 60 < cLine) : CallR X (.builtin "sorted") (rSortZ X.K) := by
  intro pins s σ H vs us Q I r h
  obtain ⟨a, zs, rfl, hs, hd, ha, ht, q⟩ := h
  obtain ⟨its, rv, hl, hz⟩ := I.list hs
  obtain ⟨u, rfl, ru⟩ := vals1 r
  obtain rfl : u = Value.ref a := ru
  have e := vals_each rv
  refine sorted_data (R := fun v (z : Zd) => RelV z.1 v) (enc := fun z : Zd => z.2) hl.isList e (each_mono_mem e fun v z m r => Dp.reads I z.2 z.1 v (hd z m) r) (fun d hd d' hd' => ?_) (.inl fun d hd => ?_) (by rw [List.length_map] at hz; exact hz) (fun z m => by have := (ht z m).2; omega) fun out ho eo => ?_
  · obtain ⟨z, m, rfl⟩ := List.mem_map.mp hd
    obtain ⟨w, m', rfl⟩ := List.mem_map.mp hd'
    exact ha z m w m'
  · obtain ⟨z, m, rfl⟩ := List.mem_map.mp hd
    exact (ht z m).1
  · obtain ⟨c, hc⟩ := sortedAll_at s.heap its out.toArray
    have pz : (zs.mergeSort (dataLe false fun z : Zd => z.2)).Perm zs := List.mergeSort_perm _ _
    have lt : ∀ x y : Zd, dataLe false (fun z : Zd => z.2) x y = !ltz y x := fun x y => rfl
    refine ⟨.ref _, upd H (s.heap.objs.size + 1) (.lst ((zs.mergeSort (dataLe false fun z : Zd => z.2)).map (·.1))), I.laid (t' := s.toks) (fun _ _ => sortedAll_old) (Nat.le_succ _) ⟨by rw [List.length_map, pz.length_eq]; rw [List.length_map] at hz; exact hz, out, c, each_vals eo, hc⟩, rfl, q _ _ pz ?_ (I.hok.fresh (Nat.le_succ _))⟩
    have := List.pairwise_mergeSort (le := dataLe false fun z : Zd => z.2) (fun x y z h k => by
      rw [lt] at h k ⊢
      have h : ltz y x = false := by simpa using h
      have k : ltz z y = false := by simpa using k
      rw [ltz_neg z y x k h]; rfl) (fun x y => by
      rw [lt, lt]
      cases e : ltz y x with
      | false => rfl
      | true => rw [ltz_asym y x e]; rfl) zs
    exact this.imp fun {x y} h => by rw [lt] at h; simpa using h
end Sk

set_option Elab.async false
set_option linter.all false
set_option maxRecDepth 100000
set_option maxHeartbeats 4000000
namespace Sk
open PySem PySem.Spec PyProof.Rows L2 GenW GxR PySem.SeqAt
/-! a generator expression gathered: tuple(..), sorted(..) -/
/-- not too many -/
def eFew : Eats := fun ys _ _ go => ys.length < 1000 ∧ go
theorem eFew_mono : EatsMono eFew := fun _ _ _ _ _ f h => ⟨h.1, f h.2⟩
theorem vals_snoc : ∀ {ys : List V} {us : List Value} {y : V} {u : Value}, Vals ys us → RelV y u → Vals (ys ++ [y]) (us ++ [u])
  | [], _, y, u, .nil, r => .cons r .nil
  | _ :: _, _, y, u, .cons a b, r => .cons a (vals_snoc b r)
section
variable {Y : GEx} {A : Around} {R : Result → Shared → Prop} {Qd : List V → Hp → Prop} {S : Addr} {res : Value}
theorem ext_loop (O : Y.Ok) (hB : Y.B = A.in1.in1) (hS : Y.Sx = [S]) (hC : Y.C = eFew) (hF : Y.F = Qd) (hh : A.handled = none) (hroom : A.depth < recursionLimit)
    (hR : ∀ ys acc c σ' H' s1, Inv Y.Xg [] σ' H' s1 → s1.heap.get? S = some (bestL acc c) → Vals ys acc.toList → ys.length ≤ 1000 → H' S = none → Qd ys H' → R (.ok (.ret res)) s1) : ∀ (n : Nat) (ys : List V) (H : Hp) (gs : GenState) (sp s : Shared) (acc : Array Value) (c : Nat), Y.Rdy n ys H gs sp → Aft Y.Sx sp s → s.heap.IsGen Y.a Y.g → s.gens[Y.g]? = some gs → s.heap.NoLimit →
      s.heap.get? S = some (bestL acc c) → Vals ys acc.toList → ys.length ≤ 1000 → codeAny Y.M A (.builtin "list.extend.loop" ⟨[.ref S, .ref Y.a, res], []⟩) R s := by
  have hSm : S ∈ Y.a :: Y.Sx := by rw [hS]; simp
  have main : ∀ (n : Nat) (ys : List V) (H : Hp) (gs : GenState) (sp s : Shared) (acc : Array Value) (c : Nat), Y.Rdy n ys H gs sp → Aft Y.Sx sp s → s.heap.IsGen Y.a Y.g → s.gens[Y.g]? = some gs → s.heap.NoLimit →
      s.heap.get? S = some (bestL acc c) → Vals ys acc.toList → ys.length ≤ 1000 →
      (∀ (ys' : List V) (H' : Hp) (gs' : GenState) (sp' s' : Shared) (acc' : Array Value) (c' : Nat), Y.Rp n ys' H' gs' sp' → Aft Y.Sx sp' s' → s'.heap.IsGen Y.a Y.g → s'.gens[Y.g]? = some gs' → s'.heap.NoLimit →
        s'.heap.get? S = some (bestL acc' c') → Vals ys' acc'.toList → ys'.length ≤ 1000 → codeAny Y.M A (.builtin "list.extend.loop" ⟨[.ref S, .ref Y.a, res], []⟩) R s') → codeAny Y.M A (.builtin "list.extend.loop" ⟨[.ref S, .ref Y.a, res], []⟩) R s := by
    intro n ys H gs sp s acc c rd af hg hgs nl hSo hv hl ih
    have there : ∀ b ∈ Y.a :: Y.Sx, ∃ o, s.heap.get? b = some o := fun b hb => by
      rcases List.mem_cons.mp hb with z | z
      · obtain ⟨o, n1, n2, e, r⟩ := hg
        exact ⟨o, by rw [z]; exact e⟩
      · rw [hS] at z
        exact ⟨_, by rw [List.mem_singleton.mp z]; exact hSo⟩
    refine codeAny_builtin F.entry_extend_loop ?_
    rw [Around.under_plainId F.plain_extend_loop _]
    show wpAny _ A.in1 (pyNext (.ref Y.a) >>= _) _ _ s
    refine wpAny_bind (GEx.next O hB hh hroom nl rd af hg hgs (Array.getElem?_eq_some_iff.mp hgs).1 (fun σ' H' s1 s2 I f a => ?_) fun v y σ' H' s1 gs' I r cc hb hsz => ?_)
    · rw [hF] at f
      have e1 := O.pinned I hSm hSo
      refine wpAny_pure (hR ys acc c σ' H' s2 (O.past I there ⟨a.os, a.bare, fun b o _ e => a.keep b o (by simp) e, fun b hb => ?_⟩) (a.keep _ _ (by simp) e1.1) hv hl e1.2 f)
      rw [hS] at hb
      rw [List.mem_singleton.mp hb]
      exact ⟨_, a.keep _ _ (by simp) e1.1, fun v z => by cases z⟩
    · rw [hC] at cc
      obtain ⟨few, cc⟩ := cc
      have e1 := (O.pinned I hSm hSo).1
      have e2 : (s1.setGen Y.g gs').heap.get? S = _ := e1
      have hg1 : (s1.setGen Y.g gs').heap.IsGen Y.a Y.g := by
        obtain ⟨o, n1, n2, e, r⟩ := hg
        exact ⟨o, n1, n2, (O.pinned I List.mem_cons_self e).1, r⟩
      have hgs1 := setGen_at (x := gs') (Nat.lt_of_lt_of_le (Array.getElem?_eq_some_iff.mp hgs).1 hsz)
      have hna : S ≠ Y.a := fun z => O.aS (by rw [← z, hS]; simp)
      have la : acc.size = ys.length := by rw [← Array.length_toList]; exact hv.length.symm
      have put : Aft [S] s1 { (s1.setGen Y.g gs') with heap := s1.heap.update S (Obj.mapSeq (·.push v)) } := by
        refine ⟨rfl, allBare_setGen I.bare hb, fun b o n e' => ?_, fun b hb => ?_⟩
        · exact (Heap.get?_update_other _ _ (fun h : S = b => n (by rw [h]; exact List.mem_singleton.mpr rfl))).trans e'
        · rw [List.mem_singleton.mp hb]
          exact ⟨_, Heap.get?_update_self _ e1 rfl, fun v z => by cases z⟩
      show wpAny _ A.in1 (updateSeq S (·.push v) >>= _) _ _ _
      refine wpAny_bind ?_
      refine wpAny_updateSeq e2 rfl (wpAny_pure ⟨plainId_quiet F.plain_extend_loop _, ?_⟩) (by rw [sizeLine_eq]; omega) (by
        show (acc.push v).size ≤ sizeLine + 1
        rw [Array.size_push, sizeLine_eq]
        omega)
      refine ih (ys ++ [y]) H' gs' s1 _ (acc.push v) _ cc (by rw [hS]; exact put) ?_ hgs1 (O.past I there (by rw [hS]; exact put)).nolimit (Heap.get?_update_self (Obj.mapSeq (·.push v)) e1 rfl) ?_ ?_
      · obtain ⟨o, n1, n2, e, r⟩ := hg1
        exact ⟨o, n1, n2, (Heap.get?_update_other _ _ hna).trans e, r⟩
      · rw [Array.toList_push]
        exact vals_snoc hv r
      · rw [List.length_append, List.length_singleton]
        omega
  intro n
  induction n with
  | zero =>
    intro ys H gs sp s acc c rd af hg hgs nl hSo hv hl
    exact main 0 ys H gs sp s acc c rd af hg hgs nl hSo hv hl fun _ _ _ _ _ _ _ q => (show False from q).elim
  | succ n ih =>
    intro ys H gs sp s acc c rd af hg hgs nl hSo hv hl
    exact main (n + 1) ys H gs sp s acc c rd af hg hgs nl hSo hv hl fun ys' H' gs' sp' s' acc' c' a1 a2 a3 a4 a5 a6 a7 a8 => ih ys' H' gs' sp' s' acc' c' a1 a2 a3 a4 a5 a6 a7 a8
end
/-- a generator gathered into a list -/
theorem collectP {P : Program} {w : World} {A : Around} {Q : List Value → Shared → Prop} {E : Value → Shared → Prop} {s : Shared} {a g : Addr} (hg : s.heap.IsGen a g)
    (h : ∀ (h' : Heap) (c : Nat), h'.get? s.heap.objs.size = some (bestL #[] c) → (∀ b o, s.heap.get? b = some o → h'.get? b = some o) → codeAny (model P w) A (.builtin "list.extend.loop" ⟨[.ref s.heap.objs.size, .ref a, .ref s.heap.objs.size], []⟩) (fun r s' => r = .ok (.ret (.ref s.heap.objs.size)) ∧ ∃ acc c, s'.heap.get? s.heap.objs.size = some (bestL acc c) ∧ Q acc.toList s') { s with heap := h' }) :
    wpAny (model P w) A (collect (.ref a)) Q E s := by
  have hlt : a < s.heap.objs.size := by
    obtain ⟨o, _, _, e, _⟩ := hg
    exact Heap.lt_size e
  have hSa : s.heap.objs.size ≠ a := Nat.ne_of_gt hlt
  unfold collect
  refine wpAny_bind ?_
  refine wpAny_runValue (codeAny_builtin F.entry_proto_collect ?_)
  rw [Around.under_plainId F.plain_proto_collect]
  show wpAny _ A.in1 (newList [] >>= fun l => again (.builtin "list.__iadd__" ⟨[l, .ref a], []⟩)) _ _ s
  refine wpAny_bind ?_
  refine wpAny_newObj_type ?_
  refine wpAny_pure ⟨plainId_quiet F.plain_list_iadd _, ?_⟩
  refine codeAny_builtin F.entry_list_iadd ?_
  rw [Around.under_plainId F.plain_list_iadd]
  have hS : (s.heap.push (bestL #[] 0)).get? s.heap.objs.size = some (bestL #[] 0) := Heap.get?_push_size _ rfl
  have k1 : ∀ b o, s.heap.get? b = some o → (s.heap.push (bestL #[] 0)).get? b = some o := fun b o e => Heap.get?_push_of_some _ e
  have up : ∀ (h : Heap) (f : Obj → Obj), (∀ b o, s.heap.get? b = some o → h.get? b = some o) → ∀ b o, s.heap.get? b = some o → (h.update s.heap.objs.size f).get? b = some o := fun h f q b o e =>
    (Heap.get?_update_other _ _ (Ne.symm (Nat.ne_of_lt (Heap.lt_size e)))).trans (q b o e)
  show wpAny _ A.in1 (Builtin.List.listExtendWith (.ref s.heap.objs.size) (.ref a) (.ref s.heap.objs.size)) _ _ { s with heap := s.heap.push (bestL #[] 0) }
  have g1 : (s.heap.push (bestL #[] 0)).IsGen a g := hg.keeps k1
  unfold Builtin.List.listExtendWith
  refine wpAny_bind ?_
  refine wpAny_typeOf (Heap.IsGen.typeIs (s := { s with heap := s.heap.push (bestL #[] 0) }) g1) ?_
  have h1 : Builtin.List.listSameRef (.ref s.heap.objs.size) (.ref a) = false := by simp [Builtin.List.listSameRef, hSa]
  have h2 : (Value.type "generator" == Value.type "list") = false := by decide
  have h3 : (Value.type "generator" == Value.type "tuple") = false := by decide
  simp only [h1, h2, h3, Bool.or_false, Bool.false_eq_true, if_false]
  refine wpAny_bind ?_
  refine wpAny_pyIter_gen (s := { s with heap := s.heap.push (bestL #[] 0) }) g1 ?_
  refine wpAny_bind (wpAny_holding ?_)
  unfold Builtin.List.listLengthHint
  refine wpAny_bind ?_
  refine wpAny_specialOf (Heap.IsGen.typeIs (s := { s with heap := s.heap.push (bestL #[] 0) }) g1) F.gen_no_len ?_
  show wpAny _ A.in1 (specialOf (Value.ref a) (Str.ofString "__length_hint__") >>= _) _ _ _
  refine wpAny_bind ?_
  refine wpAny_specialOf (Heap.IsGen.typeIs (s := { s with heap := s.heap.push (bestL #[] 0) }) g1) F.gen_no_hint ?_
  refine wpAny_pure ?_
  show wpAny _ A.in1 (rule "list.extend.makes-room" >>= fun _ => Builtin.List.listTouch (.ref s.heap.objs.size) >>= fun _ => again (.builtin "list.extend.loop" ⟨[.ref s.heap.objs.size, .ref a, .ref s.heap.objs.size], []⟩)) _ _ _
  refine wpAny_bind (wpAny_rule ?_)
  refine wpAny_bind ?_
  show wpAny _ A.in1 (updateSeq s.heap.objs.size (·.push .none) >>= fun _ => updateSeq s.heap.objs.size (·.pop)) _ _ _
  refine wpAny_bind (wpAny_updateSeq hS rfl ?_)
  have hS3 := Heap.get?_update_self (Obj.mapSeq (·.push Value.none)) hS rfl
  refine wpAny_updateSeq (hz := by seq_fits) hS3 rfl ?_
  have hS4 := Heap.get?_update_self (Obj.mapSeq (·.pop)) hS3 rfl
  refine wpAny_pure ⟨plainId_quiet F.plain_extend_loop _, ?_⟩
  refine codeAny_mono (h _ _ hS4 (up _ (Obj.mapSeq (·.pop)) (up _ (Obj.mapSeq (·.push Value.none)) k1))) fun r s' q => ?_
  obtain ⟨rfl, acc, c, e, q⟩ := q
  show wpAny _ A (load s.heap.objs.size >>= _) _ _ s'
  exact wpAny_bind (wpAny_load e (wpAny_pure q))
end Sk

set_option Elab.async false
set_option linter.all false
set_option maxRecDepth 100000
set_option maxHeartbeats 4000000
namespace Sk
open PySem PySem.Spec PyProof.Rows L2 GenW GxR PySem.SeqAt
theorem nearA3 (A : Around) : NearA A.in1.in1.in1 A := ⟨rfl, rfl, Nat.le_add_right _ _, by show A.units + 1 + 1 + 1 ≤ _; omega⟩
theorem nearA4 (A : Around) : NearA A.in1.in1.in1.in1 A := ⟨rfl, rfl, Nat.le_add_right _ _, by show A.units + 1 + 1 + 1 + 1 ≤ _; omega⟩
/-- what a gathering says; fin: what becomes of the values -/
def tGat (fin : List V → Hp → VK → Prop) (P : Addr) (wi : TI) (g : TG) (tt : TT) (te : TE) (vs : List Nat) : TE := fun σ H Q => wi σ H fun J H1 => TabG H1 P ∧ ∀ H2, Tabbed P H1 H2 →
  ∃ W : Nat → Nat → List V → Hp → Prop, (∃ m, W 0 m [] H2) ∧ GStep W J g tt te vs (wipe σ vs) eFew (fun ys H => fin ys H Q)
def finT : List V → Hp → VK → Prop := fun ys H Q => ∀ p, H p = none → Q (.ref p) (upd H p (.tup ys))
def finP : List V → Hp → VK → Prop := fun ys H Q => ∃ k : V → Int × Int, (∀ x ∈ ys, ∃ t, x = V.ref t ∧ H t = some (.tup [.int (k x).1, .int (k x).2])) ∧ ∀ zs p, SrtO.Srtd (ltP k) zs → zs.Perm ys → H p = none → Q (.ref p) (upd H p (.lst zs))
theorem code_tupP {P : Program} {w : World} {A : Around} {Q : Value → Shared → Prop} {E : Value → Shared → Prop} {s : Shared} {a g : Addr} (hg : s.heap.IsGen a g)
    (h : ∀ (h' : Heap) (c : Nat), h'.get? s.heap.objs.size = some (bestL #[] c) → (∀ b o, s.heap.get? b = some o → h'.get? b = some o) → codeAny (model P w) A.in1 (.builtin "list.extend.loop" ⟨[.ref s.heap.objs.size, .ref a, .ref s.heap.objs.size], []⟩) (fun r s' => r = .ok (.ret (.ref s.heap.objs.size)) ∧ ∃ acc c, s'.heap.get? s.heap.objs.size = some (bestL acc c) ∧ acc.size ≤ 1000 ∧ Q (.ref s'.heap.objs.size) { s' with heap := s'.heap.push (seqObj "tuple" acc 0) }) { s with heap := h' }) :
    codeAny (model P w) A (.call (.builtin "tuple.__new__") ⟨[.type "tuple", .ref a], []⟩) (wants Q E) s := by
  refine codeAny_of_tree ?_
  show wpAny _ A.in1 (checkBuiltinCall "tuple.__new__" ⟨[.type "tuple", .ref a], []⟩ >>= fun _ => again (.builtin "tuple.__new__" ⟨[.type "tuple", .ref a], []⟩)) _ _ s
  refine wpAny_bind (wpAny_of_eq (F.newCall_tuple_1 _) ?_)
  refine wpAny_pure ⟨plainId_quiet F.plain_tuple_new _, ?_⟩
  refine codeAny_builtin F.entry_tuple_new ?_
  rw [Around.under_plainId F.plain_tuple_new]
  have b1 := sub_tuple_self
  have b2 := init_tuple_lookup
  have b3 := madeHere_tuple
  have b4 : s.TypeIs (.ref a) "generator" := Heap.IsGen.typeIs hg
  have key : wpAny (model P w) A.in1 (collect (.ref a)) (fun vs s' => vs.length ≤ 1000 ∧ Q (.ref s'.heap.objs.size) { s' with heap := s'.heap.push (seqObj "tuple" vs.toArray 0) }) E s := by
    refine collectP hg fun h' c e k => codeAny_mono (h h' c e k) fun r s' q => ?_
    obtain ⟨e1, acc, c', e2, e3, e4⟩ := q
    refine ⟨e1, acc, c', e2, by rw [Array.length_toList]; exact e3, ?_⟩
    rw [Array.toArray_toList]
    exact e4
  unfold Builtin.«tuple.__new__»
  generalize hC : collect = C at key ⊢
  wp_walk using wpAny_typeOf b4
  refine wpAny_mono key (fun vs s' q => ?_) fun _ _ e => e
  show wpAny _ _ (Builtin.Tuple.tupleExact vs.toArray >>= fun v => ret v) _ _ _
  unfold Builtin.Tuple.tupleExact
  refine wpAny_bind ?_
  refine wpAny_newObj_type ?_ (by show vs.toArray.size ≤ sizeLine; rw [List.size_toArray, sizeLine_eq]; omega)
  exact wpAny_pure q.2
theorem call_tupP {P : Program} {w : World} {A : Around} {Q : Value → Shared → Prop} {E : Value → Shared → Prop} {s : Shared} {a g : Addr} (hg : s.heap.IsGen a g)
    (h : ∀ (h' : Heap) (c : Nat), h'.get? s.heap.objs.size = some (bestL #[] c) → (∀ b o, s.heap.get? b = some o → h'.get? b = some o) → codeAny (model P w) A.in1.in1 (.builtin "list.extend.loop" ⟨[.ref s.heap.objs.size, .ref a, .ref s.heap.objs.size], []⟩) (fun r s' => r = .ok (.ret (.ref s.heap.objs.size)) ∧ ∃ acc c, s'.heap.get? s.heap.objs.size = some (bestL acc c) ∧ acc.size ≤ 1000 ∧ Q (.ref s'.heap.objs.size) { s' with heap := s'.heap.push (seqObj "tuple" acc 0) }) { s with heap := h' }) :
    wpAny (model P w) A (call (.type "tuple") [.ref a]) Q E s := by
  refine callType_codes (Q₁ := fun obj s₁ => s₁.TypeIs obj "tuple" ∧ Q obj s₁) F.called_tuple (F.typeCall_tuple_1 _) F.entry_object_init ?_ fun obj s₁ h₁ => ?_
  · refine code_tupP (A := A.in1) hg fun h' c e k => codeAny_mono (h h' c e k) fun r s' q => ?_
    obtain ⟨e1, acc, c', e2, e3, e4⟩ := q
    exact ⟨e1, acc, c', e2, e3, ⟨_, Heap.get?_push_size _ rfl, rfl⟩, e4⟩
  · exact ⟨h₁.1, F.args_object_init_2 obj _, object_init_meets F.called_tuple.init.lookup F.called_tuple.made (by decide) P w A.in1 _ s₁ ⟨h₁.1, rfl, h₁.2⟩⟩
section
variable {X : Cx} {c P : Addr} {elt tg iter : Expr} {ifs : List Expr} {scope : Scope} {own : List (Str × Nat)} {p pos gpos : Pos} {wi : TI} {g : TG} {tt : TT} {te : TE} {k : Nat}
/-- tuple(elt for target in iter) -/
theorem pe_tupG (hr : Room (k + 1) X.A) (hn : X.N.Nodup) (hgl : Gl X "tuple") (hm : X.mg "tuple" = none) (TB : LamX.TabB X.base X.mg c P) (hcode : X.env.code = .ref c) (G : GScp scope) (ok : BlkOk X.N X.env.scope scope own) (hi : PI X tg iter wi)
    (hg : GPG X k scope tg g) (ht : GPT X k scope ifs tt) (he : GPE X k scope elt te) (hs : ∀ v, genFold iter X.env v = pure v := by intro _; rfl)
    (hst : starEach [.GeneratorExp elt [⟨tg, iter, ifs, 0⟩] scope gpos] X.env = (false, eval (.GeneratorExp elt [⟨tg, iter, ifs, 0⟩] scope gpos) X.env) :: starEach [] X.env := by rfl) :
    PE X (.Call (.Name "tuple" p) [.GeneratorExp elt [⟨tg, iter, ifs, 0⟩] scope gpos] [] pos) (tGat finT P wi g tt te (own.map (·.2))) := by
  refine ⟨fun pins s σ H Q I h => ?_⟩
  refine wpAny_Call_Name_kw (ld_blt I hgl hm boot_tuple ?_)
  refine PyProof.Rows.callWith_type1 ?_ hst (by rfl)
  rw [hst]
  show wpAny _ _ (spliced ((false, eval (.GeneratorExp elt [⟨tg, iter, ifs, 0⟩] scope gpos) X.env) :: backTo pos (starEach [] X.env))) _ _ s
  refine Calls.spliced_cons (gen_made (R := fun J H1 => _) hr TB hcode G ok hi hs I h fun J H1 H2 s4 cenv fp it tn a gn s5 q tb M => ?_)
  refine Calls.spliced_nil (call_tupP M.isg fun h' c0 e0 k0 => ?_)
  obtain ⟨W, ⟨m, w0⟩, st⟩ := q H2 tb
  obtain ⟨code, hce⟩ := M.env
  subst hce
  have hlt : a < s5.heap.objs.size := by rw [M.lt]; exact Nat.lt_succ_self a
  obtain ⟨O, rd⟩ := gen_rdy (B := X.A.in1.in1.in1.in1) (Sx := [s5.heap.objs.size]) hr (nearA4 _) G ok hn M (fun A r => hg _ _ _ _ _ _ A r) (fun A r => ht _ _ _ _ _ _ A r) (fun A r => he _ _ _ _ _ _ A r) (fun b z => by rw [List.mem_singleton.mp z]; exact hlt) eFew_mono st m w0
  refine ext_loop (A := X.A.in1.in1) (Qd := fun ys H => finT ys H Q) (S := s5.heap.objs.size) (Y := mkY X s4 H2 _ fp X.A.in1.in1.in1.in1 (wipe σ (own.map (·.2))) (.GeneratorExp elt [⟨tg, iter, ifs, 0⟩] scope gpos) it a gn [s5.heap.objs.size] eFew (fun ys H => finT ys H Q)) O rfl rfl rfl rfl (by simp [hr.hd]) hr.depth (fun ys acc c σ' H' s1 I' e1 v1 l1 n1 q => ?_) m [] H2 _ s5 _ #[] c0 rd ?_ ?_ ?_ ?_ e0 .nil (Nat.zero_le _)
  · have la : acc.size = ys.length := by rw [← Array.length_toList]; exact v1.length.symm
    have I2 := GEx.out (Y := mkY X s4 H2 _ fp X.A.in1.in1.in1.in1 (wipe σ (own.map (·.2))) (.GeneratorExp elt [⟨tg, iter, ifs, 0⟩] scope gpos) it a gn [s5.heap.objs.size] eFew (fun ys H => finT ys H Q)) M.inv (fun b hb => (M.fps b hb).1) I' (Aft.refl I'.bare)
    have hn := I2.hok.fresh (Nat.le_refl s1.heap.objs.size)
    refine ⟨rfl, acc, c, e1, by omega, .ref s1.heap.objs.size, _, I2.laid (t' := s1.toks) (fun b o e => Heap.get?_push_of_some _ e) (Nat.le_refl _) (show ObjOk X.prog X.w _ _ _ (.tup ys) from ⟨by rw [sizeLine_eq]; omega, acc.toList, v1, ⟨_, Heap.get?_push_size _ rfl, rfl, 0, ?_⟩⟩), rfl, q _ hn⟩
    simp
  · refine ⟨rfl, ?_, fun b o _ e => k0 b o e, fun b hb => ?_⟩
    · show AllBare s5.gens
      rw [M.gens]
      exact M.inv.bare.push rfl
    · rw [List.mem_singleton.mp hb]
      exact ⟨_, e0, fun v z => by cases z⟩
  · obtain ⟨o, n1, n2, e, r⟩ := M.isg
    exact ⟨o, n1, n2, k0 _ _ e, r⟩
  · show s5.gens[gn]? = _
    rw [M.gens, M.num]
    simp
  · exact (M.inv.nolimit.keeps M.keep).keeps k0
end
/-! sorted of pairs out of a generator -/
theorem call_sortP {P : Program} {w : World} {A : Around} {Q : Value → Shared → Prop} {E : Value → Shared → Prop} {s : Shared} {a g : Addr} (hg : s.heap.IsGen a g)
    (h : ∀ (h' : Heap) (c : Nat), h'.get? s.heap.objs.size = some (bestL #[] c) → (∀ b o, s.heap.get? b = some o → h'.get? b = some o) → codeAny (model P w) A.in1 (.builtin "list.extend.loop" ⟨[.ref s.heap.objs.size, .ref a, .ref s.heap.objs.size], []⟩) (fun r s' => r = .ok (.ret (.ref s.heap.objs.size)) ∧ ∃ acc c, s'.heap.get? s.heap.objs.size = some (bestL acc c) ∧
        acc.size ≤ 1000 ∧ ∃ k : Value → Int × Int, (∀ v ∈ acc.toList, Srt.IsPair s'.heap v (k v).1 (k v).2) ∧ ∀ (h2 : Heap) (d : Addr) (out : List Value), SrtO.Srtd (fun v u => SrtO.lexB (k v) (k u)) out → SrtO.Stb (fun v u => SrtO.lexB (k v) (k u)) out acc.toList → (∀ b o, s'.heap.get? b = some o → h2.get? b = some o) → s'.heap.objs.size ≤ d → (∃ n, h2.get? d = some (seqObj "list" out.toArray n)) → Q (.ref d) { s' with heap := h2 }) { s with heap := h' }) :
    wpAny (model P w) A (call (.builtin "sorted") [.ref a]) Q E s := by
  refine Calls.call_function_entry kind_sorted plain_sorted entry_sorted (args_sorted1 _) ?_
  unfold Builtin.«sorted»
  refine wpAny_bind (m := checkCount "sorted" 1 1 _) ?_
  refine wpAny_pure ?_
  refine wpAny_bind (collectP (A := A.in1) hg fun h' c e k => codeAny_mono (h h' c e k) fun r s' q => ?_)
  obtain ⟨e1, acc, c', e2, e3, k, hp, q⟩ := q
  refine ⟨e1, acc, c', e2, ?_⟩
  have lz : acc.toList.length ≤ sizeLine := by rw [Array.length_toList, sizeLine_eq]; omega
  refine wpAny_bind (wpAny_newList ?_ lz)
  have hL : (s'.heap.push (seqObj "list" acc.toList.toArray 0)).get? s'.heap.objs.size = some (seqObj "list" acc.toList.toArray 0) := Heap.get?_push_size _ rfl
  refine wpAny_bind (wpAny_holding ?_)
  refine wpAny_call_entry slot_list_sort ⟨_, hL, rfl⟩ entry_list_sort ?_ (args_list_sort _)
  refine SrtO.list_sort_ord (SrtO.swo_lex k) hL lz (fun h2 => ?_) fun out hs hb => ⟨_, rfl, ?_⟩
  · refine SrtO.pairs_sortableO (s := { s' with heap := s'.heap.push (seqObj "list" acc.toList.toArray 0) }) (by omega) (fun v hm => (hp v hm).keeps fun b o e _ => Heap.get?_push_of_some _ e) fun o e => ?_
    have e' : some o = some (seqObj "list" acc.toList.toArray 0) := e.symm.trans hL
    cases e'
    intro c
    exact absurd (Value.type.inj c) (by decide)
  · refine wpAny_pure ⟨_, rfl, q _ s'.heap.objs.size out hs hb (fun b o e => ?_) (Nat.le_refl _) (sortedHeap_at hL)⟩
    have lt := Heap.lt_size e
    have e2 := Heap.get?_push_of_some (seqObj "list" acc.toList.toArray 0) e
    rw [← e2]
    exact sortedHeap_old (Nat.ne_of_lt lt) (by rw [size_push']; exact Nat.lt_succ_of_lt lt)
section
variable {X : Cx} {c P : Addr} {elt tg iter : Expr} {ifs : List Expr} {scope : Scope} {own : List (Str × Nat)} {p pos gpos : Pos} {wi : TI} {g : TG} {tt : TT} {te : TE} {k : Nat}
/-- sorted(pair for target in iter) -/
theorem pe_sortG (hr : Room (k + 1) X.A) (hn : X.N.Nodup) (hgl : Gl X "sorted") (hm : X.mg "sorted" = none) (TB : LamX.TabB X.base X.mg c P) (hcode : X.env.code = .ref c) (G : GScp scope) (ok : BlkOk X.N X.env.scope scope own) (hi : PI X tg iter wi)
    (hg : GPG X k scope tg g) (ht : GPT X k scope ifs tt) (he : GPE X k scope elt te) (hs : ∀ v, genFold iter X.env v = pure v := by intro _; rfl)
    (hst : starEach [.GeneratorExp elt [⟨tg, iter, ifs, 0⟩] scope gpos] X.env = (false, eval (.GeneratorExp elt [⟨tg, iter, ifs, 0⟩] scope gpos) X.env) :: starEach [] X.env := by rfl) :
    PE X (.Call (.Name "sorted" p) [.GeneratorExp elt [⟨tg, iter, ifs, 0⟩] scope gpos] [] pos) (tGat finP P wi g tt te (own.map (·.2))) := by
  refine ⟨fun pins s σ H Q I h => ?_⟩
  refine wpAny_Call_Name_kw (ld_blt I hgl hm boot_sorted ?_)
  refine PyProof.Rows.callWith_builtin1 ?_ hst (by rfl)
  rw [hst]
  show wpAny _ _ (spliced ((false, eval (.GeneratorExp elt [⟨tg, iter, ifs, 0⟩] scope gpos) X.env) :: backTo pos (starEach [] X.env))) _ _ s
  refine Calls.spliced_cons (gen_made (R := fun J H1 => _) hr TB hcode G ok hi hs I h fun J H1 H2 s4 cenv fp it tn a gn s5 q tb M => ?_)
  refine Calls.spliced_nil (call_sortP M.isg fun h' c0 e0 k0 => ?_)
  obtain ⟨W, ⟨m, w0⟩, st⟩ := q H2 tb
  obtain ⟨code, hce⟩ := M.env
  subst hce
  have hlt : a < s5.heap.objs.size := by rw [M.lt]; exact Nat.lt_succ_self a
  obtain ⟨O, rd⟩ := gen_rdy (B := X.A.in1.in1.in1) (Sx := [s5.heap.objs.size]) hr (nearA3 _) G ok hn M (fun A r => hg _ _ _ _ _ _ A r) (fun A r => ht _ _ _ _ _ _ A r) (fun A r => he _ _ _ _ _ _ A r) (fun b z => by rw [List.mem_singleton.mp z]; exact hlt) eFew_mono st m w0
  refine ext_loop (A := X.A.in1) (Qd := fun ys H => finP ys H Q) (S := s5.heap.objs.size) (Y := mkY X s4 H2 _ fp X.A.in1.in1.in1 (wipe σ (own.map (·.2))) (.GeneratorExp elt [⟨tg, iter, ifs, 0⟩] scope gpos) it a gn [s5.heap.objs.size] eFew (fun ys H => finP ys H Q)) O rfl rfl rfl rfl (by simp [hr.hd]) hr.depth (fun ys acc c σ' H' s1 I' e1 v1 l1 n1 q => ?_) m [] H2 _ s5 _ #[] c0 rd ?_ ?_ ?_ ?_ e0 .nil (Nat.zero_le _)
  · have la : acc.size = ys.length := by rw [← Array.length_toList]; exact v1.length.symm
    have I2 := GEx.out (Y := mkY X s4 H2 _ fp X.A.in1.in1.in1 (wipe σ (own.map (·.2))) (.GeneratorExp elt [⟨tg, iter, ifs, 0⟩] scope gpos) it a gn [s5.heap.objs.size] eFew (fun ys H => finP ys H Q)) M.inv (fun b hb => (M.fps b hb).1) I' (Aft.refl I'.bare)
    obtain ⟨k2, hx, q⟩ := q
    obtain ⟨b1, b2⟩ := refs_back v1 fun x m => by
      obtain ⟨t, e, _⟩ := hx x m
      exact ⟨t, e⟩
    refine ⟨rfl, acc, c, e1, by omega, fun u => k2 (backV u), fun v hv => ?_, fun h2 d out h3 h4 kp hd hn => ?_⟩
    · obtain ⟨t, rfl⟩ := b2 v hv
      have hm : V.ref t ∈ ys := by rw [b1]; exact List.mem_map.mpr ⟨_, hv, rfl⟩
      obtain ⟨t', e, ht⟩ := hx _ hm
      cases e
      obtain ⟨_, its2, r2, o, ho, hc, n, hd⟩ := I2.hok _ _ ht
      obtain ⟨u1, u2, rfl, ri, rj⟩ := vals2 r2
      obtain ⟨t1, rfl⟩ := ri
      obtain ⟨t2, rfl⟩ := rj
      exact ⟨t, o, t1, t2, n, rfl, ho, hc, hd⟩
    · have h5 : ∀ u ∈ out, ∃ a, u = Value.ref a := fun u hu => b2 u (h4.perm.mem_iff.mp hu)
      obtain ⟨n, hn⟩ := hn
      have hb : SrtO.Stb (ltP k2) (out.map backV) ys := by
        rw [b1]
        exact SrtO.Stb.map (ltP_swo k2) backV h4
      refine ⟨.ref d, upd H' d (.lst (out.map backV)), I2.laid (t' := s1.toks) kp hd ⟨?_, out, n, vals_back h5, hn⟩, rfl, q _ d (SrtO.srtd_map h3) hb.perm (I2.hok.fresh hd)⟩
      rw [hb.len, sizeLine_eq]
      omega
  · refine ⟨rfl, ?_, fun b o _ e => k0 b o e, fun b hb => ?_⟩
    · show AllBare s5.gens
      rw [M.gens]
      exact M.inv.bare.push rfl
    · rw [List.mem_singleton.mp hb]
      exact ⟨_, e0, fun v z => by cases z⟩
  · obtain ⟨o, n1, n2, e, r⟩ := M.isg
    exact ⟨o, n1, n2, k0 _ _ e, r⟩
  · show s5.gens[gn]? = _
    rw [M.gens, M.num]
    simp
  · exact (M.inv.nolimit.keeps M.keep).keeps k0
end
end Sk

set_option Elab.async false
set_option linter.all false
set_option maxRecDepth 100000
set_option maxHeartbeats 4000000
namespace Sk
open PySem PySem.Spec PyProof.Rows L2
/-! enumerate over a tuple -/
abbrev titO (t : Addr) : Obj := { cls := .type "tuple_iterator", data := .fields #[.ref t, .int 0 0] }
abbrev enuO (it : Addr) : Obj := { cls := .type "enumerate", data := .fields #[.none, .bool false, .ref it, rawInt 0, .none, .none] }
theorem meets_enumT (t : Addr) (items : Array Value) : Meets (Builtin.«enumerate.__new__» { pos := [.type "enumerate", .ref t] }) fun _ R s =>
    s.heap.IsTuple t items ∧ R (.ok (.ret (.ref (s.heap.push (titO t)).objs.size))) { s with heap := (s.heap.push (titO t)).push (enuO s.heap.objs.size) } := by
  refine Meets.of_wp fun prog w A R s h => ?_
  obtain ⟨hp, g, d, tk, os⟩ := s
  obtain ⟨hl, h⟩ := h
  have hsub := sub_enumerate
  refine wpAny_bind ?_
  refine wpAny_bind ?_
  refine wpAny_pure ?_
  refine wpAny_ite_false rfl ?_
  refine wpAny_bind ?_
  refine wpAny_of_eq hsub ?_
  refine wpAny_ite_false rfl ?_
  refine wpAny_pure ?_
  refine wpAny_ite_true rfl ?_
  refine wpAny_bind ?_
  refine wpAny_bind ?_
  refine wpAny_stack_any fun st => ?_
  refine wpAny_pure ?_
  have tail : wpAny (model prog w) A.in1 (pyIter (.ref t) >>= fun it => Builtin.SmallTypes.newRecord (.type "enumerate") (Builtin.SmallTypes.ownedTupleFields ++ [it, rawInt 0, .none, .none]) >>= fun r => ret r)
      (fun fin s' => ∃ v, fin = Fin.done (Flow.ret v) ∧ R (.ok (.ret v)) s') (fun e s' => R (.error e) s') { heap := hp, gens := g, drawn := d, toks := tk, os := os } := by
    refine wpAny_bind (wpAny_pyIter_tuple hl ?_)
    refine wpAny_bind ?_
    unfold Builtin.SmallTypes.newRecord
    dsimp only
    refine wpAny_newObj_type ?_ (by first | exact True.intro | trivial | (show (6 : Nat) ≤ _; rw [sizeLine_eq]; decide))
    exact wpAny_pure ⟨_, rfl, h⟩
  split
  · rename_i c _ _ _ _ _
    cases hc : (c == Value.type "enumerate")
    · refine wpAny_ite_false rfl (wpAny_bind (wpAny_of_eq (show _ = pure (Value.ref t, none) from rfl) ?_))
      exact tail
    · refine wpAny_ite_true rfl (wpAny_bind (wpAny_of_eq (show _ = pure (Value.ref t, none) from rfl) ?_))
      exact tail
  · refine wpAny_ite_false rfl (wpAny_bind (wpAny_of_eq (show _ = pure (Value.ref t, none) from rfl) ?_))
    exact tail
theorem call_enumT {prog : Program} {w : World} {A : Around} {E : Value → Shared → Prop} {s : Shared} {t : Addr} {items : Array Value} {Q : Value → Shared → Prop} (hl : s.heap.IsTuple t items)
    (h : Q (.ref (s.heap.push (titO t)).objs.size) { s with heap := (s.heap.push (titO t)).push (enuO s.heap.objs.size) }) : wpAny (model prog w) A (call (.type "enumerate") [.ref t]) Q E s :=
  callType_new F.called_enumerate (by decide) (F.typeCall_enumerate_1 (.ref t)) (F.newCall_enumerate_1 (.ref t)) (fun obj => F.args_object_init_2 obj (.ref t)) F.entry_enumerate_new (meets_enumT t items)
    ⟨hl, ⟨_, Heap.get?_push_size _ rfl, rfl⟩, h⟩
theorem ne_cls {h : Heap} {a b : Addr} {o u : Obj} (ha : h.get? a = some o) (hb : h.get? b = some u) (n : o.cls ≠ u.cls) : a ≠ b := fun z => by
  rw [z, hb] at ha
  exact n (congrArg Obj.cls (Option.some.inj ha)).symm
theorem draws_tup {prog : Program} {w : World} {A : Around} {it t : Addr} {items : Array Value} (hh : A.handled = none) :
    Draws prog w A it [it, t] items.size (fun i x => items[i]? = some x) fun i h => h.IsTupleIter it t i ∧ h.IsTuple t items := by
  have ne : ∀ {h : Heap} {i}, h.IsTupleIter it t i ∧ h.IsTuple t items → t ≠ it := fun ⟨⟨o, e, c, _⟩, ⟨u, e2, c2, _⟩⟩ => ne_cls e2 e (by rw [c, c2]; decide)
  refine ⟨fun i h ⟨⟨o, e, _⟩, _⟩ => ⟨o, e⟩, fun i h h' ⟨⟨o, e, q⟩, ⟨u, e2, q2⟩⟩ k => ⟨⟨o, k it (by simp) _ e, q⟩, ⟨u, k t (by simp) _ e2, q2⟩⟩, fun i s Q E hi st k => ?_, fun s Q E st k => ?_⟩
  · refine RZ.nextOf_tuple_item st.1 st.2 (Array.getElem?_eq_getElem hi) fun h' a sb => ?_
    obtain ⟨u, e2, q2⟩ := st.2
    exact k _ h' s.toks (Array.getElem?_eq_getElem hi) ⟨a, ⟨u, (sb.2 t (ne st)).trans e2, q2⟩⟩ sb
  · exact RZ.nextOf_tuple_end hh st.1 st.2 (by simp) fun h' e a b => k h' e a b
/-- the turns of an enumerate over a tuple -/
def IteT (K : PySem.W.Frag) (a : Addr) : It := { go := fun i H => ∃ xs x, SqT K H a xs ∧ xs[i]? = some x, yld := fun i H v H' => ∃ T x, v = .ref T ∧ H T = none ∧ H' = upd H T (.tup [.int (i : Nat), x]) ∧ ∀ xs, SqT K H a xs → xs[i]? = some x, stop := fun i H => ∃ xs, SqT K H a xs ∧ xs.length = i }
theorem walk_enumT {K : PySem.W.Frag} {a : Addr} {xs : List V} : Walk (IteT K a) xs.length (fun H => SqT K H a xs) (YPair (fun i => some (.int (i : Nat))) fun i => xs[i]?) :=
  ⟨fun i H hi q => ⟨xs, xs[i], q, List.getElem?_eq_getElem hi⟩, fun H q => ⟨xs, q, rfl⟩, fun i H x H' hi q ⟨T, y, e, hT, e', f⟩ => ⟨T, _, y, e, hT, e', rfl, f xs q⟩⟩
theorem turn_enumT {P : Program} {w : World} {K : PySem.W.Frag} {elts : List Expr} {kk : Nat} {tpos : Pos} (a e it : Addr) :
    Turn P w K (.Tuple elts kk tpos) (IteT K a) [e, it] e fun i h => (∃ old, IsEnum h e it (i : Nat) old) ∧ h.IsTupleIter it a i ∧ e ≠ it := by
  refine ⟨by simp, fun i h st b hb => ?_, fun i h h' st k => ?_, fun X hP hw hK hc i pins s σ H E I hf st hg => ?_, fun X hP hw hK hc i pins s σ H E I hf st hg => ?_, fun A i s Q E st h => ?_⟩
  · obtain ⟨⟨old, he⟩, ⟨o, ho, hc, hd⟩, _⟩ := st
    rcases List.mem_cons.mp hb with z | z
    · rw [z]; exact ⟨_, he, fun v q => nomatch q⟩
    · rw [List.mem_singleton.mp z]; exact ⟨o, ho, fun v q => by rw [hd] at q; cases q⟩
  · obtain ⟨⟨old, he⟩, ⟨o, ho, q⟩, n⟩ := st
    exact ⟨⟨old, k e (by simp) _ he⟩, ⟨o, k it (by simp) _ ho, q⟩, n⟩
  · subst hP hw hK
    obtain ⟨⟨old, he⟩, hit, hne⟩ := st
    obtain ⟨xs, x, hq, hx⟩ := hg
    obtain ⟨its, rv, p, hz⟩ := I.tuple hq
    obtain ⟨u, hu, ru⟩ := rv.get hx
    have pT : s.heap.IsTuple a its.toArray := p
    have hel := Heap.lt_size he
    have hil : it < s.heap.objs.size := by obtain ⟨o, q, _⟩ := hit; exact Heap.lt_size q
    have hei : i < its.toArray.size := by have := (List.getElem?_eq_some_iff.mp hu).1; simpa using this
    have nea : e ≠ a := by obtain ⟨o, q, c, _⟩ := pT; exact ne_cls he q (by rw [c]; show Value.type "enumerate" ≠ .type "tuple"; decide)
    refine wpAny_pyNext_enum_itemD (draws_tup (A := X.A.in1) (I.ok.hd hc)) he ⟨hit, pT⟩ hei hne (by simp [hne, nea]) fun x' h' tk px ho st' hT hsz hk => ?_
    have ex : x' = u := by
      have px : its.toArray[i]? = some x' := px
      rw [List.getElem?_toArray, hu] at px
      exact (Option.some.inj px).symm
    subst ex
    refine ⟨.ref s.heap.objs.size, rfl, wpAny_letOwnedTupleGo_enum ho fun h'' he' sb => ?_⟩
    have hT2 := (sb.2 s.heap.objs.size (Nat.ne_of_gt hel)).trans hT
    have new : ObjOk X.prog X.w (upd H s.heap.objs.size (.tup [.int (i : Nat), x])) h'' s.heap.objs.size (.tup [.int (i : Nat), x]) := ⟨by show 2 ≤ sizeLine; rw [sizeLine_eq]; decide, [.int (i : Nat) tk, x'], .cons ⟨tk, rfl⟩ (.cons ru .nil), _, hT2, rfl, 0, rfl⟩
    have I1 := I.turnedNew (t' := tk + 1) (ch := [e, it]) (fun b ob hb q => (sb.2 b (fun z => hb (by simp [z]))).trans (hk b ob (fun z => hb (by simp [z])) (fun z => hb (by simp [z])) q)) hf (Nat.le_refl _) new
    refine ⟨.ref s.heap.objs.size, _, I1, rfl, ⟨s.heap.objs.size, x, rfl, I.hok.fresh (Nat.le_refl _), rfl, fun ys hy => ?_⟩, ⟨⟨x', ?_⟩, ?_, hne⟩, fun b hb => ?_⟩
    · rw [I.tuple_inj hy hq]; exact hx
    · have e1 : ((i + 1 : Nat) : Int) = (i : Int) + 1 := by omega
      rw [e1]; exact he'
    · obtain ⟨⟨o, q, r⟩, _⟩ := st'
      exact ⟨o, (sb.2 it (Ne.symm hne)).trans q, r⟩
    · have hb' : b < s.heap.objs.size := by
        rcases List.mem_cons.mp hb with z | z
        · rw [z]; exact hel
        · rw [List.mem_singleton.mp z]; exact hil
      rw [upd_ne (Nat.ne_of_lt hb')]
      exact (hf b hb).1
  · subst hP hw hK
    obtain ⟨⟨old, he⟩, hit, hne⟩ := st
    obtain ⟨xs, hq, hx⟩ := hg
    obtain ⟨its, rv, p, hz⟩ := I.tuple hq
    have pT : s.heap.IsTuple a its.toArray := p
    have hl := rv.length
    have ei : i = its.toArray.size := by rw [List.size_toArray]; omega
    obtain ⟨f0, f1, f2, f3, f4, f5⟩ := hf it (by simp)
    refine wpAny_pyNext_enum_endD (draws_tup (A := X.A.in1) (I.ok.hd hc)) he (by rw [← ei]; exact ⟨hit, pT⟩) fun h' ext => ?_
    exact ⟨rfl, I.turned (fun b o hb q => ext b o hb q) f0 f1 f3 f4 f5⟩
  · obtain ⟨⟨old, he⟩, _⟩ := st
    exact wpAny_pyIter_enum he h
def iEnumT (K : PySem.W.Frag) (ta : TA) : TI := fun σ H R => ta σ H fun vs H1 => ∃ (a : Addr) (xs : List V), vs = [.ref a] ∧ SqT K H1 a xs ∧ R (IteT K a) H1
theorem pi_enumT {X : Cx} {e : Expr} {ta : TA} {p pos tpos : Pos} {elts : List Expr} {kk : Nat} (hg : Gl X "enumerate") (hm : X.mg "enumerate" = none) (ha : PA X [e] ta) (hs : starEach [e] X.env = [(false, eval e X.env)] := by rfl) :
    PI X (.Tuple elts kk tpos) (.Call (.Name "enumerate" p) [e] [] pos) (iEnumT X.K ta) := by
  refine ⟨fun pins s σ H R I h => ?_⟩
  refine Call_ (ld_blt I hg hm boot_enumerate (callWith_type1 (thn (ha.run pos pins s σ H _ I h) fun us s1 hh => ?_) hs rfl)) rfl
  obtain ⟨vs, H1, I1, r1, a, xs, ev, hq, q⟩ := hh
  subst ev
  cases r1 with
  | cons r rr =>
  cases rr
  rename_i u
  obtain rfl : u = Value.ref a := r
  obtain ⟨its, rv, pt, hz⟩ := I1.tuple hq
  have pT : s1.heap.IsTuple a its.toArray := pt
  refine call_enumT pT ?_
  have he : ((s1.heap.push (titO a)).push (enuO s1.heap.objs.size)).get? (s1.heap.push (titO a)).objs.size = some (enuO s1.heap.objs.size) := Heap.get?_push_size _ rfl
  have hk : ∀ b o, s1.heap.get? b = some o → ((s1.heap.push (titO a)).push (enuO s1.heap.objs.size)).get? b = some o := fun b o q => Heap.get?_push_of_some _ (Heap.get?_push_of_some _ q)
  refine wpAny_pyIter_enum he ?_
  have hsz : (s1.heap.push (titO a)).objs.size = s1.heap.objs.size + 1 := Heap.size_push _ _
  refine ⟨_, [(s1.heap.push (titO a)).objs.size, s1.heap.objs.size], _, IteT X.K a, H1, rfl, I1.kept hk, turn_enumT a _ s1.heap.objs.size, ⟨⟨_, he⟩, ⟨_, Heap.get?_push_of_some _ (Heap.get?_push_size _ rfl), rfl, rfl⟩, by rw [hsz]; exact Nat.succ_ne_self _⟩, fun b hb => ?_, q⟩
  have hle : s1.heap.objs.size ≤ b := by
    rcases List.mem_cons.mp hb with z | z
    · rw [z, hsz]; exact Nat.le_succ _
    · rw [List.mem_singleton.mp z]; exact Nat.le_refl _
  exact I1.fpOk hle (I1.hok.fresh hle)
end Sk

set_option Elab.async false
set_option linter.all false
set_option maxRecDepth 100000
set_option maxHeartbeats 4000000
namespace Sk
open PySem PySem.Spec PyProof.Rows L2 GenW GxR
/-! generators over whatever can be walked -/
section
variable {J : It} {n : Nat} {G : Hp → Prop} {Z : Nat → Hp → V → Hp → Prop} {g : TG} {tt : TT} {te : TE} {vs : List Nat} {σ : L2.St} {H2 : Hp}
theorem gat_walk (w : Walk J n G Z) {F : List V → Hp → Prop} (Pv : Nat → List V → Hp → Prop) (h0 : Pv 0 [] H2) (hG : ∀ i ys H, i ≤ n → Pv i ys H → G H)
    (hs : ∀ i ys x H H', i < n → Pv i ys H → Z i H x H' → g x (wipe σ vs) H' fun σ2 H2 => wipe σ2 vs = wipe σ vs ∧ tt σ2 H2 fun b H3 => if b = true then te σ2 H3 fun y H4 => ys.length < 1000 ∧ Pv (i + 1) (ys ++ [y]) H4 else Pv (i + 1) ys H3) (hd : ∀ ys H, Pv n ys H → F ys H) :
    ∃ W : Nat → Nat → List V → Hp → Prop, (∃ m, W 0 m [] H2) ∧ GStep W J g tt te vs (wipe σ vs) eFew F := by
  refine ⟨fun i m ys H => m = n - i ∧ i ≤ n ∧ Pv i ys H, ⟨n, rfl, Nat.zero_le _, h0⟩, ?_⟩
  rintro i m ys H ⟨rfl, hi, p⟩
  have q := hG i ys H hi p
  by_cases hlt : i < n
  · exact .inr ⟨w.goes i H hlt q, fun ys H => Pv (i + 1) ys H, fun ys' H' p' => ⟨n - (i + 1), by omega, rfl, hlt, p'⟩, fun x H' y => hs i ys x H H' hlt p (w.yields i H x H' hlt q y)⟩
  · obtain rfl : i = n := by omega
    exact .inl ⟨w.stops H q, hd ys H p⟩
theorem till_walk (w : Walk J n G Z) {e : Bool} {Qe Qn : Hp → Prop} (Pv : Nat → Hp → Prop) (h0 : Pv 0 H2) (hG : ∀ i H, i ≤ n → Pv i H → G H)
    (hs : ∀ i x H H', i < n → Pv i H → Z i H x H' → g x (wipe σ vs) H' fun σ2 H2 => wipe σ2 vs = wipe σ vs ∧ tt σ2 H2 fun b H3 => if b = true then te σ2 H3 fun y H4 => ∃ b, y = .bl b ∧ if b = e then Qe H4 else Pv (i + 1) H4 else Pv (i + 1) H3) (hd : ∀ H, Pv n H → Qn H) :
    ∃ W : Nat → Nat → Hp → Prop, (∃ m, W 0 m H2) ∧ ∀ i m H, W i m H → (J.stop i H ∧ Qn H) ∨ (J.go i H ∧ ∃ Nx : Hp → Prop, (∀ H', Nx H' → ∃ m', m' < m ∧ W (i + 1) m' H') ∧
      ∀ x H', J.yld i H x H' → g x (wipe σ vs) H' fun σ2 H2 => wipe σ2 vs = wipe σ vs ∧ tt σ2 H2 fun b H3 => if b = true then te σ2 H3 fun y H4 => ∃ b, y = .bl b ∧ if b = e then Qe H4 else Nx H4 else Nx H3) := by
  refine ⟨fun i m H => m = n - i ∧ i ≤ n ∧ Pv i H, ⟨n, rfl, Nat.zero_le _, h0⟩, ?_⟩
  rintro i m H ⟨rfl, hi, p⟩
  have q := hG i H hi p
  by_cases hlt : i < n
  · exact .inr ⟨w.goes i H hlt q, fun H => Pv (i + 1) H, fun H' p' => ⟨n - (i + 1), by omega, rfl, hlt, p'⟩, fun x H' y => hs i x H H' hlt p (w.yields i H x H' hlt q y)⟩
  · obtain rfl : i = n := by omega
    exact .inl ⟨w.stops H q, hd H p⟩
theorem dc_walk (w : Walk J n G Z) {tk tv : TE} {H1 : Hp} {D : Addr} {Qd : Hp → Prop} (Pv : Nat → Hp → Prop) (h0 : Pv 0 (upd H1 D (.dK []))) (hG : ∀ i H, i ≤ n → Pv i H → G H)
    (hs : ∀ i x H H', i < n → Pv i H → Z i H x H' → g x (wipe σ vs) H' fun σ2 H2 => wipe σ2 vs = wipe σ vs ∧ tt σ2 H2 fun b H3 =>
      if b = true then tk σ2 H3 fun y H4 => tv σ2 H4 fun z H5 => ∃ kvs k, y = kV k ∧ H5 D = some (.dK kvs) ∧ kvs.length < sizeLine ∧ Pv (i + 1) (upd H5 D (.dK (putK kvs k z))) else Pv (i + 1) H3) (hd : ∀ H, Pv n H → Qd H) :
    ∃ W : Nat → Nat → Hp → Prop, (∃ m, W 0 m (upd H1 D (.dK []))) ∧ ∀ i m H, W i m H →
      (J.stop i H ∧ Qd H) ∨ (J.go i H ∧ ∃ Nx : Hp → Prop, (∀ H', Nx H' → ∃ m', m' < m ∧ W (i + 1) m' H') ∧ ∀ x H', J.yld i H x H' → g x (wipe σ vs) H' fun σ2 H2 => wipe σ2 vs = wipe σ vs ∧ tt σ2 H2 fun b H3 =>
        if b = true then tk σ2 H3 fun y H4 => tv σ2 H4 fun z H5 => ∃ kvs k, y = kV k ∧ H5 D = some (.dK kvs) ∧ kvs.length < sizeLine ∧ Nx (upd H5 D (.dK (putK kvs k z))) else Nx H3) := by
  refine ⟨fun i m H => m = n - i ∧ i ≤ n ∧ Pv i H, ⟨n, rfl, Nat.zero_le _, h0⟩, ?_⟩
  rintro i m H ⟨rfl, hi, p⟩
  have q := hG i H hi p
  by_cases hlt : i < n
  · exact .inr ⟨w.goes i H hlt q, fun H => Pv (i + 1) H, fun H' p' => ⟨n - (i + 1), by omega, rfl, hlt, p'⟩, fun x H' y => hs i x H H' hlt p (w.yields i H x H' hlt q y)⟩
  · obtain rfl : i = n := by omega
    exact .inl ⟨w.stops H q, hd H p⟩
end
theorem walk_zipT {K : PySem.W.Frag} {a b : Addr} {xs ys : List V} (hn : xs.length = ys.length) : Walk (RZ.ItzT K a b) xs.length (fun H => SqT K H a xs ∧ SqT K H b ys) (YPair (fun i => xs[i]?) (fun i => ys[i]?)) := by
  refine ⟨fun i H hi h => ⟨xs, ys, xs[i], ys[i]'(by omega), h.1, h.2, List.getElem?_eq_getElem hi, List.getElem?_eq_getElem (by omega)⟩, fun H h => ⟨xs, ys, h.1, h.2, .inl (Nat.le_refl _)⟩, fun i H x H' hi h y => ?_⟩
  obtain ⟨T, x', y', rfl, hT, rfl, f1, f2⟩ := y
  exact ⟨T, x', y', rfl, hT, rfl, f1 xs h.1, f2 ys h.2⟩
end Sk

set_option Elab.async false
set_option linter.all false
set_option maxRecDepth 100000
set_option maxHeartbeats 4000000
namespace Sk
open PySem PySem.Spec PyProof.Rows L2
/-! min of a list of whole numbers, with default= -/
def minD (zs : List Int) (y : V) : V := if zs = [] then y else .int (mins zs)
def rMinD (K : PySem.W.Frag) : List V → List V → Hp → VK → Prop := fun xs ys H Q => ∃ (a : Addr) (zs : List Int) (y : V), xs = [.ref a] ∧ ys = [y] ∧ SqL K H a (zs.map V.int) ∧ Q (minD zs y) H
theorem vals_at : ∀ {zs : List Int} {vs : List Value}, Vals (zs.map V.int) vs → vs.length = zs.length ∧ ∀ (j : Nat) (z : Int), zs[j]? = some z → ∃ t, vs[j]? = some (PySem.Value.int z t)
  | [], vs, h => by
    cases h
    exact ⟨rfl, fun j z e => by simp at e⟩
  | z :: zs, vs, h => by
    cases h with
    | cons rv rn =>
      obtain ⟨h1, h2⟩ := vals_at rn
      refine ⟨by rw [List.length_cons, List.length_cons, h1], fun j x e => ?_⟩
      cases j with
      | zero =>
        have : z = x := Option.some.inj e
        subst this
        obtain ⟨t, rfl⟩ : ∃ t, _ = Value.int z t := rv
        exact ⟨t, rfl⟩
      | succ j => exact h2 j x e
section
variable {P : Program} {w : World} {A : Around} {R : Result → Shared → Prop} {s0 : Shared} {l I S : Addr} {vs : List Value} {zs : List Int} {d : Value}
theorem mind_loop (hh : A.handled = none) (hl : s0.heap.IsList l vs.toArray) (hv : Vals (zs.map V.int) vs) (hI : s0.heap.objs.size ≤ I) (hS : s0.heap.objs.size ≤ S) (hIS : S ≠ I)
    (hR : ∀ h tk v, (∀ b o, s0.heap.get? b = some o → h.get? b = some o) → (zs = [] → v = d) → (zs ≠ [] → ∃ t, v = .int (mins zs) t) → R (.ok (.ret v)) { s0 with heap := h, toks := tk }) :
    ∀ (r j : Nat) (h : Heap) (tk : Nat) (arr : Array Value) (c : Nat), zs.length - j = r → j ≤ zs.length → (∀ b o, s0.heap.get? b = some o → h.get? b = some o) → h.IsListIter I l j → h.get? S = some (bestL arr c) →
      ((j = 0 ∧ arr = #[]) ∨ (0 < j ∧ ∃ t, arr = #[.int (mins (zs.take j)) t, .int (mins (zs.take j)) t])) →
      codeAny (model P w) A (.builtin "min.loop" ⟨[.ref I, .none, .ref S], [(Str.ofString "default", d)]⟩) R { s0 with heap := h, toks := tk } := by
  have hname : (toString "min" ++ toString ".loop" : String) = "min.loop" := by decide
  obtain ⟨vl, vat⟩ := vals_at hv
  have old : ∀ {b : Addr} {o : Obj}, s0.heap.get? b = some o → b < s0.heap.objs.size := fun e => Heap.lt_size e
  have nS : ∀ {b : Addr} {o : Obj}, s0.heap.get? b = some o → S ≠ b := fun e z => absurd (old e) (Nat.not_lt.mpr (by rw [← z]; exact hS))
  have nI : ∀ {b : Addr} {o : Obj}, s0.heap.get? b = some o → b ≠ I := fun e z => absurd (old e) (Nat.not_lt.mpr (by rw [z]; exact hI))
  intro r
  induction r with
  | zero =>
    intro j h tk arr c hr hj kp hi hSo ha
    have hjz : j = zs.length := by omega
    have hl' : h.IsList l vs.toArray := by
      obtain ⟨o, e, q⟩ := hl
      exact ⟨o, kp _ _ e, q⟩
    refine codeAny_builtin F.entry_min_loop ?_
    rw [Around.under_plainId F.plain_min_loop _]
    show wpAny _ A.in1 (seqItems? (.ref S) >>= _) _ _ _
    refine wpAny_bind (wpAny_seqItems hSo rfl ?_)
    show wpAny _ A.in1 (tryCatch (pyNext (.ref I)) _ >>= _) _ _ _
    refine wpAny_bind (wpAny_tryCatch (wpAny_pyNext_list_end hh hi hl' (by rw [List.getElem?_toArray]; exact List.getElem?_eq_none (by omega)) fun h' ext => ?_))
    have kp' : ∀ b o, s0.heap.get? b = some o → h'.get? b = some o := fun b o e => ext b o (nI e) (kp b o e)
    rcases ha with ⟨j0, rfl⟩ | ⟨j0, t, rfl⟩
    · have z0 : zs = [] := List.eq_nil_of_length_eq_zero (by omega)
      refine wpAny_bind (wpAny_rule ?_)
      exact wpAny_pure (hR _ _ _ kp' (fun _ => rfl) (fun n => absurd z0 n))
    · have hS2 : h'.get? S = some (bestL #[.int (mins (zs.take j)) t, .int (mins (zs.take j)) t] c) := ext _ _ hIS hSo
      show wpAny _ A.in1 (updateSeq S (fun _ => #[]) >>= _) _ _ _
      refine wpAny_bind ?_
      refine wpAny_updateSeq hS2 rfl (wpAny_bind (wpAny_letGo (wpAny_pure ?_)))
      have hz : zs ≠ [] := fun z => by rw [z] at hjz; have : j = 0 := hjz; omega
      refine hR _ _ _ (fun b o e => (Heap.get?_update_other _ _ (nS e)).trans (kp' b o e)) (fun n => absurd n hz) fun _ => ⟨t, ?_⟩
      rw [hjz, List.take_length]
  | succ r ih =>
    intro j h tk arr c hr hj kp hi hSo ha
    have hl' : h.IsList l vs.toArray := by
      obtain ⟨o, e, q⟩ := hl
      exact ⟨o, kp _ _ e, q⟩
    have hjl : j < zs.length := by omega
    obtain ⟨t', hvt⟩ := vat j zs[j] (List.getElem?_eq_getElem hjl)
    have htk : zs.take (j + 1) = zs.take j ++ [zs[j]] := by rw [List.take_add_one, List.getElem?_eq_getElem hjl]; rfl
    generalize zs[j] = z at hvt htk
    refine codeAny_builtin F.entry_min_loop ?_
    rw [Around.under_plainId F.plain_min_loop _]
    show wpAny _ A.in1 (seqItems? (.ref S) >>= _) _ _ _
    refine wpAny_bind (wpAny_seqItems hSo rfl ?_)
    show wpAny _ A.in1 (tryCatch (pyNext (.ref I)) _ >>= _) _ _ _
    refine wpAny_bind (wpAny_tryCatch (wpAny_pyNext_list_item hi hl' (x := .int z t') (by rw [List.getElem?_toArray]; exact hvt) fun h' hi' sb => ?_))
    have kp' : ∀ b o, s0.heap.get? b = some o → h'.get? b = some o := fun b o e => (sb.2 b (nI e)).trans (kp b o e)
    have hS2 : h'.get? S = some (bestL arr c) := (sb.2 S hIS).trans hSo
    have put : ∀ arr', (∀ b o, s0.heap.get? b = some o → (h'.update S (Obj.mapSeq fun _ => arr')).get? b = some o) ∧ (h'.update S (Obj.mapSeq fun _ => arr')).IsListIter I l (j + 1) ∧ ∃ c', (h'.update S (Obj.mapSeq fun _ => arr')).get? S = some (bestL arr' c') := fun arr' => by
      refine ⟨fun b o e => (Heap.get?_update_other _ _ (nS e)).trans (kp' b o e), ?_, ⟨_, Heap.get?_update_self (Obj.mapSeq fun _ => arr') hS2 rfl⟩⟩
      obtain ⟨o, e, q⟩ := hi'
      exact ⟨o, (Heap.get?_update_other _ _ hIS).trans e, q⟩
    rcases ha with ⟨j0, rfl⟩ | ⟨j0, t, rfl⟩
    · show wpAny _ A.in1 (updateSeq S (fun _ => #[.int z t', .int z t']) >>= _) _ _ _
      refine wpAny_bind ?_
      refine wpAny_updateSeq hS2 rfl ?_
      rw [hname]
      obtain ⟨p1, p2, c', p3⟩ := put #[.int z t', .int z t']
      refine wpAny_pure ⟨plainId_quiet F.plain_min_loop _, ih (j + 1) _ _ _ c' (by omega) (by omega) p1 p2 p3 (.inr ⟨by omega, t', ?_⟩)⟩
      rw [htk, j0]
      rfl
    · have hne : zs.take j ≠ [] := fun e => by
        have := congrArg List.length e
        rw [List.length_take] at this
        have : min j zs.length = 0 := this
        omega
      have em := mins_app (z := z) hne
      rw [← htk] at em
      show wpAny _ A.in1 (tryCatch (holding [.int z t', .int z t'] (richCompare .Lt (.int z t') (.int (mins (zs.take j)) t) >>= _)) _ >>= _) _ _ _
      refine wpAny_bind (wpAny_tryCatch (wpAny_holding (wpAny_bind (CmpOf.ints_lt (P := fun k v => ∃ t, v = .int (if k = 0 then z else mins (zs.take j)) t) (fun k => if k = 0 then z else mins (zs.take j)) (fun k v h => h) 0 1 _ _ _ _ _ ⟨t', rfl⟩ ⟨t, rfl⟩ ?_))))
      refine wpAny_bind (wpAny_holding (wpAny_truthy_bool ?_))
      refine wpAny_bind (wpAny_letGo (wpAny_pure ?_))
      show wpAny _ A.in1 (if decide (z < mins (zs.take j)) = true then _ else _) _ _ _
      by_cases hlt : z < mins (zs.take j)
      · rw [if_pos (decide_eq_true hlt)]
        rw [if_pos hlt] at em
        refine wpAny_bind ?_
        refine wpAny_updateSeq hS2 rfl (wpAny_bind (wpAny_letGo ?_))
        rw [hname]
        obtain ⟨p1, p2, c', p3⟩ := put #[.int z t', .int z t']
        refine wpAny_pure ⟨plainId_quiet F.plain_min_loop _, ih (j + 1) _ _ _ c' (by omega) (by omega) p1 p2 p3 (.inr ⟨by omega, t', ?_⟩)⟩
        rw [em]
      · rw [if_neg (by rw [decide_eq_false hlt]; exact Bool.false_ne_true)]
        rw [if_neg hlt] at em
        refine wpAny_bind (wpAny_letGo ?_)
        rw [hname]
        refine wpAny_pure ⟨plainId_quiet F.plain_min_loop _, ih (j + 1) _ _ _ c (by omega) (by omega) kp' hi' hS2 (.inr ⟨by omega, t, ?_⟩)⟩
        rw [em]
end
theorem cr_minD {X : Cx} (hc : X.calm = true) : CallRK X (.builtin "min") ["default"] (rMinD X.K) := by
  intro pins s σ H xs ys us ws Q I rx ry h
  obtain ⟨a, zs, y, rfl, rfl, hq, k⟩ := h
  cases rx with
  | cons rv rn =>
  cases rn
  rename_i u
  obtain rfl : u = Value.ref a := rv
  cases ry with
  | cons rv2 rn2 =>
  cases rn2
  rename_i d
  obtain ⟨vs, hv, pl, _⟩ := I.list hq
  have hl : s.heap.IsList a vs.toArray := pl.isList
  have hname : (toString "min" ++ toString ".loop" : String) = "min.loop" := by decide
  show wpAny _ _ (call (.builtin "min") [.ref a] [(Str.ofString "default", d)]) _ _ _
  refine kmk_tree F.kind_min F.plain_min F.entry_min (by rfl) ?_
  show wpAny _ X.A.in1 (Builtin.Builtins.bindParams "min" ["key", "default"] 0 ⟨[], [(Str.ofString "default", d)]⟩ >>= _) _ _ s
  refine wpAny_bind (wpAny_of_eq (show Builtin.Builtins.bindParams "min" ["key", "default"] 0 ⟨[], [(Str.ofString "default", d)]⟩ = pure [none, some d] from rfl) ?_)
  refine wpAny_bind (wpAny_pure ?_)
  refine wpAny_bind (wpAny_pyIter_list hl ?_)
  refine wpAny_bind (wpAny_newObj_type ?_)
  rw [hname]
  have p1 : ∀ b o, s.heap.get? b = some o → ((s.heap.push { cls := .type "list_iterator", data := .fields #[.ref a, .int 0 0] }).push (bestL #[] 0)).get? b = some o := fun b o e => Heap.get?_push_of_some _ (Heap.get?_push_of_some _ e)
  refine wpAny_pure ⟨plainId_quiet F.plain_min_loop _, mind_loop (P := X.prog) (w := X.w) (d := d) (R := RetQ (EP X pins σ Q) X.xe) (s0 := s) (I := s.heap.objs.size) (S := (s.heap.push { cls := .type "list_iterator", data := .fields #[.ref a, .int 0 0] }).objs.size) (I.ok.hd hc) hl hv (Nat.le_refl _) (by rw [Heap.size_push]; exact Nat.le_succ _) (by rw [Heap.size_push]; exact Nat.succ_ne_self _) (fun h tk v kp v0 v1 => ?_) zs.length 0 _ s.toks #[] 0 rfl (Nat.zero_le _) p1 ?_ ?_ (.inl ⟨rfl, rfl⟩)⟩
  · refine ⟨minD zs y, H, I.turnedL (ch := []) (fun b o _ e => kp b o e) (fun _ h => nomatch h), ?_, k⟩
    unfold minD
    by_cases z : zs = []
    · rw [if_pos z, v0 z]
      exact rv2
    · rw [if_neg z]
      obtain ⟨t, e⟩ := v1 z
      exact ⟨t, e⟩
  · exact ⟨_, Heap.get?_push_of_some _ (Heap.get?_push_size _ rfl), rfl, rfl⟩
  · exact Heap.get?_push_size _ rfl
end Sk

set_option Elab.async false
set_option linter.all false
set_option maxRecDepth 100000
set_option maxHeartbeats 4000000
namespace Sk
open PySem PySem.Spec PyProof.Rows L2 GenW GxR
/-! max over a generator expression whose element may call own defs -/
/-- the greatest of some -/
def maxs : List Int → Int
  | [] => 0
  | z :: zs => zs.foldl (fun b z => if b < z then z else b) z
theorem maxs_app {zs : List Int} {z : Int} (h : zs ≠ []) : maxs (zs ++ [z]) = if maxs zs < z then z else maxs zs := by
  cases zs with
  | nil => exact absurd rfl h
  | cons y ys =>
    show (ys ++ [z]).foldl _ y = _
    rw [List.foldl_append]
    rfl
theorem maxs_spec : ∀ {zs : List Int}, zs ≠ [] → maxs zs ∈ zs ∧ ∀ z ∈ zs, z ≤ maxs zs := by
  have go : ∀ (ys : List Int) (y : Int), ((ys.foldl (fun b z => if b < z then z else b) y) = y ∨ (ys.foldl (fun b z => if b < z then z else b) y) ∈ ys) ∧ y ≤ (ys.foldl (fun b z => if b < z then z else b) y) ∧ ∀ z ∈ ys, z ≤ (ys.foldl (fun b z => if b < z then z else b) y) := by
    intro ys
    induction ys with
    | nil => intro y; exact ⟨.inl rfl, Int.le_refl _, fun _ h => nomatch h⟩
    | cons x ys ih =>
      intro y
      obtain ⟨a, b, c⟩ := ih (if y < x then x else y)
      show (ys.foldl _ (if y < x then x else y) = y ∨ ys.foldl _ (if y < x then x else y) ∈ x :: ys) ∧ y ≤ ys.foldl _ (if y < x then x else y) ∧ _
      refine ⟨?_, Int.le_trans (by split <;> omega) b, fun z hz => ?_⟩
      · rcases a with a | a
        · rw [a]
          split
          · exact .inr List.mem_cons_self
          · exact .inl rfl
        · exact .inr (List.mem_cons_of_mem _ a)
      · rcases List.mem_cons.mp hz with rfl | hz
        · exact Int.le_trans (by split <;> omega) b
        · exact c z hz
  intro zs h
  cases zs with
  | nil => exact absurd rfl h
  | cons y ys =>
    obtain ⟨a, b, c⟩ := go ys y
    refine ⟨?_, fun z hz => ?_⟩
    · rcases a with a | a
      · show ys.foldl _ y ∈ _
        rw [a]; exact List.mem_cons_self
      · exact List.mem_cons_of_mem _ a
    · rcases List.mem_cons.mp hz with rfl | hz
      · exact b
      · exact c z hz
section
variable {Y : GEx} {A : Around} {R : Result → Shared → Prop} {Qd : Int → Hp → Prop} {S : Addr}
theorem max_loop1 (O : Y.Ok) (hB : Y.B = A.in1.in1) (hS : Y.Sx = [S]) (hC : Y.C = eInt) (hF : Y.F = fun ys H => ∃ zs, ys = zs.map V.int ∧ zs ≠ [] ∧ Qd (maxs zs) H) (hh : A.handled = none) (hroom : A.depth < recursionLimit)
    (hR : ∀ k t σ' H' s1, Inv Y.Xg [] σ' H' s1 → Qd k H' → R (.ok (.ret (.int k t))) s1) : ∀ (n : Nat) (zs : List Int) (H : Hp) (gs : GenState) (sp s : Shared) (t : Tok) (c : Nat), zs ≠ [] → Y.Rdy n (zs.map V.int) H gs sp → Aft Y.Sx sp s → s.heap.IsGen Y.a Y.g → s.gens[Y.g]? = some gs → s.heap.NoLimit →
      s.heap.get? S = some (bestL #[.int (maxs zs) t, .int (maxs zs) t] c) → codeAny Y.M A (.builtin "max.loop" ⟨[.ref Y.a, .none, .ref S], []⟩) R s := by
  have hname : (toString "max" ++ toString ".loop" : String) = "max.loop" := by decide
  have hSm : S ∈ Y.a :: Y.Sx := by rw [hS]; simp
  have main : ∀ (n : Nat) (zs : List Int) (H : Hp) (gs : GenState) (sp s : Shared) (t : Tok) (c : Nat), zs ≠ [] → Y.Rdy n (zs.map V.int) H gs sp → Aft Y.Sx sp s → s.heap.IsGen Y.a Y.g → s.gens[Y.g]? = some gs → s.heap.NoLimit →
      s.heap.get? S = some (bestL #[.int (maxs zs) t, .int (maxs zs) t] c) →
      (∀ (zs' : List Int) (H' : Hp) (gs' : GenState) (sp' s' : Shared) (t' : Tok) (c' : Nat), zs' ≠ [] → Y.Rp n (zs'.map V.int) H' gs' sp' → Aft Y.Sx sp' s' → s'.heap.IsGen Y.a Y.g → s'.gens[Y.g]? = some gs' → s'.heap.NoLimit →
        s'.heap.get? S = some (bestL #[.int (maxs zs') t', .int (maxs zs') t'] c') → codeAny Y.M A (.builtin "max.loop" ⟨[.ref Y.a, .none, .ref S], []⟩) R s') → codeAny Y.M A (.builtin "max.loop" ⟨[.ref Y.a, .none, .ref S], []⟩) R s := by
    intro n zs H gs sp s t c hne rd af hg hgs nl hSo ih
    have there : ∀ b ∈ Y.a :: Y.Sx, ∃ o, s.heap.get? b = some o := fun b hb => by
      rcases List.mem_cons.mp hb with z | z
      · obtain ⟨o, n1, n2, e, r⟩ := hg
        exact ⟨o, by rw [z]; exact e⟩
      · rw [hS] at z
        exact ⟨_, by rw [List.mem_singleton.mp z]; exact hSo⟩
    refine codeAny_builtin F.entry_max_loop ?_
    rw [Around.under_plainId F.plain_max_loop _]
    show wpAny _ A.in1 (seqItems? (.ref S) >>= _) _ _ s
    refine wpAny_bind (wpAny_seqItems hSo rfl ?_)
    show wpAny _ A.in1 (tryCatch (pyNext (.ref Y.a)) _ >>= _) _ _ s
    refine wpAny_bind (wpAny_tryCatch (GEx.next O hB hh hroom nl rd af hg hgs (Array.getElem?_eq_some_iff.mp hgs).1 (fun σ' H' s1 s2 I f a => ?_) fun v y σ' H' s1 gs' I r cc hb hsz => ?_))
    · rw [hF] at f
      obtain ⟨zs', ez, _, f⟩ := f
      obtain rfl := int_inj ez
      have e1 := (O.pinned I hSm hSo).1
      have e2 := a.keep _ _ (by simp) e1
      show wpAny _ A.in1 (updateSeq S (fun _ => #[]) >>= _) _ _ _
      refine wpAny_bind ?_
      refine wpAny_updateSeq e2 rfl (wpAny_bind (wpAny_letGo (wpAny_pure ?_)))
      refine hR _ t σ' H' _ (O.past I there ?_) f
      rw [hS]
      refine ⟨a.os, a.bare, fun b o n e' => ?_, fun b hb => ?_⟩
      · exact (Heap.get?_update_other _ _ (fun h : S = b => n (by rw [h]; exact List.mem_singleton.mpr rfl))).trans (a.keep _ _ (by simp) e')
      · rw [List.mem_singleton.mp hb]
        exact ⟨_, Heap.get?_update_self _ e2 rfl, fun v z => by cases z⟩
    · rw [hC] at cc
      obtain ⟨⟨z, rfl⟩, cc⟩ := cc
      obtain ⟨t', rfl⟩ : ∃ t', v = .int z t' := r
      have e1 := (O.pinned I hSm hSo).1
      have e2 : (s1.setGen Y.g gs').heap.get? S = _ := e1
      rw [show zs.map V.int ++ [V.int z] = (zs ++ [z]).map V.int by rw [List.map_append]; rfl] at cc
      have hg1 : (s1.setGen Y.g gs').heap.IsGen Y.a Y.g := by
        obtain ⟨o, n1, n2, e, r⟩ := hg
        exact ⟨o, n1, n2, (O.pinned I List.mem_cons_self e).1, r⟩
      have hgs1 := setGen_at (x := gs') (Nat.lt_of_lt_of_le (Array.getElem?_eq_some_iff.mp hgs).1 hsz)
      have hna : S ≠ Y.a := fun z => O.aS (by rw [← z, hS]; simp)
      show wpAny _ A.in1 (tryCatch (holding [.int z t', .int z t'] (richCompare .Gt (.int z t') (.int (maxs zs) t) >>= _)) _ >>= _) _ _ _
      refine wpAny_bind (wpAny_tryCatch (wpAny_holding (wpAny_bind (CmpOf.ints_gt (P := fun j v => ∃ t, v = .int (if j = 0 then z else maxs zs) t) (fun j => if j = 0 then z else maxs zs) (fun j v h => h) 0 1 _ _ _ _ _ ⟨t', rfl⟩ ⟨t, rfl⟩ ?_))))
      refine wpAny_bind (wpAny_holding (wpAny_truthy_bool ?_))
      refine wpAny_bind (wpAny_letGo (wpAny_pure ?_))
      have em := maxs_app (z := z) hne
      show wpAny _ A.in1 (if decide (maxs zs < z) = true then _ else _) _ _ _
      by_cases hlt : maxs zs < z
      · rw [if_pos (decide_eq_true hlt)]
        rw [if_pos hlt] at em
        refine wpAny_bind ?_
        refine wpAny_updateSeq e2 rfl (wpAny_bind (wpAny_letGo ?_))
        rw [hname]
        refine wpAny_pure ⟨plainId_quiet F.plain_max_loop _, ih (zs ++ [z]) H' gs' s1 _ t' c (by simp) cc ?_ ?_ hgs1 ?_ ?_⟩
        · rw [hS]
          exact aft_put (s2 := { (s1.setGen Y.g gs') with heap := s1.heap.update S (Obj.mapSeq fun _ => #[Value.int z t', Value.int z t']) }) rfl (allBare_setGen I.bare hb) e1 rfl
        · obtain ⟨o, n1, n2, e, r⟩ := hg1
          exact ⟨o, n1, n2, (Heap.get?_update_other _ _ hna).trans e, r⟩
        · exact (O.past (s1 := { (s1.setGen Y.g gs') with heap := s1.heap.update S (Obj.mapSeq fun _ => #[Value.int z t', Value.int z t']) }) I there (by rw [hS]; exact aft_put rfl (allBare_setGen I.bare hb) e1 rfl)).nolimit
        · rw [em]
          exact Heap.get?_update_self _ e2 rfl
      · rw [if_neg (by rw [decide_eq_false hlt]; exact Bool.false_ne_true)]
        rw [if_neg hlt] at em
        refine wpAny_bind (wpAny_letGo ?_)
        rw [hname]
        refine wpAny_pure ⟨plainId_quiet F.plain_max_loop _, ih (zs ++ [z]) H' gs' s1 _ t c (by simp) cc ?_ hg1 hgs1 I.nolimit ?_⟩
        · rw [hS]
          exact aft_id rfl (allBare_setGen I.bare hb) e1 rfl
        · rw [em]
          exact e2
  intro n
  induction n with
  | zero =>
    intro zs H gs sp s t c hne rd af hg hgs nl hSo
    exact main 0 zs H gs sp s t c hne rd af hg hgs nl hSo fun _ _ _ _ _ _ _ _ q => (show False from q).elim
  | succ n ih =>
    intro zs H gs sp s t c hne rd af hg hgs nl hSo
    exact main (n + 1) zs H gs sp s t c hne rd af hg hgs nl hSo fun zs' H' gs' sp' s' t' c' a1 a2 a3 a4 a5 a6 a7 => ih zs' H' gs' sp' s' t' c' a1 a2 a3 a4 a5 a6 a7
/-- .. from the start -/
theorem max_first (O : Y.Ok) (hB : Y.B = A.in1.in1) (hS : Y.Sx = [S]) (hC : Y.C = eInt) (hF : Y.F = fun ys H => ∃ zs, ys = zs.map V.int ∧ zs ≠ [] ∧ Qd (maxs zs) H) (hh : A.handled = none) (hroom : A.depth < recursionLimit)
    (hR : ∀ k t σ' H' s1, Inv Y.Xg [] σ' H' s1 → Qd k H' → R (.ok (.ret (.int k t))) s1) (n : Nat) (H : Hp) (gs : GenState) (sp s : Shared) (c : Nat) (rd : Y.Rdy n [] H gs sp) (af : Aft Y.Sx sp s) (hg : s.heap.IsGen Y.a Y.g) (hgs : s.gens[Y.g]? = some gs) (nl : s.heap.NoLimit)
    (hSo : s.heap.get? S = some (bestL #[] c)) : codeAny Y.M A (.builtin "max.loop" ⟨[.ref Y.a, .none, .ref S], []⟩) R s := by
  have hname : (toString "max" ++ toString ".loop" : String) = "max.loop" := by decide
  have hSm : S ∈ Y.a :: Y.Sx := by rw [hS]; simp
  have there : ∀ b ∈ Y.a :: Y.Sx, ∃ o, s.heap.get? b = some o := fun b hb => by
    rcases List.mem_cons.mp hb with z | z
    · obtain ⟨o, n1, n2, e, r⟩ := hg
      exact ⟨o, by rw [z]; exact e⟩
    · rw [hS] at z
      exact ⟨_, by rw [List.mem_singleton.mp z]; exact hSo⟩
  refine codeAny_builtin F.entry_max_loop ?_
  rw [Around.under_plainId F.plain_max_loop _]
  show wpAny _ A.in1 (seqItems? (.ref S) >>= _) _ _ s
  refine wpAny_bind (wpAny_seqItems hSo rfl ?_)
  show wpAny _ A.in1 (tryCatch (pyNext (.ref Y.a)) _ >>= _) _ _ s
  refine wpAny_bind (wpAny_tryCatch (GEx.next O hB hh hroom nl rd af hg hgs (Array.getElem?_eq_some_iff.mp hgs).1 (fun σ' H' s1 s2 I f a => ?_) fun v y σ' H' s1 gs' I r cc hb hsz => ?_))
  · rw [hF] at f
    obtain ⟨zs', ez, ne, f⟩ := f
    cases zs' with
    | nil => exact absurd rfl ne
    | cons u us => cases ez
  · rw [hC] at cc
    obtain ⟨⟨z, rfl⟩, cc⟩ := cc
    obtain ⟨t', rfl⟩ : ∃ t', v = .int z t' := r
    have e1 := (O.pinned I hSm hSo).1
    have e2 : (s1.setGen Y.g gs').heap.get? S = _ := e1
    have hg1 : (s1.setGen Y.g gs').heap.IsGen Y.a Y.g := by
      obtain ⟨o, n1, n2, e, r⟩ := hg
      exact ⟨o, n1, n2, (O.pinned I List.mem_cons_self e).1, r⟩
    have hgs1 := setGen_at (x := gs') (Nat.lt_of_lt_of_le (Array.getElem?_eq_some_iff.mp hgs).1 hsz)
    have hna : S ≠ Y.a := fun z => O.aS (by rw [← z, hS]; simp)
    have put : Aft [S] s1 { (s1.setGen Y.g gs') with heap := s1.heap.update S (Obj.mapSeq fun _ => #[Value.int z t', Value.int z t']) } := aft_put rfl (allBare_setGen I.bare hb) e1 rfl
    show wpAny _ A.in1 (updateSeq S (fun _ => #[.int z t', .int z t']) >>= _) _ _ _
    refine wpAny_bind ?_
    refine wpAny_updateSeq e2 rfl ?_
    rw [hname]
    cases n with
    | zero => exact (show False from cc).elim
    | succ n =>
      refine wpAny_pure ⟨plainId_quiet F.plain_max_loop _, max_loop1 O hB hS hC hF hh hroom hR n [z] H' gs' s1 _ t' (c + 1) (by simp) cc (by rw [hS]; exact put) ?_ hgs1 (O.past I there (by rw [hS]; exact put)).nolimit ?_⟩
      · obtain ⟨o, n1, n2, e, r⟩ := hg1
        exact ⟨o, n1, n2, (Heap.get?_update_other _ _ hna).trans e, r⟩
      · have e3 := Heap.get?_update_self (Obj.mapSeq fun _ => #[Value.int z t', Value.int z t']) e2 rfl
        exact e3
end
section
variable {X : Cx}
theorem call_maxP {P : Program} {w : World} {A : Around} {Q : Value → Shared → Prop} {E : Value → Shared → Prop} {s : Shared} {a g : Addr} (hg : s.heap.IsGen a g)
    (h : codeAny (model P w) A (.builtin "max.loop" ⟨[.ref a, .none, .ref s.heap.objs.size], []⟩) (RetQ Q E) { s with heap := s.heap.push (bestL #[] 0) }) : wpAny (model P w) A (call (.builtin "max") [.ref a]) Q E s := by
  have hname : (toString "max" ++ toString ".loop" : String) = "max.loop" := by decide
  refine call_function_tree F.kind_max F.plain_max F.entry_max (F.args_max1 _) ?_
  show wpAny _ A.in1 (Builtin.Builtins.bindParams "max" ["key", "default"] 0 ⟨[], []⟩ >>= _) _ _ s
  refine wpAny_bind (wpAny_of_eq (show Builtin.Builtins.bindParams "max" ["key", "default"] 0 ⟨[], []⟩ = pure [none, none] from rfl) ?_)
  refine wpAny_bind (wpAny_pure ?_)
  refine wpAny_bind (wpAny_pyIter_gen hg ?_)
  refine wpAny_bind (wpAny_newObj_type ?_)
  rw [hname]
  exact wpAny_pure ⟨plainId_quiet F.plain_max_loop _, h⟩
/-- min of elt for target in iter if ..; W carries what is out so far -/
def tMaxG (P : Addr) (wi : TI) (g : TG) (tt : TT) (te : TE) (vs : List Nat) : TE := fun σ H Q => wi σ H fun J H1 => TabG H1 P ∧ ∀ H2, Tabbed P H1 H2 →
  ∃ W : Nat → Nat → List Int → Hp → Prop, (∃ m, W 0 m [] H2) ∧ ∀ i m zs H, W i m zs H → (J.stop i H ∧ zs ≠ [] ∧ Q (.int (maxs zs)) H) ∨ (J.go i H ∧ ∃ Nx : List Int → Hp → Prop, (∀ zs' H', Nx zs' H' → ∃ m', m' < m ∧ W (i + 1) m' zs' H') ∧
    ∀ x H', J.yld i H x H' → g x (wipe σ vs) H' fun σ2 H2 => wipe σ2 vs = wipe σ vs ∧ tt σ2 H2 fun b H3 => if b = true then te σ2 H3 fun y H4 => MN Nx zs y H4 else MZ Nx zs H3)
theorem tMaxG_step {J : It} {g : TG} {tt : TT} {te : TE} {vs : List Nat} {σ : L2.St} {Q : VK} {W : Nat → Nat → List Int → Hp → Prop}
    (h : ∀ i m zs H, W i m zs H → (J.stop i H ∧ zs ≠ [] ∧ Q (.int (maxs zs)) H) ∨ (J.go i H ∧ ∃ Nx : List Int → Hp → Prop, (∀ zs' H', Nx zs' H' → ∃ m', m' < m ∧ W (i + 1) m' zs' H') ∧
      ∀ x H', J.yld i H x H' → g x (wipe σ vs) H' fun σ2 H2 => wipe σ2 vs = wipe σ vs ∧ tt σ2 H2 fun b H3 => if b = true then te σ2 H3 fun y H4 => MN Nx zs y H4 else MZ Nx zs H3)) :
    GStep (fun i m ys H => ∃ zs, ys = zs.map V.int ∧ W i m zs H) J g tt te vs (wipe σ vs) eInt (fun ys H => ∃ zs, ys = zs.map V.int ∧ zs ≠ [] ∧ Q (.int (maxs zs)) H) := fun i m ys H ⟨zs, ey, w⟩ => by
  subst ey
  rcases h i m zs H w with ⟨z1, z2, z3⟩ | ⟨go, Nx, hN, st⟩
  · exact .inl ⟨z1, zs, rfl, z2, z3⟩
  · exact .inr ⟨go, fun ys H => ∃ zs, ys = zs.map V.int ∧ Nx zs H, fun ys' H' ⟨zs', e', nx⟩ => by
      obtain ⟨m', h1, h2⟩ := hN zs' H' nx
      exact ⟨m', h1, zs', e', h2⟩, st⟩
section
variable {c P : Addr} {elt tg iter : Expr} {ifs : List Expr} {scope : Scope} {own : List (Str × Nat)} {p pos gpos : Pos} {wi : TI} {g : TG} {tt : TT} {te : TE} {k : Nat}
theorem pe_maxG (hr : Room (k + 1) X.A) (hn : X.N.Nodup) (hgl : Gl X "max") (hm : X.mg "max" = none) (TB : LamX.TabB X.base X.mg c P) (hcode : X.env.code = .ref c) (G : GScp scope) (ok : BlkOk X.N X.env.scope scope own) (hi : PI X tg iter wi)
    (hg : GPG X k scope tg g) (ht : GPT X k scope ifs tt) (he : GPE X k scope elt te)
    (hb : bootBuiltins "max" = some (.builtin "max") := by first | rfl | decide +kernel) (hs : ∀ v, genFold iter X.env v = pure v := by intro _; rfl)
    (hst : starEach [.GeneratorExp elt [⟨tg, iter, ifs, 0⟩] scope gpos] X.env = (false, eval (.GeneratorExp elt [⟨tg, iter, ifs, 0⟩] scope gpos) X.env) :: starEach [] X.env := by rfl) :
    PE X (.Call (.Name "max" p) [.GeneratorExp elt [⟨tg, iter, ifs, 0⟩] scope gpos] [] pos) (tMaxG P wi g tt te (own.map (·.2))) := by
  refine ⟨fun pins s σ H Q I h => ?_⟩
  refine wpAny_Call_Name_kw (ld_blt I hgl hm hb ?_)
  refine PyProof.Rows.callWith_builtin1 ?_ hst (by rfl)
  rw [hst]
  show wpAny _ _ (spliced ((false, eval (.GeneratorExp elt [⟨tg, iter, ifs, 0⟩] scope gpos) X.env) :: backTo pos (starEach [] X.env))) _ _ s
  refine Calls.spliced_cons (gen_made (R := fun J H1 => _) hr TB hcode G ok hi hs I h fun J H1 H2 s4 cenv fp it tn a gn s5 q tb M => ?_)
  refine Calls.spliced_nil (call_maxP M.isg ?_)
  obtain ⟨W, ⟨m, w0⟩, st⟩ := q H2 tb
  obtain ⟨code, hce⟩ := M.env
  subst hce
  have hlt : a < s5.heap.objs.size := by rw [M.lt]; exact Nat.lt_succ_self a
  obtain ⟨O, rd⟩ := gen_rdy (B := X.A.in1.in1) (Sx := [s5.heap.objs.size]) hr (nearA2 _) G ok hn M (fun A r => hg _ _ _ _ _ _ A r) (fun A r => ht _ _ _ _ _ _ A r) (fun A r => he _ _ _ _ _ _ A r) (fun b z => by rw [List.mem_singleton.mp z]; exact hlt) eInt_mono (tMaxG_step st) m ⟨[], rfl, w0⟩
  have hpush : ∀ b o, s5.heap.get? b = some o → (s5.heap.push (bestL #[] 0)).get? b = some o := fun b o e => Heap.get?_push_of_some _ e
  refine max_first (Qd := fun k H => Q (.int k) H) (S := s5.heap.objs.size) (Y := mkY X s4 H2 _ fp X.A.in1.in1 (wipe σ (own.map (·.2))) (.GeneratorExp elt [⟨tg, iter, ifs, 0⟩] scope gpos) it a gn [s5.heap.objs.size] eInt (fun ys H => ∃ zs, ys = zs.map V.int ∧ zs ≠ [] ∧ Q (.int (maxs zs)) H)) O rfl rfl rfl rfl hr.hd hr.depth (fun k t σ' H' s1 I' q => ?_) m H2 _ s5 _ 0 rd ?_ ?_ ?_ ?_ (Heap.get?_push_size _ rfl)
  · exact ⟨.int k, H', GEx.out (Y := mkY X s4 H2 _ fp X.A.in1.in1 (wipe σ (own.map (·.2))) (.GeneratorExp elt [⟨tg, iter, ifs, 0⟩] scope gpos) it a gn [s5.heap.objs.size] eInt (fun ys H => ∃ zs, ys = zs.map V.int ∧ zs ≠ [] ∧ Q (.int (maxs zs)) H)) M.inv (fun b hb => (M.fps b hb).1) I' (Aft.refl I'.bare), ⟨t, rfl⟩, q⟩
  · refine ⟨rfl, ?_, fun b o _ e => hpush b o e, fun b hb => ?_⟩
    · show AllBare s5.gens
      rw [M.gens]
      exact M.inv.bare.push rfl
    · rw [List.mem_singleton.mp hb]
      exact ⟨_, Heap.get?_push_size _ rfl, fun v z => by cases z⟩
  · obtain ⟨o, n1, n2, e, r⟩ := M.isg
    exact ⟨o, n1, n2, hpush _ _ e, r⟩
  · show s5.gens[gn]? = _
    rw [M.gens, M.num]
    simp
  · exact (M.inv.nolimit.keeps M.keep).push _
end
end
section
variable {K : PySem.W.Frag} {a : Addr} {xs : List V} {g : TG} {tt : TT} {te : TE} {vs : List Nat} {σ : L2.St} {H2 : Hp} {Q : VK}
/-- over a list that the element leaves as it is -/
theorem max_list (Pv : Nat → List Int → Hp → Prop) (h0 : Pv 0 [] H2) (hl : ∀ i zs H, i ≤ xs.length → Pv i zs H → SqL K H a xs)
    (hs : ∀ i zs x H, xs[i]? = some x → Pv i zs H → g x (wipe σ vs) H fun σ2 H2 => wipe σ2 vs = wipe σ vs ∧ tt σ2 H2 fun b H3 => if b = true then te σ2 H3 fun y H4 => MN (Pv (i + 1)) zs y H4 else MZ (Pv (i + 1)) zs H3) (hd : ∀ zs H, Pv xs.length zs H → zs ≠ [] ∧ Q (.int (maxs zs)) H) :
    ∃ W : Nat → Nat → List Int → Hp → Prop, (∃ m, W 0 m [] H2) ∧ ∀ i m zs H, W i m zs H → ((Itl K a).stop i H ∧ zs ≠ [] ∧ Q (.int (maxs zs)) H) ∨ ((Itl K a).go i H ∧ ∃ Nx : List Int → Hp → Prop, (∀ zs' H', Nx zs' H' → ∃ m', m' < m ∧ W (i + 1) m' zs' H') ∧
      ∀ x H', (Itl K a).yld i H x H' → g x (wipe σ vs) H' fun σ2 H2 => wipe σ2 vs = wipe σ vs ∧ tt σ2 H2 fun b H3 => if b = true then te σ2 H3 fun y H4 => MN Nx zs y H4 else MZ Nx zs H3) := by
  refine ⟨fun i m zs H => m = xs.length - i ∧ i ≤ xs.length ∧ Pv i zs H, ⟨xs.length, by simp, Nat.zero_le _, h0⟩, fun i m zs H w => ?_⟩
  obtain ⟨hm, hi, p⟩ := w
  have q := hl i zs H hi p
  rcases Nat.lt_or_ge i xs.length with z | z
  · refine .inr ⟨⟨xs, xs[i], q, by simp [z]⟩, Pv (i + 1), fun zs' H' p' => ⟨xs.length - (i + 1), by omega, rfl, z, p'⟩, fun x H' y => ?_⟩
    obtain ⟨rfl, y⟩ := y
    exact hs i zs x _ (y xs q) p
  · obtain rfl : i = xs.length := by omega
    exact .inl ⟨⟨xs, q, Nat.le_refl _⟩, hd zs H p⟩
end
end Sk

set_option Elab.async false
set_option linter.all false
set_option maxRecDepth 100000
set_option maxHeartbeats 4000000
namespace Sk
open PySem PySem.Spec PyProof.Rows L2
/-! max of a tuple of whole numbers, with default= -/
def maxDf (zs : List Int) (y : V) : V := if zs = [] then y else .int (maxs zs)
def rMaxDT (K : PySem.W.Frag) : List V → List V → Hp → VK → Prop := fun xs ys H Q => ∃ (a : Addr) (zs : List Int) (y : V), xs = [.ref a] ∧ ys = [y] ∧ SqT K H a (zs.map V.int) ∧ Q (maxDf zs y) H
section
variable {P : Program} {w : World} {A : Around} {R : Result → Shared → Prop} {s0 : Shared} {l I S : Addr} {vs : List Value} {zs : List Int} {d : Value}
theorem maxd_loop (hh : A.handled = none) (hl : s0.heap.IsTuple l vs.toArray) (hv : Vals (zs.map V.int) vs) (hI : s0.heap.objs.size ≤ I) (hS : s0.heap.objs.size ≤ S) (hIS : S ≠ I)
    (hR : ∀ h tk v, (∀ b o, s0.heap.get? b = some o → h.get? b = some o) → (zs = [] → v = d) → (zs ≠ [] → ∃ t, v = .int (maxs zs) t) → R (.ok (.ret v)) { s0 with heap := h, toks := tk }) :
    ∀ (r j : Nat) (h : Heap) (tk : Nat) (arr : Array Value) (c : Nat), zs.length - j = r → j ≤ zs.length → (∀ b o, s0.heap.get? b = some o → h.get? b = some o) → h.IsTupleIter I l j → h.get? S = some (bestL arr c) →
      ((j = 0 ∧ arr = #[]) ∨ (0 < j ∧ ∃ t, arr = #[.int (maxs (zs.take j)) t, .int (maxs (zs.take j)) t])) →
      codeAny (model P w) A (.builtin "max.loop" ⟨[.ref I, .none, .ref S], [(Str.ofString "default", d)]⟩) R { s0 with heap := h, toks := tk } := by
  have hname : (toString "max" ++ toString ".loop" : String) = "max.loop" := by decide
  obtain ⟨vl, vat⟩ := vals_at hv
  have old : ∀ {b : Addr} {o : Obj}, s0.heap.get? b = some o → b < s0.heap.objs.size := fun e => Heap.lt_size e
  have nS : ∀ {b : Addr} {o : Obj}, s0.heap.get? b = some o → S ≠ b := fun e z => absurd (old e) (Nat.not_lt.mpr (by rw [← z]; exact hS))
  have nI : ∀ {b : Addr} {o : Obj}, s0.heap.get? b = some o → b ≠ I := fun e z => absurd (old e) (Nat.not_lt.mpr (by rw [z]; exact hI))
  intro r
  induction r with
  | zero =>
    intro j h tk arr c hr hj kp hi hSo ha
    have hjz : j = zs.length := by omega
    have hl' : h.IsTuple l vs.toArray := by
      obtain ⟨o, e, q⟩ := hl
      exact ⟨o, kp _ _ e, q⟩
    refine codeAny_builtin F.entry_max_loop ?_
    rw [Around.under_plainId F.plain_max_loop _]
    show wpAny _ A.in1 (seqItems? (.ref S) >>= _) _ _ _
    refine wpAny_bind (wpAny_seqItems hSo rfl ?_)
    show wpAny _ A.in1 (tryCatch (pyNext (.ref I)) _ >>= _) _ _ _
    refine wpAny_bind (wpAny_tryCatch (wpAny_pyNext_tuple_end hh hi hl' (by rw [List.getElem?_toArray]; exact List.getElem?_eq_none (by omega)) fun h' ext => ?_))
    have kp' : ∀ b o, s0.heap.get? b = some o → h'.get? b = some o := fun b o e => ext b o (nI e) (kp b o e)
    rcases ha with ⟨j0, rfl⟩ | ⟨j0, t, rfl⟩
    · have z0 : zs = [] := List.eq_nil_of_length_eq_zero (by omega)
      refine wpAny_bind (wpAny_rule ?_)
      exact wpAny_pure (hR _ _ _ kp' (fun _ => rfl) (fun n => absurd z0 n))
    · have hS2 : h'.get? S = some (bestL #[.int (maxs (zs.take j)) t, .int (maxs (zs.take j)) t] c) := ext _ _ hIS hSo
      show wpAny _ A.in1 (updateSeq S (fun _ => #[]) >>= _) _ _ _
      refine wpAny_bind ?_
      refine wpAny_updateSeq hS2 rfl (wpAny_bind (wpAny_letGo (wpAny_pure ?_)))
      have hz : zs ≠ [] := fun z => by rw [z] at hjz; have : j = 0 := hjz; omega
      refine hR _ _ _ (fun b o e => (Heap.get?_update_other _ _ (nS e)).trans (kp' b o e)) (fun n => absurd n hz) fun _ => ⟨t, ?_⟩
      rw [hjz, List.take_length]
  | succ r ih =>
    intro j h tk arr c hr hj kp hi hSo ha
    have hl' : h.IsTuple l vs.toArray := by
      obtain ⟨o, e, q⟩ := hl
      exact ⟨o, kp _ _ e, q⟩
    have hjl : j < zs.length := by omega
    obtain ⟨t', hvt⟩ := vat j zs[j] (List.getElem?_eq_getElem hjl)
    have htk : zs.take (j + 1) = zs.take j ++ [zs[j]] := by rw [List.take_add_one, List.getElem?_eq_getElem hjl]; rfl
    generalize zs[j] = z at hvt htk
    refine codeAny_builtin F.entry_max_loop ?_
    rw [Around.under_plainId F.plain_max_loop _]
    show wpAny _ A.in1 (seqItems? (.ref S) >>= _) _ _ _
    refine wpAny_bind (wpAny_seqItems hSo rfl ?_)
    show wpAny _ A.in1 (tryCatch (pyNext (.ref I)) _ >>= _) _ _ _
    refine wpAny_bind (wpAny_tryCatch (wpAny_pyNext_tuple_item hi hl' (x := .int z t') (by rw [List.getElem?_toArray]; exact hvt) fun h' hi' sb => ?_))
    have kp' : ∀ b o, s0.heap.get? b = some o → h'.get? b = some o := fun b o e => (sb.2 b (nI e)).trans (kp b o e)
    have hS2 : h'.get? S = some (bestL arr c) := (sb.2 S hIS).trans hSo
    have put : ∀ arr', (∀ b o, s0.heap.get? b = some o → (h'.update S (Obj.mapSeq fun _ => arr')).get? b = some o) ∧ (h'.update S (Obj.mapSeq fun _ => arr')).IsTupleIter I l (j + 1) ∧ ∃ c', (h'.update S (Obj.mapSeq fun _ => arr')).get? S = some (bestL arr' c') := fun arr' => by
      refine ⟨fun b o e => (Heap.get?_update_other _ _ (nS e)).trans (kp' b o e), ?_, ⟨_, Heap.get?_update_self (Obj.mapSeq fun _ => arr') hS2 rfl⟩⟩
      obtain ⟨o, e, q⟩ := hi'
      exact ⟨o, (Heap.get?_update_other _ _ hIS).trans e, q⟩
    rcases ha with ⟨j0, rfl⟩ | ⟨j0, t, rfl⟩
    · show wpAny _ A.in1 (updateSeq S (fun _ => #[.int z t', .int z t']) >>= _) _ _ _
      refine wpAny_bind ?_
      refine wpAny_updateSeq hS2 rfl ?_
      rw [hname]
      obtain ⟨p1, p2, c', p3⟩ := put #[.int z t', .int z t']
      refine wpAny_pure ⟨plainId_quiet F.plain_max_loop _, ih (j + 1) _ _ _ c' (by omega) (by omega) p1 p2 p3 (.inr ⟨by omega, t', ?_⟩)⟩
      rw [htk, j0]
      rfl
    · have hne : zs.take j ≠ [] := fun e => by
        have := congrArg List.length e
        rw [List.length_take] at this
        have : min j zs.length = 0 := this
        omega
      have em := maxs_app (z := z) hne
      rw [← htk] at em
      show wpAny _ A.in1 (tryCatch (holding [.int z t', .int z t'] (richCompare .Gt (.int z t') (.int (maxs (zs.take j)) t) >>= _)) _ >>= _) _ _ _
      refine wpAny_bind (wpAny_tryCatch (wpAny_holding (wpAny_bind (CmpOf.ints_gt (P := fun k v => ∃ t, v = .int (if k = 0 then z else maxs (zs.take j)) t) (fun k => if k = 0 then z else maxs (zs.take j)) (fun k v h => h) 0 1 _ _ _ _ _ ⟨t', rfl⟩ ⟨t, rfl⟩ ?_))))
      refine wpAny_bind (wpAny_holding (wpAny_truthy_bool ?_))
      refine wpAny_bind (wpAny_letGo (wpAny_pure ?_))
      show wpAny _ A.in1 (if decide (z > maxs (zs.take j)) = true then _ else _) _ _ _
      by_cases hlt : z > maxs (zs.take j)
      · rw [if_pos (decide_eq_true hlt)]
        rw [if_pos hlt] at em
        refine wpAny_bind ?_
        refine wpAny_updateSeq hS2 rfl (wpAny_bind (wpAny_letGo ?_))
        rw [hname]
        obtain ⟨p1, p2, c', p3⟩ := put #[.int z t', .int z t']
        refine wpAny_pure ⟨plainId_quiet F.plain_max_loop _, ih (j + 1) _ _ _ c' (by omega) (by omega) p1 p2 p3 (.inr ⟨by omega, t', ?_⟩)⟩
        rw [em]
      · rw [if_neg (by rw [decide_eq_false hlt]; exact Bool.false_ne_true)]
        rw [if_neg hlt] at em
        refine wpAny_bind (wpAny_letGo ?_)
        rw [hname]
        refine wpAny_pure ⟨plainId_quiet F.plain_max_loop _, ih (j + 1) _ _ _ c (by omega) (by omega) kp' hi' hS2 (.inr ⟨by omega, t, ?_⟩)⟩
        rw [em]
end
theorem cr_maxDT {X : Cx} (hc : X.calm = true) : CallRK X (.builtin "max") ["default"] (rMaxDT X.K) := by
  intro pins s σ H xs ys us ws Q I rx ry h
  obtain ⟨a, zs, y, rfl, rfl, hq, k⟩ := h
  cases rx with
  | cons rv rn =>
  cases rn
  rename_i u
  obtain rfl : u = Value.ref a := rv
  cases ry with
  | cons rv2 rn2 =>
  cases rn2
  rename_i d
  obtain ⟨vs, hv, pl, _⟩ := I.tuple hq
  have hl : s.heap.IsTuple a vs.toArray := pl
  have hname : (toString "max" ++ toString ".loop" : String) = "max.loop" := by decide
  show wpAny _ _ (call (.builtin "max") [.ref a] [(Str.ofString "default", d)]) _ _ _
  refine kmk_tree F.kind_max F.plain_max F.entry_max (by rfl) ?_
  show wpAny _ X.A.in1 (Builtin.Builtins.bindParams "max" ["key", "default"] 0 ⟨[], [(Str.ofString "default", d)]⟩ >>= _) _ _ s
  refine wpAny_bind (wpAny_of_eq (show Builtin.Builtins.bindParams "max" ["key", "default"] 0 ⟨[], [(Str.ofString "default", d)]⟩ = pure [none, some d] from rfl) ?_)
  refine wpAny_bind (wpAny_pure ?_)
  refine wpAny_bind (wpAny_pyIter_tuple hl ?_)
  refine wpAny_bind (wpAny_newObj_type ?_)
  rw [hname]
  have p1 : ∀ b o, s.heap.get? b = some o → ((s.heap.push { cls := .type "tuple_iterator", data := .fields #[.ref a, .int 0 0] }).push (bestL #[] 0)).get? b = some o := fun b o e => Heap.get?_push_of_some _ (Heap.get?_push_of_some _ e)
  refine wpAny_pure ⟨plainId_quiet F.plain_max_loop _, maxd_loop (P := X.prog) (w := X.w) (d := d) (R := RetQ (EP X pins σ Q) X.xe) (s0 := s) (I := s.heap.objs.size) (S := (s.heap.push { cls := .type "tuple_iterator", data := .fields #[.ref a, .int 0 0] }).objs.size) (I.ok.hd hc) hl hv (Nat.le_refl _) (by rw [Heap.size_push]; exact Nat.le_succ _) (by rw [Heap.size_push]; exact Nat.succ_ne_self _) (fun h tk v kp v0 v1 => ?_) zs.length 0 _ s.toks #[] 0 rfl (Nat.zero_le _) p1 ?_ ?_ (.inl ⟨rfl, rfl⟩)⟩
  · refine ⟨maxDf zs y, H, I.turnedL (ch := []) (fun b o _ e => kp b o e) (fun _ h => nomatch h), ?_, k⟩
    unfold maxDf
    by_cases z : zs = []
    · rw [if_pos z, v0 z]
      exact rv2
    · rw [if_neg z]
      obtain ⟨t, e⟩ := v1 z
      exact ⟨t, e⟩
  · exact ⟨_, Heap.get?_push_of_some _ (Heap.get?_push_size _ rfl), rfl, rfl⟩
  · exact Heap.get?_push_size _ rfl
end Sk

set_option Elab.async false
set_option linter.all false
set_option maxRecDepth 100000
set_option maxHeartbeats 4000000
namespace Sk
open PySem PySem.Spec PyProof.Rows L2
/-! sum of a tuple of whole numbers -/
theorem preSum_take (ns : List Int) : ∀ k, k ≤ ns.length → preSum (fun i => ns.getD i 0) k = (ns.take k).sum
  | 0, _ => by simp [preSum]
  | k + 1, h => by
    have ih := preSum_take ns k (by omega)
    rw [List.take_add_one, List.getElem?_eq_getElem (by omega)]
    rw [List.sum_append, ← ih]
    simp [preSum, List.getD_eq_getElem?_getD, List.getElem?_eq_getElem (show k < ns.length by omega)]
theorem sum_tup {P : Program} {w : World} {A : Around} {E : Value → Shared → Prop} {s : Shared} {l : Addr} {its : Array Value} {ns : List Int} {Q : Value → Shared → Prop} (hh : A.handled = none) (hl : s.heap.IsTuple l its) (hi : IntsAre its.toList ns)
    (h : ∀ h' tk t, (∀ b o, s.heap.get? b = some o → h'.get? b = some o) → Q (.int ns.sum t) { s with heap := h', toks := tk }) : wpAny (model P w) A (call (.builtin "sum") [.ref l]) Q E s := by
  have z : its.size = ns.length := by
    have e := IntsAre.length hi
    rw [Array.length_toList] at e
    exact e
  have ll : l < s.heap.objs.size := let ⟨_, e, _⟩ := hl; Heap.lt_size e
  refine call_sum_walkAnyS (wpAny_pyIter_tuple hl ?_)
  refine ⟨_, _, _, _, its.size, _, _, fun i => ns.getD i 0, rfl, (Walks.tuple (A := A.in1) (by simp [hh]) s.heap.objs.size l (Nat.ne_of_lt ll) its).toS, ⟨⟨_, Heap.get?_push_size _ rfl, rfl, rfl⟩, hl.push _⟩, fun b hb => ?_, fun i v hv => ?_, fun s' t' mv => ?_⟩
  · show b < (s.heap.push _).objs.size
    rw [Heap.size_push]
    rcases List.mem_cons.mp hb with e | e
    · rw [e]; exact Nat.lt_succ_self _
    · rw [List.mem_singleton.mp e]; exact Nat.lt_succ_of_lt ll
  · obtain ⟨t, e⟩ := PyProof.Rows.IntsAre.int_at hi i v (by rw [Array.getElem?_toList]; exact hv)
    exact ⟨t, e⟩
  · rw [z, preSum_take ns _ (Nat.le_refl _), List.take_length]
    obtain ⟨h', g', d', tk', o'⟩ := s'
    have e1 : g' = s.gens := mv.gens
    have e2 : d' = s.drawn := mv.drawn
    have e3 : o' = s.os := mv.os
    subst e1; subst e2; subst e3
    refine h h' tk' t' fun b o e => ?_
    have lb : b < s.heap.objs.size := Heap.lt_size e
    refine mv.heap b o ?_ (Heap.get?_push_of_some _ e)
    simp only [List.mem_cons, List.not_mem_nil, or_false]
    exact Nat.ne_of_lt lb
def rSumT (K : PySem.W.Frag) : List V → Hp → VK → Prop := fun vs H Q => ∃ (a : Addr) (ns : List Int), vs = [V.ref a] ∧ SqT K H a (ns.map V.int) ∧ Q (.int ns.sum) H
theorem cr_sumT {X : Cx} (hc : X.calm = true) : CallR X (.builtin "sum") (rSumT X.K) := by
  intro pins s σ H vs us Q I r h
  obtain ⟨a, ns, rfl, hs, q⟩ := h
  obtain ⟨its, rv, hl, _⟩ := I.tuple hs
  rw [Vals.ref1 r]
  refine sum_tup (its := its.toArray) (I.ok.hd hc) hl (by simpa using rv.ints) fun h' tk t k => ⟨.int _, H, I.kept k, ⟨_, rfl⟩, q⟩
end Sk

set_option Elab.async false
set_option linter.all false
set_option maxRecDepth 100000
set_option maxHeartbeats 4000000
namespace Sk
open PySem PySem.Spec PyProof.Rows L2 PySem.SeqAt PySem.W
/-! < of two things that are data -/
def rLtZ (K : PySem.W.Frag) : R2 := fun x y H Q => ∃ dx dy, Dp K H x dx ∧ Dp K H y dy ∧ alike dx dy = true ∧ dx ≠ .none ∧ dx.depth ≤ 50 ∧ Q (.bl (dataLt dx dy)) H
theorem op_ltZ {X : Cx} (hu : X.A.units + 60 < cLine) : OpR X (compareOp .Lt) (rLtZ X.K) := by
  intro pins s σ H x y v u Q I rx ry h
  obtain ⟨dx, dy, h1, h2, al, nn, dp, q⟩ := h
  obtain ⟨as, r1⟩ := Dp.reads I dx x v h1 rx
  obtain ⟨bs, r2⟩ := Dp.reads I dy y u h2 ry
  exact rcLt_alike dx dy X.A s v u as bs r1 r2 al nn (by omega) _ _ _ _ ⟨.bl (dataLt dx dy), H, I, rfl, q⟩
end Sk

set_option Elab.async false
set_option linter.all false
set_option maxRecDepth 100000
set_option maxHeartbeats 4000000
namespace Sk
open PySem PySem.Spec PyProof.Rows L2
/-! a method of the text, ready to be called -/
structure MDef (P : Program) (w : World) (K : PySem.W.Frag) (mg : Str → Option Value) (base : Heap) (k : Nat) (C : Addr) (m : Str) (ps : List Str) (sp : Sp) : Prop where
  ex : ∃ (f : Addr) (fd : FuncData), FnOk P w K mg base CX0 k f fd ps sp ∧ Meth K C m f ∧ Binds K fd ps []
theorem pe_mdef {X : Cx} {k : Nat} {C : Addr} {m : Str} {ps : List Str} {sp : Sp} {pos apos : Pos} {o e : Expr} {es : List Expr} {ta : TE} {t : TA} {pl : Sem Bool} (D : MDef X.prog X.w X.K X.mg X.base k C m ps sp) (cl : Cls X.K C) (hr : Room k X.A) (ho : PE X o ta)
    (ha : PA X (e :: es) t) (he : starEach (e :: es) X.env = (false, eval e X.env) :: starEach es X.env := by rfl) (hpl : (backTo pos (starEach es X.env)).any (·.1) = false := by rfl)
    (ht : eval (.Call (.Attribute o m apos) (e :: es) [] pos) X.env = (do
      let ov ← eval o X.env
      standAt apos.atName
      let (f, first) ← holding [ov] (getMethod ov m pl)
      callWith pos f first (backTo pos (starEach (e :: es) X.env)) (backToKw pos (keywordEach [] X.env))) := by rfl) :
    PE X (.Call (.Attribute o m apos) (e :: es) [] pos) (tMeth C m sp [] E0 ta t) := by
  obtain ⟨f, fd, F, M, b⟩ := D.ex
  exact pe_meth ho cl M F hr b .nil pass0 ha he hpl ht
theorem pe_mdef0 {X : Cx} {k : Nat} {C : Addr} {m : Str} {ps : List Str} {sp : Sp} {pos apos : Pos} {o : Expr} {ta : TE} {pl : Sem Bool} (D : MDef X.prog X.w X.K X.mg X.base k C m ps sp) (cl : Cls X.K C) (hr : Room k X.A) (ho : PE X o ta)
    (ht : eval (.Call (.Attribute o m apos) [] [] pos) X.env = (do
      let ov ← eval o X.env
      standAt apos.atName
      let (f, first) ← holding [ov] (getMethod ov m pl)
      callWith pos f first (backTo pos (starEach [] X.env)) (backToKw pos (keywordEach [] X.env))) := by rfl) :
    PE X (.Call (.Attribute o m apos) [] [] pos) (tMeth C m sp [] E0 ta tNil) := by
  obtain ⟨f, fd, F, M, b⟩ := D.ex
  exact pe_meth0 ho cl M F hr b .nil pass0 ht
/-! roots -/
def rt (n : Int) : Int :=
  let q : Int := (Float64.isqrt n.toNat : Nat)
  if q * q < n then q + 1 else q
structure IsRt (n r : Int) : Prop where
  nn : 0 ≤ r
  up : n ≤ r * r
  lo : r = 0 ∨ (r - 1) * (r - 1) < n
theorem mono_sq {a b : Int} (h0 : 0 ≤ a) (h : a ≤ b) : a * a ≤ b * b := Int.mul_le_mul h h h0 (by omega)
theorem IsRt.le {n r r' : Int} (h : IsRt n r) (h' : IsRt n r') : r ≤ r' := by
  rcases h.lo with z | z
  · have := h'.nn; omega
  · rcases ltge r' r with w | w
    · have a := mono_sq h'.nn (show r' ≤ r - 1 by omega)
      have b := h'.up
      omega
    · exact w
theorem IsRt.eq {n r r' : Int} (h : IsRt n r) (h' : IsRt n r') : r = r' := by
  have a := h.le h'
  have b := h'.le h
  omega
theorem rt_is {n : Int} (hn : 0 ≤ n) : IsRt n (rt n) := by
  obtain ⟨z1, z2⟩ := PySem.Float64.isqrt_spec n.toNat
  have e : ((n.toNat : Nat) : Int) = n := by omega
  have a := Int.ofNat_le.mpr z1
  have b := Int.ofNat_lt.mpr z2
  rw [Int.natCast_mul, e] at a
  rw [Int.natCast_mul, Int.natCast_add, e] at b
  have q0 : (0 : Int) ≤ (Float64.isqrt n.toNat : Nat) := Int.natCast_nonneg _
  unfold rt
  dsimp only
  generalize ((Float64.isqrt n.toNat : Nat) : Int) = q at a b q0 ⊢
  have b' : n < (q + 1) * (q + 1) := b
  by_cases h : q * q < n
  · rw [if_pos h]
    exact ⟨by omega, by omega, .inr (by rw [show q + 1 - 1 = q by omega]; exact h)⟩
  · rw [if_neg h]
    refine ⟨q0, by omega, ?_⟩
    rcases ltge 0 q with w | w
    · right
      have : (q - 1) * (q - 1) = q * q - 2 * q + 1 := by
        rw [Int.sub_mul, Int.mul_sub, Int.mul_sub]; omega
      omega
    · left; omega
theorem rt_nn {n : Int} (hn : 0 ≤ n) : 0 ≤ rt n := (rt_is hn).nn
theorem rt_small {n b : Int} (hn : 0 ≤ n) (hb : 0 ≤ b) (h : n ≤ b * b) : rt n ≤ b := by
  rcases (rt_is hn).lo with z | z
  · omega
  · rcases ltge b (rt n) with w | w
    · have := mono_sq hb (show b ≤ rt n - 1 by omega)
      omega
    · exact w
/-! texts whose signs are signs -/
abbrev sOk (x : Str) : Prop := PySem.PyData.strOk x = true
theorem sOk_app {x y : Str} (h1 : sOk x) (h2 : sOk y) : sOk (x ++ y) := by
  unfold sOk PySem.PyData.strOk at *
  show (x.cps ++ y.cps).all (· < 0x110000) = true
  rw [Array.all_append, h1, h2]
  rfl
/-! the chart -/
structure Lg where
  a : Addr
  s : Str
  e : Str
  c : Str
  lo : Int
  hi : Int
def Lg.v (l : Lg) : List V := [.str l.s, .str l.e, .str l.c, .int l.lo, .int l.hi]
structure CD where
  fx : Addr
  lg : Addr
  fs : List (Key × V)
  pt : Str → Option (Addr × Int × Int)
  ls : List Lg
structure ChartAt (H : Hp) (ch : Addr) (D : CD) : Prop where
  ch : ∃ kvs, H ch = some (.dK kvs) ∧ valV kvs (.inr "fixes") = some (.ref D.fx) ∧ valV kvs (.inr "legs") = some (.ref D.lg)
  fx : H D.fx = some (.dK D.fs)
  lg : H D.lg = some (.lst (D.ls.map fun l => V.ref l.a))
  lt : ∀ l ∈ D.ls, H l.a = some (.tup l.v)
  pf : ∀ n a x y, D.pt n = some (a, x, y) → valV D.fs (.inr n) = some (.ref a) ∧ H a = some (.tup [.int x, .int y]) ∧ -100000 ≤ x ∧ x ≤ 100000 ∧ -100000 ≤ y ∧ y ≤ 100000
  wf : ∀ l ∈ D.ls, (∃ a x y, D.pt l.s = some (a, x, y)) ∧ ∃ a x y, D.pt l.e = some (a, x, y)
  sk : ∀ l ∈ D.ls, sOk l.s ∧ sOk l.e ∧ sOk l.c
  n : D.ls.length ≤ 100
theorem ChartAt.same {H H' : Hp} {ch : Addr} {D : CD} (C : ChartAt H ch D) (e : Same H H') : ChartAt H' ch D := by
  obtain ⟨⟨kvs, h1, h2, h3⟩, h4, h5, h6, h7, h8, h8', h9⟩ := C
  exact ⟨⟨kvs, e _ _ h1, h2, h3⟩, e _ _ h4, e _ _ h5, fun l hl => e _ _ (h6 l hl), fun n a x y hp => let ⟨p1, p2, p3⟩ := h7 n a x y hp; ⟨p1, e _ _ p2, p3⟩, h8, h8', h9⟩
theorem ChartAt.keep {K : PySem.W.Frag} {H H' : Hp} {d c ch : Addr} {D : CD} (C : ChartAt H ch D) (S : St1 K H d c) (k : Keep d H H') (n1 : ch ≠ d) (n2 : D.fx ≠ d) : ChartAt H' ch D := by
  obtain ⟨⟨kvs, h1, h2, h3⟩, h4, h5, h6, h7, h8, h8', h9⟩ := C
  exact ⟨⟨kvs, k _ _ h1 n1, h2, h3⟩, k _ _ h4 n2, k.l S h5, fun l hl => k.t S (h6 l hl), fun n a x y hp => let ⟨p1, p2, p3⟩ := h7 n a x y hp; ⟨p1, k.t S p2, p3⟩, h8, h8', h9⟩
theorem ChartAt.gf {H : Hp} {ch : Addr} {D : CD} (C : ChartAt H ch D) : DGet H ch (.str "fixes") (some (.ref D.fx)) := let ⟨_, h1, h2, _⟩ := C.ch; h2 ▸ DGet.k (k := .inr "fixes") h1
theorem ChartAt.gl {H : Hp} {ch : Addr} {D : CD} (C : ChartAt H ch D) : DGet H ch (.str "legs") (some (.ref D.lg)) := let ⟨_, h1, _, h3⟩ := C.ch; h3 ▸ DGet.k (k := .inr "legs") h1
theorem ChartAt.gp {H : Hp} {ch : Addr} {D : CD} (C : ChartAt H ch D) {n : Str} {a : Addr} {x y : Int} (h : D.pt n = some (a, x, y)) : DGet H D.fx (.str n) (some (.ref a)) := (C.pf n a x y h).1 ▸ DGet.k (k := .inr n) C.fx
/-- the length of the leg between two names -/
def CD.len (D : CD) (s e : Str) : Int := match D.pt s, D.pt e with
  | some (_, ax, ay), some (_, bx, by') => rt ((bx - ax) * (bx - ax) + (by' - ay) * (by' - ay))
  | _, _ => 0
theorem CD.len_eq {D : CD} {s e : Str} {a b : Addr} {ax ay bx by' : Int} (h1 : D.pt s = some (a, ax, ay)) (h2 : D.pt e = some (b, bx, by')) : D.len s e = rt ((bx - ax) * (bx - ax) + (by' - ay) * (by' - ay)) := by
  unfold CD.len
  rw [h1, h2]
def CD.leg (D : CD) (s e : Str) : Option Lg := D.ls.find? fun l => decide (l.s = s) && decide (l.e = e)
def optL : Option Lg → V
  | some l => .ref l.a
  | none => .non
theorem CD.leg_mem {D : CD} {s e : Str} {l : Lg} (h : D.leg s e = some l) : l ∈ D.ls ∧ l.s = s ∧ l.e = e := by
  have h1 := List.find?_some h
  simp only [Bool.and_eq_true, decide_eq_true_eq] at h1
  exact ⟨List.mem_of_find?_eq_some h, h1.1, h1.2⟩
/-! promises -/
def spUpR : Sp := fun vs H Q _ => ∃ n : Int, vs = [.int n] ∧ 0 ≤ n ∧ n.natAbs < 2 ^ 240 ∧ Q (.int (rt n)) H
def spDownR : Sp := fun vs H Q _ => ∃ n : Int, vs = [.int n] ∧ n.natAbs < 2 ^ 250 ∧ ∀ r : Int, 0 ≤ r → (n ≤ 0 → r = 0) → (0 ≤ n → r * r ≤ n ∧ n < (r + 1) * (r + 1)) → Q (.int r) H
def spRootR : Sp := fun vs H Q _ => ∃ n : Int, vs = [.int n] ∧ 0 ≤ n ∧ n ≤ 100000000000000 ∧ Q (.int (rt n)) H
def spLegLen : Sp := fun vs H Q _ => ∃ (ch : Addr) (D : CD) (s e : Str) (a b : Addr) (ax ay bx by' : Int), vs = [.ref ch, .str s, .str e] ∧ ChartAt H ch D ∧ D.pt s = some (a, ax, ay) ∧ D.pt e = some (b, bx, by') ∧ Q (.int (D.len s e)) H
def spLegBt : Sp := fun vs H Q _ => ∃ (ch : Addr) (D : CD) (s e : Str), vs = [.ref ch, .str s, .str e] ∧ ChartAt H ch D ∧ Q (optL (D.leg s e)) H
def spIs : Sp := fun vs H Q _ => ∃ a b : Bool, vs = [.bl a, .bl b] ∧ Q (.bl (decide (a = b))) H
/-- a list of texts -/
def spNames (K : PySem.W.Frag) : Sp := fun vs H Q _ => ∃ (d c : Addr) (m : Int), vs = [.ref d, .int m] ∧ St1 K H d c ∧ 0 ≤ m ∧ m ≤ 12 ∧
  ∀ (ns : List Str) p H', (ns.length : Int) = m → (∀ n ∈ ns, sOk n) → ns.Nodup → H p = none → H' p = some (.lst (ns.map V.str)) → St1 K H' d c → Keep d H H' → Q (.ref p) H'
/-- legs among the names -/
structure LegsAt (H : Hp) (l : Addr) (ns : List Str) (ls : List Lg) : Prop where
  li : H l = some (.lst (ls.map fun l => V.ref l.a))
  tu : ∀ q ∈ ls, H q.a = some (.tup q.v)
  nm : ∀ q ∈ ls, q.s ∈ ns ∧ q.e ∈ ns
  ck : ∀ q ∈ ls, sOk q.c
  ne : ns.Nodup → ∀ q ∈ ls, q.s ≠ q.e
theorem LegsAt.same {H H' : Hp} {l : Addr} {ns : List Str} {ls : List Lg} (L : LegsAt H l ns ls) (e : Same H H') : LegsAt H' l ns ls := ⟨e _ _ L.li, fun q h => e _ _ (L.tu q h), L.nm, L.ck, L.ne⟩
theorem LegsAt.keep {K : PySem.W.Frag} {H H' : Hp} {d c l : Addr} {ns : List Str} {ls : List Lg} (L : LegsAt H l ns ls) (S : St1 K H d c) (k : Keep d H H') : LegsAt H' l ns ls := ⟨k.l S L.li, fun q h => k.t S (L.tu q h), L.nm, L.ck, L.ne⟩
theorem LegsAt.snoc {H : Hp} {l : Addr} {ns : List Str} {ls : List Lg} {q : Lg} (L : LegsAt H l ns ls) (hp : H q.a = some (.tup q.v)) (h1 : q.s ∈ ns) (h2 : q.e ∈ ns) (h3 : sOk q.c) (h4 : ns.Nodup → q.s ≠ q.e) : LegsAt (upd H l (.lst ((ls.map fun l => V.ref l.a) ++ [.ref q.a]))) l ns (ls ++ [q]) := by
  refine ⟨by rw [upd_same, List.map_append]; rfl, fun z hz => ?_, fun z hz => ?_, fun z hz => ?_, fun nd z hz => ?_⟩
  · have ht : H z.a = some (.tup z.v) := by
      rcases List.mem_append.mp hz with h | h
      · exact L.tu z h
      · rw [List.mem_singleton.mp h]; exact hp
    rw [upd_ne (ne_of ht L.li (by intro e; cases e))]
    exact ht
  · rcases List.mem_append.mp hz with h | h
    · exact L.nm z h
    · rw [List.mem_singleton.mp h]; exact ⟨h1, h2⟩
  · rcases List.mem_append.mp hz with h | h
    · exact L.ck z h
    · rw [List.mem_singleton.mp h]; exact h3
  · rcases List.mem_append.mp hz with h | h
    · exact L.ne nd z h
    · rw [List.mem_singleton.mp h]; exact h4 nd
def spLegs (K : PySem.W.Frag) : Sp := fun vs H Q _ => ∃ (d c l : Addr) (ns : List Str), vs = [.ref d, .ref l] ∧ St1 K H d c ∧ H l = some (.lst (ns.map V.str)) ∧ 2 ≤ ns.length ∧ ns.length ≤ 12 ∧
  ∀ (ls : List Lg) p H', LegsAt H' p ns ls → ls.length ≤ 100 → H p = none → St1 K H' d c → Keep d H H' → Q (.ref p) H'
def spChart (K : PySem.W.Frag) : Sp := fun vs H Q _ => ∃ (d c : Addr) (m z : Int), vs = [.ref d, .int m, .int z] ∧ St1 K H d c ∧ 2 ≤ m ∧ m ≤ 7 ∧ 1 ≤ z ∧ z ≤ 9000 ∧
  ∀ (D : CD) ch H', (∀ l ∈ D.ls, 1 ≤ D.len l.s l.e) → ChartAt H' ch D → H ch = none → H D.fx = none → St1 K H' d c → Keep d H H' → Q (.ref ch) H'
def spLawLeg : Sp := spLegBt
/-! the parts of a chart while it is made -/
/-- all but two -/
def Keep2 (d e : Addr) (H H' : Hp) : Prop := ∀ c o, H c = some o → c ≠ d → c ≠ e → H' c = some o
theorem Keep2.refl (d e : Addr) (H : Hp) : Keep2 d e H H := fun _ _ h _ _ => h
theorem Keep2.k {d e : Addr} {H H1 H2 : Hp} (a : Keep2 d e H H1) (b : Keep d H1 H2) : Keep2 d e H H2 := fun c o h n m => b c o (a c o h n m) n
theorem Keep2.new {d e p : Addr} {o : HO} {H H1 : Hp} (a : Keep2 d e H H1) (h : H1 p = none) : Keep2 d e H (upd H1 p o) := fun c u q n m => same_new h _ _ (a c u q n m)
theorem Keep2.put {d e : Addr} {o : HO} {H H1 : Hp} (a : Keep2 d e H H1) : Keep2 d e H (upd H1 e o) := fun c u q n m => by
  rw [upd_ne m]
  exact a c u q n m
structure FixAt (H : Hp) (f : Addr) (kvs : List (Key × V)) (pt : Str → Option (Addr × Int × Int)) (ns : List Str) : Prop where
  dc : H f = some (.dK kvs)
  pf : ∀ n a x y, pt n = some (a, x, y) → valV kvs (.inr n) = some (.ref a) ∧ H a = some (.tup [.int x, .int y]) ∧ -100000 ≤ x ∧ x ≤ 100000 ∧ -100000 ≤ y ∧ y ≤ 100000
  nm : ∀ n ∈ ns, ∃ a x y, pt n = some (a, x, y)
theorem FixAt.same {H H' : Hp} {f : Addr} {kvs : List (Key × V)} {pt : Str → Option (Addr × Int × Int)} {ns : List Str} (F : FixAt H f kvs pt ns) (e : Same H H') : FixAt H' f kvs pt ns :=
  ⟨e _ _ F.dc, fun n a x y h => let ⟨h1, h2, h3⟩ := F.pf n a x y h; ⟨h1, e _ _ h2, h3⟩, F.nm⟩
theorem FixAt.keep {K : PySem.W.Frag} {H H' : Hp} {d c f : Addr} {kvs : List (Key × V)} {pt : Str → Option (Addr × Int × Int)} {ns : List Str} (F : FixAt H f kvs pt ns) (S : St1 K H d c) (k : Keep d H H') (n : f ≠ d) : FixAt H' f kvs pt ns :=
  ⟨k _ _ F.dc n, fun n a x y h => let ⟨h1, h2, h3⟩ := F.pf n a x y h; ⟨h1, k.t S h2, h3⟩, F.nm⟩
theorem FixAt.keep2 {K : PySem.W.Frag} {H H' : Hp} {d c e f : Addr} {o : List (Key × V)} {kvs : List (Key × V)} {pt : Str → Option (Addr × Int × Int)} {ns : List Str} (F : FixAt H f kvs pt ns) (S : St1 K H d c) (he : ∀ xs, H e ≠ some (.tup xs)) (k : Keep2 d e H H') (n : f ≠ d) (m : f ≠ e) : FixAt H' f kvs pt ns :=
  ⟨k _ _ F.dc n m, fun n a x y h => let ⟨h1, h2, h3⟩ := F.pf n a x y h; ⟨h1, k _ _ h2 (let ⟨_, z⟩ := S.dk; ne_of h2 z (by intro w; cases w)) (fun w => he _ (w ▸ h2)), h3⟩, F.nm⟩
theorem FixAt.put {H : Hp} {f p : Addr} {kvs : List (Key × V)} {pt : Str → Option (Addr × Int × Int)} {ns : List Str} {n : Str} {x y : Int} (F : FixAt H f kvs pt ns) (hp : H p = some (.tup [.int x, .int y])) (b : -100000 ≤ x ∧ x ≤ 100000 ∧ -100000 ≤ y ∧ y ≤ 100000) :
    FixAt (upd H f (.dK (putK kvs (.inr n) (.ref p)))) f (putK kvs (.inr n) (.ref p)) (fun m => if m = n then some (p, x, y) else pt m) (ns ++ [n]) := by
  refine ⟨upd_same, fun m a u v h => ?_, fun m hm => ?_⟩
  · rw [valV_put]
    by_cases e : m = n
    · subst e
      simp only [if_true] at h
      cases h
      rw [if_pos rfl, upd_ne (ne_of hp F.dc (by intro z; cases z))]
      exact ⟨rfl, hp, b⟩
    · simp only [if_neg e] at h
      obtain ⟨h1, h2, h3⟩ := F.pf m a u v h
      rw [if_neg (fun z => e (Sum.inr.inj z)), upd_ne (ne_of h2 F.dc (by intro z; cases z))]
      exact ⟨h1, h2, h3⟩
  · by_cases e : m = n
    · exact ⟨p, x, y, by simp [e]⟩
    · rcases List.mem_append.mp hm with h | h
      · obtain ⟨a, u, v, h⟩ := F.nm m h
        exact ⟨a, u, v, by simp only [if_neg e]; exact h⟩
      · exact absurd (List.mem_singleton.mp h) e
theorem putK_len {kvs : List (Key × V)} {k : Key} {v : V} : (putK kvs k v).length ≤ kvs.length + 1 := by
  unfold putK
  split
  · rw [List.length_map]; omega
  · rw [List.length_append]; exact Nat.le_refl _
section
variable {f l z r h u w : V}
def chK (f l z r h u w : V) : List (Key × V) := putK (putK (mergeK [] [(.inr "fixes", f), (.inr "legs", l), (.inr "zones", z), (.inr "runways", r), (.inr "holds", h)]) (.inr "hours") u) (.inr "capacities") w
theorem ch_fix : valV (chK f l z r h u w) (.inr "fixes") = some f := by
  unfold chK
  simp only [mergeK, List.foldl, valV_put]
  rw [if_neg (kr (by decide +kernel)), if_neg (kr (by decide +kernel)), if_neg (kr (by decide +kernel)), if_neg (kr (by decide +kernel)), if_neg (kr (by decide +kernel)), if_neg (kr (by decide +kernel)), if_pos trivial]
theorem ch_leg : valV (chK f l z r h u w) (.inr "legs") = some l := by
  unfold chK
  simp only [mergeK, List.foldl, valV_put]
  rw [if_neg (kr (by decide +kernel)), if_neg (kr (by decide +kernel)), if_neg (kr (by decide +kernel)), if_neg (kr (by decide +kernel)), if_neg (kr (by decide +kernel)), if_pos trivial]
theorem ch_len : (mergeK [] [((.inr "fixes" : Key), f), (.inr "legs", l), (.inr "zones", z), (.inr "runways", r), (.inr "holds", h)]).length ≤ 5 := by
  have := length_mergeK [((.inr "fixes" : Key), f), (.inr "legs", l), (.inr "zones", z), (.inr "runways", r), (.inr "holds", h)] []
  simpa using this
end
/-! routes -/
def rn (ns : List Str) (j : Nat) : Str := ns.getD j (Str.ofString "")
theorem rn_at {ns : List Str} {j : Nat} (h : j < ns.length) : (ns.map V.str)[j]? = some (V.str (rn ns j)) := by
  unfold rn
  simp [h]
def Chain (D : CD) (ns : List Str) : Prop := ∀ j, j + 1 < ns.length → ∃ l, D.leg (rn ns j) (rn ns (j + 1)) = some l
theorem rn_l {xs ys : List Str} {j : Nat} (h : j < xs.length) : rn (xs ++ ys) j = rn xs j := by
  unfold rn
  rw [List.getD_eq_getElem?_getD, List.getD_eq_getElem?_getD, List.getElem?_append_left h]
theorem rn_r (xs : List Str) (b : Str) : rn (xs ++ [b]) xs.length = b := by
  unfold rn
  rw [List.getD_eq_getElem?_getD, List.getElem?_append_right (Nat.le_refl _), Nat.sub_self]
  rfl
theorem Chain.snoc {D : CD} {ns : List Str} {a b : Str} (h : Chain D ns) (ha : ns.getLast? = some a) (hl : ∃ l, D.leg a b = some l) : Chain D (ns ++ [b]) := by
  intro j hj
  rw [List.length_append, List.length_singleton] at hj
  obtain ⟨ys, rfl⟩ := List.getLast?_eq_some_iff.mp ha
  by_cases e : j + 1 < (ys ++ [a]).length
  · rw [rn_l (show j < (ys ++ [a]).length by omega), rn_l e]
    exact h j e
  · have ej : j = ys.length := by rw [List.length_append, List.length_singleton] at e hj; omega
    subst ej
    have e2 : rn (ys ++ [a] ++ [b]) (ys.length + 1) = b := by
      have := rn_r (ys ++ [a]) b
      rw [List.length_append, List.length_singleton] at this
      exact this
    rw [rn_l (by rw [List.length_append, List.length_singleton]; omega), rn_r, e2]
    exact hl
structure Route (D : CD) (ns : List Str) : Prop where
  n2 : 2 ≤ ns.length
  n20 : ns.length ≤ 20
  ch : Chain D ns
theorem CD.leg_some {D : CD} {l : Lg} (h : l ∈ D.ls) : ∃ l', D.leg l.s l.e = some l' := by
  cases e : D.leg l.s l.e with
  | some l' => exact ⟨l', rfl⟩
  | none =>
    have := List.find?_eq_none.mp e l h
    simp at this
/-- the lengths of the legs -/
def LenAt (H : Hp) (ld : Addr) (D : CD) : Prop := ∃ kvs, H ld = some (.dT kvs) ∧ ∀ s e l, D.leg s e = some l → valV kvs [(.inr s : Key), .inr e] = some (.int (D.len s e))
theorem LenAt.same {H H' : Hp} {ld : Addr} {D : CD} (L : LenAt H ld D) (e : Same H H') : LenAt H' ld D := let ⟨kvs, h1, h2⟩ := L; ⟨kvs, e _ _ h1, h2⟩
theorem LenAt.keep {K : PySem.W.Frag} {H H' : Hp} {d c ld : Addr} {D : CD} (L : LenAt H ld D) (S : St1 K H d c) (k : Keep d H H') : LenAt H' ld D :=
  let ⟨kvs, h1, h2⟩ := L; ⟨kvs, k _ _ h1 (let ⟨_, w⟩ := S.dk; ne_of h1 w (by intro z; cases z)), h2⟩
theorem LenAt.g {H : Hp} {ld p : Addr} {D : CD} {s e : Str} (L : LenAt H ld D) (h : ∃ l, D.leg s e = some l) (hp : H p = some (.tup [.str s, .str e])) : DGet H ld (.ref p) (some (.int (D.len s e))) := by
  obtain ⟨kvs, h1, h2⟩ := L
  obtain ⟨l, h⟩ := h
  rw [← h2 s e l h]
  exact DGet.t (k := [(.inr s : Key), .inr e]) h1 hp
def spLegS : Sp := fun vs H Q _ => ∃ (ch : Addr) (D : CD) (s e : Str), vs = [.ref ch, .str s, .str e] ∧ ChartAt H ch D ∧ ∀ H', Same H H' → Q (optL (D.leg s e)) H'
def spLens : Sp := fun vs H Q _ => ∃ (ch : Addr) (D : CD), vs = [.ref ch] ∧ ChartAt H ch D ∧ ∀ ld H', H ld = none → LenAt H' ld D → Same H H' → Q (.ref ld) H'
def spWalk (K : PySem.W.Frag) : Sp := fun vs H Q _ => ∃ (d c ch : Addr) (D : CD) (m : Int), vs = [.ref d, .ref ch, .int m] ∧ St1 K H d c ∧ ChartAt H ch D ∧ ch ≠ d ∧ D.fx ≠ d ∧ D.ls ≠ [] ∧ 1 ≤ m ∧ m ≤ 15 ∧
  ∀ (ns : List Str) r H', Route D ns → H r = none → H' r = some (.tup (ns.map V.str)) → St1 K H' d c → Keep d H H' → Q (.ref r) H'
theorem head_find {α : Type} (p : α → Bool) (xs : List α) : (xs.filter p).head? = xs.find? p := by
  rw [List.head?_filter]
/-! the places of a chart lie apart -/
theorem sq_pos {d : Int} (h : d ≠ 0) : 1 ≤ d * d := by
  rcases ltge 0 d with w | w
  · have := Int.mul_le_mul (show 1 ≤ d by omega) (show 1 ≤ d by omega) (by decide) (by omega)
    omega
  · have := Int.mul_le_mul (show 1 ≤ -d by omega) (show 1 ≤ -d by omega) (by decide) (by omega)
    rw [Int.neg_mul_neg] at this
    omega
theorem rt_one {n : Int} (h : 1 ≤ n) : 1 ≤ rt n := by
  have z := rt_is (show 0 ≤ n by omega)
  rcases ltge 0 (rt n) with w | w
  · omega
  · have e : rt n = 0 := by have := z.nn; omega
    have := z.up
    rw [e] at this
    omega
theorem CD.len_one {D : CD} {s e : Str} {a b : Addr} {ax ay bx by' : Int} (h1 : D.pt s = some (a, ax, ay)) (h2 : D.pt e = some (b, bx, by')) (h : ay ≠ by') : 1 ≤ D.len s e := by
  rw [CD.len_eq h1 h2]
  refine rt_one ?_
  have z1 := sq0 (bx - ax)
  have z2 := sq_pos (show by' - ay ≠ 0 by omega)
  omega
def LETS : List Nat := ("QXAMBZKCTDRE" : Str).cps.toList
def Let1 (ns : List Str) (x : Int) : Prop := ∀ j (h : j < ns.length), ∃ c, (ns[j]).cps.toList.head? = some c ∧ atI LETS (((j : Int) + x) % 12) = some c
theorem lets_inj : ∀ u : Fin 12, ∀ v : Fin 12, LETS[u.val]? = LETS[v.val]? → u = v := by decide +kernel
theorem lets_at {u : Nat} (h : u < 12) : atI LETS (u : Int) = LETS[u]? := by
  have e : u < LETS.length := by
    have : LETS.length = 12 := by decide +kernel
    omega
  rw [List.getElem?_eq_getElem e]
  exact atI_nat (List.getElem?_eq_getElem e)
theorem let_nodup {ns : List Str} {x : Int} (h : Let1 ns x) (hl : ns.length ≤ 12) : ns.Nodup := by
  refine List.pairwise_iff_getElem.mpr fun i j hi hj hij e => ?_
  obtain ⟨c1, a1, b1⟩ := h i hi
  obtain ⟨c2, a2, b2⟩ := h j hj
  rw [e, a2] at a1
  cases a1
  obtain ⟨u, hu⟩ : ∃ u : Nat, ((i : Int) + x) % 12 = (u : Int) := ⟨(((i : Int) + x) % 12).toNat, by omega⟩
  obtain ⟨v, hv⟩ : ∃ v : Nat, ((j : Int) + x) % 12 = (v : Int) := ⟨(((j : Int) + x) % 12).toNat, by omega⟩
  have hu2 : u < 12 := by omega
  have hv2 : v < 12 := by omega
  rw [hu, lets_at hu2] at b1
  rw [hv, lets_at hv2] at b2
  have := lets_inj ⟨u, hu2⟩ ⟨v, hv2⟩ (b1.trans b2.symm)
  have : u = v := congrArg Fin.val this
  omega
theorem at_mod2 {α : Type} {f : α → V} {ns : List α} {z m : Int} (hm : m = (ns.length : Int)) (h : 0 < ns.length) : ∃ (j : Nat) (hj : j < ns.length), z % m = (j : Int) ∧ atI (ns.map f) (z % m) = some (f ns[j]) := by
  obtain ⟨j, hj⟩ : ∃ j : Nat, z % m = (j : Int) := ⟨(z % m).toNat, by have := Int.emod_nonneg z (show m ≠ 0 by omega); omega⟩
  have hj2 : j < ns.length := by have := Int.emod_lt_of_pos z (show 0 < m by omega); omega
  exact ⟨j, hj2, hj, by rw [hj]; exact atI_nat (mapAt hj2)⟩
theorem mod_ne {i j : Nat} {x m : Int} (hi : (i : Int) < m) (h0 : 0 ≤ x) (h1 : x < m - 1) (e : (0 + (i : Int) + 1 + x) % m = (j : Int)) : i ≠ j := by
  rintro rfl
  have z := Int.mul_ediv_add_emod (0 + (i : Int) + 1 + x) m
  rw [e] at z
  generalize (0 + (i : Int) + 1 + x) / m = q at z
  rcases ltge 0 q with w | w
  · have := Int.mul_le_mul_of_nonneg_left (show 1 ≤ q by omega) (show 0 ≤ m by omega)
    omega
  · have := Int.mul_nonneg (show 0 ≤ m by omega) (show 0 ≤ -q by omega)
    rw [Int.mul_neg] at this
    omega
theorem nodup_ne {ns : List Str} (nd : ns.Nodup) {i j : Nat} (hi : i < ns.length) (hj : j < ns.length) (n : i ≠ j) : ns[i] ≠ ns[j] := by
  have p := List.pairwise_iff_getElem.mp nd
  rcases Nat.lt_or_gt_of_ne n with h | h
  · exact p i j hi hj h
  · exact (p j i hj hi h).symm
def Sep (pt : Str → Option (Addr × Int × Int)) (ns : List Str) (m : Int) (i : Nat) : Prop := ∀ j (h : j < ns.length), j < i → ∃ a x y, pt ns[j] = some (a, x, y) ∧ y % m = (j : Int)
theorem Sep.put {pt : Str → Option (Addr × Int × Int)} {ns : List Str} {m : Int} {i : Nat} {p : Addr} {x y : Int} (nd : ns.Nodup) (S : Sep pt ns m i) (hi : i < ns.length) (hy : y % m = (i : Int)) : Sep (fun q => if q = ns[i] then some (p, x, y) else pt q) ns m (i + 1) := by
  intro j hj hji
  by_cases e : j = i
  · subst e
    exact ⟨p, x, y, by simp, hy⟩
  · obtain ⟨a, u, v, h1, h2⟩ := S j hj (by omega)
    exact ⟨a, u, v, by simp only [if_neg (nodup_ne nd hj hi e)]; exact h1, h2⟩
theorem y_mod {m a i : Int} (h0 : 0 ≤ i) (h1 : i < m) : (m * a + (0 + i)) % m = i := by
  rw [Int.add_comm, Int.add_mul_emod_self_left, Int.zero_add]
  exact Int.emod_eq_of_lt h0 h1
theorem Sep.len {D : CD} {ns : List Str} {m : Int} {s e : Str} (S : Sep D.pt ns m ns.length) (nd : ns.Nodup) (hs : s ∈ ns) (he : e ∈ ns) (n : s ≠ e) : 1 ≤ D.len s e := by
  obtain ⟨i, hi, rfl⟩ := List.getElem_of_mem hs
  obtain ⟨j, hj, rfl⟩ := List.getElem_of_mem he
  obtain ⟨a, x, y, h1, h2⟩ := S i hi hi
  obtain ⟨b, u, v, h3, h4⟩ := S j hj hj
  refine CD.len_one h1 h3 fun z => n ?_
  rw [z, h4] at h2
  have : i = j := by omega
  subst this
  rfl
end Sk

set_option Elab.async false
set_option linter.all false
set_option maxRecDepth 100000
set_option maxHeartbeats 4000000
namespace Sk
open PySem PySem.Spec PyProof.Rows L2
/-! the mathematics of paths -/
theorem CD.len_nn (D : CD) (s e : Str) : 0 ≤ D.len s e := by
  unfold CD.len
  split
  · exact rt_nn (Int.add_nonneg (sq0 _) (sq0 _))
  · exact Int.le_refl 0
def bg (D : CD) (ns : List Str) : Nat → Int
  | 0 => 0
  | j + 1 => bg D ns j + D.len (rn ns j) (rn ns (j + 1))
theorem bg_step (D : CD) (ns : List Str) (j : Nat) : bg D ns j ≤ bg D ns (j + 1) := by
  have := D.len_nn (rn ns j) (rn ns (j + 1))
  show bg D ns j ≤ bg D ns j + _
  omega
theorem bg_mono (D : CD) (ns : List Str) {i j : Nat} (h : i ≤ j) : bg D ns i ≤ bg D ns j := by
  induction j with
  | zero => rw [show i = 0 by omega]; exact Int.le_refl _
  | succ j ih =>
    by_cases e : i = j + 1
    · rw [e]; exact Int.le_refl _
    · exact Int.le_trans (ih (by omega)) (bg_step D ns j)
theorem bg_nn (D : CD) (ns : List Str) (j : Nat) : 0 ≤ bg D ns j := bg_mono D ns (Nat.zero_le j)
def CD.xy (D : CD) (s : Str) : Int × Int := match D.pt s with
  | some (_, x, y) => (x, y)
  | none => (0, 0)
theorem CD.xy_eq {D : CD} {s : Str} {a : Addr} {x y : Int} (h : D.pt s = some (a, x, y)) : D.xy s = (x, y) := by
  unfold CD.xy
  rw [h]
def Bd (D : CD) : Prop := ∀ s, -100000 ≤ (D.xy s).1 ∧ (D.xy s).1 ≤ 100000 ∧ -100000 ≤ (D.xy s).2 ∧ (D.xy s).2 ≤ 100000
theorem ChartAt.bd {H : Hp} {ch : Addr} {D : CD} (C : ChartAt H ch D) : Bd D := by
  intro s
  unfold CD.xy
  split
  · rename_i a x y h
    exact (C.pf s a x y h).2.2
  · exact ⟨by decide, by decide, by decide, by decide⟩
theorem CD.len_le {D : CD} (b : Bd D) (s e : Str) : D.len s e ≤ 300000 := by
  unfold CD.len
  split
  · rename_i a ax ay a' bx by' h1 h2
    have b1 := b s
    have b2 := b e
    rw [CD.xy_eq h1] at b1
    rw [CD.xy_eq h2] at b2
    dsimp only at b1 b2
    refine rt_small (Int.add_nonneg (sq0 _) (sq0 _)) (by decide) ?_
    have e1 := sq_le (show -200000 ≤ bx - ax by omega) (show bx - ax ≤ 200000 by omega)
    have e2 := sq_le (show -200000 ≤ by' - ay by omega) (show by' - ay ≤ 200000 by omega)
    omega
  · decide
theorem bg_le {D : CD} (b : Bd D) (ns : List Str) (j : Nat) : bg D ns j ≤ 300000 * (j : Int) := by
  induction j with
  | zero => exact Int.le_refl 0
  | succ j ih =>
    have := D.len_le b (rn ns j) (rn ns (j + 1))
    show bg D ns j + _ ≤ _
    omega
/-- the leg to which p belongs, of the first m + 1 -/
def lat (D : CD) (ns : List Str) (m : Nat) (p : Int) : Nat := ((List.range m).find? fun i => decide (p < bg D ns (i + 1))).getD m
theorem find_range {q : Nat → Bool} {m k : Nat} (hk : k < m) (h1 : q k = true) (h0 : ∀ i, i < k → q i = false) : (List.range m).find? q = some k := by
  have e : List.range m = List.range k ++ (List.range (m - k)).map (k + ·) := by
    rw [← List.range_add, Nat.add_sub_cancel' (Nat.le_of_lt hk)]
  rw [e, List.find?_append]
  have a : (List.range k).find? q = none := List.find?_eq_none.mpr fun i hi => by rw [h0 i (List.mem_range.mp hi)]; simp
  rw [a]
  obtain ⟨z, hz⟩ : ∃ z, m - k = z + 1 := ⟨m - k - 1, by omega⟩
  rw [hz, List.range_succ_eq_map]
  simp [h1]
theorem find_none {q : Nat → Bool} {m : Nat} (h0 : ∀ i, i < m → q i = false) : (List.range m).find? q = none :=
  List.find?_eq_none.mpr fun i hi => by rw [h0 i (List.mem_range.mp hi)]; simp
theorem lat_cases (D : CD) (ns : List Str) (m : Nat) (p : Int) : (lat D ns m p ≤ m) ∧ (∀ i, i < lat D ns m p → bg D ns (i + 1) ≤ p) ∧ (lat D ns m p < m → p < bg D ns (lat D ns m p + 1)) := by
  unfold lat
  cases h : (List.range m).find? fun i => decide (p < bg D ns (i + 1)) with
  | none =>
    have h0 := List.find?_eq_none.mp h
    refine ⟨Nat.le_refl m, fun i hi => ?_, fun z => absurd z (Nat.lt_irrefl m)⟩
    have hi : i < m := hi
    have := h0 i (List.mem_range.mpr hi)
    simp at this
    exact this
  | some k =>
    have h1 := List.find?_some h
    have h2 := List.mem_of_find?_eq_some h
    have hk := List.mem_range.mp h2
    refine ⟨Nat.le_of_lt hk, fun i hi => ?_, fun _ => of_decide_eq_true h1⟩
    have hi : i < k := hi
    by_cases e : p < bg D ns (i + 1)
    · exfalso
      have : (List.range m).find? (fun i => decide (p < bg D ns (i + 1))) = some ((List.range (i + 1)).find? (fun i => decide (p < bg D ns (i + 1)))).get! := by
        have e2 : List.range m = List.range (i + 1) ++ (List.range (m - (i + 1))).map ((i + 1) + ·) := by rw [← List.range_add, Nat.add_sub_cancel' (show i + 1 ≤ m by omega)]
        rw [e2, List.find?_append]
        cases w : (List.range (i + 1)).find? fun i => decide (p < bg D ns (i + 1)) with
        | some z => rfl
        | none =>
          have := List.find?_eq_none.mp w i (List.mem_range.mpr (Nat.lt_succ_self i))
          simp [e] at this
      rw [h] at this
      cases w : (List.range (i + 1)).find? fun i => decide (p < bg D ns (i + 1)) with
      | none =>
        have := List.find?_eq_none.mp w i (List.mem_range.mpr (Nat.lt_succ_self i))
        simp [e] at this
      | some z =>
        rw [w] at this
        have hz := List.mem_range.mp (List.mem_of_find?_eq_some w)
        have : k = z := Option.some.inj this
        omega
    · omega
theorem lat_eq {D : CD} {ns : List Str} {m k : Nat} {p : Int} (hk : k ≤ m) (h0 : ∀ i, i < k → bg D ns (i + 1) ≤ p) (h1 : k < m → p < bg D ns (k + 1)) : lat D ns m p = k := by
  obtain ⟨a, b, c⟩ := lat_cases D ns m p
  rcases Nat.lt_trichotomy (lat D ns m p) k with h | h | h
  · have := c (by omega)
    have := h0 _ h
    omega
  · exact h
  · have := b k h
    have := h1 (by omega)
    omega
theorem lat_succ (D : CD) (ns : List Str) (m : Nat) (p : Int) : lat D ns (m + 1) p = if bg D ns (m + 1) ≤ p then m + 1 else lat D ns m p := by
  obtain ⟨a, b, c⟩ := lat_cases D ns m p
  split
  · rename_i h
    exact lat_eq (Nat.le_refl _) (fun i hi => Int.le_trans (bg_mono D ns (show i + 1 ≤ m + 1 by omega)) h) (fun z => absurd z (Nat.lt_irrefl _))
  · rename_i h
    refine lat_eq (by omega) b fun _ => ?_
    by_cases e : lat D ns m p < m
    · exact c e
    · rw [show lat D ns m p = m by omega]
      omega
/-- place on leg k -/
def plc (D : CD) (ns : List Str) (k : Nat) (p : Int) : List Int :=
  let a := D.xy (rn ns k)
  let b := D.xy (rn ns (k + 1))
  let n := D.len (rn ns k) (rn ns (k + 1))
  [a.1 * n + (b.1 - a.1) * (p - bg D ns k), a.2 * n + (b.2 - a.2) * (p - bg D ns k)]
def seg (D : CD) (ns : List Str) (k : Nat) (s e : Int) : List Int := plc D ns k s ++ (plc D ns k e ++ [D.len (rn ns k) (rn ns (k + 1))])
def segOf (D : CD) (ns : List Str) (f l : Int) (k : Nat) : Option (List Int) :=
  let s := if bg D ns k > f then bg D ns k else f
  let e := if bg D ns (k + 1) < l then bg D ns (k + 1) else l
  if s < e then some (seg D ns k s e) else none
def segsOf (D : CD) (ns : List Str) (f l : Int) (ks : List Nat) : List (List Int) := ks.filterMap (segOf D ns f l)
theorem segOf_none {D : CD} {ns : List Str} {f l : Int} {k : Nat} (h : bg D ns (k + 1) ≤ f ∨ l ≤ bg D ns k) : segOf D ns f l k = none := by
  unfold segOf
  dsimp only
  rw [if_neg]
  split <;> split <;> omega
theorem segs_eq {D : CD} {ns : List Str} {f l : Int} {m : Nat} (hfl : f ≤ l) (h : lat D ns m f ≤ lat D ns m l) : segsOf D ns f l (List.range (m + 1)) = segsOf D ns f l ((List.range (lat D ns m l + 1 - lat D ns m f)).map (lat D ns m f + ·)) := by
  obtain ⟨a1, b1, c1⟩ := lat_cases D ns m f
  obtain ⟨a2, b2, c2⟩ := lat_cases D ns m l
  generalize lat D ns m f = u at *
  generalize lat D ns m l = v at *
  have e1 : List.range (m + 1) = List.range u ++ ((List.range (v + 1 - u)).map (u + ·) ++ (List.range (m - v)).map ((v + 1) + ·)) := by
    have x1 : List.range (m + 1) = List.range (v + 1) ++ (List.range (m - v)).map ((v + 1) + ·) := by rw [← List.range_add]; congr 1; omega
    have x2 : List.range (v + 1) = List.range u ++ (List.range (v + 1 - u)).map (u + ·) := by rw [← List.range_add]; congr 1; omega
    rw [x1, x2, List.append_assoc]
  unfold segsOf
  rw [e1, List.filterMap_append, List.filterMap_append]
  have n1 : (List.range u).filterMap (segOf D ns f l) = [] := List.filterMap_eq_nil_iff.mpr fun k hk => segOf_none (.inl (b1 k (List.mem_range.mp hk)))
  have n2 : ((List.range (m - v)).map ((v + 1) + ·)).filterMap (segOf D ns f l) = [] := List.filterMap_eq_nil_iff.mpr fun k hk => by
    obtain ⟨z, hz, rfl⟩ := List.mem_map.mp hk
    have := c2 (by have := List.mem_range.mp hz; omega)
    exact segOf_none (.inr (Int.le_trans (Int.le_of_lt this) (bg_mono D ns (by omega))))
  rw [n1, n2, List.nil_append, List.append_nil]
theorem lat_mono (D : CD) (ns : List Str) (m : Nat) {p q : Int} (h : p ≤ q) : lat D ns m p ≤ lat D ns m q := by
  obtain ⟨a1, b1, c1⟩ := lat_cases D ns m p
  obtain ⟨a2, b2, c2⟩ := lat_cases D ns m q
  rcases Nat.lt_or_ge (lat D ns m q) (lat D ns m p) with w | w
  · have x := b1 _ w
    have y := c2 (by omega)
    omega
  · exact w
/-- the piece, as the document says it -/
def pcs (D : CD) (ns : List Str) (low high : Int) : List (List Int) :=
  let L := ns.length - 1
  let t := bg D ns L
  if high < 0 ∨ t ≤ low then [] else
  let f := if 0 > low then 0 else low
  let l := if t < high then t else high
  if f = l then [seg D ns (lat D ns (L - 1) f) f f] else segsOf D ns f l (List.range L)
/-! lists of tuples of ints -/
def LoT (H : Hp) (l : Addr) (xss : List (List Int)) : Prop := ∃ qs : List (Addr × List Int), H l = some (.lst (qs.map fun q => V.ref q.1)) ∧ (∀ q ∈ qs, H q.1 = some (.tup (q.2.map V.int))) ∧ qs.map (·.2) = xss
theorem LoT.same {H H' : Hp} {l : Addr} {xss : List (List Int)} (L : LoT H l xss) (e : Same H H') : LoT H' l xss := let ⟨qs, h1, h2, h3⟩ := L; ⟨qs, e _ _ h1, fun q h => e _ _ (h2 q h), h3⟩
theorem LoT.keep {K : PySem.W.Frag} {H H' : Hp} {d c l : Addr} {xss : List (List Int)} (L : LoT H l xss) (S : St1 K H d c) (k : Keep d H H') : LoT H' l xss := let ⟨qs, h1, h2, h3⟩ := L; ⟨qs, k.l S h1, fun q h => k.t S (h2 q h), h3⟩
theorem LoT.li {H : Hp} {l : Addr} {xss : List (List Int)} (L : LoT H l xss) : ∃ xs : List V, H l = some (.lst xs) ∧ xs.length = xss.length := let ⟨qs, h1, _, h3⟩ := L; ⟨_, h1, by rw [List.length_map, ← h3, List.length_map]⟩
theorem LoT.snoc {H : Hp} {l p : Addr} {xss : List (List Int)} {xs : List Int} {ys : List V} (L : LoT H l xss) (hl : H l = some (.lst ys)) (hp : H p = some (.tup (xs.map V.int))) : LoT (upd H l (.lst (ys ++ [.ref p]))) l (xss ++ [xs]) := by
  obtain ⟨qs, h1, h2, h3⟩ := L
  rw [h1] at hl
  cases hl
  refine ⟨qs ++ [(p, xs)], by rw [upd_same, List.map_append]; rfl, fun q hq => ?_, by rw [List.map_append, h3]; rfl⟩
  have ht : H q.1 = some (.tup (q.2.map V.int)) := by
    rcases List.mem_append.mp hq with h | h
    · exact h2 q h
    · rw [List.mem_singleton.mp h]; exact hp
  rw [upd_ne (ne_of ht h1 (by intro e; cases e))]
  exact ht
theorem LoT.nil {H : Hp} {l : Addr} (h : H l = some (.lst [])) : LoT H l [] := ⟨[], h, (fun _ h => nomatch h), rfl⟩
def pdT (xs : List Int) : PyData := .tuple (xs.map PyData.int)
theorem dpAll_int {K : PySem.W.Frag} {H : Hp} : ∀ xs : List Int, DpAll K H (xs.map V.int) (xs.map PyData.int)
  | [] => .nil
  | x :: xs => .cons (.int x) (dpAll_int xs)
theorem LoT.dp {K : PySem.W.Frag} {H : Hp} {l : Addr} {xss : List (List Int)} (L : LoT H l xss) : Dp K H (.ref l) (.list (xss.map pdT)) := by
  obtain ⟨qs, h1, h2, rfl⟩ := L
  refine .lst (.inl (.inl h1)) ?_
  clear h1
  induction qs with
  | nil => exact .nil
  | cons q qs ih =>
    refine .cons (.tup (.inl (.inl (h2 q List.mem_cons_self))) (dpAll_int _)) (ih fun z hz => h2 z (List.mem_cons_of_mem _ hz))
/-! a path's object -/
def pfl (r l1 l2 l3 l4 : Addr) : List (Str × V) := [("_route", .ref r), ("_legs", .ref l1), ("_starts", .ref l2), ("_vectors", .ref l3), ("_begins", .ref l4)]
section
variable {r l1 l2 l3 l4 : Addr}
theorem pf1 : (pfl r l1 l2 l3 l4).lookup ("_route" : Str) = some (.ref r) := by rfl
theorem pf2 : (pfl r l1 l2 l3 l4).lookup ("_legs" : Str) = some (.ref l1) := by rfl
theorem pf3 : (pfl r l1 l2 l3 l4).lookup ("_starts" : Str) = some (.ref l2) := by rfl
theorem pf4 : (pfl r l1 l2 l3 l4).lookup ("_vectors" : Str) = some (.ref l3) := by rfl
theorem pf5 : (pfl r l1 l2 l3 l4).lookup ("_begins" : Str) = some (.ref l4) := by rfl
end
structure PathP (C : Addr) (H : Hp) (p : Addr) (D : CD) (ns : List Str) (r : Addr) (i : Nat) (dx l1 l2 l3 l4 : Addr) (sa va : List Addr) : Prop where
  ob : H p = some (.ins C dx (pfl r l1 l2 l3 l4))
  rt : H r = some (.tup (ns.map V.str))
  lg : H l1 = some (.lst ((List.range i).map fun j => optL (D.leg (rn ns j) (rn ns (j + 1)))))
  st : H l2 = some (.lst (sa.map V.ref))
  ve : H l3 = some (.lst (va.map V.ref))
  bgn : H l4 = some (.lst ((List.range (i + 1)).map fun j => V.int (bg D ns j)))
  sl : sa.length = i
  vl : va.length = i
  sx : ∀ j (h : j < sa.length), H sa[j] = some (.tup [.int (D.xy (rn ns j)).1, .int (D.xy (rn ns j)).2])
  vx : ∀ j (h : j < va.length), H va[j] = some (.tup [.int ((D.xy (rn ns (j + 1))).1 - (D.xy (rn ns j)).1), .int ((D.xy (rn ns (j + 1))).2 - (D.xy (rn ns j)).2), .int (D.len (rn ns j) (rn ns (j + 1)))])
  d12 : l1 ≠ l2
  d13 : l1 ≠ l3
  d14 : l1 ≠ l4
  d23 : l2 ≠ l3
  d24 : l2 ≠ l4
  d34 : l3 ≠ l4
theorem PathP.same {C p r dx l1 l2 l3 l4 : Addr} {H H' : Hp} {D : CD} {ns : List Str} {i : Nat} {sa va : List Addr} (P : PathP C H p D ns r i dx l1 l2 l3 l4 sa va) (e : Same H H') : PathP C H' p D ns r i dx l1 l2 l3 l4 sa va :=
  { P with ob := e _ _ P.ob, rt := e _ _ P.rt, lg := e _ _ P.lg, st := e _ _ P.st, ve := e _ _ P.ve, bgn := e _ _ P.bgn, sx := fun j h => e _ _ (P.sx j h), vx := fun j h => e _ _ (P.vx j h) }
theorem PathP.keep {K : PySem.W.Frag} {C p r dx l1 l2 l3 l4 d c : Addr} {H H' : Hp} {D : CD} {ns : List Str} {i : Nat} {sa va : List Addr} (P : PathP C H p D ns r i dx l1 l2 l3 l4 sa va) (S : St1 K H d c) (k : Keep d H H') : PathP C H' p D ns r i dx l1 l2 l3 l4 sa va :=
  { P with ob := k _ _ P.ob (let ⟨_, w⟩ := S.dk; ne_of P.ob w (by intro z; cases z)), rt := k.t S P.rt, lg := k.l S P.lg, st := k.l S P.st, ve := k.l S P.ve, bgn := k.l S P.bgn, sx := fun j h => k.t S (P.sx j h), vx := fun j h => k.t S (P.vx j h) }
def PathAt (C : Addr) (H : Hp) (p : Addr) (D : CD) (ns : List Str) (r : Addr) : Prop := ∃ dx l1 l2 l3 l4 sa va, PathP C H p D ns r (ns.length - 1) dx l1 l2 l3 l4 sa va
theorem PathAt.same {C p r : Addr} {H H' : Hp} {D : CD} {ns : List Str} (P : PathAt C H p D ns r) (e : Same H H') : PathAt C H' p D ns r := let ⟨_, _, _, _, _, _, _, P⟩ := P; ⟨_, _, _, _, _, _, _, P.same e⟩
theorem PathAt.keep {K : PySem.W.Frag} {C p r d c : Addr} {H H' : Hp} {D : CD} {ns : List Str} (P : PathAt C H p D ns r) (S : St1 K H d c) (k : Keep d H H') : PathAt C H' p D ns r := let ⟨_, _, _, _, _, _, _, P⟩ := P; ⟨_, _, _, _, _, _, _, P.keep S k⟩
/-- what the class has -/
structure PathY (K : PySem.W.Frag) (mg : Str → Option Value) (C : Addr) : Prop where
  cl : Cls K C
  n1 : NoAttr K C "_route"
  n2 : NoAttr K C "_legs"
  n3 : NoAttr K C "_starts"
  n4 : NoAttr K C "_vectors"
  n5 : NoAttr K C "_begins"
/-! promises of the methods -/
def spTotal (C : Addr) : Sp := fun vs H Q _ => ∃ (p r dx l1 l2 l3 l4 : Addr) (D : CD) (ns : List Str) (i : Nat), vs = [.ref p] ∧ H p = some (.ins C dx (pfl r l1 l2 l3 l4)) ∧ H l4 = some (.lst ((List.range (i + 1)).map fun j => V.int (bg D ns j))) ∧ Q (.int (bg D ns i)) H
def spLegAt (C : Addr) : Sp := fun vs H Q _ => ∃ (p r : Addr) (D : CD) (ns : List Str) (x : Int), vs = [.ref p, .int x] ∧ PathAt C H p D ns r ∧ 2 ≤ ns.length ∧ ns.length ≤ 20 ∧ Q (.int (lat D ns (ns.length - 1 - 1) x : Nat)) H
def spBegin (C : Addr) : Sp := fun vs H Q _ => ∃ (p r : Addr) (D : CD) (ns : List Str) (j : Nat) (z : Int), vs = [.ref p, .int z] ∧ z = (j : Int) ∧ PathAt C H p D ns r ∧ j ≤ ns.length - 1 ∧ Q (.int (bg D ns j)) H
def spLegI (C : Addr) : Sp := fun vs H Q _ => ∃ (p r : Addr) (D : CD) (ns : List Str) (j : Nat) (z : Int), vs = [.ref p, .int z] ∧ z = (j : Int) ∧ PathAt C H p D ns r ∧ j < ns.length - 1 ∧ Q (optL (D.leg (rn ns j) (rn ns (j + 1)))) H
def spVec (C : Addr) : Sp := fun vs H Q _ => ∃ (p r : Addr) (D : CD) (ns : List Str) (j : Nat) (z : Int), vs = [.ref p, .int z] ∧ z = (j : Int) ∧ PathAt C H p D ns r ∧ j < ns.length - 1 ∧
  ∀ v, H v = some (.tup [.int ((D.xy (rn ns (j + 1))).1 - (D.xy (rn ns j)).1), .int ((D.xy (rn ns (j + 1))).2 - (D.xy (rn ns j)).2), .int (D.len (rn ns j) (rn ns (j + 1)))]) → Q (.ref v) H
def spRoute (C : Addr) : Sp := fun vs H Q _ => ∃ (p r : Addr) (D : CD) (ns : List Str), vs = [.ref p] ∧ PathAt C H p D ns r ∧ Q (.ref r) H
def spPoint (C : Addr) : Sp := fun vs H Q _ => ∃ (p r : Addr) (D : CD) (ns : List Str) (j : Nat) (z x : Int), vs = [.ref p, .int z, .int x] ∧ z = (j : Int) ∧ PathAt C H p D ns r ∧ Bd D ∧ j < ns.length - 1 ∧ ∀ q H', H q = none → Same H H' → H' q = some (.tup ((plc D ns j x).map V.int)) → Q (.ref q) H'
def spSeg (C : Addr) : Sp := fun vs H Q _ => ∃ (p r : Addr) (D : CD) (ns : List Str) (j : Nat) (z s e : Int), vs = [.ref p, .int z, .int s, .int e] ∧ z = (j : Int) ∧ PathAt C H p D ns r ∧ Bd D ∧ j < ns.length - 1 ∧ ∀ q H', H q = none → Same H H' → H' q = some (.tup ((seg D ns j s e).map V.int)) → Q (.ref q) H'
def spSegs (C : Addr) : Sp := fun vs H Q _ => ∃ (p r : Addr) (D : CD) (ns : List Str) (f l : Int), vs = [.ref p, .int f, .int l] ∧ PathAt C H p D ns r ∧ Bd D ∧ 2 ≤ ns.length ∧ ns.length ≤ 20 ∧ f ≤ l ∧
  ∀ q H', H q = none → Same H H' → LoT H' q (segsOf D ns f l (List.range (ns.length - 1))) → Q (.ref q) H'
def spPlace (C : Addr) : Sp := fun vs H Q _ => ∃ (p r : Addr) (D : CD) (ns : List Str) (x : Int), vs = [.ref p, .int x] ∧ PathAt C H p D ns r ∧ Bd D ∧ 2 ≤ ns.length ∧ ns.length ≤ 20 ∧
  ∀ q H', H q = none → Same H H' → H' q = some (.tup ((plc D ns (lat D ns (ns.length - 1 - 1) x) x ++ [D.len (rn ns (lat D ns (ns.length - 1 - 1) x)) (rn ns (lat D ns (ns.length - 1 - 1) x + 1))]).map V.int)) → Q (.ref q) H'
def spPiece (C : Addr) : Sp := fun vs H Q _ => ∃ (p r : Addr) (D : CD) (ns : List Str) (f l : Int), vs = [.ref p, .int f, .int l] ∧ PathAt C H p D ns r ∧ Bd D ∧ 2 ≤ ns.length ∧ ns.length ≤ 20 ∧ f ≤ l ∧
  ∀ q H', H q = none → Same H H' → LoT H' q (pcs D ns f l) → Q (.ref q) H'
def spJoin (C : Addr) : Sp := fun vs H Q _ => ∃ (p ch r dx l1 l2 l3 l4 : Addr) (D : CD) (ns : List Str) (i : Nat) (sa va : List Addr), vs = [.ref p, .ref ch, .str (rn ns i), .str (rn ns (i + 1))] ∧ ChartAt H ch D ∧ PathP C H p D ns r i dx l1 l2 l3 l4 sa va ∧
  (∃ l, D.leg (rn ns i) (rn ns (i + 1)) = some l) ∧ i ≤ 20 ∧ ∀ (s v : Addr) H', PathP C H' p D ns r (i + 1) dx l1 l2 l3 l4 (sa ++ [s]) (va ++ [v]) → (∀ b o, H b = some o → b ≠ l1 → b ≠ l2 → b ≠ l3 → b ≠ l4 → H' b = some o) → Q .non H'
def spPInit (C : Addr) : Sp := fun vs H Q _ => ∃ (p ch r dx : Addr) (D : CD) (ns : List Str), vs = [.ref p, .ref ch, .ref r] ∧ H p = some (.ins C dx []) ∧ ChartAt H ch D ∧ H r = some (.tup (ns.map V.str)) ∧ Route D ns ∧
  ∀ H', PathAt C H' p D ns r → (∀ b o, H b = some o → b ≠ p → H' b = some o) → Q .non H'
theorem ChartAt.fr {H H' : Hp} {ch p C dx : Addr} {fs : List (Str × V)} {D : CD} (Q : ChartAt H ch D) (hp : H p = some (.ins C dx fs)) (e : ∀ b o, H b = some o → b ≠ p → H' b = some o) : ChartAt H' ch D := by
  have e' : ∀ b o, H b = some o → (∀ C dx fs, o ≠ .ins C dx fs) → H' b = some o := fun b o h n => e b o h (ne_of h hp (n _ _ _))
  obtain ⟨⟨kvs, h1, h2, h3⟩, h4, h5, h6, h7, h8, h8', h9⟩ := Q
  exact ⟨⟨kvs, e' _ _ h1 (by intro _ _ _ z; cases z), h2, h3⟩, e' _ _ h4 (by intro _ _ _ z; cases z), e' _ _ h5 (by intro _ _ _ z; cases z), fun l hl => e' _ _ (h6 l hl) (by intro _ _ _ z; cases z),
    fun n a x y hp => let ⟨p1, p2, p3⟩ := h7 n a x y hp; ⟨p1, e' _ _ p2 (by intro _ _ _ z; cases z), p3⟩, h8, h8', h9⟩
/-! a class of the text, ready to be made -/
structure CDef (P : Program) (w : World) (K : PySem.W.Frag) (mg : Str → Option Value) (base : Heap) (k : Nat) (C : Addr) (x : Str) (ps : List Str) (sp : Sp) : Prop where
  ex : ∃ (f : Addr) (fd : FuncData), FnOk P w K mg base CX0 k f fd ps sp ∧ Mk K C f ∧ mg x = some (.ref C) ∧ Binds K fd ps []
theorem pe_cdef {X : Cx} {k : Nat} {C : Addr} {x : Str} {ps : List Str} {sp : Sp} {p pos : Pos} {e : Expr} {es : List Expr} {t : TA} (D : CDef X.prog X.w X.K X.mg X.base k C x ps sp) (hr : Room (k + 1) X.A) (hg : Gl X x)
    (ha : PA X (e :: es) t) (hdb : (x == ("__debug__" : Str)) = false := by decide) (he : starEach (e :: es) X.env = (false, eval e X.env) :: starEach es X.env := by rfl) (hpl : (backTo pos (starEach es X.env)).any (·.1) = false := by rfl) :
    PE X (.Call (.Name x p) (e :: es) [] pos) (tMake C sp [] E0 t) := by
  obtain ⟨f, fd, F, M, m, b⟩ := D.ex
  exact pe_make M F hr hg m b .nil pass0 ha hdb he hpl
/-! what the law's own defs promise -/
def bgs (D : CD) (ns : List Str) : List Int := (List.range ns.length).map (bg D ns)
theorem bgs_at {D : CD} {ns : List Str} {j : Nat} (h : j < ns.length) : ((bgs D ns).map V.int)[j]? = some (.int (bg D ns j)) := by
  unfold bgs
  rw [List.getElem?_map, List.getElem?_map, List.getElem?_range h]
  rfl
theorem bgs_len {D : CD} {ns : List Str} : ((bgs D ns).map V.int).length = ns.length := by
  unfold bgs
  rw [List.length_map, List.length_map, List.length_range]
theorem bgs_last {D : CD} {ns : List Str} (h : 0 < ns.length) : ((bgs D ns).map V.int).getLast? = some (.int (bg D ns (ns.length - 1))) := by
  rw [List.getLast?_eq_getElem?, bgs_len]
  exact bgs_at (by omega)
def spBegins : Sp := fun vs H Q _ => ∃ (ld r : Addr) (D : CD) (ns : List Str), vs = [.ref ld, .ref r] ∧ LenAt H ld D ∧ H r = some (.tup (ns.map V.str)) ∧ Route D ns ∧ ∀ b H', H b = none → Same H H' → H' b = some (.lst ((bgs D ns).map V.int)) → Q (.ref b) H'
def spLawLegAt : Sp := fun vs H Q _ => ∃ (b : Addr) (x : Int) (D : CD) (ns : List Str), vs = [.ref b, .int x] ∧ H b = some (.lst ((bgs D ns).map V.int)) ∧ 2 ≤ ns.length ∧ ns.length ≤ 20 ∧ Q (.int (lat D ns (ns.length - 1 - 1) x : Nat)) H
def spPlaceOn : Sp := fun vs H Q _ => ∃ (ch r b : Addr) (z x : Int) (D : CD) (ns : List Str) (k : Nat), vs = [.ref ch, .ref r, .ref b, .int z, .int x] ∧ z = (k : Int) ∧ ChartAt H ch D ∧ H r = some (.tup (ns.map V.str)) ∧ H b = some (.lst ((bgs D ns).map V.int)) ∧ Route D ns ∧ k + 1 < ns.length ∧
  ∀ q H', H q = none → Same H H' → H' q = some (.tup ((plc D ns k x ++ [D.len (rn ns k) (rn ns (k + 1))]).map V.int)) → Q (.ref q) H'
def spLawPiece : Sp := fun vs H Q _ => ∃ (ch r b : Addr) (f l : Int) (D : CD) (ns : List Str), vs = [.ref ch, .ref r, .ref b, .int f, .int l] ∧ ChartAt H ch D ∧ H r = some (.tup (ns.map V.str)) ∧ H b = some (.lst ((bgs D ns).map V.int)) ∧ Route D ns ∧ f ≤ l ∧
  ∀ q H', H q = none → Same H H' → LoT H' q (pcs D ns f l) → Q (.ref q) H'
def spRight (C : Addr) : Sp := fun vs H Q _ => ∃ (p ch ld r : Addr) (D : CD) (ns : List Str), vs = [.ref p, .ref ch, .ref ld, .ref r] ∧ PathAt C H p D ns r ∧ ChartAt H ch D ∧ LenAt H ld D ∧ Route D ns ∧ ∀ H', Same H H' → Q (.bl true) H'
def spProgress (K : PySem.W.Frag) : Sp := fun vs H Q _ => ∃ (d c b : Addr) (D : CD) (ns : List Str), vs = [.ref d, .ref b] ∧ St1 K H d c ∧ H b = some (.lst ((bgs D ns).map V.int)) ∧ Bd D ∧ 2 ≤ ns.length ∧ ns.length ≤ 20 ∧ ∀ z H', St1 K H' d c → Keep d H H' → Q (.int z) H'
def spAreNum : Sp := fun vs H Q _ => ∃ (l : Addr) (xss : List (List Int)), vs = [.ref l] ∧ LoT H l xss ∧ xss.length ≤ 100 ∧ (∀ xs ∈ xss, xs.length ≤ 100) ∧ ∀ H', Same H H' → Q (.bl true) H'
theorem segsOf_len (D : CD) (ns : List Str) (f l : Int) (ks : List Nat) : (segsOf D ns f l ks).length ≤ ks.length := List.length_filterMap_le _ _
theorem pcs_len (D : CD) (ns : List Str) (f l : Int) : (pcs D ns f l).length ≤ ns.length + 1 := by
  unfold pcs
  dsimp only
  generalize (if 0 > f then 0 else f) = u
  generalize (if bg D ns (ns.length - 1) < l then bg D ns (ns.length - 1) else l) = v
  split
  · exact Nat.zero_le _
  · split
    · show 1 ≤ _
      omega
    · have := segsOf_len D ns u v (List.range (ns.length - 1))
      rw [List.length_range] at this
      omega
theorem seg_len (D : CD) (ns : List Str) (k : Nat) (s e : Int) : (seg D ns k s e).length = 5 := rfl
theorem segOf_len {D : CD} {ns : List Str} {f l : Int} {k : Nat} {xs : List Int} (h : segOf D ns f l k = some xs) : xs.length = 5 := by
  unfold segOf at h
  dsimp only at h
  generalize (if bg D ns k > f then bg D ns k else f) = u at h
  generalize (if bg D ns (k + 1) < l then bg D ns (k + 1) else l) = v at h
  by_cases e : u < v
  · rw [if_pos e] at h
    rw [← Option.some.inj h, seg_len]
  · rw [if_neg e] at h
    cases h
theorem pcs_five (D : CD) (ns : List Str) (f l : Int) : ∀ xs ∈ pcs D ns f l, xs.length ≤ 100 := by
  unfold pcs
  dsimp only
  generalize (if 0 > f then 0 else f) = u
  generalize (if bg D ns (ns.length - 1) < l then bg D ns (ns.length - 1) else l) = v
  intro xs h
  split at h
  · cases h
  · split at h
    · rw [List.mem_singleton.mp h, seg_len]
      decide
    · obtain ⟨k, _, e⟩ := List.mem_filterMap.mp h
      rw [segOf_len e]
      decide
theorem Route.pt {H : Hp} {ch : Addr} {D : CD} {ns : List Str} (R : Route D ns) (C : ChartAt H ch D) {j : Nat} (h : j + 1 < ns.length) : (∃ a x y, D.pt (rn ns j) = some (a, x, y)) ∧ ∃ a x y, D.pt (rn ns (j + 1)) = some (a, x, y) := by
  obtain ⟨l, hl⟩ := R.ch j h
  obtain ⟨h1, h2, h3⟩ := CD.leg_mem hl
  have := C.wf l h1
  rw [h2, h3] at this
  exact this
/-! data that can be compared -/
theorem cla {xs : List PyData} (h : ∀ x ∈ xs, x.canLay0 = true) : PyData.canLayAll0 xs = true := by
  induction xs with
  | nil => rfl
  | cons x xs ih =>
    show (PyData.canLay0 x && PyData.canLayAll0 xs) = true
    rw [h x List.mem_cons_self, ih fun y hy => h y (List.mem_cons_of_mem _ hy)]
    rfl
theorem dpa {xs : List PyData} {n : Nat} (h : ∀ x ∈ xs, x.depth ≤ n) : PyData.depthAll xs ≤ n := by
  induction xs with
  | nil => exact Nat.zero_le _
  | cons x xs ih =>
    show max (PyData.depth x) (PyData.depthAll xs) ≤ n
    exact Nat.max_le.mpr ⟨h x List.mem_cons_self, ih fun y hy => h y (List.mem_cons_of_mem _ hy)⟩
theorem sh_of {d : PyData} (h1 : d.canLay0 = true) (h2 : d.depth ≤ 64) : SeqAt.shaped d = true := by
  unfold SeqAt.shaped
  rw [h1, decide_eq_true h2]
  rfl
theorem can_str {ns : List Str} (h : ∀ n ∈ ns, sOk n) : (PyData.tuple (ns.map PyData.str)).canLay0 = true := by
  show PyData.canLayAll0 _ = true
  refine cla fun x hx => ?_
  obtain ⟨n, hn, rfl⟩ := List.mem_map.mp hx
  exact h n hn
theorem sh_str {ns : List Str} (h : ∀ n ∈ ns, sOk n) : SeqAt.shaped (.tuple (ns.map PyData.str)) = true := by
  refine sh_of (can_str h) ?_
  show PyData.depthAll _ + 1 ≤ 64
  have : PyData.depthAll (ns.map PyData.str) ≤ 1 := dpa fun x hx => by
    obtain ⟨n, _, rfl⟩ := List.mem_map.mp hx
    exact Nat.zero_le _
  omega
theorem can_pd (xs : List Int) : (pdT xs).canLay0 = true := by
  show PyData.canLayAll0 _ = true
  refine cla fun x hx => ?_
  obtain ⟨n, hn, rfl⟩ := List.mem_map.mp hx
  rfl
theorem dep_pd (xs : List Int) : (pdT xs).depth ≤ 2 := by
  show PyData.depthAll _ + 1 ≤ 2
  have : PyData.depthAll (xs.map PyData.int) ≤ 1 := dpa fun x hx => by
    obtain ⟨n, _, rfl⟩ := List.mem_map.mp hx
    exact Nat.zero_le _
  omega
theorem sh_pd (xs : List Int) : SeqAt.shaped (pdT xs) = true := sh_of (can_pd xs) (Nat.le_trans (dep_pd xs) (by decide))
theorem can_pds (xss : List (List Int)) : (PyData.list (xss.map pdT)).canLay0 = true := by
  show PyData.canLayAll0 _ = true
  refine cla fun x hx => ?_
  obtain ⟨n, hn, rfl⟩ := List.mem_map.mp hx
  exact can_pd n
theorem sh_pds (xss : List (List Int)) : SeqAt.shaped (.list (xss.map pdT)) = true := by
  refine sh_of (can_pds xss) ?_
  show PyData.depthAll _ + 1 ≤ 64
  have : PyData.depthAll (xss.map pdT) ≤ 2 := dpa fun x hx => by
    obtain ⟨n, _, rfl⟩ := List.mem_map.mp hx
    exact dep_pd n
  omega
theorem dpAll_str {K : PySem.W.Frag} {H : Hp} : ∀ xs : List Str, DpAll K H (xs.map V.str) (xs.map PyData.str)
  | [] => .nil
  | x :: xs => .cons (.str x) (dpAll_str xs)
def pdL (l : Lg) : PyData := .tuple [.str l.s, .str l.e, .str l.c, .int l.lo, .int l.hi]
theorem can_lg {l : Lg} (h : sOk l.s ∧ sOk l.e ∧ sOk l.c) : (pdL l).canLay0 = true := by
  show (PyData.canLay0 (.str l.s) && (PyData.canLay0 (.str l.e) && (PyData.canLay0 (.str l.c) && (true && (true && true))))) = true
  have h1 : PyData.canLay0 (.str l.s) = true := h.1
  have h2 : PyData.canLay0 (.str l.e) = true := h.2.1
  have h3 : PyData.canLay0 (.str l.c) = true := h.2.2
  rw [h1, h2, h3]
  rfl
theorem dp_lg {K : PySem.W.Frag} {H : Hp} {l : Lg} (h : H l.a = some (.tup l.v)) : Dp K H (.ref l.a) (pdL l) := .tup (.inl (.inl h)) (.cons (.str _) (.cons (.str _) (.cons (.str _) (.cons (.int _) (.cons (.int _) .nil)))))
theorem sh_lg {l : Lg} (h : sOk l.s ∧ sOk l.e ∧ sOk l.c) : SeqAt.shaped (pdL l) = true := sh_of (can_lg h) (by
  show PyData.depthAll _ + 1 ≤ 64
  have : PyData.depthAll [.str l.s, .str l.e, .str l.c, .int l.lo, .int l.hi] ≤ 1 := dpa fun x hx => by
    simp only [List.mem_cons, List.not_mem_nil, or_false] at hx
    rcases hx with rfl | rfl | rfl | rfl | rfl <;> exact Nat.zero_le _
  omega)
theorem Route.sok {H : Hp} {ch : Addr} {D : CD} {ns : List Str} (R : Route D ns) (C : ChartAt H ch D) : ∀ n ∈ ns, sOk n := by
  intro n hn
  obtain ⟨j, hj, rfl⟩ := List.getElem_of_mem hn
  have e : ∀ i (h : i < ns.length), rn ns i = ns[i] := fun i h => by
    unfold rn
    rw [List.getD_eq_getElem?_getD, List.getElem?_eq_getElem h]
    rfl
  have n2 := R.n2
  by_cases h : j + 1 < ns.length
  · obtain ⟨l, hl⟩ := R.ch j h
    obtain ⟨h1, h2, _⟩ := CD.leg_mem hl
    have := (C.sk l h1).1
    rw [h2, e j hj] at this
    exact this
  · obtain ⟨i, rfl⟩ : ∃ i, j = i + 1 := ⟨j - 1, by omega⟩
    obtain ⟨l, hl⟩ := R.ch i hj
    obtain ⟨h1, _, h3⟩ := CD.leg_mem hl
    have := (C.sk l h1).2.1
    rw [h3, e (i + 1) hj] at this
    exact this
end Sk

set_option Elab.async false
set_option linter.all false
set_option maxRecDepth 100000
set_option maxHeartbeats 4000000
namespace Sk
open PySem PySem.Spec PyProof.Rows L2 GenW GxR
/-! tables of code objects, and the end of a law with several of them -/
def Tabs (T : List Addr) (H : Hp) : Prop := ∀ P ∈ T, TabG H P
/-- all that stood stands, but the tables may have grown -/
structure SameT (T : List Addr) (H H' : Hp) : Prop where
  keep : ∀ b o, H b = some o → b ∉ T → H' b = some o
  tabs : Tabs T H → Tabs T H'
theorem SameT.refl (T : List Addr) (H : Hp) : SameT T H H := ⟨fun _ _ e _ => e, id⟩
theorem SameT.trans {T : List Addr} {H H1 H2 : Hp} (a : SameT T H H1) (b : SameT T H1 H2) : SameT T H H2 := ⟨fun c o e n => b.keep c o (a.keep c o e n) n, fun t => b.tabs (a.tabs t)⟩
theorem SameT.of {T : List Addr} {H H' : Hp} (s : Same H H') : SameT T H H' := ⟨fun c o e _ => s c o e, fun t P hP => by
  obtain ⟨ps, e, r⟩ := t P hP
  exact ⟨ps, s _ _ e, r⟩⟩
theorem SameT.tabbed {T : List Addr} {P : Addr} {H H' : Hp} (hP : P ∈ T) (t : Tabbed P H H') : SameT T H H' := ⟨fun c o e n => by
    rw [t.2 c fun z => n (by rw [z]; exact hP)]
    exact e, fun s Q hQ => by
    by_cases z : Q = P
    · rw [z]; exact t.1
    · obtain ⟨ps, e, r⟩ := s Q hQ
      exact ⟨ps, by rw [t.2 Q z]; exact e, r⟩⟩
theorem tabs_out {T : List Addr} {H : Hp} {a : Addr} {o : HO} (t : Tabs T H) (e : H a = some o) (n : ∀ ps, o ≠ .tbl ps) : a ∉ T := fun h => by
  obtain ⟨ps, e', _⟩ := t a h
  rw [e] at e'
  exact n ps (Option.some.inj e')
section
variable {T : List Addr} {H H' : Hp} {a : Addr}
theorem SameT.t {xs : List V} (s : SameT T H H') (t : Tabs T H) (e : H a = some (.tup xs)) : H' a = some (.tup xs) := s.keep a _ e (tabs_out t e fun ps z => by cases z)
theorem SameT.l {xs : List V} (s : SameT T H H') (t : Tabs T H) (e : H a = some (.lst xs)) : H' a = some (.lst xs) := s.keep a _ e (tabs_out t e fun ps z => by cases z)
theorem SameT.d {kvs : List (Key × V)} (s : SameT T H H') (t : Tabs T H) (e : H a = some (.dK kvs)) : H' a = some (.dK kvs) := s.keep a _ e (tabs_out t e fun ps z => by cases z)
theorem SameT.i {C d : Addr} {fs : List (Str × V)} (s : SameT T H H') (t : Tabs T H) (e : H a = some (.ins C d fs)) : H' a = some (.ins C d fs) := s.keep a _ e (tabs_out t e fun ps z => by cases z)
theorem Same.tabs (s : Same H H') (t : Tabs T H) : Tabs T H' := (SameT.of s).tabs t
theorem Keep.tabs {d : Addr} {kvs : List (Key × V)} (k : Keep d H H') (hd : H d = some (.dK kvs)) (t : Tabs T H) : Tabs T H' := fun P hP => by
  obtain ⟨ps, e, r⟩ := t P hP
  exact ⟨ps, k _ _ e (ne_of e hd (by intro z; cases z)), r⟩
theorem Tabs.new {p : Addr} {o : HO} (t : Tabs T H) (h : H p = none) : Tabs T (upd H p o) := Same.tabs (same_new h) t
theorem SameT.st1 {K : PySem.W.Frag} {d c : Addr} (s : SameT T H H') (t : Tabs T H) (S : St1 K H d c) : St1 K H' d c := by
  obtain ⟨ns, i, l, m, S⟩ := S
  exact ⟨ns, i, l, m, s.d t S.dc, s.l t S.cs, S.nn, S.i0, S.l0, S.m0, S.m1⟩
end
/-- a def whose code object is known -/
theorem okT {P : Program} {w : World} {K : PySem.W.Frag} {mg : Str → Option Value} {base : Heap} {x qual : Str} {st : Stmt} {f c : Addr} {fd : FuncData} {N ps : List Str} {k : Nat} {sp : Sp} (F : Fun K x qual st f fd) (hc : fd.code = .ref c) (S : FnScope N ps (defScope st)) (len : ∀ vs H Q E, sp vs H Q E → vs.length = ps.length)
    (hbody : ∀ (A : Around) (outer : List Env) (s : Shared) (H : Hp) (vs : List V) (Q : VK) (E : XK), Room k (A.deeper (envOfC qual (defScope st) s.heap.objs.size f (.ref c))) → sp vs H Q E →
      ∃ t, PSs (cxOf CX0 P w K mg base N qual (defScope st) f (.ref c) A outer s H E).nox (defBody st) t ∧ t { nx := fun _ H' => Q .non H', rt := Q } (start N vs) H) : FnOk P w K mg base CX0 (k + 1) f fd ps sp := by
  obtain ⟨oc, od, kV, doc, pm, an, cdv, ct, osl, rfl, lk, hcd⟩ := F.ex
  have e : cdv = .ref c := hc
  subst e
  refine fn_of lk hcd S len fun A outer s H vs Q E hr hsp => ?_
  obtain ⟨t, h, q⟩ := hbody A outer s H vs Q E hr hsp
  exact ⟨t, h.nox, q⟩
theorem walk_tabs {l : PySem.W.OpenLaw} {n k : Nat} {q : Program} {loose : List Str} {XP : (Str → Option Value) → Heap → Prop} {YP : World → Heap → Prop} {d : DefRec} {K : Params → PySem.W.Frag} {CX : World → CXT} {x : Str}
    (hn : l.most = some n) (hn2 : n ≤ sizeLine) (hdf : d.params.defaults = []) (hr : Room k callerA) (hY : ∀ (w : World) (h : Heap), YP w h → (K w.params).In h)
    (F : ∀ (w : World) (mg : Str → Option Value) (fa : Addr) (h : Heap), (K w.params).In h → h.Ns mainGlobals mg → mg d.name = some (.ref fa) →
      (∀ (y : Str) (e : DefRec) (c P : Addr), (recsOf q).find? (fun e => e.name == y) = some e → PySem.W.tabIn (K w.params) y = some (c, P) → PySem.W.CodeHd h c P ∧ h.get? P = some { cls := .none, data := .fields #[] }) → LamX.LawAtS l w (K w.params) (CX w) k n x mg fa h)
    (hCX : ∀ (w : World) (H : Hp) (s : Shared) (e : Value) (s' : Shared), CX w [] H s (fun _ _ _ => False) e s' → False) :
    PySem.W.WalkO q loose XP YP l.row.toRowW d [] (fun f vs => PySem.call f vs) := by
  refine Att.attach_callB hn hdf fun w s₀ s₁ mg mb fa o pm cd doc a vs ns G Y ho hd hcd hmg hobj hints hlen hbits hg => ?_
  have KX := hY w _ Y
  obtain ⟨fd, cs, sp, hT, nT, C, hb, hsp, hF⟩ := F w mg fa _ KX G.T.g hmg fun y e c P hf ht => PySem.W.tab_of G.T KX hf ht
  exact LamX.law_callTs KX G.T.g G.T.b G.T.builtins G.T.nolimit hg hT nT C G.T.bmain hobj hints (Nat.le_trans hlen hn2) hr hF hb (fun H hH hS => hsp H a ns hlen hbits hH hS) fun H e s' => hCX w H s₁ e s'
end Sk

set_option Elab.async false
set_option linter.all false
set_option maxRecDepth 100000
set_option maxHeartbeats 4000000
namespace Sk
open PySem PySem.Spec PyProof.Rows L2 NdefX
/-! own error classes over ValueError, or over an own class over it, whose __init__ begins with super().__init__(e) -/
/-- what super() in the __init__ of C wants -/
structure SupOk (P : Program) (K : PySem.W.Frag) (C cc cda : Addr) : Prop where
  cell : ∃ cl cld csl, K.lookup cc = some ⟨cl, cld, .cell (some (.ref C)), csl⟩
  code : ∃ ccl cdd vs ccs file tf, K.lookup cda = some ⟨ccl, cdd, .fields vs, ccs⟩ ∧ vs[2]? = some (.str file tf) ∧ ((P.main.file : Str) == file) = true
  top : (P.main.scope.names.lookup ("super" : Str)).isSome = false
  sub : PySem.W.mroIn K C (.ref C) = some true
  init : PySem.W.ks_superIn K C C "__init__" = some (some (.builtin "ValueError.__init__"))
  noq : PySem.W.nsIn K cStatics "thirdparty.any" = some none
  ve : PySem.W.subIn K (.ref C) (.type "ValueError") = some true
section
variable {P : Program} {w : World} {K : PySem.W.Frag} {mg : Str → Option Value} {base : Heap} {f cc cda C : Addr} {name qual : Str} {params : Arguments} {body rest : List Stmt} {scope : Scope} {kV doc pm ct oc : Value} {an od : Option Addr} {osl : Array (Option Value)} {N ps : List Str} {sp : Sp} {k : Nat}
abbrev errNF (name qual : Str) (params : Arguments) (body : List Stmt) (scope : Scope) (cc cda : Addr) : NF := ⟨name, qual, params, body, scope, [("__class__", cc)], cda⟩
/-- the wrapper at u, bound to the error at a, called -/
theorem call_mw {X : Cx} {σ : L2.St} {H : Hp} {s : Shared} {a u : Addr} {us : List Value} {Q : Value → Shared → Prop} {pins : List (Addr × Obj)} {A : Around} {E : Value → Shared → Prop} (T : OexC X.K C) (I : Inv X pins σ H s) (e : H a = some (exo a C none))
    (hu : s.heap.get? u = some (PySem.W.kxs_mw "ValueError.__init__" a)) (hl : us.length ≤ sizeLine) (h : ∀ s', Inv X pins σ H s' → Q .none s') : wpAny (model X.prog X.w) A (call (.ref u) us) Q E s := by
  obtain ⟨nm, q, N, bs, bm, sn, sub, ab, col, dd, k0, k1, k2, k3, k5, hC, hbm⟩ := T.cls
  obtain ⟨t1, ho⟩ := exo_at I.hok e
  have hC' := I.kIn _ _ hC
  obtain ⟨hp, g, d, t, os⟩ := s
  have fin : ∀ h', (∀ b o, b ≠ a → hp.get? b = some o → h'.get? b = some o) → (∃ t2 : Addr, h'.get? a = some ({ cls := .ref C, dict := none, data := .fields #[.ref t2, .none, .none, .none, .bool false, .none] } : Obj)) → Q .none ⟨h', g, d, t, os⟩ := fun h' k ⟨t2, hx⟩ => by
    have J := I.write (t' := t) (x := a) (e := a) (o := exo a C none) (by rw [e]; exact True.intro) (.inl rfl) k ⟨_, hx⟩ (exo_ok hx)
    have eu : upd H a (exo a C none) = H := by
      funext b
      by_cases hb : b = a
      · rw [hb, upd_same, e]
      · rw [upd_ne hb]
    rw [eu] at J
    exact h _ J
  refine wpAny_call (codeAny_of_tree ?_)
  show wpAny _ A.in1 (callAny (.ref u) ⟨us, []⟩) _ _ _
  simp only [callAny]
  refine wpAny_bind (wpAny_load hu ?_)
  simp only [PySem.W.kxs_mw, show (Value.type "method-wrapper" == Value.type "method" || Value.type "method-wrapper" == Value.type "builtin_function_or_method" || Value.type "method-wrapper" == Value.type "method-wrapper") = true by decide, if_true]
  refine PySem.W.KFB.if_so (by decide) ?_
  refine wpAny_bind (PySem.W.check_bound_init F.excBase_ValueError.toExcCallFacts hC' ho rfl ?_)
  refine wpAny_bind (wpAny_pure (wpAny_pure ?_))
  refine ⟨plainId_quiet F.excBase_ValueError.init.plain _, codeAny_builtin F.excBase_ValueError.initEntry ?_⟩
  exact PySem.W.exc_init_tree (cls := .ref C) (t0 := t1) (dv := none) (c2 := .none) (c3 := .none) (b4 := .bool false) ho hl fun h' k hx _ => fin h' k ⟨_, hx⟩
/-- THE RULE: an own error's __init__ -/
theorem fn_err {CX : CXT} {e : Expr} {pl : Sem Bool} {p0 p1 p2 p3 p4 : Pos} {ar : Arg} (hbd : body = .Expr (.Call (.Attribute (.Call (.Name "super" p0) [] [] p1) "__init__" p2) [e] [] p3) p4 :: rest)
    (lk : K.lookup f = some ⟨oc, od, .func (PySem.W.ksFn name qual params body scope .none kV doc pm an (.ref cda) ct cc), osl⟩) (hcd : PySem.W.codeIn K (.ref cda) qual = true) (S : NScope N ps ["__class__"] scope)
    (hp : (params.posonlyargs ++ params.args).head? = some ar) (har : ps[0]? = some ar.arg) (U : SupOk P K C cc cda) (T : OexC K C) (msup : mg "super" = none)
    (hks : scope.names.lookup ("super" : Str) = some .globalImplicit) (len : ∀ vs H Q E, sp vs H Q E → vs.length = ps.length)
    (he : ∀ env : Env, starEach [e] env = (false, eval e env) :: starEach [] env)
    (hev : ∀ env : Env, eval (.Call (.Attribute (.Call (.Name "super" p0) [] [] p1) "__init__" p2) [e] [] p3) env = (do
      let ov ← attributeBase (.Call (.Name "super" p0) [] [] p1) "__init__" env (eval (.Call (.Name "super" p0) [] [] p1) env)
      standAt p2.atName
      let (f, first) ← holding [ov] (getMethod ov "__init__" pl)
      callWith p3 f first (backTo p3 (starEach [e] env)) []))
    (hbody : ∀ (A : Around) (outer : List Env) (s : Shared) (H : Hp) (vs : List V) (Q : VK) (E : XK), Room k (A.deeper (envF (errNF name qual params body scope cc cda) f s.heap.objs.size)) → sp vs H Q E →
      ∃ (a : Addr) (vs' : List V) (te : TE) (t : TS), vs = .ref a :: vs' ∧ H a = some (exo a C none) ∧ PE (ncx CX P w K mg base N (errNF name qual params body scope cc cda) f A outer s H E) e te ∧ PSs (ncx CX P w K mg base N (errNF name qual params body scope cc cda) f A outer s H E) rest t ∧
        te (startF N vs [some (.ref C)]) H fun v H1 => [v].length ≤ 1000 ∧ H1 a = some (exo a C none) ∧ t { nx := fun _ H' => Q .non H', rt := Q } (startF N vs [some (.ref C)]) H1) :
    FnOk P w K mg base CX (k + 1) f (PySem.W.ksFn name qual params body scope .none kV doc pm an (.ref cda) ct cc) ps sp := by
  refine ⟨len, fun A outer s H args us vs Q E hr e0 hbn r hsp => ?_⟩
  have hl := len _ _ _ _ hsp
  have KX : K.In s.heap := e0.mod.kin.keeps fun b o e => (e0.bs b o e).1
  have lim : s.heap.NoLimit := e0.mod.nolimit.keeps fun b o e => (e0.bs b o e).1
  obtain ⟨cl, cld, csl, hcell⟩ := U.cell
  obtain ⟨ccl, cdd, vsc, ccs, file, tf, hcode, hvs, hfile⟩ := U.code
  obtain ⟨a, vs', te, t, rfl, ea, pe, pss, hq⟩ := hbody A outer s H vs Q E (hr.deeper _) hsp
  have hloc : ∀ y ∈ ps.zip us, scope.names.lookup y.1 = some .local := fun ⟨n, v⟩ hy => S.par n (List.of_mem_zip hy).1
  refine ks_codeAny_call_defAt (fd := PySem.W.ksFn name qual params body scope .none kV doc pm an (.ref cda) ct cc) (body := body) (binds := ps.zip us) hr.depth (KX _ _ lk) rfl lim (PySem.W.codeRec_of KX hcd) rfl hbn S.nocell hloc (fun h₁ hns kp => ?_) S.co S.gen S.kind
  have Ce : CellsAt [("__class__", cc)] ["__class__"] [some (V.ref C)] s.heap H := ⟨rfl, fun y c h => by
      have hc : c = cc := by
        by_cases z : y = "__class__"
        · subst z; simp [List.lookup] at h; exact h.symm
        · have : (y == ("__class__" : Str)) = false := by simpa using z
          simp [List.lookup, this] at h
      subst hc
      exact ⟨(e0.bs _ _ (e0.mod.kin _ _ hcell)).2, _, _, (e0.bs _ _ (e0.mod.kin _ _ hcell)).1, rfl⟩, fun x y c hx hy => by
      have one : ∀ z : Str, ([("__class__", cc)] : List (Str × Addr)).lookup z = some c → z = "__class__" := fun z h => by
        by_cases q : z = "__class__"
        · exact q
        · have : (z == ("__class__" : Str)) = false := by simpa using q
          simp [List.lookup, this] at h
      rw [one x hx, one y hy], fun i y hi => by
      have hy : i = 0 ∧ y = "__class__" := by
        match i, hi with
        | 0, h => exact ⟨rfl, (Option.some.inj h).symm⟩
        | i + 1, h => simp at h
      obtain ⟨rfl, rfl⟩ := hy
      refine ⟨cc, by simp [List.lookup], fun v hv => ?_⟩
      cases hv
      exact ⟨.ref C, rfl, _, (e0.bs _ _ (e0.mod.kin _ _ hcell)).1, rfl⟩⟩
  have I : Inv (ncx CX P w K mg base N (errNF name qual params body scope cc cda) f A outer s H E) [] (startF N (.ref a :: vs') [some (.ref C)]) H { s with heap := h₁, toks := s.toks + (ps.zip us).length } := inv_startN (F := errNF name qual params body scope cc cda) S hr.hd e0 hl r Ce hns kp
  obtain ⟨nm, q, Nn, bs, bm, sn, sub, ab, col, dd, k0, k1, k2, k3, k5, hC, hbm⟩ := T.cls
  have hcl : PySem.W.clsIn K C = some { name := nm, bases := bs, mro := .ref C :: bm, ns := Nn, qualname := q, hasDict := true, slotNames := sn, subclasses := sub, abstract := ab, collection := col, hasDel := false } := by unfold PySem.W.clsIn; rw [hC] <;> rfl
  obtain ⟨t1, ho⟩ := exo_at I.hok ea
  have XI := I.kIn
  have KI : K.In h₁ := XI
  obtain ⟨m, hn, hm⟩ := I.loc
  have hself : m ar.arg = some (.ref a) := by
    have hN : N[0]? = some ar.arg := by
      have h0 : ps.length ≠ 0 := fun z => by rw [List.getElem?_eq_none (by omega)] at har; cases har
      have q : (N.take (ps.length + (["__class__"] : List Str).length))[0]? = (ps ++ (["__class__"] : List Str))[0]? := by rw [S.pre]
      rw [List.getElem?_take_of_lt (by omega), List.getElem?_append_left (by omega), har] at q
      exact q
    have hz := S.par ar.arg (List.mem_of_getElem? har)
    obtain ⟨u, ru, lk2⟩ := hm 0 ar.arg (.ref a) hN rfl (.inl hz)
    have eu : u = .ref a := ru
    subst eu
    rcases lk2 with ⟨_, e⟩ | ⟨h, _⟩
    · exact e
    · rcases h with h | h
      · have := hz.symm.trans h; cases this
      · have := hz.symm.trans h; cases this
  have hza : scope.names.lookup ar.arg = some .local := S.par ar.arg (List.mem_of_getElem? har)
  have hzc : scope.names.lookup ("__class__" : Str) = some .free := S.frk _ (List.mem_singleton.mpr rfl)
  obtain ⟨mb, hb1, hb2⟩ := e0.mod.blt
  subst hbd
  refine ks_wpAt_execs_cons (ks_wpAt_Expr_any (ks_wpAt_MethodCall (pl := pl) ?_ (hev _)) I.quiet)
  refine ks_wpAt_super_base (cc := cda) (f := f) (env := PySem.W.ksEnv qual scope s.heap.objs.size f (.ref cda) cc) hks hzc rfl rfl (KI _ _ lk) rfl hp rfl (KI _ _ hcode) rfl hvs hfile U.top ?_
  refine PySem.W.ks_loadName_global S.kind hks (Calls.loadGlobal_builtin (e0.mod.glob.keeps fun b o e => kp b o (e0.bs b o e).1) msup (hb1.keeps fun b o e => kp b o (e0.bs b o e).1) ((hb2 _ (by decide)).trans (by decide +kernel)) ⟨rfl, ?_⟩)
  refine wpAny_loadName_free S.kind hzc rfl ⟨_, KI _ _ hcell, rfl⟩ ?_
  refine wpAny_loadName_local S.kind hza hn hself ?_
  refine ks_wpAny_isType_cls (KI _ _ hC) rfl ⟨rfl, ?_⟩
  refine ks_wpAny_call_super (KI _ _ hC) rfl ho rfl (fun c e => by cases e) (PySem.W.looks_mroIn KI U.sub) (fun h2 e2 k2 => ?_)
  have KI2 : K.In h2 := KI.keeps k2
  have ho2 := k2 _ _ ho
  have hi := U.init
  unfold PySem.W.ks_superIn at hi
  rw [hcl, Option.bind_some] at hi
  have II : PySem.W.InstAt h2 a ({ cls := .ref C, dict := none, data := .fields #[.ref t1, .none, .none, .none, .bool false, .none] } : Obj) C none := ⟨ho2, rfl, rfl, trivial⟩
  refine PySem.W.kxs_getMethod PySem.W.kxs_ValueError e2 (PySem.W.looks_opaque KI2 U.noq) (l₀ := .ref C :: bm) ?_ rfl KI2 hi (II.type.andThen (PySem.W.looks_subIn KI2 U.ve)) (PySem.W.ks_ne KI2 II hcl) rfl ?_
  · exact fun A Q E s k q => wpAny_bind ((PySem.W.looks_clsIn KI2 hcl) A _ E s k (wpAny_pure q))
  -- the super object and the wrapper stand beside what is told
  have k3 : ∀ b o, h₁.get? b = some o → (h2.push (PySem.W.kxs_mw "ValueError.__init__" a)).get? b = some o := fun b o e => Heap.get?_push_of_some _ (k2 _ _ e)
  have hu3 : (h2.push (PySem.W.kxs_mw "ValueError.__init__" a)).get? h2.objs.size = some (PySem.W.kxs_mw "ValueError.__init__" a) := Heap.get?_push_at rfl rfl
  have hsz : h₁.objs.size ≤ h2.objs.size := Nat.le_of_lt (Heap.lt_size e2)
  have I3 := (I.kept (t' := s.toks + (ps.zip us).length + 1) k3).pins_of (pins' := [(h2.objs.size, PySem.W.kxs_mw "ValueError.__init__" a)]) fun p hp => by
    rw [List.mem_singleton.mp hp]
    refine ⟨hu3, I.hok.fresh hsz, fun z => ?_, fun z => I.nofs hsz z, fun v z => by cases z⟩
    have y := I.lt
    have z' : h2.objs.size = s.heap.objs.size := z
    have y' : s.heap.objs.size < h₁.objs.size := y
    omega
  show wpAny _ _ (callWith p3 (.ref h2.objs.size) [] (backTo p3 (starEach [e] _)) []) _ _ _
  rw [he]
  refine PySem.W.kxs_callWith (i := "ValueError.__init__") (x := a) rfl (Calls.evalArgs_plain (rest := []) ?_)
  have run := (pa_cons pe pa_nil (he _)).run p3 [(h2.objs.size, PySem.W.kxs_mw "ValueError.__init__" a)] _ _ H (fun vs H1 => vs.length ≤ 1000 ∧ H1 a = some (exo a C none) ∧ t { nx := fun _ H' => Q .non H', rt := Q } (startF N (.ref a :: vs') [some (.ref C)]) H1) I3 hq
  rw [he] at run
  refine wpAny_mono run (fun us2 s4 hs4 => ?_) fun _ _ x => x
  obtain ⟨vs4, H4, I4, r4, hl4, ea4, q4⟩ := hs4
  have hu4 := (I4.pin (h2.objs.size, PySem.W.kxs_mw "ValueError.__init__" a) (by simp)).1
  refine ⟨hu4, call_mw T I4 ea4 hu4 (by show us2.length ≤ _; rw [← Paired.length r4, sizeLine_eq]; omega) fun s5 I5 => ?_⟩
  refine wpAt_of_wpAny (wpAny_mono (pss.run _ s5 _ H4 _ I5 q4) (fun fl s' hs => ?_) fun e s' hs => hs)
  cases fl with
  | ret u =>
    obtain ⟨v, σ', H', J, rv, q⟩ := hs
    exact ⟨v, H', J.os, J.bare, J.base, J.hok, rv, q⟩
  | next =>
    obtain ⟨σ', H', J, q⟩ := hs
    exact ⟨V.non, H', J.os, J.bare, J.base, J.hok, rfl, q⟩
  | brk =>
    obtain ⟨_, _, _, q⟩ := hs
    exact False.elim q
  | cont =>
    obtain ⟨_, _, _, q⟩ := hs
    exact False.elim q
end
end Sk

set_option Elab.async false
set_option linter.all false
set_option maxRecDepth 100000
set_option maxHeartbeats 4000000
namespace Sk
open PySem PySem.Spec PyProof.Rows L2 NdefX
/-! own errors, raised and caught; defs that may raise -/
/-- an own error class, ready to be made by its name -/
structure ErrD (P : Program) (w : World) (K : PySem.W.Frag) (mg : Str → Option Value) (base : Heap) (k : Nat) (x : Str) (C : Addr) (ps : List Str) (sp : Sp) : Prop where
  ex : ∃ (f : Addr) (fd : FuncData), FnOk P w K mg base CX0 k f fd ps sp ∧ Binds K fd ps [] ∧ PySem.W.findIn K (.ref C) "__init__" = some (some (.ref f)) ∧ PySem.W.typeIn K (.ref f) = some (.type "function")
  gC : mg x = some (.ref C)
  T : OexC K C
  te : PySem.W.exmOne K (.ref C) (.ref C) = some true
/-- code and tick, as the error's own dict tells them -/
def ctK (s : Str) (t : Int) : List (Str × V) := [("tick", .int t), ("code", .str s)]
def spCErr (C : Addr) : Sp := fun vs H Q _ => ∃ (a : Addr) (s : Str) (t : Int), vs = [.ref a, .str s, .int t] ∧ H a = some (exo a C none) ∧ s.length ≤ 1000 ∧ t.natAbs < 2 ^ 250 ∧
  ∀ dx, H dx = none → dx ≠ a → Q .non (upd (upd (upd H dx (exd dx [("code", .str s)])) a (exo a C (some dx))) dx (exd dx (ctK s t)))
theorem err_heap {H : Hp} {a dx C : Addr} {s : Str} {t : Int} (ha : H a = none) (hd : H dx = none) (n : dx ≠ a) :
    upd (del (upd (upd (upd (upd H a (exo a C none)) dx (exd dx [("code", .str s)])) a (exo a C (some dx))) dx (exd dx (ctK s t))) a) dx (.xd (ctK s t)) = upd H dx (.xd (ctK s t)) := by
  funext b
  by_cases h1 : b = dx
  · rw [h1, upd_same, upd_same]
  · rw [upd_ne h1, upd_ne h1]
    by_cases h2 : b = a
    · rw [h2, del_same, ha]
    · rw [del_ne h2, upd_ne h1, upd_ne h2, upd_ne h1, upd_ne h2]
section
variable {X : Cx} {k : Nat} {x : Str} {C : Addr} {p pos pos2 : Pos} {e1 e2 : Expr} {ta : TA} {W : WX}
/-- raise C(code, tick) -/
def tRaiseC (C : Addr) (W : WX) (ta : TA) : TS := fun _ σ H => ta σ H fun vs H1 => ∃ (s : Str) (t : Int), vs = [.str s, .int t] ∧ s.length ≤ 1000 ∧ t.natAbs < 2 ^ 250 ∧ ∀ d, H1 d = none → W (.ref C) (some d) σ (upd H1 d (.xd (ctK s t)))
theorem pmk_err {ps : List Str} {sp : Sp} (D : ErrD X.prog X.w X.K X.mg X.base k x C ps sp) (hr : Room (k + 1) X.A) (hg : Gl X x) (ha : PA X (e1 :: [e2]) ta) (hdb : (x == ("__debug__" : Str)) = false := by decide)
    (he : starEach (e1 :: [e2]) X.env = (false, eval e1 X.env) :: starEach [e2] X.env := by rfl) (hpl : (backTo pos (starEach [e2] X.env)).any (·.1) = false := by rfl) : PMk X (.Call (.Name x p) (e1 :: [e2]) [] pos) (tMkO C sp [] ta) := by
  obtain ⟨f, fd, F1, b, iC, tI⟩ := D.ex
  exact pmk_oex D.T iC tI F1 hr b .nil pass0 hg D.gC ha hdb he hpl
theorem tMk_of {σ : L2.St} {H : Hp} {Q : XK} (mono : ∀ σ H (R R' : List V → Hp → Prop), (∀ vs H, R vs H → R' vs H) → ta σ H R → ta σ H R') (h : ta σ H fun vs H1 => ∃ (s : Str) (t : Int), vs = [.str s, .int t] ∧ s.length ≤ 1000 ∧ t.natAbs < 2 ^ 250 ∧ ∀ d, H1 d = none → Q (.ref C) (some d) (upd H1 d (.xd (ctK s t)))) : tMkO C (spCErr C) [] ta σ H Q := by
  refine mono _ _ _ _ (fun vs H1 ⟨s, t, ev, hs, ht, q⟩ => ?_) h
  subst ev
  refine ⟨(by show 2 ≤ 1000; decide), fun a ha => ⟨a, s, t, rfl, upd_same, hs, ht, fun dx hdx n => ?_⟩⟩
  have hd1 : H1 dx = none := by rw [upd_ne n] at hdx; exact hdx
  refine ⟨rfl, dx, ctK s t, ?_, upd_same, hd1, ?_⟩
  · rw [upd_ne (Ne.symm n), upd_same]
  · rw [err_heap ha hd1 n]
    exact q dx hd1
/-- raise C(code, tick), both told by expressions -/
theorem ps_raiseC {te1 te2 : TE} (hc : X.calm = true) (D : ErrD X.prog X.w X.K X.mg X.base k x C ["self", "code", "tick"] (spCErr C)) (hr : Room (k + 1) X.A) (tk : Takes X W) (hg : Gl X x) (h1 : PE X e1 te1) (h2 : PE X e2 te2)
    (m1 : ∀ σ H (R R' : VK), (∀ v H, R v H → R' v H) → te1 σ H R → te1 σ H R') (m2 : ∀ σ H (R R' : VK), (∀ v H, R v H → R' v H) → te2 σ H R → te2 σ H R') (hdb : (x == ("__debug__" : Str)) = false := by decide)
    (he : starEach (e1 :: [e2]) X.env = (false, eval e1 X.env) :: starEach [e2] X.env := by rfl) (he2 : starEach (e2 :: []) X.env = (false, eval e2 X.env) :: starEach [] X.env := by rfl) (hpl : (backTo pos (starEach [e2] X.env)).any (·.1) = false := by rfl) :
    PS X (.Raise (some (.Call (.Name x p) (e1 :: [e2]) [] pos)) none pos2) (tRaiseC C W (tCons te1 (tCons te2 tNil))) := by
  have q := ps_raise (pos := pos2) hc tk (pmk_err (p := p) (pos := pos) D hr hg (pa_cons h1 (pa_cons h2 pa_nil he2) he) hdb he hpl)
  refine ⟨fun pins s σ H Dn I h => q.run pins s σ H Dn I ?_⟩
  exact tMk_of (fun σ H R R' im z => m1 _ _ _ _ (fun v H1 z => m2 _ _ _ _ (fun v2 H2 z => im _ _ z) z) z) h
end
/-- a def of the text that may raise, ready to be called by its name -/
structure DefX (P : Program) (w : World) (K : PySem.W.Frag) (mg : Str → Option Value) (base : Heap) (k : Nat) (x : Str) (ps : List Str) (sp : Sp) : Prop where
  ex : ∃ (f : Addr) (fd : FuncData), FnOk P w K mg base (L2.CX P w) k f fd ps sp ∧ mg x = some (.ref f) ∧ PySem.W.keepIn K (.ref f) = true ∧ Binds K fd ps []
theorem DefX.mk' {P : Program} {w : World} {K : PySem.W.Frag} {mg : Str → Option Value} {base : Heap} {k : Nat} {x qual : Str} {st : Stmt} {f : Addr} {fd : FuncData} {ps : List Str} {sp : Sp}
    (F : Fun K x qual st f fd) (b : Binds K fd ps []) (m : mg x = some (.ref f)) (G : FnOk P w K mg base (L2.CX P w) k f fd ps sp) : DefX P w K mg base k x ps sp := ⟨f, fd, G, m, F.kp, b⟩
theorem pe_defX {X : Cx} {W : WX} {k : Nat} {x : Str} {ps : List Str} {sp : Sp} {p pos : Pos} {e : Expr} {es : List Expr} {t : TA} (D : DefX X.prog X.w X.K X.mg X.base k x ps sp) (hr : Room k X.A) (hg : Gl X x) (tk : Takes X W)
    (ha : PA X (e :: es) t) (hdb : (x == ("__debug__" : Str)) = false := by decide) (he : starEach (e :: es) X.env = (false, eval e X.env) :: starEach es X.env := by rfl) (hpl : (backTo pos (starEach es X.env)).any (·.1) = false := by rfl) :
    PE X (.Call (.Name x p) (e :: es) [] pos) (tCallS sp (WE W) t) := by
  obtain ⟨f, fd, F, m, kp, b⟩ := D.ex
  exact pe_callS F hr hg m kp b (fun σ => passAt tk σ) ha hdb he hpl
/-- a def that may raise, whose code object is known -/
theorem okTX {P : Program} {w : World} {K : PySem.W.Frag} {mg : Str → Option Value} {base : Heap} {x qual : Str} {st : Stmt} {f c : Addr} {fd : FuncData} {N ps : List Str} {k : Nat} {sp : Sp} (F : Fun K x qual st f fd) (hc : fd.code = .ref c) (S : FnScope N ps (defScope st)) (len : ∀ vs H Q E, sp vs H Q E → vs.length = ps.length)
    (hbody : ∀ (A : Around) (outer : List Env) (s : Shared) (H : Hp) (vs : List V) (Q : VK) (E : XK), Room k (A.deeper (envOfC qual (defScope st) s.heap.objs.size f (.ref c))) → sp vs H Q E →
      ∃ t, PSs (cxOf (L2.CX P w) P w K mg base N qual (defScope st) f (.ref c) A outer s H E) (defBody st) t ∧ t { nx := fun _ H' => Q .non H', rt := Q } (start N vs) H) : FnOk P w K mg base (L2.CX P w) (k + 1) f fd ps sp := by
  obtain ⟨oc, od, kV, doc, pm, an, cdv, ct, osl, rfl, lk, hcd⟩ := F.ex
  have e : cdv = .ref c := hc
  subst e
  exact fn_of lk hcd S len fun A outer s H vs Q E hr hsp => hbody A outer s H vs Q E hr hsp
/-- a def that raises in one way and else promises as before -/
theorem natAbs_log {t : Int} (h : t.natAbs < 2 ^ 250) : t.natAbs.log2 < 1920 := by
  by_cases z : t.natAbs = 0
  · rw [z]; decide
  · exact (Nat.log2_lt z).mpr (Nat.lt_of_lt_of_le h (Nat.pow_le_pow_right (by decide) (by decide)))
end Sk

set_option Elab.async false
set_option linter.all false
set_option maxRecDepth 100000
set_option maxHeartbeats 4000000
namespace Sk
open PySem PySem.Spec PyProof.Rows L2 NdefX
/-! own errors with one field, code -/
def cdK (s : Str) : List (Str × V) := [("code", .str s)]
def spCErr1 (C : Addr) : Sp := fun vs H Q _ => ∃ (a : Addr) (s : Str), vs = [.ref a, .str s] ∧ H a = some (exo a C none) ∧ s.length ≤ 1000 ∧
  ∀ dx, H dx = none → dx ≠ a → Q .non (upd (upd H dx (exd dx (cdK s))) a (exo a C (some dx)))
theorem err_heap1 {H : Hp} {a dx C : Addr} {s : Str} (ha : H a = none) (hd : H dx = none) (n : dx ≠ a) :
    upd (del (upd (upd (upd H a (exo a C none)) dx (exd dx (cdK s))) a (exo a C (some dx))) a) dx (.xd (cdK s)) = upd H dx (.xd (cdK s)) := by
  funext b
  by_cases h1 : b = dx
  · rw [h1, upd_same, upd_same]
  · rw [upd_ne h1, upd_ne h1]
    by_cases h2 : b = a
    · rw [h2, del_same, ha]
    · rw [del_ne h2, upd_ne h2, upd_ne h1, upd_ne h2]
section
variable {X : Cx} {k : Nat} {x : Str} {C : Addr} {p pos pos2 : Pos} {e1 : Expr} {ta : TA} {W : WX}
/-- raise C(code) -/
def tRaiseC1 (C : Addr) (W : WX) (ta : TA) : TS := fun _ σ H => ta σ H fun vs H1 => ∃ (s : Str), vs = [.str s] ∧ s.length ≤ 1000 ∧ ∀ d, H1 d = none → W (.ref C) (some d) σ (upd H1 d (.xd (cdK s)))
theorem pmk_err1 {ps : List Str} {sp : Sp} (D : ErrD X.prog X.w X.K X.mg X.base k x C ps sp) (hr : Room (k + 1) X.A) (hg : Gl X x) (ha : PA X (e1 :: []) ta) (hdb : (x == ("__debug__" : Str)) = false := by decide)
    (he : starEach (e1 :: []) X.env = (false, eval e1 X.env) :: starEach [] X.env := by rfl) (hpl : (backTo pos (starEach [] X.env)).any (·.1) = false := by rfl) : PMk X (.Call (.Name x p) (e1 :: []) [] pos) (tMkO C sp [] ta) := by
  obtain ⟨f, fd, F1, b, iC, tI⟩ := D.ex
  exact pmk_oex D.T iC tI F1 hr b .nil pass0 hg D.gC ha hdb he hpl
theorem tMk_of1 {σ : L2.St} {H : Hp} {Q : XK} (mono : ∀ σ H (R R' : List V → Hp → Prop), (∀ vs H, R vs H → R' vs H) → ta σ H R → ta σ H R') (h : ta σ H fun vs H1 => ∃ (s : Str), vs = [.str s] ∧ s.length ≤ 1000 ∧ ∀ d, H1 d = none → Q (.ref C) (some d) (upd H1 d (.xd (cdK s)))) : tMkO C (spCErr1 C) [] ta σ H Q := by
  refine mono _ _ _ _ (fun vs H1 ⟨s, ev, hs, q⟩ => ?_) h
  subst ev
  refine ⟨(by show 1 ≤ 1000; decide), fun a ha => ⟨a, s, rfl, upd_same, hs, fun dx hdx n => ?_⟩⟩
  have hd1 : H1 dx = none := by rw [upd_ne n] at hdx; exact hdx
  refine ⟨rfl, dx, cdK s, ?_, ?_, hd1, ?_⟩
  · rw [upd_same]
  · rw [upd_ne n, upd_same]
  · rw [err_heap1 ha hd1 n]
    exact q dx hd1
theorem ps_raiseC1 {te1 : TE} (hc : X.calm = true) (D : ErrD X.prog X.w X.K X.mg X.base k x C ["self", "code"] (spCErr1 C)) (hr : Room (k + 1) X.A) (tk : Takes X W) (hg : Gl X x) (h1 : PE X e1 te1)
    (m1 : ∀ σ H (R R' : VK), (∀ v H, R v H → R' v H) → te1 σ H R → te1 σ H R') (hdb : (x == ("__debug__" : Str)) = false := by decide)
    (he : starEach (e1 :: []) X.env = (false, eval e1 X.env) :: starEach [] X.env := by rfl) (hpl : (backTo pos (starEach [] X.env)).any (·.1) = false := by rfl) :
    PS X (.Raise (some (.Call (.Name x p) (e1 :: []) [] pos)) none pos2) (tRaiseC1 C W (tCons te1 tNil)) := by
  have q := ps_raise (pos := pos2) hc tk (pmk_err1 (p := p) (pos := pos) D hr hg (pa_cons h1 pa_nil he) hdb he hpl)
  refine ⟨fun pins s σ H Dn I h => q.run pins s σ H Dn I ?_⟩
  exact tMk_of1 (fun σ H R R' im z => m1 _ _ _ _ (fun v H1 z => im _ _ z) z) h
end
end Sk

set_option Elab.async false
set_option linter.all false
set_option maxRecDepth 100000
set_option maxHeartbeats 4000000
namespace Sk
open PySem PySem.Spec PyProof.Rows L2 PySem.W
/-! landings: arrivals, gaps, orders -/
structure Av where
  a : Addr
  w : Nat
  r : Int
  l : Int
def ArsAt (H : Hp) (ar : Addr) (zs : List Av) : Prop := H ar = some (.lst (zs.map fun z => V.ref z.a)) ∧ ∀ z ∈ zs, H z.a = some (.tup [.int (z.w : Nat), .int z.r, .int z.l])
structure GapAt (H : Hp) (g : Addr) (rs : Nat → Addr) (m : Nat → Nat → Int) : Prop where
  tu : H g = some (.tup [.ref (rs 0), .ref (rs 1), .ref (rs 2), .ref (rs 3)])
  ro : ∀ i, i < 4 → H (rs i) = some (.tup [.int (m i 0), .int (m i 1), .int (m i 2), .int (m i 3)])
theorem four_of {α : Type} (f : Nat → α) {j : Nat} (h : j < 4) : atI [f 0, f 1, f 2, f 3] (j : Int) = some (f j) := by
  match j, h with
  | 0, _ => rfl
  | 1, _ => rfl
  | 2, _ => rfl
  | 3, _ => rfl
/-- arrivals as the law draws them -/
structure OkAv (zs : List Av) : Prop where
  n6 : zs.length ≤ 6
  w4 : ∀ z ∈ zs, z.w < 4
  r0 : ∀ z ∈ zs, 0 ≤ z.r
section
variable {H H' : Hp} {ar g : Addr} {zs : List Av} {rs : Nat → Addr} {m : Nat → Nat → Int} {T : List Addr}
theorem ArsAt.same (A : ArsAt H ar zs) (s : Same H H') : ArsAt H' ar zs := ⟨s _ _ A.1, fun z h => s _ _ (A.2 z h)⟩
theorem ArsAt.st (A : ArsAt H ar zs) (s : SameT T H H') (t : Tabs T H) : ArsAt H' ar zs := ⟨s.l t A.1, fun z h => s.t t (A.2 z h)⟩
theorem ArsAt.keep {K : PySem.W.Frag} {d c : Addr} (A : ArsAt H ar zs) (S : St1 K H d c) (k : Keep d H H') : ArsAt H' ar zs := ⟨k.l S A.1, fun z h => k.t S (A.2 z h)⟩
theorem GapAt.same (G : GapAt H g rs m) (s : Same H H') : GapAt H' g rs m := ⟨s _ _ G.tu, fun i h => s _ _ (G.ro i h)⟩
theorem GapAt.st (G : GapAt H g rs m) (s : SameT T H H') (t : Tabs T H) : GapAt H' g rs m := ⟨s.t t G.tu, fun i h => s.t t (G.ro i h)⟩
theorem GapAt.keep {K : PySem.W.Frag} {d c : Addr} (G : GapAt H g rs m) (S : St1 K H d c) (k : Keep d H H') : GapAt H' g rs m := ⟨k.t S G.tu, fun i h => k.t S (G.ro i h)⟩
end
theorem rev_ind {P : List Nat → Prop} (h0 : P []) (h1 : ∀ o i, P o → P (o ++ [i])) (o : List Nat) : P o := by
  have h : P o.reverse.reverse := by
    induction o.reverse with
    | nil => exact h0
    | cons i q ih => rw [List.reverse_cons]; exact h1 _ _ ih
  rwa [List.reverse_reverse] at h
/-! ticks of landing -/
def mx (t x : Int) : Int := if x > t then x else t
theorem mx_le (t x : Int) : t ≤ mx t x := by unfold mx; split <;> omega
def tickL (m : Nat → Nat → Int) (ld : List (Nat × Int)) (z : Av) : Int := ld.foldl (fun t e => mx t (e.2 + m e.1 z.w)) z.r
def avI (zs : List Av) (i : Nat) : Av := zs.getD i ⟨0, 0, 0, 0⟩
def landF (m : Nat → Nat → Int) (zs : List Av) (o : List Nat) : List (Nat × Int) := o.foldl (fun ld i => ld ++ [((avI zs i).w, tickL m ld (avI zs i))]) []
def tks (m : Nat → Nat → Int) (zs : List Av) (o : List Nat) : List Int := (landF m zs o).map (·.2)
section
variable {m : Nat → Nat → Int} {zs : List Av} {o : List Nat} {i : Nat}
theorem avI_at (h : i < zs.length) : zs[i]? = some (avI zs i) := by
  unfold avI
  rw [List.getD_eq_getElem?_getD, List.getElem?_eq_getElem h]
  rfl
theorem avI_mem (h : i < zs.length) : avI zs i ∈ zs := List.mem_of_getElem? (avI_at h)
theorem landF_snoc : landF m zs (o ++ [i]) = landF m zs o ++ [((avI zs i).w, tickL m (landF m zs o) (avI zs i))] := by
  unfold landF
  rw [List.foldl_append]
  rfl
theorem tks_snoc : tks m zs (o ++ [i]) = tks m zs o ++ [tickL m (landF m zs o) (avI zs i)] := by
  unfold tks
  rw [landF_snoc, List.map_append]
  rfl
theorem landF_len : ∀ o : List Nat, (landF m zs o).length = o.length := by
  refine rev_ind rfl fun o i ih => ?_
  rw [landF_snoc, List.length_append, List.length_append, ih]
  rfl
theorem landF_w : ∀ o : List Nat, (landF m zs o).map (·.1) = o.map fun i => (avI zs i).w := by
  refine rev_ind rfl fun o i ih => ?_
  rw [landF_snoc, List.map_append, List.map_append, ih]
  rfl
theorem tks_len : (tks m zs o).length = o.length := by unfold tks; rw [List.length_map, landF_len]
theorem tickL_nn (ld : List (Nat × Int)) (z : Av) (h : 0 ≤ z.r) : 0 ≤ tickL m ld z := by
  have go : ∀ (ld : List (Nat × Int)) (t : Int), 0 ≤ t → 0 ≤ ld.foldl (fun t e => mx t (e.2 + m e.1 z.w)) t := by
    intro ld
    induction ld with
    | nil => exact fun t h => h
    | cons e ld ih => exact fun t h => ih _ (Int.le_trans h (mx_le _ _))
  exact go ld _ h
theorem tks_nn (ok : OkAv zs) : ∀ o : List Nat, (∀ i ∈ o, i < zs.length) → ∀ t ∈ tks m zs o, 0 ≤ t := by
  refine rev_ind (fun _ t h => by cases h) fun o i ih hi t h => ?_
  rw [tks_snoc] at h
  rcases List.mem_append.mp h with h | h
  · exact ih (fun j hj => hi j (List.mem_append_left _ hj)) t h
  · rw [List.mem_singleton.mp h]
    exact tickL_nn _ _ (ok.r0 _ (avI_mem (hi i (by simp))))
end
/-! places -/
def rI (zs : List Av) (i : Nat) : Int := (avI zs i).r
def prs (zs : List Av) : List (Int × Int) := (List.range zs.length).map fun i => (rI zs i, (i : Int))
def plA (zs : List Av) (i : Nat) : Nat := (prs zs).countP fun q => SrtO.lexB q (rI zs i, (i : Int))
theorem lexB_irr (x : Int × Int) : SrtO.lexB x x = false := SrtO.lexB_no.mpr (by omega)
theorem lexB_tot {x y : Int × Int} (h1 : SrtO.lexB x y = false) (h2 : SrtO.lexB y x = false) : x = y := by
  have a := SrtO.lexB_no.mp h1
  have b := SrtO.lexB_no.mp h2
  exact Prod.ext (by omega) (by omega)
theorem prs_nd (zs : List Av) : (prs zs).Nodup := by
  unfold prs
  refine List.Pairwise.map _ (fun a b h e => h ?_) List.nodup_range
  have e : (a : Int) = (b : Int) := congrArg Prod.snd e
  omega
/-- where a pair stands in the sorted list -/
theorem place_at {zs : List Av} {L : List (Int × Int)} (p : L.Perm (prs zs)) (s : L.Pairwise fun x y => SrtO.lexB y x = false) {j i : Nat} (h : L[j]? = some (rI zs i, (i : Int))) : j = plA zs i := by
  unfold plA
  rw [← p.countP_eq]
  have hj : j < L.length := by
    rcases Nat.lt_or_ge j L.length with z | z
    · exact z
    · rw [List.getElem?_eq_none z] at h; cases h
  have nd : L.Nodup := p.nodup_iff.mpr (prs_nd zs)
  have ej : L[j] = (rI zs i, (i : Int)) := by
    rw [List.getElem?_eq_getElem hj] at h
    exact Option.some.inj h
  have eL : L = L.take j ++ (rI zs i, (i : Int)) :: L.drop (j + 1) := by
    rw [← ej, ← List.drop_eq_getElem_cons hj, List.take_append_drop]
  rw [eL] at s nd
  generalize hx : (rI zs i, (i : Int)) = x at *
  obtain ⟨s1, s2, s3⟩ := List.pairwise_append.mp s
  obtain ⟨n1, n2, n3⟩ := List.nodup_append.mp nd
  have c1 : (L.take j).countP (fun q => SrtO.lexB q x) = j := by
    rw [List.countP_eq_length.mpr fun y hy => ?_, List.length_take]
    · omega
    · cases e : SrtO.lexB y x with
      | true => rfl
      | false => exact absurd (lexB_tot e (s3 y hy x List.mem_cons_self)) (n3 y hy x List.mem_cons_self)
  have c2 : (L.drop (j + 1)).countP (fun q => SrtO.lexB q x) = 0 := List.countP_eq_zero.mpr fun y hy => by
    rw [(List.pairwise_cons.mp s2).1 y hy]
    exact Bool.false_ne_true
  rw [eL, List.countP_append, List.countP_cons, c1, c2, lexB_irr]
  rfl
/-- the pair of numbers that a value names -/
def prAt (H : Hp) : V → Int × Int
  | .ref t => match H t with
    | some (.tup [.int a, .int b]) => (a, b)
    | _ => (0, 0)
  | _ => (0, 0)
theorem prAt_ref {H : Hp} {t : Addr} {a b : Int} (h : H t = some (.tup [.int a, .int b])) : prAt H (.ref t) = (a, b) := by
  show (match H t with
    | some (.tup [.int a, .int b]) => (a, b)
    | _ => (0, 0)) = (a, b)
  rw [h]
/-! what is asked of an order, and how orders are ranked -/
def ab (x : Int) : Int := if x < 0 then -x else x
def nearB (zs : List Av) (sh : Int) (o : List Nat) : Bool := (List.range o.length).all fun p => decide (ab ((p : Int) - (plA zs (o.getD p 0) : Int)) ≤ sh)
def timeB (m : Nat → Nat → Int) (zs : List Av) (o : List Nat) : Bool := (List.range o.length).all fun p => decide ((tks m zs o).getD p 0 ≤ (avI zs (o.getD p 0)).l)
def candB (m : Nat → Nat → Int) (zs : List Av) (sh : Int) (o : List Nat) : Bool := nearB zs sh o && timeB m zs o
def topT (m : Nat → Nat → Int) (zs : List Av) (o : List Nat) : Int := if tks m zs o = [] then 0 else maxs (tks m zs o)
def kd (m : Nat → Nat → Int) (zs : List Av) (o : List Nat) : PyData := .tuple [.int (topT m zs o), .int (tks m zs o).sum, .tuple (o.map fun (j : Nat) => .int (j : Int)), .tuple ((tks m zs o).map .int)]
def IsB (m : Nat → Nat → Int) (zs : List Av) (sh : Int) (o : List Nat) : Prop := o ∈ ords zs.length ∧ candB m zs sh o = true ∧ ∀ o' ∈ ords zs.length, candB m zs sh o' = true → dataLt (kd m zs o') (kd m zs o) = false
theorem kd_alike (m : Nat → Nat → Int) (zs : List Av) (o o' : List Nat) : alike (kd m zs o) (kd m zs o') = true := by
  have e : ∀ q : List Nat, (q.map fun (j : Nat) => PyData.int (j : Int)) = (q.map fun (j : Nat) => (j : Int)).map PyData.int := fun q => by rw [List.map_map]; rfl
  unfold kd
  rw [e o, e o']
  simp only [alike, alikeAll, Bool.true_and, Bool.and_true, alike_ints]
theorem toks_nats : ∀ {a b : List Nat}, a.length = b.length → keyToksAll (a.map fun (j : Nat) => PyData.int (j : Int)) = keyToksAll (b.map fun (j : Nat) => PyData.int (j : Int)) → a = b
  | [], [], _, _ => rfl
  | x :: a, y :: b, hl, h => by
    rw [List.map_cons, List.map_cons, toks_all_cons, toks_all_cons] at h
    simp only [keyToks, List.cons_append, List.nil_append, List.cons.injEq, true_and, Sum.inl.injEq] at h
    obtain ⟨h1, h2⟩ := h
    rw [toks_nats (by simpa using hl) h2, show x = y by
      have h1 : (x : Int) = (y : Int) := h1
      omega]
theorem toks_len : ∀ {a b : List Nat}, a.length = b.length → (keyToksAll (a.map fun (j : Nat) => PyData.int (j : Int))).length = (keyToksAll (b.map fun (j : Nat) => PyData.int (j : Int))).length
  | [], [], _ => rfl
  | x :: a, y :: b, hl => by
    rw [List.map_cons, List.map_cons, toks_all_cons, toks_all_cons]
    simp only [keyToks, List.cons_append, List.nil_append, List.length_cons]
    rw [toks_len (by simpa using hl)]
theorem kd_tot {m : Nat → Nat → Int} {zs : List Av} {o o' : List Nat} (hl : o.length = o'.length) (h : dataLt (kd m zs o) (kd m zs o') = false) (k : dataLt (kd m zs o') (kd m zs o) = false) : o = o' := by
  have e := lex_total _ _ h k
  unfold kd at e
  simp only [keyToks, toks_all_cons, List.cons_append, List.nil_append, List.cons.injEq, true_and] at e
  obtain ⟨_, _, e⟩ := e
  exact toks_nats hl (List.append_inj e (toks_len hl)).1
theorem SameT.out8 {T : List Addr} {H H' : Hp} {a : Addr} (s : SameT T H H') (t : Tabs T H) (h : H' a = none) : H a = none := by
  cases e : H a with
  | none => rfl
  | some o =>
    by_cases z : a ∈ T
    · obtain ⟨ps, e', _⟩ := s.tabs t a z
      rw [h] at e'
      cases e'
    · rw [s.keep a o e z] at h
      cases h
/-- what has landed, as the program writes it down -/
abbrev Ld := Addr × (Nat × Int)
def LdAt (H : Hp) (p : Addr) (xs : List Ld) : Prop := H p = some (.lst (xs.map fun x => V.ref x.1)) ∧ ∀ x ∈ xs, H x.1 = some (.tup [.int (x.2.1 : Nat), .int x.2.2])
theorem LdAt.same {H H' : Hp} {p : Addr} {xs : List Ld} (A : LdAt H p xs) (s : Same H H') : LdAt H' p xs := ⟨s _ _ A.1, fun z h => s _ _ (A.2 z h)⟩
theorem LdAt.st {T : List Addr} {H H' : Hp} {p : Addr} {xs : List Ld} (A : LdAt H p xs) (s : SameT T H H') (t : Tabs T H) : LdAt H' p xs := ⟨s.l t A.1, fun z h => s.t t (A.2 z h)⟩
/-- one more -/
theorem LdAt.add {H : Hp} {p t : Addr} {xs : List Ld} {w : Nat} {v : Int} (A : LdAt H p xs) (ht : H t = none) : LdAt (upd (upd H t (.tup [.int (w : Nat), .int v])) p (.lst (xs.map (fun x => V.ref x.1) ++ [.ref t]))) p (xs ++ [(t, w, v)]) := by
  have np : t ≠ p := fun e => by rw [e, A.1] at ht; cases ht
  refine ⟨by rw [upd_same, List.map_append]; rfl, fun x hx => ?_⟩
  rcases List.mem_append.mp hx with h | h
  · rw [upd_ne (ne_of (A.2 x h) A.1 (by intro z; cases z)), upd_ne (ne_of_none (A.2 x h) ht)]
    exact A.2 x h
  · rw [List.mem_singleton.mp h, upd_ne np, upd_same]
/-! the promises -/
def bh8 (m : Nat → Nat → Int) (w1 w2 : Nat) (e1 s2 : Int) : Bool := decide (m w1 w2 ≤ s2 - e1)
def spBehind8 : Sp := fun vs H Q _ => ∃ (g a b : Addr) (rs : Nat → Addr) (m : Nat → Nat → Int) (w1 w2 : Nat) (s1 e1 s2 e2 : Int), vs = [.ref g, .ref a, .ref b] ∧ GapAt H g rs m ∧ H a = some (.tup [.int (w1 : Nat), .int s1, .int e1]) ∧ H b = some (.tup [.int (w2 : Nat), .int s2, .int e2]) ∧ w1 < 4 ∧ w2 < 4 ∧ Q (.bl (bh8 m w1 w2 e1 s2)) H
def spApart8 : Sp := fun vs H Q _ => ∃ (g a b : Addr) (rs : Nat → Addr) (m : Nat → Nat → Int) (w1 w2 : Nat) (s1 e1 s2 e2 : Int), vs = [.ref g, .ref a, .ref b] ∧ GapAt H g rs m ∧ H a = some (.tup [.int (w1 : Nat), .int s1, .int e1]) ∧ H b = some (.tup [.int (w2 : Nat), .int s2, .int e2]) ∧ w1 < 4 ∧ w2 < 4 ∧ Q (.bl (bh8 m w1 w2 e1 s2 || bh8 m w2 w1 e2 s1)) H
def onV (o : List Nat) : List V := o.map fun (j : Nat) => V.int (j : Int)
def spLand (TT : List Addr) : Sp := fun vs H Q _ => ∃ (g ar q : Addr) (rs : Nat → Addr) (m : Nat → Nat → Int) (zs : List Av) (o : List Nat), vs = [.ref g, .ref ar, .ref q] ∧ GapAt H g rs m ∧ ArsAt H ar zs ∧ OkAv zs ∧ H q = some (.tup (onV o)) ∧ (∀ i ∈ o, i < zs.length) ∧ o.length ≤ 100 ∧ Tabs TT H ∧ ∀ p H', SameT TT H H' → H p = none → H' p = some (.tup ((tks m zs o).map V.int)) → Q (.ref p) H'
/-- places by index -/
def PlAt (H : Hp) (d : Addr) (zs : List Av) : Prop := ∃ kvs, H d = some (.dK kvs) ∧ ∀ i, i < zs.length → valV kvs (.inl (i : Int)) = some (.int (plA zs i : Nat))
def spPlaces (TT : List Addr) : Sp := fun vs H Q _ => ∃ (ar : Addr) (zs : List Av), vs = [.ref ar] ∧ ArsAt H ar zs ∧ OkAv zs ∧ Tabs TT H ∧ ∀ d H', SameT TT H H' → PlAt H' d zs → Q (.ref d) H'
def spNear8 (TT : List Addr) : Sp := fun vs H Q _ => ∃ (d q : Addr) (zs : List Av) (o : List Nat) (sh : Int), vs = [.ref d, .ref q, .int sh] ∧ PlAt H d zs ∧ H q = some (.tup (onV o)) ∧ (∀ i ∈ o, i < zs.length) ∧ o.length ≤ 100 ∧ Tabs TT H ∧ ∀ H', SameT TT H H' → Q (.bl (nearB zs sh o)) H'
def spTime8 (TT : List Addr) : Sp := fun vs H Q _ => ∃ (ar q t : Addr) (m : Nat → Nat → Int) (zs : List Av) (o : List Nat), vs = [.ref ar, .ref q, .ref t] ∧ ArsAt H ar zs ∧ H q = some (.tup (onV o)) ∧ (∀ i ∈ o, i < zs.length) ∧ o.length ≤ 100 ∧ H t = some (.tup ((tks m zs o).map V.int)) ∧ Tabs TT H ∧ ∀ H', SameT TT H H' → Q (.bl (timeB m zs o)) H'
def OrAt (H : Hp) (p : Addr) (m : Nat → Nat → Int) (zs : List Av) (o : List Nat) : Prop := ∃ q t, H p = some (.tup [.ref q, .ref t]) ∧ H q = some (.tup (onV o)) ∧ H t = some (.tup ((tks m zs o).map V.int))
def spBest8 (CE : Addr) (TT : List Addr) : Sp := fun vs H Q E => ∃ (g ar : Addr) (rs : Nat → Addr) (m : Nat → Nat → Int) (zs : List Av) (sh : Int), vs = [.ref g, .ref ar, .int sh] ∧ GapAt H g rs m ∧ ArsAt H ar zs ∧ OkAv zs ∧ Tabs TT H ∧
  (∀ o p H', IsB m zs sh o → SameT TT H H' → OrAt H' p m zs o → Q (.ref p) H') ∧ ((∀ o ∈ ords zs.length, candB m zs sh o = false) → ∀ H1 d, SameT TT H H1 → H1 d = none → E (.ref CE) (some d) (upd H1 d (.xd (cdK "none"))))
end Sk

set_option Elab.async false
set_option linter.all false
set_option maxRecDepth 100000
set_option maxHeartbeats 4000000
namespace Sk
open PySem PySem.Spec PyProof.Rows L2 PySem.W
theorem nx8 {D : Ends} {σ : L2.St} {H : Hp} (h : D.nx σ H) : tNext D σ H := h
/-! the best order, one order after the other -/
theorem ordsK_ok (n : Nat) : ∀ k, ∀ o ∈ ordsK n k, o.length = k ∧ ∀ i ∈ o, i < n
  | 0, o, h => by
    rw [show ordsK n 0 = [[]] from rfl, List.mem_singleton] at h
    rw [h]
    exact ⟨rfl, fun i h => by cases h⟩
  | k + 1, o, h => by
    rw [show ordsK n (k + 1) = (ordsK n k).flatMap fun o => ((List.range n).filter fun i => !o.contains i).map fun i => o ++ [i] from rfl] at h
    obtain ⟨o1, h1, h2⟩ := List.mem_flatMap.mp h
    obtain ⟨i, h3, rfl⟩ := List.mem_map.mp h2
    obtain ⟨e1, e2⟩ := ordsK_ok n k o1 h1
    refine ⟨by rw [List.length_append, e1]; rfl, fun j hj => ?_⟩
    rcases List.mem_append.mp hj with z | z
    · exact e2 j z
    · rw [List.mem_singleton.mp z]
      exact List.mem_range.mp (List.mem_filter.mp h3).1
theorem ords_ok {n : Nat} {o : List Nat} (h : o ∈ ords n) : o.length = n ∧ ∀ i ∈ o, i < n := ordsK_ok n n o h
theorem depth_ints : ∀ xs : List Int, PyData.depthAll (xs.map .int) = 0
  | [] => by simp [PyData.depthAll]
  | x :: xs => by
    show PyData.depthAll (.int x :: xs.map .int) = 0
    rw [PyData.depthAll, depth_ints xs]
    simp [PyData.depth]
theorem depth_nats : ∀ xs : List Nat, PyData.depthAll (xs.map fun (j : Nat) => .int (j : Int)) = 0
  | [] => by simp [PyData.depthAll]
  | x :: xs => by
    show PyData.depthAll (.int (x : Int) :: xs.map fun (j : Nat) => .int (j : Int)) = 0
    rw [PyData.depthAll, depth_nats xs]
    simp [PyData.depth]
theorem kd_depth (m : Nat → Nat → Int) (zs : List Av) (o : List Nat) : (kd m zs o).depth ≤ 50 := by
  unfold kd
  simp [PyData.depth, PyData.depthAll, depth_ints, depth_nats]
theorem dps_ints {K : PySem.W.Frag} {H : Hp} : ∀ xs : List Int, DpAll K H (xs.map V.int) (xs.map PyData.int)
  | [] => .nil
  | x :: xs => .cons (.int x) (dps_ints xs)
theorem dps_nats {K : PySem.W.Frag} {H : Hp} : ∀ xs : List Nat, DpAll K H (onV xs) (xs.map fun (j : Nat) => PyData.int (j : Int))
  | [] => .nil
  | x :: xs => .cons (.int _) (dps_nats xs)
/-- a ranked order in the heap -/
def KdAt (H : Hp) (p : Addr) (m : Nat → Nat → Int) (zs : List Av) (o : List Nat) (q t : Addr) : Prop := H p = some (.tup [.int (topT m zs o), .int (tks m zs o).sum, .ref q, .ref t]) ∧ H q = some (.tup (onV o)) ∧ H t = some (.tup ((tks m zs o).map V.int))
theorem KdAt.dp {K : PySem.W.Frag} {H : Hp} {p q t : Addr} {m : Nat → Nat → Int} {zs : List Av} {o : List Nat} (k : KdAt H p m zs o q t) : Dp K H (.ref p) (kd m zs o) :=
  .tup (.inl (.inl k.1)) (.cons (.int _) (.cons (.int _) (.cons (.tup (.inl (.inl k.2.1)) (dps_nats o)) (.cons (.tup (.inl (.inl k.2.2)) (dps_ints _)) .nil))))
theorem KdAt.st {T : List Addr} {H H' : Hp} {p q t : Addr} {m : Nat → Nat → Int} {zs : List Av} {o : List Nat} (k : KdAt H p m zs o q t) (s : SameT T H H') (h : Tabs T H) : KdAt H' p m zs o q t := ⟨s.t h k.1, s.t h k.2.1, s.t h k.2.2⟩
theorem kd_dlt (m : Nat → Nat → Int) (zs : List Av) (o : List Nat) : kd m zs o ≠ .none := by
  intro z
  cases z
theorem PlAt.st {T : List Addr} {H H' : Hp} {d : Addr} {zs : List Av} (k : PlAt H d zs) (s : SameT T H H') (h : Tabs T H) : PlAt H' d zs := by
  obtain ⟨kvs, h1, h2⟩ := k
  exact ⟨kvs, s.d h h1, h2⟩
/-- the best of the first i orders -/
def BstAt (H : Hp) (v : V) (m : Nat → Nat → Int) (zs : List Av) (sh : Int) (i : Nat) : Prop :=
  (v = .non ∧ ∀ o ∈ (ords zs.length).take i, candB m zs sh o = false) ∨
  ∃ p q t o, v = .ref p ∧ KdAt H p m zs o q t ∧ o ∈ ords zs.length ∧ candB m zs sh o = true ∧ ∀ o' ∈ (ords zs.length).take i, candB m zs sh o' = true → dataLt (kd m zs o') (kd m zs o) = false
section
variable {H H' : Hp} {v : V} {m : Nat → Nat → Int} {zs : List Av} {sh : Int} {i : Nat} {o : List Nat} {T : List Addr}
theorem BstAt.st (b : BstAt H v m zs sh i) (s : SameT T H H') (h : Tabs T H) : BstAt H' v m zs sh i := by
  rcases b with b | ⟨p, q, t, o, e, k, r⟩
  · exact .inl b
  · exact .inr ⟨p, q, t, o, e, k.st s h, r⟩
theorem take_ord (h : (ords zs.length)[i]? = some o) {o' : List Nat} (h' : o' ∈ (ords zs.length).take (i + 1)) : o' ∈ (ords zs.length).take i ∨ o' = o := by
  rw [List.take_add_one, h] at h'
  rcases List.mem_append.mp h' with z | z
  · exact .inl z
  · exact .inr (List.mem_singleton.mp z)
/-- an order that will not do -/
theorem BstAt.no (b : BstAt H v m zs sh i) (h : (ords zs.length)[i]? = some o) (c : candB m zs sh o = false) : BstAt H v m zs sh (i + 1) := by
  rcases b with ⟨e, k⟩ | ⟨p, q, t, o2, e, k, o3, c3, r⟩
  · refine .inl ⟨e, fun o' h' => ?_⟩
    rcases take_ord h h' with z | rfl
    · exact k o' z
    · exact c
  · refine .inr ⟨p, q, t, o2, e, k, o3, c3, fun o' h' c' => ?_⟩
    rcases take_ord h h' with z | rfl
    · exact r o' z c'
    · rw [c] at c'; cases c'
/-- the first one -/
theorem BstAt.one (b : BstAt H .non m zs sh i) (h : (ords zs.length)[i]? = some o) (c : candB m zs sh o = true) {p q t : Addr} (k : KdAt H p m zs o q t) : BstAt H (.ref p) m zs sh (i + 1) := by
  rcases b with ⟨e, kn⟩ | ⟨p, q, t, o2, e, _⟩
  · refine .inr ⟨p, q, t, o, rfl, k, List.mem_of_getElem? h, c, fun o' h' c' => ?_⟩
    rcases take_ord h h' with z | rfl
    · rw [kn o' z] at c'; cases c'
    · exact lex_irrefl _
  · cases e
/-- a better one -/
theorem BstAt.new {K : PySem.W.Frag} {p2 : Addr} (b : BstAt H (.ref p2) m zs sh i) (h : (ords zs.length)[i]? = some o) (c : candB m zs sh o = true) {p q t : Addr} (k : KdAt H p m zs o q t) :
    ∃ d2, Dp (K := K) H (.ref p2) d2 ∧ alike (kd m zs o) d2 = true ∧ (dataLt (kd m zs o) d2 = true → BstAt H (.ref p) m zs sh (i + 1)) ∧ (dataLt (kd m zs o) d2 = false → BstAt H (.ref p2) m zs sh (i + 1)) := by
  rcases b with ⟨e, _⟩ | ⟨p3, q3, t3, o2, e, k2, o3, c3, r⟩
  · cases e
  cases e
  refine ⟨kd m zs o2, k2.dp, kd_alike m zs o o2, fun l => .inr ⟨p, q, t, o, rfl, k, List.mem_of_getElem? h, c, fun o' h' c' => ?_⟩, fun l => .inr ⟨p2, q3, t3, o2, rfl, k2, o3, c3, fun o' h' c' => ?_⟩⟩
  · rcases take_ord h h' with z | rfl
    · cases e : dataLt (kd m zs o') (kd m zs o) with
      | false => rfl
      | true =>
        have w : dataLt (kd m zs o') (kd m zs o2) = true := lex_trans _ _ _ e l
        rw [r o' z c'] at w
        cases w
    · exact lex_irrefl _
  · rcases take_ord h h' with z | rfl
    · exact r o' z c'
    · exact l
end
end Sk

set_option Elab.async false
set_option linter.all false
set_option maxRecDepth 100000
set_option maxHeartbeats 4000000
namespace Sk
open PySem PySem.Spec PyProof.Rows L2 PySem.W
/-! the law's own side: orders in a list -/
abbrev Os := Addr × List Nat
def OsAt (H : Hp) (p : Addr) (xs : List Os) : Prop := H p = some (.lst (xs.map fun x => V.ref x.1)) ∧ ∀ x ∈ xs, H x.1 = some (.tup (onV x.2))
theorem OsAt.same {H H' : Hp} {p : Addr} {xs : List Os} (A : OsAt H p xs) (s : Same H H') : OsAt H' p xs := ⟨s _ _ A.1, fun z h => s _ _ (A.2 z h)⟩
/-- one more -/
theorem OsAt.add {H : Hp} {p t : Addr} {xs : List Os} {o : List Nat} (A : OsAt H p xs) (ht : H t = some (.tup (onV o))) : OsAt (upd H p (.lst (xs.map (fun x => V.ref x.1) ++ [.ref t]))) p (xs ++ [(t, o)]) := by
  refine ⟨by rw [upd_same, List.map_append]; rfl, fun x hx => ?_⟩
  rcases List.mem_append.mp hx with h | h
  · rw [upd_ne (ne_of (A.2 x h) A.1 (by intro z; cases z))]
    exact A.2 x h
  · rw [List.mem_singleton.mp h, upd_ne (ne_of ht A.1 (by intro z; cases z))]
    exact ht
def extO (n j : Nat) (o : List Nat) : List (List Nat) := ((List.range j).filter fun i => !o.contains i).map fun i => o ++ [i]
theorem extO_succ (n j : Nat) (o : List Nat) : extO n (j + 1) o = extO n j o ++ (if o.contains j = true then [] else [o ++ [j]]) := by
  unfold extO
  rw [List.range_succ, List.filter_append, List.map_append]
  cases h : o.contains j with
  | true => rw [List.filter_cons_of_neg (by rw [h]; decide)]; rfl
  | false => rw [List.filter_cons_of_pos (by rw [h]; decide)]; rfl
theorem ordsK_succ (n k : Nat) : ordsK n (k + 1) = (ordsK n k).flatMap (extO n n) := rfl
theorem extO_len (n j : Nat) (o : List Nat) : (extO n j o).length ≤ j := by
  unfold extO
  rw [List.length_map]
  exact Nat.le_trans (List.length_filter_le _ _) (by rw [List.length_range]; exact Nat.le_refl _)
theorem flat_len {n : Nat} : ∀ os : List (List Nat), (os.flatMap (extO n n)).length ≤ os.length * n
  | [] => Nat.zero_le _
  | o :: os => by
    rw [List.flatMap_cons, List.length_append, List.length_cons, Nat.succ_mul]
    have := flat_len (n := n) os
    have := extO_len n n o
    omega
theorem ordsK_len (n : Nat) : ∀ k, (ordsK n k).length ≤ n ^ k
  | 0 => Nat.le_refl _
  | k + 1 => by
    rw [ordsK_succ, Nat.pow_succ]
    exact Nat.le_trans (flat_len _) (Nat.mul_le_mul_right _ (ordsK_len n k))
theorem ordsK_le {n k : Nat} (hn : n ≤ 6) (hk : k ≤ 6) : (ordsK n k).length ≤ 46656 := by
  refine Nat.le_trans (ordsK_len n k) (Nat.le_trans (Nat.pow_le_pow_left hn k) ?_)
  exact Nat.pow_le_pow_right (n := 6) (by decide) hk
theorem nats_flat : ∀ o : List Nat, (onV o).all flatV = true
  | [] => rfl
  | _ :: o => nats_flat o
theorem inV_nats (i : Nat) : ∀ o : List Nat, inV (.int (i : Int)) (onV o) = o.contains i
  | [] => rfl
  | j :: o => by
    have ih := inV_nats i o
    unfold onV inV at ih ⊢
    rw [List.map_cons, List.any_cons, ih, List.contains_cons]
    congr 1
    show ((j : Int) == (i : Int)) = (i == j)
    by_cases e : i = j
    · subst e
      simp
    · have e' : ¬ (j : Int) = (i : Int) := by omega
      rw [beq_eq_false_iff_ne.mpr e', beq_eq_false_iff_ne.mpr e]
def spOrds8 : Sp := fun vs H Q _ => ∃ n : Nat, vs = [.int n] ∧ n ≤ 6 ∧ ∀ p H' xs, Same H H' → H p = none → OsAt H' p xs → xs.map (·.2) = ords n → Q (.ref p) H'
def spTks8 : Sp := fun vs H Q _ => ∃ (g ar q : Addr) (rs : Nat → Addr) (m : Nat → Nat → Int) (zs : List Av) (o : List Nat), vs = [.ref g, .ref ar, .ref q] ∧ GapAt H g rs m ∧ ArsAt H ar zs ∧ OkAv zs ∧ H q = some (.tup (onV o)) ∧ (∀ i ∈ o, i < zs.length) ∧ o.length ≤ 100 ∧ ∀ p H', Same H H' → H p = none → H' p = some (.tup ((tks m zs o).map V.int)) → Q (.ref p) H'
def spGood8 : Sp := fun vs H Q _ => ∃ (ar q t : Addr) (m : Nat → Nat → Int) (zs : List Av) (o : List Nat) (sh : Int), vs = [.ref ar, .ref q, .ref t, .int sh] ∧ ArsAt H ar zs ∧ OkAv zs ∧ H q = some (.tup (onV o)) ∧ (∀ i ∈ o, i < zs.length) ∧ o.length ≤ 100 ∧ H t = some (.tup ((tks m zs o).map V.int)) ∧ ∀ H', Same H H' → Q (.bl (candB m zs sh o)) H'
end Sk

set_option Elab.async false
set_option linter.all false
set_option maxRecDepth 100000
set_option maxHeartbeats 4000000
namespace Sk
open PySem PySem.Spec PyProof.Rows L2 PySem.W
theorem hu65L {A : Around} {k : Nat} (hr : Room k A) : A.units + 65 < cLine := by
  have := hr.un
  omega
/-! the sorted list of pairs -/
def pd2 (p : Int × Int) : PyData := .tuple [.int p.1, .int p.2]
theorem pd2_eqv (x y : Int × Int) (h : x ≠ y) : PyData.eqv (pd2 x) (pd2 y) = false := by
  unfold pd2
  simp only [PyData.eqv, PyData.eqvAll, Bool.and_true]
  rw [Bool.and_eq_false_iff]
  by_cases e : x.1 = y.1
  · right
    refine beq_eq_false_iff_ne.mpr fun e2 => h (Prod.ext e e2)
  · left
    exact beq_eq_false_iff_ne.mpr e
theorem pd2_self (x : Int × Int) : PyData.eqv (pd2 x) (pd2 x) = true := by
  unfold pd2
  simp [PyData.eqv, PyData.eqvAll]
abbrev Rk := Addr × (Int × Int)
def RkAt (H : Hp) (r : Addr) (zs : List Av) : Prop := ∃ xs : List Rk, H r = some (.lst (xs.map fun x => V.ref x.1)) ∧ (∀ x ∈ xs, H x.1 = some (.tup [.int x.2.1, .int x.2.2])) ∧ (xs.map (·.2)).Perm (prs zs) ∧ (xs.map (·.2)).Pairwise fun x y => SrtO.lexB y x = false
theorem RkAt.same {H H' : Hp} {r : Addr} {zs : List Av} (R : RkAt H r zs) (s : Same H H') : RkAt H' r zs := by
  obtain ⟨xs, h1, h2, h3⟩ := R
  exact ⟨xs, s _ _ h1, fun x hx => s _ _ (h2 x hx), h3⟩
def adOf : V → Addr
  | .ref t => t
  | _ => (0 : Nat)
theorem RkAt.of {H H' : Hp} {r : Addr} {zs : List Av} {L : List V} (hp : ∀ v ∈ L, ∃ t, v = V.ref t ∧ H t = some (.tup [.int (prAt H v).1, .int (prAt H v).2])) (s : Same H H') (hr : H' r = some (.lst L)) (p : (L.map (prAt H)).Perm (prs zs)) (q : (L.map (prAt H)).Pairwise fun x y => SrtO.lexB y x = false) : RkAt H' r zs := by
  refine ⟨L.map fun v => (adOf v, prAt H v), ?_, fun x hx => ?_, ?_, ?_⟩
  · rw [hr, List.map_map]
    congr 2
    refine (List.map_id L).symm.trans (List.map_congr_left fun v hv => ?_)
    obtain ⟨t, rfl, _⟩ := hp v hv
    rfl
  · obtain ⟨v, hv, rfl⟩ := List.mem_map.mp hx
    obtain ⟨t, rfl, h⟩ := hp v hv
    exact s _ _ h
  · rw [List.map_map]
    exact p
  · rw [List.map_map]
    exact q
theorem rk_dps {K : PySem.W.Frag} {H : Hp} : ∀ {xs : List Rk}, (∀ x ∈ xs, H x.1 = some (.tup [.int x.2.1, .int x.2.2])) → DpAll K H (xs.map fun x => V.ref x.1) (xs.map fun x => pd2 x.2)
  | [], _ => .nil
  | x :: xs, h => .cons (.tup (.inl (.inl (h x List.mem_cons_self))) (.cons (.int _) (.cons (.int _) .nil))) (rk_dps fun y hy => h y (List.mem_cons_of_mem _ hy))
theorem rk_can : ∀ xs : List Rk, PyData.canLayAll0 (xs.map fun x => pd2 x.2) = true
  | [] => by simp [PyData.canLayAll0]
  | x :: xs => by
    rw [List.map_cons, PyData.canLayAll0, rk_can xs]
    simp [pd2, PyData.canLay0, PyData.canLayAll0]
theorem rk_depth : ∀ xs : List Rk, PyData.depthAll (xs.map fun x => pd2 x.2) ≤ 1
  | [] => by simp [PyData.depthAll]
  | x :: xs => by
    rw [List.map_cons, PyData.depthAll]
    have := rk_depth xs
    have h : (pd2 x.2).depth ≤ 1 := by simp [pd2, PyData.depth, PyData.depthAll]
    omega
theorem RkAt.at {K : PySem.W.Frag} {H : Hp} {r : Addr} {zs : List Av} {e : Nat} (R : RkAt H r zs) (he : e < zs.length) : ∃ ds, Dp K H (.ref r) (.list ds) ∧ SeqAt.shaped (.list ds) = true ∧ ds[plA zs e]? = some (pd2 (rI zs e, (e : Int))) ∧ ∀ (m : Nat) (z' : PyData), m < plA zs e → ds[m]? = some z' → PyData.eqv z' (pd2 (rI zs e, (e : Int))) = false := by
  obtain ⟨xs, h1, h2, h3, h4⟩ := R
  have nd : (xs.map (·.2)).Nodup := h3.nodup_iff.mpr (prs_nd zs)
  have hm : (rI zs e, (e : Int)) ∈ xs.map (·.2) := h3.mem_iff.mpr (List.mem_map.mpr ⟨e, List.mem_range.mpr he, rfl⟩)
  obtain ⟨j, hj⟩ := List.getElem?_of_mem hm
  have ej := place_at h3 h4 hj
  subst ej
  refine ⟨xs.map fun x => pd2 x.2, .lst (.inl (.inl h1)) (rk_dps h2), ?_, ?_, fun m z' hm hz => ?_⟩
  · unfold SeqAt.shaped
    rw [Bool.and_eq_true, decide_eq_true_eq]
    refine ⟨by rw [PyData.canLay0]; exact rk_can xs, ?_⟩
    rw [PyData.depth]
    have := rk_depth xs
    omega
  · rw [List.getElem?_map] at hj ⊢
    cases ex : xs[plA zs e]? with
    | none => rw [ex] at hj; cases hj
    | some x =>
      rw [ex] at hj
      have := Option.some.inj hj
      rw [← this]
      rfl
  · rw [List.getElem?_map] at hz
    cases ex : xs[m]? with
    | none => rw [ex] at hz; cases hz
    | some x =>
      rw [ex] at hz
      obtain rfl := Option.some.inj hz
      refine pd2_eqv _ _ fun e2 => ?_
      have h5 : (xs.map (·.2))[m]? = some (rI zs e, (e : Int)) := by rw [List.getElem?_map, ex, ← e2]; rfl
      have := place_at h3 h4 h5
      omega
section
variable {m : Nat → Nat → Int} {zs : List Av} {sh : Int} {o : List Nat}
theorem nearB_no {p : Nat} (hp : p < o.length) (e : decide (ab ((p : Int) - (plA zs (o.getD p 0) : Int)) ≤ sh) = false) : nearB zs sh o = false := by
  unfold nearB
  rw [Bool.eq_false_iff]
  intro z
  have := List.all_eq_true.mp z p (List.mem_range.mpr hp)
  rw [e] at this
  cases this
theorem timeB_no {p : Nat} (hp : p < o.length) (e : decide ((tks m zs o).getD p 0 ≤ (avI zs (o.getD p 0)).l) = false) : timeB m zs o = false := by
  unfold timeB
  rw [Bool.eq_false_iff]
  intro z
  have := List.all_eq_true.mp z p (List.mem_range.mpr hp)
  rw [e] at this
  cases this
theorem candB_yes (h : ∀ p, p < o.length → decide (ab ((p : Int) - (plA zs (o.getD p 0) : Int)) ≤ sh) = true ∧ decide ((tks m zs o).getD p 0 ≤ (avI zs (o.getD p 0)).l) = true) : candB m zs sh o = true := by
  unfold candB nearB timeB
  rw [Bool.and_eq_true]
  exact ⟨List.all_eq_true.mpr fun p hp => (h p (List.mem_range.mp hp)).1, List.all_eq_true.mpr fun p hp => (h p (List.mem_range.mp hp)).2⟩
end
theorem ab_neg (x y : Int) : (if x - y < 0 then -(x - y) else x - y) = ab (y - x) := by
  unfold ab
  split <;> split <;> omega
end Sk

set_option Elab.async false
set_option linter.all false
set_option maxRecDepth 100000
set_option maxHeartbeats 4000000
namespace Sk
open PySem PySem.Spec PyProof.Rows L2 PySem.W
/-! the law's own best order -/
theorem top_of {m : Nat → Nat → Int} {zs : List Av} {o : List Nat} {x : Int} (nn : ∀ t ∈ tks m zs o, 0 ≤ t) (h1 : x ∈ tks m zs o ++ [0]) (h2 : ∀ y, y ∈ tks m zs o ++ [0] → y ≤ x) : x = topT m zs o := by
  unfold topT
  generalize tks m zs o = ts at *
  by_cases e : ts = []
  · rw [if_pos e]
    rw [e] at h1
    exact List.mem_singleton.mp h1
  · rw [if_neg e]
    have hx : x ∈ ts := by
      rcases List.mem_append.mp h1 with z | z
      · exact z
      · have z := List.mem_singleton.mp z
        obtain ⟨y, hy⟩ := List.exists_mem_of_ne_nil ts e
        have a := h2 y (List.mem_append_left _ hy)
        have b := nn y hy
        have : x = y := by omega
        rw [this]
        exact hy
    have hs := maxs_spec e
    have a := h2 _ (List.mem_append_left _ hs.1)
    have b := hs.2 x hx
    omega
def RnkAt (H : Hp) (r : Addr) (m : Nat → Nat → Int) (zs : List Av) (ys : List Os) : Prop := H r = some (.lst (ys.map fun x => V.ref x.1)) ∧ ∀ y ∈ ys, ∃ q t, KdAt H y.1 m zs y.2 q t
section
variable {H H' : Hp} {r p q t : Addr} {m : Nat → Nat → Int} {zs : List Av} {ys : List Os} {o : List Nat}
theorem KdAt.same (k : KdAt H p m zs o q t) (s : Same H H') : KdAt H' p m zs o q t := ⟨s _ _ k.1, s _ _ k.2.1, s _ _ k.2.2⟩
theorem KdAt.put {xs : List V} (k : KdAt H p m zs o q t) {ws : List V} (h : H r = some (.lst ws)) : KdAt (upd H r (.lst xs)) p m zs o q t :=
  ⟨by rw [upd_ne (ne_of k.1 h (by intro z; cases z))]; exact k.1, by rw [upd_ne (ne_of k.2.1 h (by intro z; cases z))]; exact k.2.1, by rw [upd_ne (ne_of k.2.2 h (by intro z; cases z))]; exact k.2.2⟩
theorem RnkAt.same (R : RnkAt H r m zs ys) (s : Same H H') : RnkAt H' r m zs ys := ⟨s _ _ R.1, fun y hy => by
  obtain ⟨q, t, k⟩ := R.2 y hy
  exact ⟨q, t, k.same s⟩⟩
theorem RnkAt.add (R : RnkAt H r m zs ys) (k : KdAt H p m zs o q t) : RnkAt (upd H r (.lst (ys.map (fun x => V.ref x.1) ++ [.ref p]))) r m zs (ys ++ [(p, o)]) := by
  refine ⟨by rw [upd_same, List.map_append]; rfl, fun y hy => ?_⟩
  rcases List.mem_append.mp hy with h | h
  · obtain ⟨q2, t2, k2⟩ := R.2 y h
    exact ⟨q2, t2, k2.put R.1⟩
  · rw [List.mem_singleton.mp h]
    exact ⟨q, t, k.put R.1⟩
end
def kdZ (m : Nat → Nat → Int) (zs : List Av) (ys : List Os) : List Zd := ys.map fun y => (V.ref y.1, kd m zs y.2)
theorem kdZ_v (m : Nat → Nat → Int) (zs : List Av) (ys : List Os) : (kdZ m zs ys).map (·.1) = ys.map fun x => V.ref x.1 := by
  unfold kdZ
  rw [List.map_map]
  rfl
/-- the first of the sorted ones -/
theorem best_first {H : Hp} {r : Addr} {m : Nat → Nat → Int} {zs : List Av} {ys : List Os} {sh : Int} {zz : List Zd} (R : RnkAt H r m zs ys) (e : ys.map (·.2) = (ords zs.length).filter (candB m zs sh)) (ne : ys ≠ [])
    (p : zz.Perm (kdZ m zs ys)) (q : zz.Pairwise fun x y => ltz y x = false) : ∃ y zt, y ∈ ys ∧ zz.map (·.1) = .ref y.1 :: zt ∧ IsB m zs sh y.2 := by
  cases zz with
  | nil =>
    have := p.length_eq
    unfold kdZ at this
    rw [List.length_map] at this
    exact absurd (List.length_eq_zero_iff.mp this.symm) ne
  | cons z zt =>
    obtain ⟨y, hy, rfl⟩ := List.mem_map.mp (p.mem_iff.mp (List.mem_cons_self : z ∈ z :: zt))
    have hf : y.2 ∈ (ords zs.length).filter (candB m zs sh) := by rw [← e]; exact List.mem_map.mpr ⟨y, hy, rfl⟩
    have hf := List.mem_filter.mp hf
    refine ⟨y, zt.map (·.1), hy, rfl, hf.1, hf.2, fun o' ho hc => ?_⟩
    have h2 : o' ∈ ys.map (·.2) := by rw [e]; exact List.mem_filter.mpr ⟨ho, hc⟩
    obtain ⟨y', hy', rfl⟩ := List.mem_map.mp h2
    have h3 : (V.ref y'.1, kd m zs y'.2) ∈ (V.ref y.1, kd m zs y.2) :: zt := p.mem_iff.mpr (List.mem_map.mpr ⟨y', hy', rfl⟩)
    rcases List.mem_cons.mp h3 with z | z
    · rw [(Prod.mk.inj z).2]
      exact lex_irrefl _
    · exact (List.pairwise_cons.mp q).1 _ z
theorem none_first {ys : List Os} {m : Nat → Nat → Int} {zs : List Av} {sh : Int} (e : ys.map (·.2) = (ords zs.length).filter (candB m zs sh)) (n : ys = []) : ∀ o ∈ ords zs.length, candB m zs sh o = false := fun o ho => by
  rw [n] at e
  have := List.filter_eq_nil_iff.mp e.symm o ho
  exact Bool.eq_false_iff.mpr this
def spBestL8 : Sp := fun vs H Q _ => ∃ (g ar : Addr) (rs : Nat → Addr) (m : Nat → Nat → Int) (zs : List Av) (sh : Int), vs = [.ref g, .ref ar, .int sh] ∧ GapAt H g rs m ∧ ArsAt H ar zs ∧ OkAv zs ∧
  (∀ o p H', IsB m zs sh o → Same H H' → OrAt H' p m zs o → Q (.ref p) H') ∧ ((∀ o ∈ ords zs.length, candB m zs sh o = false) → ∀ H', Same H H' → Q (.str "none") H')
def spFoundL8 (TT : List Addr) : Sp := fun vs H Q _ => ∃ (g ar : Addr) (rs : Nat → Addr) (m : Nat → Nat → Int) (zs : List Av) (sh : Int), vs = [.ref g, .ref ar, .int sh] ∧ GapAt H g rs m ∧ ArsAt H ar zs ∧ OkAv zs ∧ Tabs TT H ∧
  (∀ o p H', IsB m zs sh o → SameT TT H H' → OrAt H' p m zs o → Q (.ref p) H') ∧ ((∀ o ∈ ords zs.length, candB m zs sh o = false) → ∀ H', SameT TT H H' → Q (.str "none") H')
theorem isB_uniq {m : Nat → Nat → Int} {zs : List Av} {sh : Int} {o o' : List Nat} (h : IsB m zs sh o) (h' : IsB m zs sh o') : o = o' :=
  kd_tot (by rw [(ords_ok h.1).1, (ords_ok h'.1).1]) (h'.2.2 o h.1 h.2.1) (h.2.2 o' h'.1 h'.2.1)
end Sk

set_option Elab.async false
set_option linter.all false
set_option maxRecDepth 100000
set_option maxHeartbeats 4000000
namespace Sk
open PySem PySem.Spec PyProof.Rows L2 PySem.W
/-! what the law carries -/
abbrev rTup8 (K : PySem.W.Frag) (xs : List V) (H : Hp) (Q : VK) : Prop := ∃ a zs, xs = [.ref a] ∧ ((SqL K H a zs ∧ ∀ b, H b = none → Q (.ref b) (upd H b (.tup zs))) ∨ (SqT K H a zs ∧ Q (.ref a) H))
def spIs18 : Sp := fun vs H Q _ => ∃ (x y : Bool), vs = [.bl x, .bl y] ∧ Q (.bl (decide (x = y))) H
theorem keep_put {d p : Addr} {H H1 : Hp} {o : HO} (k : Keep d H H1) (h : H p = none) : Keep d H (upd H1 p o) := fun b x e n => by
  rw [upd_ne (ne_of_none e h)]
  exact k b x e n
structure E18 (K : PySem.W.Frag) (TT : List Addr) (H : Hp) (d c g : Addr) (rs : Nat → Addr) (m : Nat → Nat → Int) : Prop where
  S : St1 K H d c
  G : GapAt H g rs m
  T : Tabs TT H
section
variable {K : PySem.W.Frag} {TT : List Addr} {H H' : Hp} {d c g : Addr} {rs : Nat → Addr} {m : Nat → Nat → Int}
theorem E18.same (E : E18 K TT H d c g rs m) (s : Same H H') : E18 K TT H' d c g rs m := ⟨E.S.same s, E.G.same s, Same.tabs s E.T⟩
theorem E18.keep (E : E18 K TT H d c g rs m) (k : Keep d H H') (S : St1 K H' d c) : E18 K TT H' d c g rs m := ⟨S, E.G.keep E.S k, let ⟨_, e⟩ := E.S.dk; Keep.tabs k e E.T⟩
theorem E18.st (E : E18 K TT H d c g rs m) (s : SameT TT H H') : E18 K TT H' d c g rs m := ⟨s.st1 E.T E.S, E.G.st s E.T, s.tabs E.T⟩
end
/-- four rows of four numbers -/
theorem gap_of {H : Hp} {g : Addr} {ps : List (Addr × List Int)} (hl : ps.length = 4) (h : H g = some (.tup (ps.map fun p => V.ref p.1))) (hp : ∀ p ∈ ps, p.2.length = 4 ∧ H p.1 = some (.tup (p.2.map V.int))) : ∃ rs m, GapAt H g rs m := by
  refine ⟨fun i => (ps.getD i (0, [])).1, fun i j => (ps.getD i (0, [])).2.getD j 0, ?_, fun i hi => ?_⟩
  · match ps, hl with
    | [a, b, c, d], _ => exact h
  · have hm : ps.getD i (0, []) ∈ ps := by
      rw [List.getD_eq_getElem?_getD, List.getElem?_eq_getElem (by omega)]
      exact List.getElem_mem _
    obtain ⟨h1, h2⟩ := hp _ hm
    rw [h2]
    generalize (ps.getD i (0, [])).2 = xs at h1
    match xs, h1 with
    | [a, b, c, d], _ => rfl
/-! data -/
def ordD (m : Nat → Nat → Int) (zs : List Av) (o : List Nat) : PyData := .tuple [pdT (o.map fun (j : Nat) => (j : Int)), pdT (tks m zs o)]
theorem nats_pd (o : List Nat) : (o.map fun (j : Nat) => PyData.int (j : Int)) = (o.map fun (j : Nat) => (j : Int)).map PyData.int := by
  rw [List.map_map]
  rfl
theorem OrAt.dp {K : PySem.W.Frag} {H : Hp} {p : Addr} {m : Nat → Nat → Int} {zs : List Av} {o : List Nat} (h : OrAt H p m zs o) : Dp K H (.ref p) (ordD m zs o) := by
  obtain ⟨q, t, h1, h2, h3⟩ := h
  refine .tup (.inl (.inl h1)) (.cons (.tup (.inl (.inl h2)) ?_) (.cons (.tup (.inl (.inl h3)) (dps_ints _)) .nil))
  rw [← nats_pd]
  exact dps_nats o
theorem OrAt.st {TT : List Addr} {H H' : Hp} {p : Addr} {m : Nat → Nat → Int} {zs : List Av} {o : List Nat} (h : OrAt H p m zs o) (s : SameT TT H H') (t : Tabs TT H) : OrAt H' p m zs o := by
  obtain ⟨q, u, h1, h2, h3⟩ := h
  exact ⟨q, u, s.t t h1, s.t t h2, s.t t h3⟩
theorem can_ord (m : Nat → Nat → Int) (zs : List Av) (o : List Nat) : (ordD m zs o).canLay0 = true := by
  show (PyData.canLay0 _ && (PyData.canLay0 _ && true)) = true
  rw [can_pd, can_pd]
  rfl
theorem sh_ord (m : Nat → Nat → Int) (zs : List Av) (o : List Nat) : SeqAt.shaped (ordD m zs o) = true := by
  refine sh_of (can_ord m zs o) ?_
  have a := dep_pd (o.map fun (j : Nat) => (j : Int))
  have b := dep_pd (tks m zs o)
  simp only [ordD, PyData.depth, PyData.depthAll]
  omega
def avL (z : Av) : List Int := [(z.w : Int), z.r, z.l]
theorem ArsAt.dp {K : PySem.W.Frag} {H : Hp} {ar l : Addr} {zs : List Av} (A : ArsAt H ar zs) (h : H l = some (.lst (zs.map fun z => V.ref z.a))) : Dp K H (.ref l) (.list ((zs.map avL).map pdT)) := by
  refine .lst (.inl (.inl h)) ?_
  have go : ∀ ys : List Av, (∀ y ∈ ys, y ∈ zs) → DpAll K H (ys.map fun z => V.ref z.a) ((ys.map avL).map pdT) := by
    intro ys
    induction ys with
    | nil => exact fun _ => .nil
    | cons y ys ih => exact fun hy => .cons (.tup (.inl (.inl (A.2 y (hy y List.mem_cons_self)))) (.cons (.int _) (.cons (.int _) (.cons (.int _) .nil)))) (ih fun z hz => hy z (List.mem_cons_of_mem _ hz))
  exact go zs fun y hy => hy
theorem ords_pos : ∀ k, k ≤ 4 → ords k ≠ []
  | 0, _ => by decide +kernel
  | 1, _ => by decide +kernel
  | 2, _ => by decide +kernel
  | 3, _ => by decide +kernel
  | 4, _ => by decide +kernel
  | k + 5, h => absurd h (by omega)
theorem ords_256 {k : Nat} (h : k ≤ 4) : (ords k).length ≤ 256 := by
  refine Nat.le_trans (ordsK_len k k) (Nat.le_trans (Nat.pow_le_pow_left h k) ?_)
  exact Nat.pow_le_pow_right (n := 4) (by decide) h
theorem ArsAt.add {H : Hp} {ar t : Addr} {zs : List Av} {w : Nat} {r l : Int} (A : ArsAt H ar zs) (ht : H t = some (.tup [.int (w : Nat), .int r, .int l])) : ArsAt (upd H ar (.lst (zs.map (fun z => V.ref z.a) ++ [.ref t]))) ar (zs ++ [⟨t, w, r, l⟩]) := by
  refine ⟨by rw [upd_same, List.map_append]; rfl, fun z hz => ?_⟩
  rcases List.mem_append.mp hz with h | h
  · rw [upd_ne (ne_of (A.2 z h) A.1 (by intro z; cases z))]
    exact A.2 z h
  · rw [List.mem_singleton.mp h, upd_ne (ne_of ht A.1 (by intro z; cases z))]
    exact ht
theorem OkAv.add {zs : List Av} {z : Av} (h : OkAv zs) (n : zs.length < 6) (w : z.w < 4) (r : 0 ≤ z.r) : OkAv (zs ++ [z]) := by
  refine ⟨by rw [List.length_append]; exact n, fun y hy => ?_, fun y hy => ?_⟩
  · rcases List.mem_append.mp hy with k | k
    · exact h.w4 y k
    · rw [List.mem_singleton.mp k]; exact w
  · rcases List.mem_append.mp hy with k | k
    · exact h.r0 y k
    · rw [List.mem_singleton.mp k]; exact r
/-- what the law's own search gave -/
def DueAt (H : Hp) (v : V) (m : Nat → Nat → Int) (zs : List Av) (sh : Int) : Prop := (∃ o p, v = .ref p ∧ IsB m zs sh o ∧ OrAt H p m zs o) ∨ (v = .str "none" ∧ ∀ o ∈ ords zs.length, candB m zs sh o = false)
theorem min4 (n : Nat) : (if (4 : Int) < (n : Int) then (4 : Int) else (n : Int)) = ((min n 4 : Nat) : Int) := by
  split <;> omega
end Sk

set_option Elab.async false
set_option linter.all false
set_option maxRecDepth 100000
set_option maxHeartbeats 4000000
namespace Sk
open PySem PySem.Spec PyProof.Rows L2
def top (i : Nat) : Stmt := PySem.Challenge.pw_skyapart_k18_landings.main.body.getD i (.Pass ⟨0, 0, 0, 0⟩)
abbrev s_law_start : Stmt := top 13
abbrev s_law_draw : Stmt := top 14
abbrev s_law_pick : Stmt := top 15
abbrev s_law_is_number : Stmt := top 16
section
variable {P : Program} {w : World} {K : PySem.W.Frag} {mg : Str → Option Value} {base : Heap}
theorem sc_law_start : FnScope ["script", "cell"] ["script"] (defScope s_law_start) := ⟨rfl, rfl, rfl, by decide +kernel, rfl, by decide +kernel, by decide +kernel⟩
theorem ok_law_start {f : Addr} {fd : FuncData} (F : Fun K "_law_start" "_law_start" s_law_start f fd) (T : Txt0 mg) : FnOk P w K mg base CX0 1 f fd ["script"] (spStart K) := by
  refine F.ok sc_law_start (fun vs H Q E h => ?_) (fun cdv A outer s H vs Q E hr h => ?_)
  · obtain ⟨a, ns, rfl, _⟩ := h
    rfl
  · obtain ⟨a, ns, rfl, hS, hl, k⟩ := h
    refine ⟨_, (pss_one (ps_ret (pe_disp (pps_cons pe_str (pe_lc (own := [("cell", 1)]) (g := gName 1) (by rfl) sc_law_start.nd (pi_list (pv 0)) (blkOk_by (own := [("cell", 1)]) (N := ["script", "cell"]) (sc := defScope s_law_start) (by decide +kernel)) (fun _ _ _ _ _ => (pg_name (i := 1) sc_law_start.nd rfl (Or.inl rfl))) (fun _ _ _ _ _ => pts_nil) (fun _ _ _ _ _ => (pe_callB call_abs (by rfl) T.abs boot_abs (pa_cons (pe_callTy call_int1 (by rfl) T.int boot_int (pa_cons (pv 1) pa_nil)) pa_nil)))) (pps_cons pe_str pe_int (pps_cons pe_str pe_int (pps_cons pe_str (pe_op op_add pe_int (pe_callB call_len_seq (by rfl) T.len boot_len (pa_cons (pv 0) pa_nil))) pps_nil)))) (by rfl) (by rfl) (fun z => by cases z) (by decide)))), ?_⟩
    -- the dict
    intro d hd
    have s0 : Same H (upd H d (.dK [])) := same_new hd
    refine ⟨_, rfl, a, rfl, ⟨_, s0.seq hS⟩, fun D hD => ?_⟩
    have nDd : d ≠ D := fun z => by rw [← z, upd_same] at hD; cases hD
    refine lc_list (K := K) (a := a) (xs := ns.map V.int) (fun i H' => ∃ cs : List Int, H' D = some (.lst (cs.map V.int)) ∧ cs.length = i ∧ (∀ x ∈ cs, 0 ≤ x) ∧ Same H H' ∧ H' d = some (.dK []))
      ⟨[], upd_same, rfl, (fun _ h => nomatch h), fun b o e => (same_new hD) b o (s0 b o e), by rw [upd_ne nDd, upd_same]⟩ (fun i H' _ ⟨_, _, _, _, s2, _⟩ => s2.seq hS) ?_ ?_
    · rintro i x H' hx ⟨cs, hc, hi, hn, s2, h2⟩
      obtain ⟨z, rfl⟩ : ∃ z, x = V.int z := by
        rw [List.getElem?_map] at hx
        cases e : ns[i]? with
        | none => rw [e] at hx; cases hx
        | some z => rw [e] at hx; exact ⟨z, (Option.some.inj hx).symm⟩
      have hil : i < (ns.map V.int).length := (List.getElem?_eq_some_iff.mp hx).1
      rw [List.length_map] at hil
      refine ⟨rfl, ?_⟩
      refine ⟨_, rfl, .inl ⟨_, rfl, _, rfl, _, hc, ?_, cs ++ [if z < 0 then -z else z], ?_, ?_, ?_, ?_, ?_⟩⟩
      · rw [List.length_map]; exact small1000 (by omega)
      · rw [upd_same, List.map_append]; rfl
      · rw [List.length_append, hi]; rfl
      · intro y hy
        rcases List.mem_append.mp hy with hy | hy
        · exact hn y hy
        · rw [List.mem_singleton.mp hy]; split <;> omega
      · intro b o e
        rw [upd_ne (ne_of_none e (s0.free hD))]
        exact s2 b o e
      · rw [upd_ne nDd]; exact h2
    · rintro H' ⟨cs, hc, hi, hn, s2, h2⟩
      refine ⟨_, rfl, a, _, rfl, .inl (s2.seq hS), _, _, rfl, rfl, h2, stK D 0 0 (7 + ((ns.map V.int).length : Int)), rfl, (by show 4 ≤ 15; decide), ?_⟩
      rw [merge_st]
      have hDd : D ≠ d := fun z => nDd z.symm
      refine k d D _ hd (s0.free hD) ⟨cs, 0, 0, _, upd_same, (by rw [upd_ne hDd]; exact hc), hn, by omega, by omega, ?_, ?_⟩ fun b o e => ?_
      · omega
      · rw [List.length_map]; omega
      · rw [upd_ne (ne_of_none e hd)]
        exact s2 b o e
theorem sc_law_draw : FnScope ["state", "bound", "cell", "number"] ["state", "bound"] (defScope s_law_draw) := ⟨rfl, rfl, rfl, by decide +kernel, rfl, by decide +kernel, by decide +kernel⟩
theorem ok_law_draw {f : Addr} {fd : FuncData} (F : Fun K "_law_draw" "_law_draw" s_law_draw f fd) (T : Txt0 mg) : FnOk P w K mg base CX0 1 f fd ["state", "bound"] (spDraw K) := by
  refine F.ok sc_law_draw (fun vs H Q E h => ?_) (fun cdv A outer s H vs Q E hr h => ?_)
  · obtain ⟨d, c, b, rfl, _⟩ := h
    rfl
  · obtain ⟨d, c, b, rfl, S1, b0, b1, k⟩ := h
    have hu := hu_of hr
    have hm : ∀ x : Int, 0 ≤ x % b ∧ x % b < b := fun x => ⟨Int.emod_nonneg x (by omega), Int.emod_lt_of_pos x b0⟩
    have hmx : ∀ x : Int, 0 ≤ x % 2147483647 ∧ x % 2147483647 < 2147483648 := fun x => by omega
    refine ⟨_, (pss_cons (ps_if (PW.pt (pw_and (pt_cmpR op_eq (pe_dget hu (pv 0) pe_str (fun _ _ => rfl)) pe_int (nomark _)) (pw_and1 (pt_cmpR op_lt (pe_dget hu (pv 0) pe_str (fun _ _ => rfl)) (pe_callB call_len_seq (by rfl) T.len boot_len (pa_cons (pe_dget hu (pv 0) pe_str (fun _ _ => rfl)) pa_nil)) (nomark _))))) (pss_cons (ps_set (i := 2) sc_law_draw.nd rfl (Or.inl rfl) (pe_ix ix_list (pe_dget hu (pv 0) pe_str (fun _ _ => rfl)) (pe_dget hu (pv 0) pe_str (fun _ _ => rfl)) (fun _ _ => rfl)))
    (pss_cons (ps_dput hu (pv 0) pe_str (pe_op op_add (pe_dget hu (pv 0) pe_str (fun _ _ => rfl)) pe_int) rfl)
    (pss_cons (ps_dput hu (pv 0) pe_str (pe_op op_mod (pe_callTy call_int1 (by rfl) T.int boot_int (pa_cons (pe_op op_add (pe_op op_add (pe_op op_mul (pe_dget hu (pv 0) pe_str (fun _ _ => rfl)) pe_int) (pv 2)) pe_int) pa_nil)) pe_int) rfl)
    (pss_cons (ps_if (pt_cmpR op_lt (pv 2) (pe_op op_pow pe_int pe_int) (nomark _)) (pss_one (ps_ret (pe_op op_mod (pe_callTy call_int1 (by rfl) T.int boot_int (pa_cons (pv 2) pa_nil)) (pv 1))))
      pss_nil)
    (pss_one (ps_dput hu (pv 0) pe_str (pv 2) rfl))))))
      pss_nil)
    (pss_cons (ps_if (pt_cmpR op_gt (pe_dget hu (pv 0) pe_str (fun _ _ => rfl)) pe_int (nomark _)) (pss_cons (ps_set (i := 3) sc_law_draw.nd rfl (Or.inl rfl) (pe_op op_mod (pe_callTy call_int1 (by rfl) T.int boot_int (pa_cons (pe_dget hu (pv 0) pe_str (fun _ _ => rfl)) pa_nil)) (pv 1)))
    (pss_cons (ps_dput hu (pv 0) pe_str (pe_op op_fdivW (pe_dget hu (pv 0) pe_str (fun _ _ => rfl)) (pv 1)) rfl)
    (pss_one (ps_ret (pv 3)))))
      pss_nil)
    (pss_cons (ps_dput hu (pv 0) pe_str (pe_op op_mod (pe_callTy call_int1 (by rfl) T.int boot_int (pa_cons (pe_op op_add (pe_op op_mul (pe_dget hu (pv 0) pe_str (fun _ _ => rfl)) pe_int) pe_int) pa_nil)) pe_int) rfl)
    (pss_one (ps_ret (pe_op op_mod (pe_callTy call_int1 (by rfl) T.int boot_int (pa_cons (pe_op op_mod (pe_callTy call_int1 (by rfl) T.int boot_int (pa_cons (pe_op op_add (pe_op op_mul (pe_dget hu (pv 0) pe_str (fun _ _ => rfl)) pe_int) pe_int) pa_nil)) pe_int) pa_nil)) (pv 1))))))), ?_⟩
    refine cut (fun σ' H' => ∃ v2 v3, σ' = [some (.ref d), some (.int b), v2, v3] ∧ St1 K H' d c ∧ Keep d H H') ?_ (fun rest => ?_)
    · -- the rest: from a number that is left, or from the mix
      rintro σ' H' ⟨v2, v3, rfl, ⟨ns, i, l, m, S⟩, kp⟩
      refine ⟨_, rfl, _, _, rfl, dg_left S.dc, _, _, rfl, rfl, _, rfl, ite2 (fun e => ?_) (fun e => ?_)⟩
      · refine ⟨_, rfl, _, _, rfl, dg_left S.dc, .inl ⟨_, rfl, _, rfl, _, _, rfl, rfl, b0, ?_⟩⟩
        refine ⟨_, rfl, _, _, rfl, dg_left S.dc, _, rfl, _, _, rfl, rfl, log_of b0 b1, _, rfl, _, _, rfl, dp_left S.dc, ?_⟩
        refine ⟨_, rfl, ?_⟩
        exact k _ _ (hm l).1 (hm l).2 ⟨_, _, _, _, S.put S.i0 (Int.ediv_nonneg S.l0 (by omega)) S.m0 S.m1⟩ (kp.trans (Keep.upd _ _ _))
      · refine ⟨_, rfl, _, _, rfl, dg_mix S.dc, _, _, rfl, rfl, .inr ⟨by decide, by decide⟩, _, _, rfl, rfl, .inl ⟨_, rfl, _, _, rfl, rfl, (by show (0:Int) < 2147483647; decide), _, rfl, _, _, rfl, dp_mix S.dc, ?_⟩⟩
        have S2 := S.put (i' := i) (l' := l) S.i0 S.l0 (hmx (m * 48271 + 11)).1 (hmx (m * 48271 + 11)).2
        refine ⟨_, rfl, _, _, rfl, dg_mix S2.dc, _, _, rfl, rfl, .inr ⟨by decide, by decide⟩, _, _, rfl, rfl, .inl ⟨_, rfl, _, _, rfl, rfl, (by show (0:Int) < 2147483629; decide), .inl ⟨_, rfl, _, rfl, _, _, rfl, rfl, b0, ?_⟩⟩⟩
        exact k _ _ (hm _).1 (hm _).2 ⟨_, _, _, _, S2⟩ (kp.trans (Keep.upd _ _ _))
    · -- the first if
      obtain ⟨ns, i, l, m, S⟩ := id S1
      refine ⟨_, rfl, _, _, rfl, dg_left S.dc, rfl, _, rfl, ite2 (fun e => ?_) (fun e => ?_)⟩
      · refine ⟨_, rfl, _, _, rfl, dg_at S.dc, _, rfl, _, _, rfl, dg_cells S.dc, _, _, rfl, .inl (.inl (.inl S.cs)), _, _, rfl, rfl, _, rfl, ite2 (fun e => ?_) (fun e => ?_)⟩
        · have hi : i < (ns.length : Int) := by
            have := of_decide_eq_true e
            rw [List.length_map] at this
            exact this
          obtain ⟨j, rfl⟩ : ∃ j : Nat, i = (j : Int) := ⟨i.toNat, by have := S.i0; omega⟩
          have hj : j < ns.length := by omega
          refine ⟨_, rfl, _, _, rfl, dg_cells S.dc, _, rfl, _, _, rfl, dg_at S.dc, _, _, _, _, rfl, rfl, .inl (.inl S.cs), atI_nat (j := j) (v := .int ns[j]) (by simp [hj]), ?_⟩
          have S2 := S.put (i' := (j : Int) + 1) (l' := l) (m' := m) (by omega) S.l0 S.m0 S.m1
          refine ⟨_, rfl, _, _, rfl, dg_at S.dc, _, _, rfl, rfl, _, rfl, _, _, rfl, dp_at S.dc, ?_⟩
          refine ⟨_, rfl, _, _, rfl, dg_mix S2.dc, _, _, rfl, rfl, .inr ⟨by decide, by decide⟩, _, rfl, _, _, rfl, rfl, _, _, rfl, rfl, .inl ⟨_, rfl, _, _, rfl, rfl, (by show (0:Int) < 2147483647; decide), _, rfl, _, _, rfl, dp_mix S2.dc, ?_⟩⟩
          have S3 := S2.put (i' := (j : Int) + 1) (l' := l) S2.i0 S.l0 (hmx (m * 48271 + ns[j] + 11)).1 (hmx (m * 48271 + ns[j] + 11)).2
          refine ⟨_, rfl, _, _, rfl, rfl, ⟨by decide, by decide, by decide⟩, _, _, rfl, rfl, _, rfl, ite2 (fun e => ?_) (fun e => ?_)⟩
          · refine ⟨_, rfl, .inl ⟨_, rfl, _, rfl, _, _, rfl, rfl, b0, ?_⟩⟩
            exact k _ _ (hm _).1 (hm _).2 ⟨_, _, _, _, S3⟩ ((Keep.upd _ _ _).trans (Keep.upd _ _ _))
          · refine ⟨_, rfl, _, rfl, _, _, rfl, dp_left S3.dc, ?_⟩
            have S4 := S3.put (i' := (j : Int) + 1) (l' := ns[j]) S2.i0 (S.nn _ (List.getElem_mem hj)) S3.m0 S3.m1
            exact rest _ _ ⟨_, _, rfl, ⟨_, _, _, _, S4⟩, ((Keep.upd _ _ _).trans (Keep.upd _ _ _)).trans (Keep.upd _ _ _)⟩
        · exact rest _ _ ⟨_, _, rfl, S1, Keep.refl _ _⟩
      · refine iteF ?_
        exact rest _ _ ⟨_, _, rfl, S1, Keep.refl _ _⟩
theorem sc_law_pick : FnScope ["state", "things"] ["state", "things"] (defScope s_law_pick) := ⟨rfl, rfl, rfl, by decide +kernel, rfl, by decide +kernel, by decide +kernel⟩
theorem ok_law_pick {f : Addr} {fd : FuncData} (F : Fun K "_law_pick" "_law_pick" s_law_pick f fd) (T : Txt0 mg) (D_law_draw : Def P w K mg base 1 "_law_draw" ["state", "bound"] (spDraw K)) : FnOk P w K mg base CX0 2 f fd ["state", "things"] (spPick K) := by
  refine F.ok sc_law_pick (fun vs H Q E h => ?_) (fun cdv A outer s H vs Q E hr h => ?_)
  · obtain ⟨d, c, l, xs, rfl, _⟩ := h
    rfl
  · obtain ⟨d, c, l, xs, rfl, S, hl, hn, hz, k⟩ := h
    refine ⟨_, (pss_one (ps_ret (pe_ix ix_list (pv 1) (pe_def D_law_draw (hr.mono (by decide)) (by rfl) (pa_cons (pv 0) (pa_cons (pe_callB call_len_seq (by rfl) T.len boot_len (pa_cons (pv 1) pa_nil)) pa_nil))) (fun _ _ => rfl)))), ?_⟩
    have hp : 0 < xs.length := List.length_pos_iff.mpr hn
    refine ⟨_, rfl, _, rfl, _, rfl, _, _, rfl, .inl hl, d, c, _, rfl, S, by omega, by omega, fun n H' n0 n1 S' kp => ?_⟩
    obtain ⟨kvs, hd⟩ := S.dk
    obtain ⟨j, rfl⟩ : ∃ j : Nat, n = (j : Int) := ⟨n.toNat, by omega⟩
    have hj : j < xs.length := by omega
    refine ⟨_, _, _, _, rfl, rfl, kp.seq hd hl, atI_nat (j := j) (v := xs[j]) (by simp [hj]), ?_⟩
    exact k _ _ (List.getElem_mem hj) S' kp
theorem sc_law_is_number : FnScope ["thing"] ["thing"] (defScope s_law_is_number) := ⟨rfl, rfl, rfl, by decide +kernel, rfl, by decide +kernel, by decide +kernel⟩
theorem ok_law_is_number {f : Addr} {fd : FuncData} (F : Fun K "_law_is_number" "_law_is_number" s_law_is_number f fd) (T : Txt0 mg) : FnOk P w K mg base CX0 1 f fd ["thing"] spIsNum := by
  refine F.ok sc_law_is_number (fun vs H Q E h => ?_) (fun cdv A outer s H vs Q E hr h => ?_)
  · obtain ⟨n, rfl, _⟩ := h
    rfl
  · obtain ⟨n, rfl, k⟩ := h
    refine ⟨_, (pss_one (ps_ret (pe_and (pe_callB call_isi (by rfl) T.isinstance boot_isinstance (pa_cons (pv 0) (pa_cons (pe_bltn (v := .ty "int") (by rfl) T.int boot_int rfl) pa_nil))) (pe_one (pe_not (pe_callB call_isi (by rfl) T.isinstance boot_isinstance (pa_cons (pv 0) (pa_cons (pe_bltn (v := .ty "bool") (by rfl) T.bool boot_bool rfl) pa_nil)))))))), ?_⟩
    refine ⟨_, rfl, _, _, _, _, true, rfl, ClsV.ty _, .base (.int n), kit_ty (by decide +kernel), true, rfl, ?_⟩
    refine iteT ?_
    refine ⟨_, rfl, _, _, _, _, false, rfl, ClsV.ty _, .base (.int n), kit_ty (by decide +kernel), false, rfl, ?_⟩
    exact k
end
end Sk

set_option Elab.async false
set_option linter.all false
set_option maxRecDepth 100000
set_option maxHeartbeats 4000000
namespace Sk
open PySem PySem.Spec PyProof.Rows L2 PySem.W
section
variable {P : Program} {w : World} {K : PySem.W.Frag} {mg : Str → Option Value} {base : Heap}
abbrev s_behind : Stmt := top 8
theorem sc_behind : FnScope ["gaps", "first", "second"] ["gaps", "first", "second"] (defScope s_behind) := ⟨rfl, rfl, rfl, by decide +kernel, rfl, by decide +kernel, by decide +kernel⟩
theorem ok_behind {f : Addr} {fd : FuncData} (F : Fun K "_behind" "_behind" s_behind f fd) (T : TxtA mg) : FnOk P w K mg base CX0 1 f fd ["gaps", "first", "second"] (spBehind8) := by
  refine F.ok sc_behind (fun vs H Q E h => ?_) (fun cdv A outer s H vs Q E hr h => ?_)
  · obtain ⟨_, _, _, _, _, _, _, _, _, _, _, rfl, _⟩ := h
    rfl
  · obtain ⟨g, a, b, rs, m, w1, w2, s1, e1, s2, e2, rfl, G, ha, hb, h1, h2, k⟩ := h
    refine ⟨_, (pss_one (ps_ret (pe_cmpR op_ge (pe_op op_sub (pe_ix (r := rIxT K) ix_tup (pv 2) pe_int (fun _ _ => rfl)) (pe_ix (r := rIxT K) ix_tup (pv 1) pe_int (fun _ _ => rfl))) (pe_ix (r := rIxT K) ix_tup (pe_ix (r := rIxT K) ix_tup (pv 0) (pe_ix (r := rIxT K) ix_tup (pv 1) pe_int (fun _ _ => rfl)) (fun _ _ => rfl)) (pe_ix (r := rIxT K) ix_tup (pv 2) pe_int (fun _ _ => rfl)) (fun _ _ => rfl)) (nomark _)))), ?_⟩
    exact ⟨_, rfl, _, _, _, _, rfl, rfl, (.inl (.inl hb)), rfl, _, rfl, _, _, _, _, rfl, rfl, (.inl (.inl ha)), rfl, _, _, rfl, rfl, _, rfl, _, rfl, _, _, _, _, rfl, rfl, (.inl (.inl ha)), rfl, _, _, _, _, rfl, rfl, (.inl (.inl G.tu)), four_of (fun i => V.ref (rs i)) h1, _, rfl, _, _, _, _, rfl, rfl, (.inl (.inl hb)), rfl, _, _, _, _, rfl, rfl, (.inl (.inl (G.ro w1 h1))), four_of (fun i => V.int (m w1 i)) h2, _, _, rfl, rfl, k⟩
abbrev s_apart : Stmt := top 5
theorem sc_apart : FnScope ["gaps", "first", "second"] ["gaps", "first", "second"] (defScope s_apart) := ⟨rfl, rfl, rfl, by decide +kernel, rfl, by decide +kernel, by decide +kernel⟩
theorem ok_apart {f : Addr} {fd : FuncData} (F : Fun K "apart" "apart" s_apart f fd) (T : TxtA mg)
    (D_behind : Def P w K mg base 1 "_behind" ["gaps", "first", "second"] (spBehind8)) : FnOk P w K mg base CX0 2 f fd ["gaps", "first", "second"] (spApart8) := by
  refine F.ok sc_apart (fun vs H Q E h => ?_) (fun cdv A outer s H vs Q E hr h => ?_)
  · obtain ⟨_, _, _, _, _, _, _, _, _, _, _, rfl, _⟩ := h
    rfl
  · obtain ⟨g, a, b, rs, m, w1, w2, s1, e1, s2, e2, rfl, G, ha, hb, h1, h2, k⟩ := h
    refine ⟨_, (pss_one (ps_ret (pe_or (pe_def D_behind (hr.mono (by decide)) (by rfl) (pa_cons (pv 0) (pa_cons (pv 1) (pa_cons (pv 2) pa_nil)))) (pe_one (pe_def D_behind (hr.mono (by decide)) (by rfl) (pa_cons (pv 0) (pa_cons (pv 2) (pa_cons (pv 1) pa_nil)))))))), ?_⟩
    refine ⟨_, rfl, _, rfl, _, rfl, g, a, b, rs, m, w1, w2, s1, e1, s2, e2, rfl, G, ha, hb, h1, h2, ?_⟩
    refine ⟨_, rfl, ?_⟩
    cases c : bh8 m w1 w2 e1 s2 with
    | true =>
      rw [c, Bool.true_or] at k
      exact (if_pos rfl).mpr k
    | false =>
      rw [c, Bool.false_or] at k
      refine (if_neg Bool.false_ne_true).mpr ?_
      exact ⟨_, rfl, _, rfl, _, rfl, g, b, a, rs, m, w2, w1, s2, e2, s1, e1, rfl, G, hb, ha, h2, h1, k⟩
abbrev s_landing_ticks : Stmt := top 6
theorem sc_landing_ticks : FnScope ["gaps", "arrivals", "order", "landed", "index", "wake", "tick", "_", "earlier_wake", "earlier_tick"] ["gaps", "arrivals", "order"] (defScope s_landing_ticks) := ⟨rfl, rfl, rfl, by decide +kernel, rfl, by decide +kernel, by decide +kernel⟩
theorem ok_landing_ticks {f tc tp : Addr} {fd : FuncData} {TT : List Addr} (F : Fun K "landing_ticks" "landing_ticks" s_landing_ticks f fd) (T : TxtA mg) (hc : fd.code = .ref tc) (TB : LamX.TabB base mg tc tp) (hP : tp ∈ TT) : FnOk P w K mg base CX0 2 f fd ["gaps", "arrivals", "order"] (spLand TT) := by
  refine okT F hc sc_landing_ticks (fun vs H Q E h => ?_) (fun A outer s H vs Q E hr h => ?_)
  · obtain ⟨_, _, _, _, _, _, _, rfl, _⟩ := h
    rfl
  · obtain ⟨g, ar, q, rs, m, zs, o, rfl, G, A, ok, hq, hi, ol, hT, k⟩ := h
    have hu := hu_of hr
    refine ⟨_, (pss_cons (ps_set (i := 3) sc_landing_ticks.nd rfl (Or.inl rfl) (pe_lst pa_nil))
    (pss_cons (ps_for PassesOwn.never rfl (pi_tup (pv 2)) (pg_name (i := 4) sc_landing_ticks.nd rfl (Or.inl rfl))
      (pss_cons (ps_asg (pe_ix (r := rIxL K) ix_list (pv 1) (pv 4) (fun _ _ => rfl)) (pg_tup (by rfl) (pgs_cons (pg_name (i := 5) sc_landing_ticks.nd rfl (Or.inl rfl)) (pgs_cons (pg_name (i := 6) sc_landing_ticks.nd rfl (Or.inl rfl)) (pgs_cons (pg_name (i := 7) sc_landing_ticks.nd rfl (Or.inl rfl)) pgs_nil)))))
    (pss_cons (ps_for PassesOwn.never rfl (pi_list (pv 3)) (pg_tup (by rfl) (pgs_cons (pg_name (i := 8) sc_landing_ticks.nd rfl (Or.inl rfl)) (pgs_cons (pg_name (i := 9) sc_landing_ticks.nd rfl (Or.inl rfl)) pgs_nil)))
      (pss_one (ps_set (i := 6) sc_landing_ticks.nd rfl (Or.inl rfl) (pe_callB (call_max2 rfl) (by rfl) T.max boot_max (pa_cons (pv 6) (pa_cons (pe_op op_add (pv 9) (pe_ix (r := rIxT K) ix_tup (pe_ix (r := rIxT K) ix_tup (pv 0) (pv 8) (fun _ _ => rfl)) (pv 5) (fun _ _ => rfl))) pa_nil))))))
    (pss_one (ps_expr (pe_bm PySem.F.plainAttrs_list PySem.F.slot_list_append PySem.F.type_list_append mt_append (pv 3) (pa_cons (pe_tup (pa_cons (pv 5) (pa_cons (pv 6) pa_nil))) pa_nil)))))))
    (pss_one (ps_ret (pe_tupG (k := 0) (own := [("_", 7), ("tick", 6)]) (g := (gTup K 2 (gCons (gName 7) (gCons (gName 6) gNil)))) (hr.mono (by decide)) sc_landing_ticks.nd (by rfl) T.tuple TB rfl (gscp_by (by decide +kernel)) (blkOk_by (own := [("_", 7), ("tick", 6)]) (N := ["gaps", "arrivals", "order", "landed", "index", "wake", "tick", "_", "earlier_wake", "earlier_tick"]) (sc := defScope s_landing_ticks) (by decide +kernel)) (pi_list (pv 3)) (fun _ _ _ _ _ _ _ r => (pg_tup (by rfl) (pgs_cons (pg_name (i := 7) sc_landing_ticks.nd rfl (Or.inl rfl)) (pgs_cons (pg_name (i := 6) sc_landing_ticks.nd rfl (Or.inl rfl)) pgs_nil)))) (fun _ _ _ _ _ _ _ r => pts_nil) (fun _ _ _ _ _ _ _ r => (pv 6))))))), ?_⟩
    rw [show L2.start ["gaps", "arrivals", "order", "landed", "index", "wake", "tick", "_", "earlier_wake", "earlier_tick"] [V.ref g, V.ref ar, V.ref q] = [some (V.ref g), some (V.ref ar), some (V.ref q), none, none, none, none, none, none, none] from rfl]
    refine ⟨szOk rfl, fun p1 hp1 => ?_⟩
    have s1 := same_new (o := .lst []) hp1
    have L1 : LdAt (upd H p1 (.lst [])) p1 [] := ⟨upd_same, fun x h => nomatch h⟩
    generalize upd H p1 (.lst []) = H1 at s1 L1 ⊢
    refine nm ?_
    dsimp only [List.set]
    refine ⟨_, rfl, q, rfl, ⟨_, .inl (.inl (s1 _ _ hq))⟩, for_tup (K := K) (a := q) (xs := onV o) (fun i σ H2 => ∃ (v4 v5 v6 v7 v8 v9 : Option V) (xs : List Ld), σ = [some (.ref g), some (.ref ar), some (.ref q), some (.ref p1), v4, v5, v6, v7, v8, v9] ∧ Same H H2 ∧ LdAt H2 p1 xs ∧ xs.map (·.2) = landF m zs (o.take i)) ⟨_, _, _, _, _, _, [], rfl, s1, L1, rfl⟩ (fun i σ H2 _ ⟨_, _, _, _, _, _, _, _, sm, _⟩ => .inl (.inl (sm _ _ hq))) ?_ ?_⟩
    · rintro i y σ H2 hy ⟨v4, v5, v6, v7, v8, v9, xs, rfl, sm, L2, ex⟩
      obtain ⟨j, rfl, hj, hil, htk⟩ := getMap hy
      have hjz := hi j hj
      have A2 := A.same sm
      have G2 := G.same sm
      have hz := avI_mem hjz
      have ha := A2.2 _ hz
      have w4 := ok.w4 _ hz
      have xl : xs.length ≤ 100 := by
        have e := congrArg List.length ex
        rw [List.length_map, landF_len, List.length_take] at e
        omega
      have xw : ∀ x ∈ xs, x.2.1 < 4 := fun x hx => by
        have e : x.2.1 ∈ (landF m zs (o.take i)).map (·.1) := by rw [← ex, List.map_map]; exact List.mem_map.mpr ⟨x, hx, rfl⟩
        rw [landF_w] at e
        obtain ⟨k0, hk0, ek⟩ := List.mem_map.mp e
        rw [← ek]
        exact ok.w4 _ (avI_mem (hi k0 (List.mem_of_mem_take hk0)))
      have et : landF m zs (o.take (i + 1)) = landF m zs (o.take i) ++ [((avI zs j).w, tickL m (landF m zs (o.take i)) (avI zs j))] := by rw [htk, landF_snoc]
      refine nm ?_
      dsimp only [List.set]
      refine ⟨_, rfl, _, rfl, _, _, _, .ref (avI zs j).a, rfl, rfl, .inl (.inl A2.1), atI_nat (by rw [List.getElem?_map, avI_at hjz]; rfl), _, _, rfl, .inl (.inl ha), rfl, _, _, rfl, _, _, rfl, _, _, rfl, rfl, ?_⟩
      refine nm ?_
      dsimp only [List.set]
      generalize avI zs j = z at *
      refine ⟨_, rfl, p1, rfl, ⟨_, .inl (.inl L2.1)⟩, for_list (K := K) (a := p1) (xs := xs.map fun x => V.ref x.1) (fun u σ H3 => ∃ (v8 v9 : Option V), σ = [some (.ref g), some (.ref ar), some (.ref q), some (.ref p1), some (.int (j : Int)), some (.int (z.w : Nat)), some (.int (tickL m ((xs.map (·.2)).take u) z)), some (.int z.l), v8, v9] ∧ H3 = H2) ⟨_, _, rfl, rfl⟩ (fun u σ H3 _ ⟨_, _, _, e⟩ => .inl (.inl (by rw [e]; exact L2.1))) ?_ ?_⟩
      · rintro u y σ H3 hy ⟨w8, w9, rfl, rfl⟩
        obtain ⟨x, rfl, hx, hul, hxt⟩ := getMap hy
        have hx2 := L2.2 x hx
        have xw4 := xw x hx
        have st1 : tickL m ((xs.map (·.2)).take (u + 1)) z = mx (tickL m ((xs.map (·.2)).take u) z) (x.2.2 + m x.2.1 z.w) := by
          rw [← List.map_take, hxt, List.map_append, ← List.map_take]
          unfold tickL
          rw [List.foldl_append]
          rfl
        refine ⟨_, _, rfl, .inl (.inl hx2), rfl, _, _, rfl, _, _, rfl, rfl, ?_⟩
        dsimp only [List.set]
        refine ⟨_, rfl, _, rfl, _, rfl, _, rfl, _, _, _, _, rfl, rfl, (.inl (.inl G2.tu)), four_of (fun i => V.ref (rs i)) xw4, _, rfl, _, _, _, _, rfl, rfl, (.inl (.inl (G2.ro x.2.1 xw4))), four_of (fun i => V.int (m x.2.1 i)) w4, _, _, rfl, rfl, _, _, rfl, ?_⟩
        dsimp only [gName, List.set]
        rw [st1]
        exact ⟨_, _, rfl, rfl⟩
      rintro σ H3 ⟨w8, w9, rfl, rfl⟩
      rw [List.length_map, show (xs.map (·.2)).take xs.length = xs.map (·.2) from List.take_of_length_le (by rw [List.length_map]; exact Nat.le_refl _), ex]
      dsimp only
      refine ⟨_, rfl, (.inl ⟨rfl, _, .inl (.inl L2.1)⟩), _, rfl, _, rfl, szOk rfl, fun t ht => ?_⟩
      have st := same_new (o := .tup [.int (z.w : Nat), .int (tickL m (landF m zs (o.take i)) z)]) ht
      have L3 := L2.add (w := z.w) (v := tickL m (landF m zs (o.take i)) z) ht
      refine ⟨_, _, _, rfl, rfl, st _ _ L2.1, (by rw [List.length_map, sizeLine_eq]; omega), ?_⟩
      refine ⟨_, _, _, _, _, _, xs ++ [(t, z.w, tickL m (landF m zs (o.take i)) z)], rfl, fun b ob hb => ?_, L3, ?_⟩
      · have n1 : b ≠ p1 := ne_of_none hb hp1
        rw [upd_ne n1]
        exact st _ _ (sm _ _ hb)
      · rw [List.map_append, ex, et]
        rfl
    rintro σ H2 ⟨v4, v5, v6, v7, v8, v9, xs, rfl, sm, L2, ex⟩
    rw [show (onV o).length = o.length from List.length_map .., List.take_length] at ex
    have T2 := Same.tabs sm hT
    refine ⟨_, rfl, p1, rfl, ⟨_, .inl (.inl L2.1)⟩, T2 tp hP, fun H3 tb => ?_⟩
    have st3 := SameT.tabbed hP tb
    have L3 := L2.st st3 T2
    have xl : xs.length ≤ 100 := by
      have e := congrArg List.length ex
      rw [List.length_map, landF_len] at e
      omega
    refine gat_walk (walk_list (K := K) (a := p1) (xs := xs.map fun x => V.ref x.1)) (fun u ys H4 => H4 = H3 ∧ ys = ((xs.take u).map fun x => V.int x.2.2)) ⟨rfl, rfl⟩ (fun u ys H4 _ e => .inl (.inl (by rw [e.1]; exact L3.1))) ?_ ?_
    · rintro u ys y H4 H5 hu ⟨rfl, rfl⟩ ⟨rfl, hy⟩
      obtain ⟨x, rfl, hx, hul, hxt⟩ := getMap hy
      have hx2 := L3.2 x hx
      refine ⟨_, _, rfl, .inl (.inl hx2), rfl, _, _, rfl, _, _, rfl, rfl, rfl, yes_if ?_⟩
      refine ⟨_, rfl, ?_, rfl, ?_⟩
      · rw [List.length_map, List.length_take]
        omega
      · rw [hxt, List.map_append]
        rfl
    rintro ys H4 ⟨rfl, rfl⟩ p hp
    rw [List.length_map, List.take_length]
    have e : (xs.map fun x => V.int x.2.2) = (tks m zs o).map V.int := by
      unfold tks
      rw [← ex, List.map_map, List.map_map]
      rfl
    rw [e]
    exact k p _ (((SameT.of sm).trans st3).trans (SameT.of (same_new hp))) (SameT.out8 ((SameT.of sm).trans st3) hT hp) upd_same
abbrev s_near_places : Stmt := top 10
theorem sc_near_places : FnScope ["places", "order", "shift", "place", "index"] ["places", "order", "shift"] (defScope s_near_places) := ⟨rfl, rfl, rfl, by decide +kernel, rfl, by decide +kernel, by decide +kernel⟩
theorem ok_near_places {f tc tp : Addr} {fd : FuncData} {TT : List Addr} (F : Fun K "_near_places" "_near_places" s_near_places f fd) (T : TxtA mg) (hc : fd.code = .ref tc) (TB : LamX.TabB base mg tc tp) (hP : tp ∈ TT) : FnOk P w K mg base CX0 2 f fd ["places", "order", "shift"] (spNear8 TT) := by
  refine okT F hc sc_near_places (fun vs H Q E h => ?_) (fun A outer s H vs Q E hr h => ?_)
  · obtain ⟨_, _, _, _, _, rfl, _⟩ := h
    rfl
  · obtain ⟨d, q, zs, o, sh, rfl, hd, hq, hi, ol, hT, k⟩ := h
    have hu := hu_of hr
    refine ⟨_, (pss_one (ps_ret (pe_allG (k := 0) (own := [("place", 3), ("index", 4)]) (g := (gTup K 2 (gCons (gName 3) (gCons (gName 4) gNil)))) (hr.mono (by decide)) sc_near_places.nd (by rfl) T.all TB rfl (gscp_by (by decide +kernel)) (blkOk_by (own := [("place", 3), ("index", 4)]) (N := ["places", "order", "shift", "place", "index"]) (sc := defScope s_near_places) (by decide +kernel)) (pi_enumT (by rfl) T.enumerate (pa_cons (pv 1) pa_nil)) (fun _ _ _ _ _ _ _ r => (pg_tup (by rfl) (pgs_cons (pg_name (i := 3) sc_near_places.nd rfl (Or.inl rfl)) (pgs_cons (pg_name (i := 4) sc_near_places.nd rfl (Or.inl rfl)) pgs_nil)))) (fun _ _ _ _ _ _ _ r => pts_nil) (fun _ _ _ _ _ _ _ r => (pe_cmpR op_le (pe_callB call_abs (by rfl) T.abs boot_abs (pa_cons (pe_op op_sub (pv 3) (pe_dget (hu_of r) (pv 0) (pv 4) (fun _ _ => rfl))) pa_nil)) (pv 2) (nomark _)))))), ?_⟩
    rw [show L2.start ["places", "order", "shift", "place", "index"] [V.ref d, V.ref q, V.int sh] = [some (V.ref d), some (V.ref q), some (V.int sh), none, none] from rfl]
    obtain ⟨kvs, hd, hk⟩ := hd
    refine ⟨_, rfl, q, onV o, rfl, .inl (.inl hq), hT tp hP, fun H3 tb => ?_⟩
    have st3 := SameT.tabbed hP tb
    have hd3 := st3.d hT hd
    have hq3 := st3.t hT hq
    have no : ∀ p, p < o.length → decide (ab ((p : Int) - (plA zs (o.getD p 0) : Int)) ≤ sh) = false → nearB zs sh o = false := fun p hp e => by
      unfold nearB
      rw [Bool.eq_false_iff]
      intro z
      have := List.all_eq_true.mp z p (List.mem_range.mpr hp)
      rw [e] at this
      cases this
    refine till_walk (e := false) (walk_enumT (K := K) (a := q) (xs := onV o)) (fun i H4 => Same H3 H4 ∧ ∀ p, p < i → decide (ab ((p : Int) - (plA zs (o.getD p 0) : Int)) ≤ sh) = true) ⟨Same.refl H3, fun p h => absurd h (Nat.not_lt_zero p)⟩ (fun i H4 _ e => .inl (.inl (e.1 _ _ hq3))) ?_ ?_
    · rintro i x H4 H5 hil ⟨sm, hb⟩ ⟨t, x', y', rfl, ht, rfl, ex, ey⟩
      obtain rfl := Option.some.inj ex
      obtain ⟨j, rfl, hj, hil, htk⟩ := getMap ey
      have ej : o.getD i 0 = j := by
        have ey : (onV o)[i]? = some (V.int (j : Int)) := ey
        unfold onV at ey
        rw [List.getElem?_map] at ey
        cases e : o[i]? with
        | none => rw [e] at ey; cases ey
        | some j' =>
          rw [e] at ey
          have h1 : (j' : Int) = (j : Int) := V.int.inj (Option.some.inj ey)
          rw [List.getD_eq_getElem?_getD, e]
          show j' = j
          omega
      have hjz := hi j hj
      have s5 := same_new (o := .tup [.int (i : Nat), .int (j : Int)]) ht
      have hd5 := s5 _ _ (sm _ _ hd3)
      have gd : DGet (upd H4 t (.tup [.int (i : Nat), .int (j : Int)])) d (.int (j : Int)) (some (.int (plA zs j : Nat))) := by
        have := DGet.k (k := .inl (j : Int)) hd5
        rw [hk j hjz] at this
        exact this
      refine ⟨_, _, rfl, .inl (.inl upd_same), rfl, _, _, rfl, _, _, rfl, rfl, rfl, yes_if ?_⟩
      refine ⟨_, rfl, _, rfl, _, rfl, _, _, rfl, gd, _, _, rfl, rfl, _, rfl, _, rfl, _, _, rfl, rfl, _, rfl, ?_⟩
      have hc : ∀ b, decide (ab ((i : Int) - (plA zs j : Int)) ≤ sh) = b → decide (ab ((i : Int) - (plA zs (o.getD i 0) : Int)) ≤ sh) = b := fun b h => by rw [ej]; exact h
      cases c : decide (ab ((i : Int) - (plA zs j : Int)) ≤ sh) with
      | false =>
        refine (if_pos c).mpr ?_
        have kk := k _ (st3.trans (SameT.of (sm.trans s5)))
        rw [no i hil (hc _ c)] at kk
        exact kk
      | true =>
        refine (if_neg (fun z => Bool.noConfusion (Eq.trans c.symm z))).mpr ⟨sm.trans s5, fun p hp => ?_⟩
        rcases Nat.lt_or_ge p i with z | z
        · exact hb p z
        · obtain rfl : p = i := by omega
          exact hc _ c
    rintro H4 ⟨sm, hb⟩
    have kk := k _ (st3.trans (SameT.of sm))
    have e : nearB zs sh o = true := by
      unfold nearB
      refine List.all_eq_true.mpr fun p hp => hb p ?_
      rw [show (onV o).length = o.length from List.length_map ..]
      exact List.mem_range.mp hp
    rw [e] at kk
    exact kk
abbrev s_in_time : Stmt := top 11
theorem sc_in_time : FnScope ["arrivals", "order", "ticks", "index", "tick"] ["arrivals", "order", "ticks"] (defScope s_in_time) := ⟨rfl, rfl, rfl, by decide +kernel, rfl, by decide +kernel, by decide +kernel⟩
theorem ok_in_time {f tc tp : Addr} {fd : FuncData} {TT : List Addr} (F : Fun K "_in_time" "_in_time" s_in_time f fd) (T : TxtA mg) (Tz : mg "zip" = none) (hc : fd.code = .ref tc) (TB : LamX.TabB base mg tc tp) (hP : tp ∈ TT) : FnOk P w K mg base CX0 2 f fd ["arrivals", "order", "ticks"] (spTime8 TT) := by
  refine okT F hc sc_in_time (fun vs H Q E h => ?_) (fun A outer s H vs Q E hr h => ?_)
  · obtain ⟨_, _, _, _, _, _, rfl, _⟩ := h
    rfl
  · obtain ⟨ar, q, t, m, zs, o, rfl, A, hq, hi, ol, ht, hT, k⟩ := h
    have hu := hu_of hr
    refine ⟨_, (pss_one (ps_ret (pe_allG (k := 0) (own := [("index", 3), ("tick", 4)]) (g := (gTup K 2 (gCons (gName 3) (gCons (gName 4) gNil)))) (hr.mono (by decide)) sc_in_time.nd (by rfl) T.all TB rfl (gscp_by (by decide +kernel)) (blkOk_by (own := [("index", 3), ("tick", 4)]) (N := ["arrivals", "order", "ticks", "index", "tick"]) (sc := defScope s_in_time) (by decide +kernel)) (RZ.pi_zipA (by rfl) Tz (pa_cons (pv 1) (pa_cons (pv 2) pa_nil))) (fun _ _ _ _ _ _ _ r => (pg_tup (by rfl) (pgs_cons (pg_name (i := 3) sc_in_time.nd rfl (Or.inl rfl)) (pgs_cons (pg_name (i := 4) sc_in_time.nd rfl (Or.inl rfl)) pgs_nil)))) (fun _ _ _ _ _ _ _ r => pts_nil) (fun _ _ _ _ _ _ _ r => (pe_cmpR op_le (pv 4) (pe_ix (r := rIxT K) ix_tup (pe_ix (r := rIxL K) ix_list (pv 0) (pv 3) (fun _ _ => rfl)) pe_int (fun _ _ => rfl)) (nomark _)))))), ?_⟩
    rw [show L2.start ["arrivals", "order", "ticks", "index", "tick"] [V.ref ar, V.ref q, V.ref t] = [some (V.ref ar), some (V.ref q), some (V.ref t), none, none] from rfl]
    have le : (onV o).length = ((tks m zs o).map V.int).length := by unfold onV; rw [List.length_map, List.length_map, tks_len]
    refine ⟨_, rfl, _, rfl, q, t, onV o, _, rfl, .inr ⟨.inl (.inl hq), .inl (.inl ht), hT tp hP, fun H3 tb => ?_⟩⟩
    have st3 := SameT.tabbed hP tb
    have A3 := A.st st3 hT
    have hq3 := st3.t hT hq
    have ht3 := st3.t hT ht
    have no : ∀ p, p < o.length → decide ((tks m zs o).getD p 0 ≤ (avI zs (o.getD p 0)).l) = false → timeB m zs o = false := fun p hp e => by
      unfold timeB
      rw [Bool.eq_false_iff]
      intro z
      have := List.all_eq_true.mp z p (List.mem_range.mpr hp)
      rw [e] at this
      cases this
    refine till_walk (e := false) (walk_zipT (K := K) (a := q) (b := t) le) (fun i H4 => Same H3 H4 ∧ ∀ p, p < i → decide ((tks m zs o).getD p 0 ≤ (avI zs (o.getD p 0)).l) = true) ⟨Same.refl H3, fun p h => absurd h (Nat.not_lt_zero p)⟩ (fun i H4 _ e => ⟨.inl (.inl (e.1 _ _ hq3)), .inl (.inl (e.1 _ _ ht3))⟩) ?_ ?_
    · rintro i x H4 H5 hil ⟨sm, hb⟩ ⟨t2, x', y', rfl, ht2, rfl, ex, ey⟩
      obtain ⟨j, rfl, hj, hil, htk⟩ := getMap ex
      have ej : o.getD i 0 = j := by
        have ex : (onV o)[i]? = some (V.int (j : Int)) := ex
        unfold onV at ex
        rw [List.getElem?_map] at ex
        cases e : o[i]? with
        | none => rw [e] at ex; cases ex
        | some j' =>
          rw [e] at ex
          have h1 : (j' : Int) = (j : Int) := V.int.inj (Option.some.inj ex)
          rw [List.getD_eq_getElem?_getD, e]
          show j' = j
          omega
      obtain ⟨v, rfl, ev⟩ : ∃ v, y' = V.int v ∧ (tks m zs o).getD i 0 = v := by
        have ey : ((tks m zs o).map V.int)[i]? = some y' := ey
        rw [List.getElem?_map] at ey
        cases e : (tks m zs o)[i]? with
        | none => rw [e] at ey; cases ey
        | some v =>
          rw [e] at ey
          exact ⟨v, (Option.some.inj ey).symm, by rw [List.getD_eq_getElem?_getD, e]; rfl⟩
      have hjz := hi j hj
      have s5 := same_new (o := .tup [.int (j : Int), .int v]) ht2
      have A5 := A3.same (sm.trans s5)
      refine ⟨_, _, rfl, .inl (.inl upd_same), rfl, _, _, rfl, _, _, rfl, rfl, rfl, yes_if ?_⟩
      refine ⟨_, rfl, _, rfl, _, rfl, _, _, _, .ref (avI zs j).a, rfl, rfl, .inl (.inl A5.1), atI_nat (by rw [List.getElem?_map, avI_at hjz]; rfl), _, _, _, .int (avI zs j).l, rfl, rfl, .inl (.inl (A5.2 _ (avI_mem hjz))), rfl, _, _, rfl, rfl, _, rfl, ?_⟩
      have hc : ∀ b, decide (v ≤ (avI zs j).l) = b → decide ((tks m zs o).getD i 0 ≤ (avI zs (o.getD i 0)).l) = b := fun b h => by rw [ej, ev]; exact h
      cases c : decide (v ≤ (avI zs j).l) with
      | false =>
        refine (if_pos rfl).mpr ?_
        have kk := k _ (st3.trans (SameT.of (sm.trans s5)))
        rw [no i hil (hc _ c)] at kk
        exact kk
      | true =>
        refine (if_neg (fun z => Bool.noConfusion z)).mpr ⟨sm.trans s5, fun p hp => ?_⟩
        rcases Nat.lt_or_ge p i with z | z
        · exact hb p z
        · obtain rfl : p = i := by omega
          exact hc _ c
    rintro H4 ⟨sm, hb⟩
    have kk := k _ (st3.trans (SameT.of sm))
    have e : timeB m zs o = true := by
      unfold timeB
      refine List.all_eq_true.mpr fun p hp => hb p ?_
      rw [show (onV o).length = o.length from List.length_map ..]
      exact List.mem_range.mp hp
    rw [e] at kk
    exact kk
end
end Sk

set_option Elab.async false
set_option linter.all false
set_option maxRecDepth 100000
set_option maxHeartbeats 4000000
namespace Sk
open PySem PySem.Spec PyProof.Rows L2 PySem.W
section
variable {P : Program} {w : World} {K : PySem.W.Frag} {mg : Str → Option Value} {base : Heap}
abbrev s_places : Stmt := top 9
theorem sc_places : FnScope ["arrivals", "queue", "place", "_", "index", "arrival"] ["arrivals"] (defScope s_places) := ⟨rfl, rfl, rfl, by decide +kernel, rfl, by decide +kernel, by decide +kernel⟩
theorem ok_places {f tc tp : Addr} {fd : FuncData} {TT : List Addr} (F : Fun K "_places" "_places" s_places f fd) (T : TxtA mg) (hc : fd.code = .ref tc) (TB : LamX.TabB base mg tc tp) (hP : tp ∈ TT) : FnOk P w K mg base CX0 2 f fd ["arrivals"] (spPlaces TT) := by
  refine okT F hc sc_places (fun vs H Q E h => ?_) (fun A outer s H vs Q E hr h => ?_)
  · obtain ⟨_, _, rfl, _⟩ := h
    rfl
  · obtain ⟨ar, zs, rfl, A, ok, hT, k⟩ := h
    have hu := hu_of hr
    refine ⟨_, (pss_cons (ps_set (i := 1) sc_places.nd rfl (Or.inl rfl) (pe_sortG (k := 0) (own := [("index", 4), ("arrival", 5)]) (g := (gTup K 2 (gCons (gName 4) (gCons (gName 5) gNil)))) (hr.mono (by decide)) sc_places.nd (by rfl) T.sorted TB rfl (gscp_by (by decide +kernel)) (blkOk_by (own := [("index", 4), ("arrival", 5)]) (N := ["arrivals", "queue", "place", "_", "index", "arrival"]) (sc := defScope s_places) (by decide +kernel)) (pi_enum (by rfl) T.enumerate (pa_cons (pv 0) pa_nil)) (fun _ _ _ _ _ _ _ r => (pg_tup (by rfl) (pgs_cons (pg_name (i := 4) sc_places.nd rfl (Or.inl rfl)) (pgs_cons (pg_name (i := 5) sc_places.nd rfl (Or.inl rfl)) pgs_nil)))) (fun _ _ _ _ _ _ _ r => pts_nil) (fun _ _ _ _ _ _ _ r => (pe_tup (pa_cons (pe_ix (r := rIxT K) ix_tup (pv 5) pe_int (fun _ _ => rfl)) (pa_cons (pv 4) pa_nil))))))
    (pss_one (ps_ret (pe_dc (own := [("place", 2), ("_", 3), ("index", 4)]) (g := (gTup K 2 (gCons (gName 2) (gCons ((gTup K 2 (gCons (gName 3) (gCons (gName 4) gNil)))) gNil)))) (by rfl) sc_places.nd (pi_enum (by rfl) T.enumerate (pa_cons (pv 1) pa_nil)) (blkOk_by (own := [("place", 2), ("_", 3), ("index", 4)]) (N := ["arrivals", "queue", "place", "_", "index", "arrival"]) (sc := defScope s_places) (by decide +kernel)) (fun _ _ _ _ _ => (pg_tup (by rfl) (pgs_cons (pg_name (i := 2) sc_places.nd rfl (Or.inl rfl)) (pgs_cons (pg_tup (by rfl) (pgs_cons (pg_name (i := 3) sc_places.nd rfl (Or.inl rfl)) (pgs_cons (pg_name (i := 4) sc_places.nd rfl (Or.inl rfl)) pgs_nil))) pgs_nil)))) (fun _ _ _ _ _ => pts_nil) (fun _ _ _ _ _ => (pv 4)) (fun _ _ _ _ _ => (pv 2)))))), ?_⟩
    rw [show L2.start ["arrivals", "queue", "place", "_", "index", "arrival"] [V.ref ar] = [some (V.ref ar), none, none, none, none, none] from rfl]
    refine ⟨_, rfl, ar, _, rfl, .inl (.inl A.1), hT tp hP, fun H3 tb => ?_⟩
    have st3 := SameT.tabbed hP tb
    have A3 := A.st st3 hT
    refine gat_walk (walk_enum (K := K) (a := ar) (xs := zs.map fun z => V.ref z.a)) (fun i ys H4 => Same H3 H4 ∧ ∃ es : List Addr, ys = es.map V.ref ∧ es.length = i ∧ ∀ (j : Nat) a, es[j]? = some a → H4 a = some (.tup [.int (rI zs j), .int (j : Nat)])) ⟨Same.refl H3, [], rfl, rfl, fun j a h => by cases h⟩ (fun i ys H4 _ e => .inl (.inl (e.1 _ _ A3.1))) ?_ ?_
    · rintro i ys x H4 H5 hil ⟨sm, es, rfl, le, he⟩ ⟨t, x', y', rfl, ht, rfl, ex, ey⟩
      rw [List.length_map] at hil
      obtain rfl := Option.some.inj ex
      have ey : (zs.map fun z => V.ref z.a)[i]? = some y' := ey
      rw [List.getElem?_map, avI_at hil] at ey
      obtain rfl := Option.some.inj ey
      have s5 := same_new (o := .tup [.int (i : Nat), .ref (avI zs i).a]) ht
      have A5 := A3.same (sm.trans s5)
      refine ⟨_, _, rfl, .inl (.inl upd_same), rfl, _, _, rfl, _, _, rfl, rfl, rfl, yes_if ?_⟩
      have kt : ∀ (j : Nat) a, es[j]? = some a → (upd H4 t (.tup [.int (i : Nat), .ref (avI zs i).a])) a = some (.tup [.int (rI zs j), .int (j : Nat)]) := fun j a h => s5 _ _ (he j a h)
      refine ⟨_, rfl, _, _, _, _, rfl, rfl, .inl (.inl (A5.2 _ (avI_mem hil))), rfl, _, rfl, szOk rfl, fun t2 ht2 => ?_⟩
      have n6 := ok.n6
      refine ⟨(by rw [List.length_map, le]; omega), (sm.trans s5).trans (same_new ht2), es ++ [t2], by rw [List.map_append]; rfl, by rw [List.length_append, le]; rfl, fun j a h => ?_⟩
      rcases Nat.lt_or_ge j es.length with z | z
      · rw [List.getElem?_append_left z] at h
        exact same_new (o := .tup [.int (rI zs i), .int (i : Nat)]) ht2 _ _ (kt j a h)
      · rw [List.getElem?_append_right z] at h
        have e0 : j - es.length = 0 := by
          rcases Nat.eq_zero_or_pos (j - es.length) with z | z
          · exact z
          · rw [List.getElem?_eq_none (show [t2].length ≤ j - es.length from z)] at h; cases h
        rw [e0] at h
        obtain rfl : t2 = a := Option.some.inj h
        obtain rfl : j = i := by omega
        exact upd_same
    rintro ys H4 ⟨sm, es, rfl, le, he⟩
    rw [List.length_map] at le
    have hp : ∀ x ∈ es.map V.ref, ∃ t, x = V.ref t ∧ H4 t = some (.tup [.int (prAt H4 x).1, .int (prAt H4 x).2]) := fun x hx => by
      obtain ⟨t, ht, rfl⟩ := List.mem_map.mp hx
      obtain ⟨j, hj⟩ := List.getElem?_of_mem ht
      refine ⟨t, rfl, ?_⟩
      rw [prAt_ref (he j t hj)]
      exact he j t hj
    have hm : (es.map V.ref).map (prAt H4) = prs zs := by
      unfold prs
      rw [List.map_map]
      refine List.ext_getElem? fun j => ?_
      rw [List.getElem?_map, List.getElem?_map]
      rcases Nat.lt_or_ge j es.length with z | z
      · rw [List.getElem?_eq_getElem z, List.getElem?_eq_getElem (by rw [List.length_range, ← le]; exact z), List.getElem_range]
        exact congrArg some (prAt_ref (he j _ (List.getElem?_eq_getElem z)))
      · rw [List.getElem?_eq_none z, List.getElem?_eq_none (by rw [List.length_range, ← le]; exact z)]
        rfl
    refine ⟨prAt H4, hp, fun L p hs hpm hpn => ?_⟩
    have lp : (L.map (prAt H4)).Perm (prs zs) := hm ▸ hpm.map _
    have ls : (L.map (prAt H4)).Pairwise fun x y => SrtO.lexB y x = false := List.pairwise_map.mpr hs
    have nd : (L.map (prAt H4)).Nodup := lp.nodup_iff.mpr (prs_nd zs)
    have hL : ∀ i y, L[i]? = some y → ∃ t e, y = V.ref t ∧ e < zs.length ∧ prAt H4 y = (rI zs e, (e : Int)) ∧ H4 t = some (.tup [.int (rI zs e), .int (e : Nat)]) := fun i y h => by
      have hy := hpm.mem_iff.mp (List.mem_of_getElem? h)
      obtain ⟨t, rfl, ht⟩ := hp y hy
      have hq : prAt H4 (V.ref t) ∈ prs zs := hm ▸ List.mem_map.mpr ⟨_, hy, rfl⟩
      obtain ⟨e, he', eq⟩ := List.mem_map.mp hq
      rw [← eq] at ht
      exact ⟨t, e, rfl, List.mem_range.mp he', eq.symm, ht⟩
    have ln : L.length = zs.length := by rw [hpm.length_eq, List.length_map, le]
    have s6 := same_new (o := .lst L) hpn
    have L6 : (upd H4 p (.lst L)) p = some (.lst L) := upd_same
    have hL6 : ∀ i y, L[i]? = some y → ∃ t e, y = V.ref t ∧ e < zs.length ∧ prAt H4 y = (rI zs e, (e : Int)) ∧ (upd H4 p (.lst L)) t = some (.tup [.int (rI zs e), .int (e : Nat)]) := fun i y h => by
      obtain ⟨t, e, h1, h2, h3, h4⟩ := hL i y h
      exact ⟨t, e, h1, h2, h3, s6 _ _ h4⟩
    have st6 := (st3.trans (SameT.of sm)).trans (SameT.of s6)
    generalize upd H4 p (.lst L) = H6 at *
    refine nm ?_
    dsimp only [List.set]
    refine ⟨_, rfl, p, L, rfl, .inl (.inl L6), fun D hD => ?_⟩
    refine dc_walk (walk_enum (K := K) (a := p) (xs := L)) (fun i H' => ∃ kvs, H' D = some (.dK kvs) ∧ kvs.length ≤ i ∧ (∀ b ob, H6 b = some ob → H' b = some ob) ∧ ∀ j, j < i → ∀ e : Nat, (L.map (prAt H4))[j]? = some (rI zs e, (e : Int)) → valV kvs (.inl (e : Int)) = some (.int (j : Nat))) ⟨[], upd_same, Nat.le_refl _, same_new hD, fun j h => absurd h (Nat.not_lt_zero j)⟩ (fun i H' _ e => .inl (.inl (e.choose_spec.2.2.1 _ _ L6))) ?_ ?_
    · rintro i x H7 H8 hil ⟨kvs, hk, hkl, sm7, hv⟩ ⟨t, x', y', rfl, ht, rfl, ex, ey⟩
      obtain rfl := Option.some.inj ex
      obtain ⟨t2, e, rfl, hez, hpe, ht2⟩ := hL6 i y' ey
      have s8 := same_new (o := .tup [.int (i : Nat), .ref t2]) ht
      refine ⟨_, _, rfl, .inl (.inl upd_same), rfl, _, _, rfl, _, _, rfl, _, _, rfl, .inl (.inl (s8 _ _ (sm7 _ _ ht2))), rfl, _, _, rfl, _, _, rfl, rfl, rfl, rfl, yes_if ?_⟩
      refine ⟨_, rfl, _, rfl, kvs, .inl (e : Int), rfl, s8 _ _ hk, ?_, _, upd_same, ?_, fun b ob hb => ?_, fun j hj e' he' => ?_⟩
      · have := ok.n6
        rw [sizeLine_eq]
        omega
      · have := length_putK kvs (.inl (e : Int)) (.int (i : Nat))
        omega
      · rw [upd_ne (fun z => by rw [z, hD] at hb; cases hb)]
        exact s8 _ _ (sm7 _ _ hb)
      · rw [valV_put]
        have ei : (L.map (prAt H4))[i]? = some (rI zs e, (e : Int)) := by
          have ey : L[i]? = some (V.ref t2) := ey
          rw [List.getElem?_map, ey, ← hpe]
          rfl
        by_cases z : e' = e
        · subst z
          rw [if_pos rfl]
          have : j = i := by
            have h1 := List.getElem?_eq_some_iff.mp he'
            have h2 := List.getElem?_eq_some_iff.mp ei
            exact List.getElem_inj nd |>.mp (h1.choose_spec.trans h2.choose_spec.symm)
          rw [this]
        · rw [if_neg (fun h => z (by have h1 : (e' : Int) = (e : Int) := Sum.inl.inj h; omega))]
          rcases Nat.lt_or_ge j i with u | u
          · exact hv j u e' he'
          · obtain rfl : j = i := by omega
            rw [ei] at he'
            have := congrArg Prod.snd (Option.some.inj he')
            exact absurd (show e' = e by have h : (e : Int) = (e' : Int) := this; omega) z
    · rintro H7 ⟨kvs, hk, hkl, sm7, hv⟩
      refine k D H7 (st6.trans (SameT.of sm7)) ⟨kvs, hk, fun i hi => ?_⟩
      have hm : (rI zs i, (i : Int)) ∈ L.map (prAt H4) := lp.mem_iff.mpr (List.mem_map.mpr ⟨i, List.mem_range.mpr hi, rfl⟩)
      obtain ⟨j, hj⟩ := List.getElem?_of_mem hm
      have jl : j < L.length := by
        have := (List.getElem?_eq_some_iff.mp hj).choose
        rwa [List.length_map] at this
      rw [hv j jl i hj, place_at lp ls hj]
abbrev s_best_order : Stmt := top 7
theorem sc_best_order : FnScope ["gaps", "arrivals", "shift", "places", "best", "order", "ticks", "found"] ["gaps", "arrivals", "shift"] (defScope s_best_order) := ⟨rfl, rfl, rfl, by decide +kernel, rfl, by decide +kernel, by decide +kernel⟩
theorem ok_best_order {f CE : Addr} {fd : FuncData} {TT : List Addr} (F : Fun K "best_order" "best_order" s_best_order f fd) (T : TxtA mg) (Tpm : mg "permutations" = some (.type "itertools.permutations"))
    (D_SequenceError : ErrD P w K mg base 1 "SequenceError" CE ["self", "code"] (spCErr1 CE))
    (D_places : Def P w K mg base 2 "_places" ["arrivals"] (spPlaces TT))
    (D_near_places : Def P w K mg base 2 "_near_places" ["places", "order", "shift"] (spNear8 TT))
    (D_landing_ticks : Def P w K mg base 2 "landing_ticks" ["gaps", "arrivals", "order"] (spLand TT))
    (D_in_time : Def P w K mg base 2 "_in_time" ["arrivals", "order", "ticks"] (spTime8 TT)) : FnOk P w K mg base (L2.CX P w) 3 f fd ["gaps", "arrivals", "shift"] (spBest8 CE TT) := by
  refine F.okX sc_best_order (fun vs H Q E h => ?_) (fun cdv A outer s H vs Q E hr h => ?_)
  · obtain ⟨_, _, _, _, _, _, rfl, _⟩ := h
    rfl
  · obtain ⟨g, ar, rs, m, zs, sh, rfl, G, A, ok, hT, ko, ke⟩ := h
    have hu := hu_of hr
    have hu60 := Nat.lt_of_le_of_lt (Nat.add_le_add_left (by decide : 60 ≤ 64) _) hr.units
    refine ⟨_, (pss_cons (ps_set (i := 3) sc_best_order.nd rfl (Or.inl rfl) (pe_def D_places (hr.mono (by decide)) (by rfl) (pa_cons (pv 1) pa_nil)))
    (pss_cons (ps_set (i := 4) sc_best_order.nd rfl (Or.inl rfl) pe_non)
    (pss_cons (ps_for (passes_of rfl) rfl (pi_perm rfl (by rfl) Tpm (prg_1 (by rfl) T.range (pe_callB (r := rLenK K) call_len_seq (by rfl) T.len boot_len (pa_cons (pv 1) pa_nil)))) (pg_name (i := 5) sc_best_order.nd rfl (Or.inl rfl))
      (pss_cons (ps_if (pt_not (pt_val (pe_def D_near_places (hr.mono (by decide)) (by rfl) (pa_cons (pv 3) (pa_cons (pv 5) (pa_cons (pv 2) pa_nil)))))) (pss_one ps_continue)
      pss_nil)
    (pss_cons (ps_set (i := 6) sc_best_order.nd rfl (Or.inl rfl) (pe_def D_landing_ticks (hr.mono (by decide)) (by rfl) (pa_cons (pv 0) (pa_cons (pv 1) (pa_cons (pv 5) pa_nil)))))
    (pss_cons (ps_if (pt_not (pt_val (pe_def D_in_time (hr.mono (by decide)) (by rfl) (pa_cons (pv 1) (pa_cons (pv 5) (pa_cons (pv 6) pa_nil)))))) (pss_one ps_continue)
      pss_nil)
    (pss_cons (ps_set (i := 7) sc_best_order.nd rfl (Or.inl rfl) (pe_tup (pa_cons (pe_callBK (cr_maxDT rfl) (by rfl) T.max boot_max (pa_cons (pv 6) pa_nil) (pk_cons pe_int pk_nil)) (pa_cons (pe_callB (cr_sumT rfl) (by rfl) T.sum boot_sum (pa_cons (pv 6) pa_nil)) (pa_cons (pv 5) (pa_cons (pv 6) pa_nil))))))
    (pss_one (ps_if (PW.pt (pw_or (pt_cmpR op_isN (pv 4) pe_non (nomark _)) (pw_or1 (pt_cmpR (op_ltZ hu60) (pv 7) (pv 4) (nomark _))))) (pss_one (ps_set (i := 4) sc_best_order.nd rfl (Or.inl rfl) (pv 7)))
      pss_nil)))))))
    (pss_cons (ps_if (pt_cmpR op_isN (pv 4) pe_non (nomark _)) (pss_one (ps_raiseC1 rfl D_SequenceError (hr.mono (by decide)) (takes_of rfl rfl rfl rfl) (by rfl) pe_str (fun _ _ _ _ im z => im _ _ z)))
      pss_nil)
    (pss_one (ps_ret (pe_tup (pa_cons (pe_ix (r := rIxT K) ix_tup (pv 4) pe_int (fun _ _ => rfl)) (pa_cons (pe_ix (r := rIxT K) ix_tup (pv 4) pe_int (fun _ _ => rfl)) pa_nil))))))))), ?_⟩
    rw [show L2.start ["gaps", "arrivals", "shift", "places", "best", "order", "ticks", "found"] [V.ref g, V.ref ar, V.int sh] = [some (V.ref g), some (V.ref ar), some (V.int sh), none, none, none, none, none] from rfl]
    refine ⟨_, rfl, ar, zs, rfl, A, ok, hT, fun d H1 s1 P1 => ?_⟩
    refine nm ?_
    dsimp only [List.set]
    refine nm ?_
    dsimp only [List.set]
    have T1 := s1.tabs hT
    have A1 := A.st s1 hT
    have n6 := ok.n6
    refine ⟨_, rfl, _, _, rfl, .inl (.inl (.inl A1.1)), _, rfl, zs.length, rfl, by rw [List.length_map], n6, for_perm (n := zs.length) (fun i σ H2 => ∃ (v4 : V) (v5 v6 v7 : Option V), σ = [some (.ref g), some (.ref ar), some (.int sh), some (.ref d), some v4, v5, v6, v7] ∧ SameT TT H H2 ∧ PlAt H2 d zs ∧ BstAt H2 v4 m zs sh i) ⟨_, _, _, _, rfl, s1, P1, .inl ⟨rfl, fun o h => by cases h⟩⟩ ?_ ?_⟩
    · rintro i o q σ H2 ho ⟨v4, v5, v6, v7, rfl, s2, P2, B2⟩ hq
      refine nm ?_
      dsimp only [List.set]
      have T2 := s2.tabs hT
      have s3 := SameT.of (T := TT) (same_new (o := .tup (o.map fun (j : Nat) => V.int (j : Int))) hq)
      have hq3 : (upd H2 q (.tup (o.map fun (j : Nat) => V.int (j : Int)))) q = some (.tup (onV o)) := upd_same
      generalize upd H2 q (.tup (o.map fun (j : Nat) => V.int (j : Int))) = H3 at s3 hq3 ⊢
      have s03 := s2.trans s3
      have T3 := s3.tabs T2
      have P3 := P2.st s3 T2
      have B3 := B2.st s3 T2
      obtain ⟨ol, oi⟩ := ords_ok (List.mem_of_getElem? ho)
      refine ⟨_, rfl, _, rfl, _, rfl, d, q, zs, o, sh, rfl, P3, hq3, oi, by omega, T3, fun H4 s4 => ?_⟩
      have no : candB m zs sh o = false → ∀ (v6 v7 : Option V) H5, SameT TT H3 H5 → (∃ (w4 : V) (v5 v6' v7' : Option V), [some (V.ref g), some (.ref ar), some (.int sh), some (.ref d), some v4, some (.ref q), v6, v7] = [some (.ref g), some (.ref ar), some (.int sh), some (.ref d), some w4, v5, v6', v7'] ∧ SameT TT H H5 ∧ PlAt H5 d zs ∧ BstAt H5 w4 m zs sh (i + 1)) := fun c v6 v7 H5 s5 => ⟨_, _, _, _, rfl, s03.trans s5, P3.st s5 T3, (B3.st s5 T3).no ho c⟩
      refine ⟨_, rfl, ?_⟩
      cases cn : nearB zs sh o with
      | false => exact (if_pos rfl).mpr (no (by unfold candB; rw [cn]; rfl) _ _ H4 s4)
      | true =>
      refine (if_neg (fun z => Bool.noConfusion z)).mpr ?_
      refine nx8 ?_
      dsimp only
      have s04 := s03.trans s4
      have T4 := s4.tabs T3
      refine ⟨_, rfl, _, rfl, _, rfl, g, ar, q, rs, m, zs, o, rfl, G.st s04 hT, A.st s04 hT, ok, s4.t T3 hq3, oi, by omega, T4, fun t H5 s5 t0 ht => ?_⟩
      refine nm ?_
      dsimp only [List.set]
      have s35 := s4.trans s5
      have s05 := s03.trans s35
      have T5 := s5.tabs T4
      refine ⟨_, rfl, _, rfl, _, rfl, ar, q, t, m, zs, o, rfl, A.st s05 hT, s35.t T3 hq3, oi, by omega, ht, T5, fun H6 s6 => ?_⟩
      refine ⟨_, rfl, ?_⟩
      cases ct : timeB m zs o with
      | false => exact (if_pos rfl).mpr (no (by unfold candB; rw [ct, Bool.and_false]) _ _ H6 (s35.trans s6))
      | true =>
      refine (if_neg (fun z => Bool.noConfusion z)).mpr ?_
      refine nx8 ?_
      dsimp only
      have cc : candB m zs sh o = true := by unfold candB; rw [cn, ct]; rfl
      have s36 := s35.trans s6
      have T6 := s6.tabs T5
      have hq6 := s36.t T3 hq3
      have ht6 := s6.t T5 ht
      refine ⟨_, rfl, t, _, _, rfl, rfl, .inl (.inl ht6), _, rfl, t, _, rfl, .inl (.inl ht6), _, rfl, _, rfl, szOk rfl, fun p hp => ?_⟩
      have s7 := same_new (o := .tup [maxDf (tks m zs o) (.int 0), .int (tks m zs o).sum, .ref q, .ref t]) hp
      have kA : KdAt (upd H6 p (.tup [maxDf (tks m zs o) (.int 0), .int (tks m zs o).sum, .ref q, .ref t])) p m zs o q t := ⟨by
        rw [upd_same]
        unfold maxDf topT
        split <;> rfl, s7 _ _ hq6, s7 _ _ ht6⟩
      have s37 := s36.trans (SameT.of s7)
      have T7 := s37.tabs T3
      have P7 := P3.st s37 T3
      have B7 := B3.st s37 T3
      have s07 := s03.trans s37
      generalize upd H6 p (.tup [maxDf (tks m zs o) (.int 0), .int (tks m zs o).sum, .ref q, .ref t]) = H7 at kA s07 T7 P7 B7 ⊢
      refine nm ?_
      dsimp only [List.set]
      clear s37
      have keep : ∀ v : V, BstAt H7 v m zs sh (i + 1) → ∃ (v4 : V) (v5 v6 v7 : Option V), [some (V.ref g), some (.ref ar), some (.int sh), some (.ref d), some v, some (.ref q), some (.ref t), some (.ref p)] = [some (.ref g), some (.ref ar), some (.int sh), some (.ref d), some v4, v5, v6, v7] ∧ SameT TT H H7 ∧ PlAt H7 d zs ∧ BstAt H7 v4 m zs sh (i + 1) := fun v b => ⟨_, _, _, _, rfl, s07, P7, b⟩
      rcases B7 with ⟨rfl, kn⟩ | ⟨p2, q2, t2, o2, rfl, kd2, o3, c3, hb⟩
      · refine ⟨_, rfl, rfl, _, rfl, ifY rfl (iteT ⟨_, rfl, ?_⟩)⟩
        refine nm ?_
        dsimp only [List.set]
        exact keep _ (BstAt.one (.inl ⟨rfl, kn⟩) ho cc kA)
      · obtain ⟨d2, hd2, al, y1, y2⟩ := BstAt.new (K := K) (.inr ⟨p2, q2, t2, o2, rfl, kd2, o3, c3, hb⟩) ho cc kA
        refine ⟨_, rfl, rfl, _, rfl, ifN (fun z => by cases z) ⟨_, rfl, _, rfl, _, d2, kA.dp, hd2, al, kd_dlt m zs o, kd_depth m zs o, _, rfl, ?_⟩⟩
        cases cl : dataLt (kd m zs o) d2 with
        | true =>
          refine iteT ⟨_, rfl, ?_⟩
          refine nm ?_
          dsimp only [List.set]
          exact keep _ (y1 cl)
        | false =>
          refine iteF ?_
          refine nx8 ?_
          exact keep _ (y2 cl)
    · rintro σ H2 ⟨v4, v5, v6, v7, rfl, s2, P2, B2⟩
      unfold BstAt at B2
      rw [List.take_length] at B2
      dsimp only
      rcases B2 with ⟨rfl, kn⟩ | ⟨p, q, t, o, rfl, kd1, ho, hc1, hb⟩
      · have n1000 : ("none" : Str).length ≤ 1000 := by decide +kernel
        refine ⟨_, rfl, rfl, _, rfl, ifY rfl ⟨_, rfl, n1000, fun dx hd => ke kn H2 dx s2 hd⟩⟩
      · refine ⟨_, rfl, rfl, _, rfl, ifN (fun z => by cases z) ?_⟩
        refine nx8 ?_
        dsimp only
        refine ⟨_, rfl, _, _, _, _, rfl, rfl, .inl (.inl kd1.1), rfl, _, rfl, _, _, _, _, rfl, rfl, .inl (.inl kd1.1), rfl, szOk rfl, fun p2 hp2 => ?_⟩
        have s9 := same_new (o := .tup [.ref q, .ref t]) hp2
        exact ko o p2 _ ⟨ho, hc1, hb⟩ (s2.trans (SameT.of s9)) ⟨q, t, upd_same, s9 _ _ kd1.2.1, s9 _ _ kd1.2.2⟩
end
end Sk

set_option Elab.async false
set_option linter.all false
set_option maxRecDepth 100000
set_option maxHeartbeats 4000000
namespace Sk
open PySem PySem.Spec PyProof.Rows L2 PySem.W
section
variable {P : Program} {w : World} {K : PySem.W.Frag} {mg : Str → Option Value} {base : Heap}
abbrev s_law_orders : Stmt := top 18
theorem sc_law_orders : FnScope ["many", "orders", "k", "longer", "order", "index"] ["many"] (defScope s_law_orders) := ⟨rfl, rfl, rfl, by decide +kernel, rfl, by decide +kernel, by decide +kernel⟩
theorem ok_law_orders {f : Addr} {fd : FuncData} (F : Fun K "_law_orders" "_law_orders" s_law_orders f fd) (T : TxtA mg) : FnOk P w K mg base CX0 1 f fd ["many"] (spOrds8) := by
  refine F.ok sc_law_orders (fun vs H Q E h => ?_) (fun cdv A outer s H vs Q E hr h => ?_)
  · obtain ⟨_, rfl, _⟩ := h
    rfl
  · obtain ⟨n, rfl, n6, k⟩ := h
    have hu := hu_of hr
    refine ⟨_, (pss_cons (ps_set (i := 1) sc_law_orders.nd rfl (Or.inl rfl) (pe_lst (pa_cons (pe_tup pa_nil) pa_nil)))
    (pss_cons (ps_for PassesOwn.never rfl (pi_range1 (by rfl) T.range (pa_cons (pv 0) pa_nil)) (pg_name (i := 2) sc_law_orders.nd rfl (Or.inl rfl))
      (pss_cons (ps_set (i := 3) sc_law_orders.nd rfl (Or.inl rfl) (pe_lst pa_nil))
    (pss_cons (ps_for PassesOwn.never rfl (pi_list (pv 1)) (pg_name (i := 4) sc_law_orders.nd rfl (Or.inl rfl))
      (pss_one (ps_for PassesOwn.never rfl (pi_range1 (by rfl) T.range (pa_cons (pv 0) pa_nil)) (pg_name (i := 5) sc_law_orders.nd rfl (Or.inl rfl))
      (pss_one (ps_if (pt_cmpR op_notIn_seq (pv 5) (pv 4) rfl) (pss_one (ps_expr (pe_bm PySem.F.plainAttrs_list PySem.F.slot_list_append PySem.F.type_list_append mt_append (pv 3) (pa_cons (pe_op op_catA (pv 4) (pe_tup (pa_cons (pv 5) pa_nil))) pa_nil))))
      pss_nil)))))
    (pss_one (ps_set (i := 1) sc_law_orders.nd rfl (Or.inl rfl) (pv 3))))))
    (pss_one (ps_ret (pv 1))))), ?_⟩
    rw [show L2.start ["many", "orders", "k", "longer", "order", "index"] [V.int (n : Nat)] = [some (V.int (n : Nat)), none, none, none, none, none] from rfl]
    refine ⟨szOk rfl, fun p1 hp1 => ?_⟩
    refine ⟨szOk rfl, fun p2 hp2 => ?_⟩
    have z1 := same_new (o := .tup []) hp1
    have z2 := same_new (o := .lst [.ref p1]) hp2
    have np2 : H p2 = none := by
      cases e : H p2 with
      | none => rfl
      | some o => rw [z1 _ _ e] at hp2; cases hp2
    have L0 : OsAt (upd (upd H p1 (.tup [])) p2 (.lst [.ref p1])) p2 [(p1, [])] := ⟨upd_same, fun x hx => by rw [List.mem_singleton.mp hx]; exact z2 _ _ upd_same⟩
    have s0 := z1.trans z2
    generalize upd (upd H p1 (.tup [])) p2 (.lst [.ref p1]) = H1 at s0 L0 ⊢
    clear z1 z2 hp2
    refine nm ?_
    dsimp only [List.set]
    refine ⟨_, rfl, _, rfl, by omega, by omega, for_range (n := n) (fun i σ H2 => ∃ (p : Addr) (v2 v3 v4 v5 : Option V) (xs : List Os), σ = [some (.int (n : Nat)), some (.ref p), v2, v3, v4, v5] ∧ Same H H2 ∧ H p = none ∧ OsAt H2 p xs ∧ xs.map (·.2) = ordsK n i) ⟨p2, _, _, _, _, _, rfl, s0, np2, L0, rfl⟩ ?_ ?_⟩
    · rintro i σ H2 hi ⟨p, v2, v3, v4, v5, xs, rfl, s2, np, X2, ex⟩
      refine nm ?_
      dsimp only [List.set]
      rw [Int.zero_add]
      refine ⟨szOk rfl, fun l hl => ?_⟩
      have z3 := same_new (o := .lst []) hl
      have nl : H l = none := by
        cases e : H l with
        | none => rfl
        | some o => rw [s2 _ _ e] at hl; cases hl
      have npl : p ≠ l := fun e => by rw [← e, X2.1] at hl; cases hl
      have X3 := X2.same z3
      have Y3 : OsAt (upd H2 l (.lst [])) l [] := ⟨upd_same, fun x hx => by cases hx⟩
      have s3 := s2.trans z3
      generalize upd H2 l (.lst []) = H3 at s3 X3 Y3 ⊢
      clear z3
      refine nm ?_
      dsimp only [List.set]
      refine ⟨_, rfl, p, rfl, ⟨_, .inl (.inl X3.1)⟩, for_list (K := K) (a := p) (xs := xs.map fun x => V.ref x.1) (fun u σ H4 => ∃ (v4 v5 : Option V) (ys : List Os), σ = [some (.int (n : Nat)), some (.ref p), some (.int (i : Nat)), some (.ref l), v4, v5] ∧ Same H H4 ∧ OsAt H4 p xs ∧ OsAt H4 l ys ∧ ys.map (·.2) = ((ordsK n i).take u).flatMap (extO n n)) ⟨_, _, [], rfl, s3, X3, Y3, rfl⟩ (fun u σ H4 _ ⟨_, _, _, _, _, X4, _⟩ => .inl (.inl X4.1)) ?_ ?_⟩
      · rintro u y σ H4 hy ⟨v4, v5, ys, rfl, s4, X4, Y4, ey⟩
        obtain ⟨x, rfl, hx, hul, hxt⟩ := getMap hy
        have hx4 := X4.2 x hx
        have et : ((ordsK n i).take (u + 1)).flatMap (extO n n) = ((ordsK n i).take u).flatMap (extO n n) ++ extO n n x.2 := by
          rw [← ex, ← List.map_take, hxt, List.map_append, List.flatMap_append, List.map_take]
          simp
        refine nm ?_
        dsimp only [List.set]
        refine ⟨_, rfl, _, rfl, by omega, by omega, for_range (n := n) (fun j σ H5 => ∃ (v5 : Option V) (ys : List Os), σ = [some (.int (n : Nat)), some (.ref p), some (.int (i : Nat)), some (.ref l), some (.ref x.1), v5] ∧ Same H H5 ∧ OsAt H5 p xs ∧ OsAt H5 l ys ∧ ys.map (·.2) = ((ordsK n i).take u).flatMap (extO n n) ++ extO n j x.2) ⟨_, ys, rfl, s4, X4, Y4, by rw [ey]; show _ = _ ++ []; rw [List.append_nil]⟩ ?_ ?_⟩
        · rintro j σ H5 hj ⟨v5, ys, rfl, s5, X5, Y5, ey5⟩
          refine nm ?_
          dsimp only [List.set]
          rw [Int.zero_add]
          have hx5 := X5.2 x hx
          refine ⟨_, rfl, _, rfl, x.1, _, rfl, .inr (.inl (.inl hx5)), rfl, nats_flat _, ?_⟩
          rw [inV_nats]
          cases c : x.2.contains j with
          | true =>
            refine ⟨_, rfl, iteF ⟨_, ys, rfl, s5, X5, Y5, ?_⟩⟩
            rw [extO_succ, if_pos c, List.append_nil]
            exact ey5
          | false =>
            refine ⟨_, rfl, iteT ?_⟩
            have yl : ys.length ≤ 300000 := by
              have e := congrArg List.length ey5
              rw [List.length_map, List.length_append] at e
              have h1 := extO_len n j x.2
              have h2 := flat_len (n := n) ((ordsK n i).take u)
              have h3 := ordsK_le n6 (show i ≤ 6 by omega)
              have h4 : ((ordsK n i).take u).length ≤ 46656 := by rw [List.length_take]; omega
              have h5 : ((ordsK n i).take u).length * n ≤ 46656 * 6 := Nat.mul_le_mul h4 n6
              omega
            have xl : x.2.length ≤ 6 := by
              have : x.2 ∈ ordsK n i := by rw [← ex]; exact List.mem_map.mpr ⟨x, hx, rfl⟩
              rw [(ordsK_ok n i _ this).1]
              omega
            have add : ∀ (t : Addr) H6, Same H5 H6 → H6 t = some (.tup (onV (x.2 ++ [j]))) → ∃ (v5 : Option V) (ws : List Os), [some (V.int (n : Nat)), some (.ref p), some (.int (i : Nat)), some (.ref l), some (.ref x.1), some (.int (j : Nat))] = [some (.int (n : Nat)), some (.ref p), some (.int (i : Nat)), some (.ref l), some (.ref x.1), v5] ∧ Same H (upd H6 l (.lst (ys.map (fun x => V.ref x.1) ++ [.ref t]))) ∧ OsAt (upd H6 l (.lst (ys.map (fun x => V.ref x.1) ++ [.ref t]))) p xs ∧ OsAt (upd H6 l (.lst (ys.map (fun x => V.ref x.1) ++ [.ref t]))) l ws ∧ ws.map (·.2) = ((ordsK n i).take u).flatMap (extO n n) ++ extO n (j + 1) x.2 := fun t H6 s6 ht => by
              have Y6 := (Y5.same s6).add ht
              refine ⟨_, ys ++ [(t, x.2 ++ [j])], rfl, fun b ob hb => ?_, ?_, Y6, ?_⟩
              · rw [upd_ne (ne_of_none hb nl)]
                exact s6 _ _ (s5 _ _ hb)
              · refine ⟨by rw [upd_ne npl]; exact s6 _ _ X5.1, fun y hy => ?_⟩
                rw [upd_ne (ne_of (s6 _ _ (X5.2 y hy)) (s6 _ _ Y5.1) (by intro z; cases z))]
                exact s6 _ _ (X5.2 y hy)
              · rw [List.map_append, ey5, extO_succ, c, if_neg Bool.false_ne_true, List.append_assoc]
                rfl
            refine ⟨_, rfl, (.inl ⟨rfl, _, .inl (.inl Y5.1)⟩), _, rfl, _, rfl, szOk rfl, fun t1 ht1 => ?_⟩
            have z4 := same_new (o := .tup [V.int (j : Nat)]) ht1
            have ht1' : (upd H5 t1 (.tup [V.int (j : Nat)])) t1 = some (.tup [V.int (j : Nat)]) := upd_same
            refine ⟨x.1, t1, onV x.2, [V.int (j : Nat)], rfl, rfl, .inl (.inl (z4 _ _ hx5)), .inl (.inl ht1'), (by unfold onV; rw [List.length_map, List.length_singleton, sizeLine_eq]; omega), fun e0 => ?_, fun _ => ?_, fun e0 _ t2 ht2 => ?_⟩
            · refine ⟨_, _, _, rfl, rfl, z4 _ _ Y5.1, (by rw [List.length_map, sizeLine_eq]; omega), ?_⟩
              refine add t1 _ z4 ?_
              have e2 : x.2 = [] := List.map_eq_nil_iff.mp e0
              rw [e2]
              exact ht1'
            · intro z
              cases z
            · have z5 := same_new (o := .tup (onV x.2 ++ [V.int (j : Nat)])) ht2
              refine ⟨_, _, _, rfl, rfl, z5 _ _ (z4 _ _ Y5.1), (by rw [List.length_map, sizeLine_eq]; omega), ?_⟩
              refine add t2 _ (z4.trans z5) ?_
              rw [upd_same]
              unfold onV
              rw [List.map_append]
              rfl
        · rintro σ H5 ⟨v5, ys, rfl, s5, X5, Y5, ey5⟩
          exact ⟨_, _, ys, rfl, s5, X5, Y5, by rw [et]; exact ey5⟩
      · rintro σ H4 ⟨v4, v5, ys, rfl, s4, X4, Y4, ey⟩
        refine ⟨_, rfl, ?_⟩
        refine nm ?_
        dsimp only [List.set]
        refine ⟨l, _, _, _, _, ys, rfl, s4, nl, Y4, ?_⟩
        rw [ordsK_succ, ey, List.take_of_length_le]
        have := congrArg List.length ex
        rw [List.length_map] at this ⊢
        omega
    · rintro σ H2 ⟨p, v2, v3, v4, v5, xs, rfl, s2, np, X2, ex⟩
      exact ⟨_, rfl, k p H2 xs s2 np X2 ex⟩
abbrev s_law_ticks : Stmt := top 19
theorem sc_law_ticks : FnScope ["gaps", "arrivals", "order", "ticks", "index", "tick", "j"] ["gaps", "arrivals", "order"] (defScope s_law_ticks) := ⟨rfl, rfl, rfl, by decide +kernel, rfl, by decide +kernel, by decide +kernel⟩
theorem ok_law_ticks {f : Addr} {fd : FuncData} (F : Fun K "_law_ticks" "_law_ticks" s_law_ticks f fd) (T : TxtA mg) : FnOk P w K mg base CX0 1 f fd ["gaps", "arrivals", "order"] (spTks8) := by
  refine F.ok sc_law_ticks (fun vs H Q E h => ?_) (fun cdv A outer s H vs Q E hr h => ?_)
  · obtain ⟨_, _, _, _, _, _, _, rfl, _⟩ := h
    rfl
  · obtain ⟨g, ar, q, rs, m, zs, o, rfl, G, A, ok, hq, hi, ol, k⟩ := h
    have hu := hu_of hr
    refine ⟨_, (pss_cons (ps_set (i := 3) sc_law_ticks.nd rfl (Or.inl rfl) (pe_lst pa_nil))
    (pss_cons (ps_for PassesOwn.never rfl (pi_tup (pv 2)) (pg_name (i := 4) sc_law_ticks.nd rfl (Or.inl rfl))
      (pss_cons (ps_set (i := 5) sc_law_ticks.nd rfl (Or.inl rfl) (pe_ix (r := rIxT K) ix_tup (pe_ix (r := rIxL K) ix_list (pv 1) (pv 4) (fun _ _ => rfl)) pe_int (fun _ _ => rfl)))
    (pss_cons (ps_for PassesOwn.never rfl (pi_range1 (by rfl) T.range (pa_cons (pe_callB (r := rLenK K) call_len_seq (by rfl) T.len boot_len (pa_cons (pv 3) pa_nil)) pa_nil)) (pg_name (i := 6) sc_law_ticks.nd rfl (Or.inl rfl))
      (pss_one (ps_set (i := 5) sc_law_ticks.nd rfl (Or.inl rfl) (pe_callB (call_max2 rfl) (by rfl) T.max boot_max (pa_cons (pv 5) (pa_cons (pe_op op_add (pe_ix (r := rIxL K) ix_list (pv 3) (pv 6) (fun _ _ => rfl)) (pe_ix (r := rIxT K) ix_tup (pe_ix (r := rIxT K) ix_tup (pv 0) (pe_ix (r := rIxT K) ix_tup (pe_ix (r := rIxL K) ix_list (pv 1) (pe_ix (r := rIxT K) ix_tup (pv 2) (pv 6) (fun _ _ => rfl)) (fun _ _ => rfl)) pe_int (fun _ _ => rfl)) (fun _ _ => rfl)) (pe_ix (r := rIxT K) ix_tup (pe_ix (r := rIxL K) ix_list (pv 1) (pv 4) (fun _ _ => rfl)) pe_int (fun _ _ => rfl)) (fun _ _ => rfl))) pa_nil))))))
    (pss_one (ps_expr (pe_bm PySem.F.plainAttrs_list PySem.F.slot_list_append PySem.F.type_list_append mt_append (pv 3) (pa_cons (pv 5) pa_nil)))))))
    (pss_one (ps_ret (pe_callTy call_tuple_of (by rfl) T.tuple boot_tuple (pa_cons (pv 3) pa_nil)))))), ?_⟩
    rw [show L2.start ["gaps", "arrivals", "order", "ticks", "index", "tick", "j"] [V.ref g, V.ref ar, V.ref q] = [some (V.ref g), some (V.ref ar), some (V.ref q), none, none, none, none] from rfl]
    refine ⟨szOk rfl, fun p hp => ?_⟩
    have z1 := same_new (o := .lst []) hp
    have P1 : (upd H p (.lst [])) p = some (.lst []) := upd_same
    generalize upd H p (.lst []) = H1 at z1 P1 ⊢
    refine nm ?_
    dsimp only [List.set]
    refine ⟨_, rfl, q, rfl, ⟨_, .inl (.inl (z1 _ _ hq))⟩, for_tup (K := K) (a := q) (xs := onV o) (fun i σ H2 => ∃ (v4 v5 v6 : Option V), σ = [some (.ref g), some (.ref ar), some (.ref q), some (.ref p), v4, v5, v6] ∧ Same H H2 ∧ H2 p = some (.lst ((tks m zs (o.take i)).map V.int))) ⟨_, _, _, rfl, z1, P1⟩ (fun i σ H2 _ ⟨_, _, _, _, sm, _⟩ => .inl (.inl (sm _ _ hq))) ?_ ?_⟩
    · rintro i y σ H2 hy ⟨v4, v5, v6, rfl, sm, hp2⟩
      obtain ⟨j, rfl, hj, hil, htk⟩ := getMap hy
      have hjz := hi j hj
      have A2 := A.same sm
      have G2 := G.same sm
      have hq2 := sm _ _ hq
      have ha := A2.2 _ (avI_mem hjz)
      have w4 := ok.w4 _ (avI_mem hjz)
      have rz : (zs.map fun z => V.ref z.a)[j]? = some (.ref (avI zs j).a) := by rw [List.getElem?_map, avI_at hjz]; rfl
      have tl : (o.take i).length = i := by rw [List.length_take]; omega
      refine nm ?_
      dsimp only [List.set]
      refine ⟨_, rfl, _, rfl, _, _, _, .ref (avI zs j).a, rfl, rfl, .inl (.inl A2.1), atI_nat rz, _, _, _, _, rfl, rfl, .inl (.inl ha), rfl, ?_⟩
      refine nm ?_
      dsimp only [List.set]
      refine ⟨_, rfl, _, _, rfl, .inl (.inl (.inl hp2)), _, rfl, by rw [List.length_map, tks_len]; omega, by rw [List.length_map, tks_len]; omega, for_range (n := (((tks m zs (o.take i)).map V.int).length : Int).toNat) (fun u σ H3 => ∃ (v6 : Option V), σ = [some (.ref g), some (.ref ar), some (.ref q), some (.ref p), some (.int (j : Nat)), some (.int (tickL m ((landF m zs (o.take i)).take u) (avI zs j))), v6] ∧ H3 = H2) ⟨_, rfl, rfl⟩ ?_ ?_⟩
      · rintro u σ H3 hu ⟨v6, rfl, rfl⟩
        rw [show (((tks m zs (o.take i)).map V.int).length : Int).toNat = i by rw [List.length_map, tks_len, tl, Int.toNat_natCast]] at hu
        refine nm ?_
        dsimp only [List.set]
        rw [Int.zero_add]
        have ul : u < (landF m zs (o.take i)).length := by rw [landF_len, tl]; exact hu
        obtain ⟨e, he⟩ : ∃ e, (landF m zs (o.take i))[u]? = some e := ⟨_, List.getElem?_eq_getElem ul⟩
        obtain ⟨ju, hju⟩ : ∃ ju, o[u]? = some ju := ⟨_, List.getElem?_eq_getElem (by omega)⟩
        have hjuz := hi ju (List.mem_of_getElem? hju)
        have ew : e.1 = (avI zs ju).w := by
          have h := congrArg (fun l : List Nat => l[u]?) (landF_w (m := m) (zs := zs) (o.take i))
          simp only [List.getElem?_map, he, List.getElem?_take, hju, if_pos hu, Option.map_some] at h
          exact Option.some.inj h
        have et : ((tks m zs (o.take i)).map V.int)[u]? = some (.int e.2) := by
          unfold tks
          rw [List.getElem?_map, List.getElem?_map, he]
          rfl
        have eo : (onV o)[u]? = some (.int (ju : Nat)) := by
          unfold onV
          rw [List.getElem?_map, hju]
          rfl
        have rju : (zs.map fun z => V.ref z.a)[ju]? = some (.ref (avI zs ju).a) := by rw [List.getElem?_map, avI_at hjuz]; rfl
        have hau := A2.2 _ (avI_mem hjuz)
        have wu4 := ok.w4 _ (avI_mem hjuz)
        have st1 : tickL m ((landF m zs (o.take i)).take (u + 1)) (avI zs j) = mx (tickL m ((landF m zs (o.take i)).take u) (avI zs j)) (e.2 + m e.1 (avI zs j).w) := by
          rw [List.take_add_one, he]
          unfold tickL
          rw [List.foldl_append]
          rfl
        refine ⟨_, rfl, _, rfl, _, rfl, _, _, _, .int e.2, rfl, rfl, .inl (.inl hp2), atI_nat et, _, rfl, _, rfl, _, rfl, _, rfl, _, _, _, .int (ju : Nat), rfl, rfl, .inl (.inl hq2), atI_nat eo, _, _, _, .ref (avI zs ju).a, rfl, rfl, .inl (.inl A2.1), atI_nat rju, _, _, _, _, rfl, rfl, .inl (.inl hau), rfl, _, _, _, _, rfl, rfl, .inl (.inl G2.tu), four_of (fun i => V.ref (rs i)) wu4, _, rfl, _, rfl, _, _, _, .ref (avI zs j).a, rfl, rfl, .inl (.inl A2.1), atI_nat rz, _, _, _, _, rfl, rfl, .inl (.inl ha), rfl, _, _, _, _, rfl, rfl, .inl (.inl (G2.ro _ wu4)), four_of (fun i => V.int (m (avI zs ju).w i)) w4, _, _, rfl, rfl, _, _, rfl, ?_⟩
        refine nm ?_
        dsimp only [List.set]
        rw [st1, ew]
        exact ⟨some (.int (u : Nat)), rfl, rfl⟩
      · rintro σ H3 ⟨v6, rfl, rfl⟩
        have full : (landF m zs (o.take i)).take (((tks m zs (o.take i)).map V.int).length : Int).toNat = landF m zs (o.take i) := List.take_of_length_le (by rw [List.length_map, tks_len, landF_len, Int.toNat_natCast]; exact Nat.le_refl _)
        rw [full]
        refine ⟨_, rfl, (.inl ⟨rfl, _, .inl (.inl hp2)⟩), _, rfl, ⟨_, _, _, rfl, rfl, hp2, (by rw [List.length_map, tks_len, sizeLine_eq]; omega), ?_⟩⟩
        refine ⟨_, _, _, rfl, fun b ob hb => ?_, ?_⟩
        · rw [upd_ne (ne_of_none hb hp)]
          exact sm _ _ hb
        · rw [upd_same, htk, tks_snoc, List.map_append]
          rfl
    · rintro σ H2 ⟨v4, v5, v6, rfl, sm, hp2⟩
      rw [show (onV o).length = o.length from List.length_map .., List.take_length] at hp2
      refine ⟨_, rfl, _, _, rfl, .inl ⟨.inl (.inl hp2), fun l hl => ?_⟩⟩
      have z3 := same_new (o := .tup ((tks m zs o).map V.int)) hl
      have nl : H l = none := by
        cases e : H l with
        | none => rfl
        | some o => rw [sm _ _ e] at hl; cases hl
      exact k l _ (sm.trans z3) nl upd_same
abbrev s_law_good : Stmt := top 20
theorem sc_law_good : FnScope ["arrivals", "order", "ticks", "shift", "ranked", "position", "index", "k"] ["arrivals", "order", "ticks", "shift"] (defScope s_law_good) := ⟨rfl, rfl, rfl, by decide +kernel, rfl, by decide +kernel, by decide +kernel⟩
theorem ok_law_good {f : Addr} {fd : FuncData} (F : Fun K "_law_good" "_law_good" s_law_good f fd) (T : TxtA mg) : FnOk P w K mg base CX0 1 f fd ["arrivals", "order", "ticks", "shift"] (spGood8) := by
  refine F.ok sc_law_good (fun vs H Q E h => ?_) (fun cdv A outer s H vs Q E hr h => ?_)
  · obtain ⟨_, _, _, _, _, _, _, rfl, _⟩ := h
    rfl
  · obtain ⟨ar, q, t, m, zs, o, sh, rfl, A, ok, hq, hi, ol, ht, k⟩ := h
    have hu := hu_of hr
    refine ⟨_, (pss_cons (ps_set (i := 4) sc_law_good.nd rfl (Or.inl rfl) (pe_callB cr_sortedPO (by rfl) T.sorted boot_sorted (pa_cons (pe_lc (own := [("k", 7)]) (g := gName 7) (by rfl) sc_law_good.nd (pi_range1 (by rfl) T.range (pa_cons (pe_callB (r := rLenK K) call_len_seq (by rfl) T.len boot_len (pa_cons (pv 0) pa_nil)) pa_nil)) (blkOk_by (own := [("k", 7)]) (N := ["arrivals", "order", "ticks", "shift", "ranked", "position", "index", "k"]) (sc := defScope s_law_good) (by decide +kernel)) (fun _ _ _ _ _ => (pg_name (i := 7) sc_law_good.nd rfl (Or.inl rfl))) (fun _ _ _ _ _ => pts_nil) (fun _ _ _ _ _ => (pe_tup (pa_cons (pe_ix (r := rIxT K) ix_tup (pe_ix (r := rIxL K) ix_list (pv 0) (pv 7) (fun _ _ => rfl)) pe_int (fun _ _ => rfl)) (pa_cons (pv 7) pa_nil))))) pa_nil)))
    (pss_cons (ps_for PassesOwn.never rfl (pi_range1 (by rfl) T.range (pa_cons (pe_callB (r := rLenK K) call_len_seq (by rfl) T.len boot_len (pa_cons (pv 1) pa_nil)) pa_nil)) (pg_name (i := 5) sc_law_good.nd rfl (Or.inl rfl))
      (pss_cons (ps_set (i := 6) sc_law_good.nd rfl (Or.inl rfl) (pe_ix (r := rIxT K) ix_tup (pv 1) (pv 5) (fun _ _ => rfl)))
    (pss_cons (ps_if (pt_cmpR op_gt (pe_ix (r := rIxT K) ix_tup (pv 2) (pv 5) (fun _ _ => rfl)) (pe_ix (r := rIxT K) ix_tup (pe_ix (r := rIxL K) ix_list (pv 0) (pv 6) (fun _ _ => rfl)) pe_int (fun _ _ => rfl)) (nomark _)) (pss_one (ps_ret pe_bl))
      pss_nil)
    (pss_one (ps_if (pt_cmpR op_gt (pe_callB call_abs (by rfl) T.abs boot_abs (pa_cons (pe_op op_sub (pe_bm PySem.F.plainAttrs_list PySem.F.slot_list_index PySem.F.type_list_index (mt_indexD (hu65L hr)) (pv 4) (pa_cons (pe_tup (pa_cons (pe_ix (r := rIxT K) ix_tup (pe_ix (r := rIxL K) ix_list (pv 0) (pv 6) (fun _ _ => rfl)) pe_int (fun _ _ => rfl)) (pa_cons (pv 6) pa_nil))) pa_nil)) (pv 5)) pa_nil)) (pv 3) (nomark _)) (pss_one (ps_ret pe_bl))
      pss_nil)))))
    (pss_one (ps_ret pe_bl)))), ?_⟩
    rw [show L2.start ["arrivals", "order", "ticks", "shift", "ranked", "position", "index", "k"] [V.ref ar, V.ref q, V.ref t, V.int sh] = [some (V.ref ar), some (V.ref q), some (V.ref t), some (V.int sh), none, none, none, none] from rfl]
    refine ⟨_, rfl, _, _, rfl, .inl (.inl (.inl A.1)), _, rfl, by rw [List.length_map]; have := ok.n6; omega, by rw [List.length_map]; have := ok.n6; omega, fun D hD => ?_⟩
    refine lc_range (lo := 0) (n := ((zs.map fun z => V.ref z.a).length : Int).toNat) (fun i H4 => ∃ es : List Addr, H4 D = some (.lst (es.map V.ref)) ∧ es.length = i ∧ Same H H4 ∧ ∀ (j : Nat) a, es[j]? = some a → H4 a = some (.tup [.int (rI zs j), .int (j : Nat)])) ⟨[], upd_same, rfl, same_new hD, fun j a h => by cases h⟩ ?_ ?_
    · rintro i H4 hil ⟨es, hD4, le, sm, he⟩
      rw [List.length_map, Int.toNat_natCast] at hil
      have A4 := A.same sm
      have n6 := ok.n6
      rw [Int.zero_add]
      refine ⟨rfl, ?_⟩
      refine yes_if ?_
      have rz : (zs.map fun z => V.ref z.a)[i]? = some (.ref (avI zs i).a) := by rw [List.getElem?_map, avI_at hil]; rfl
      refine ⟨_, rfl, _, rfl, _, _, _, .ref (avI zs i).a, rfl, rfl, .inl (.inl A4.1), atI_nat rz, _, _, _, _, rfl, rfl, .inl (.inl (A4.2 _ (avI_mem hil))), rfl, _, rfl, szOk rfl, fun t2 ht2 => ?_⟩
      have s5 := same_new (o := .tup [.int (rI zs i), .int (i : Nat)]) ht2
      refine ⟨_, s5 _ _ hD4, by rw [List.length_map, sizeLine_eq]; omega, es ++ [t2], by rw [upd_same, List.map_append]; rfl, by rw [List.length_append, le]; rfl, fun b ob hb => ?_, fun j a h => ?_⟩
      · rw [upd_ne (ne_of_none hb hD)]
        exact s5 _ _ (sm _ _ hb)
      · have key : (upd H4 t2 (.tup [.int (rI zs i), .int (i : Nat)])) a = some (.tup [.int (rI zs j), .int (j : Nat)]) := by
          rcases Nat.lt_or_ge j es.length with z | z
          · rw [List.getElem?_append_left z] at h
            exact s5 _ _ (he j a h)
          · rw [List.getElem?_append_right z] at h
            have e0 : j - es.length = 0 := by
              rcases Nat.eq_zero_or_pos (j - es.length) with z | z
              · exact z
              · rw [List.getElem?_eq_none (show [t2].length ≤ j - es.length from z)] at h; cases h
            rw [e0] at h
            obtain rfl : t2 = a := Option.some.inj h
            obtain rfl : j = i := by omega
            exact upd_same
        have hDD : (upd H4 t2 (.tup [.int (rI zs i), .int (i : Nat)])) D = some (.lst (es.map V.ref)) := s5 _ _ hD4
        show (upd (upd H4 t2 (.tup [.int (rI zs i), .int (i : Nat)])) D _) a = _
        rw [upd_ne (ne_of key hDD (by intro z; cases z))]
        exact key
    rintro H4 ⟨es, hD4, le, sm, he⟩
    rw [List.length_map, Int.toNat_natCast] at le
    have hp : ∀ x ∈ es.map V.ref, ∃ t, x = V.ref t ∧ H4 t = some (.tup [.int (prAt H4 x).1, .int (prAt H4 x).2]) := fun x hx => by
      obtain ⟨t, ht, rfl⟩ := List.mem_map.mp hx
      obtain ⟨j, hj⟩ := List.getElem?_of_mem ht
      refine ⟨t, rfl, ?_⟩
      rw [prAt_ref (he j t hj)]
      exact he j t hj
    have hm : (es.map V.ref).map (prAt H4) = prs zs := by
      unfold prs
      rw [List.map_map]
      refine List.ext_getElem? fun j => ?_
      rw [List.getElem?_map, List.getElem?_map]
      rcases Nat.lt_or_ge j es.length with z | z
      · rw [List.getElem?_eq_getElem z, List.getElem?_eq_getElem (by rw [List.length_range, ← le]; exact z), List.getElem_range]
        exact congrArg some (prAt_ref (he j _ (List.getElem?_eq_getElem z)))
      · rw [List.getElem?_eq_none z, List.getElem?_eq_none (by rw [List.length_range, ← le]; exact z)]
        rfl
    refine ⟨D, es.map V.ref, prAt H4, rfl, .inl (.inl hD4), hp, fun L r hs hb hr0 => ?_⟩
    have hpm := hb.perm
    have s5 := same_new (o := .lst L) hr0
    have RK : RkAt (upd H4 r (.lst L)) r zs := RkAt.of (H := H4) (fun v hv => hp v (hpm.mem_iff.mp hv)) s5 upd_same (hm ▸ hpm.map _) (List.pairwise_map.mpr hs)
    have s6 := sm.trans s5
    generalize upd H4 r (.lst L) = H6 at s6 RK ⊢
    clear hD4 he hp hm hb hr0 hpm s5 hs sm
    refine nm ?_
    dsimp only [List.set]
    have lo : (onV o).length = o.length := List.length_map ..
    refine ⟨_, rfl, _, _, rfl, .inr (.inl (.inl (s6 _ _ hq))), _, rfl, by omega, by omega, for_range (n := ((onV o).length : Int).toNat) (fun i σ H7 => ∃ (v5 v6 v7 : Option V), σ = [some (.ref ar), some (.ref q), some (.ref t), some (.int sh), some (.ref r), v5, v6, v7] ∧ Same H H7 ∧ RkAt H7 r zs ∧ ∀ p, p < i → decide (ab ((p : Int) - (plA zs (o.getD p 0) : Int)) ≤ sh) = true ∧ decide ((tks m zs o).getD p 0 ≤ (avI zs (o.getD p 0)).l) = true) ⟨_, _, _, rfl, s6, RK, fun p h => absurd h (Nat.not_lt_zero p)⟩ ?_ ?_⟩
    · rintro i σ H7 hil ⟨v5, v6, v7, rfl, s7, R7, hb⟩
      rw [lo, Int.toNat_natCast] at hil
      refine nm ?_
      dsimp only [List.set]
      rw [Int.zero_add]
      have A7 := A.same s7
      obtain ⟨j, hj⟩ : ∃ j, o[i]? = some j := ⟨_, List.getElem?_eq_getElem hil⟩
      have ej : o.getD i 0 = j := by rw [List.getD_eq_getElem?_getD, hj]; rfl
      have hjz := hi j (List.mem_of_getElem? hj)
      obtain ⟨v, hv⟩ : ∃ v, (tks m zs o)[i]? = some v := ⟨_, List.getElem?_eq_getElem (by rw [tks_len]; exact hil)⟩
      have ev : (tks m zs o).getD i 0 = v := by rw [List.getD_eq_getElem?_getD, hv]; rfl
      have eo : (onV o)[i]? = some (.int (j : Nat)) := by unfold onV; rw [List.getElem?_map, hj]; rfl
      have et : ((tks m zs o).map V.int)[i]? = some (.int v) := by rw [List.getElem?_map, hv]; rfl
      have rz : (zs.map fun z => V.ref z.a)[j]? = some (.ref (avI zs j).a) := by rw [List.getElem?_map, avI_at hjz]; rfl
      have ha := A7.2 _ (avI_mem hjz)
      refine ⟨_, rfl, _, rfl, _, _, _, .int (j : Nat), rfl, rfl, .inl (.inl (s7 _ _ hq)), atI_nat eo, ?_⟩
      refine nm ?_
      dsimp only [List.set]
      refine ⟨_, rfl, _, rfl, _, _, _, .int v, rfl, rfl, .inl (.inl (s7 _ _ ht)), atI_nat et, _, rfl, _, rfl, _, _, _, .ref (avI zs j).a, rfl, rfl, .inl (.inl A7.1), atI_nat rz, _, _, _, _, rfl, rfl, .inl (.inl ha), rfl, _, _, rfl, rfl, _, rfl, ?_⟩
      by_cases c1 : (avI zs j).l < v
      · refine ifY c1 ?_
        have kk := k _ s7
        rw [show candB m zs sh o = false by
          unfold candB
          rw [timeB_no hil (by rw [ej, ev]; exact decide_eq_false (by omega)), Bool.and_false]] at kk
        exact kk
      refine ifN c1 ?_
      refine nx8 ?_
      dsimp only
      have hR := R7.choose_spec.1
      refine ⟨_, rfl, (.inl ⟨rfl, _, .inl (.inl hR)⟩), _, rfl, _, rfl, _, _, _, .ref (avI zs j).a, rfl, rfl, .inl (.inl A7.1), atI_nat rz, _, _, _, _, rfl, rfl, .inl (.inl ha), rfl, _, rfl, szOk rfl, fun t2 ht2 => ?_⟩
      have s8 := same_new (o := .tup [.int (rI zs j), .int (j : Nat)]) ht2
      have R8 := R7.same s8
      obtain ⟨ds, hds, sh1, hat, hno⟩ := R8.at (K := K) hjz
      have sh2 : SeqAt.shaped (pd2 (rI zs j, (j : Int))) = true := by
        unfold SeqAt.shaped pd2
        simp [PyData.canLay0, PyData.canLayAll0, PyData.depth, PyData.depthAll]
      refine ⟨r, .ref t2, pd2 (rI zs j, (j : Int)), ds, plA zs j, _, rfl, rfl, hds, .tup (.inl (.inl upd_same)) (.cons (.int _) (.cons (.int _) .nil)), sh1, sh2, hat, pd2_self _, hno, ?_⟩
      refine ⟨_, rfl, _, _, rfl, rfl, _, rfl, _, rfl, _, _, rfl, rfl, _, rfl, ?_⟩
      have s78 := s7.trans s8
      rw [ab_neg]
      by_cases c2 : sh < ab ((i : Int) - (plA zs j : Int))
      · refine ifY c2 ?_
        have kk := k _ s78
        rw [show candB m zs sh o = false by
          unfold candB
          rw [nearB_no hil (by rw [ej]; exact decide_eq_false (by omega)), Bool.false_and]] at kk
        exact kk
      refine ifN c2 ?_
      refine nx8 ?_
      refine ⟨_, _, _, rfl, s78, R8, fun p hp => ?_⟩
      rcases Nat.lt_or_ge p i with z | z
      · exact hb p z
      · obtain rfl : p = i := by omega
        rw [ej, ev]
        exact ⟨decide_eq_true (by omega), decide_eq_true (by omega)⟩
    · rintro σ H7 ⟨v5, v6, v7, rfl, s7, R7, hb⟩
      have kk := k _ s7
      rw [lo, Int.toNat_natCast] at hb
      rw [candB_yes hb] at kk
      exact kk
end
end Sk

set_option Elab.async false
set_option linter.all false
set_option maxRecDepth 100000
set_option maxHeartbeats 4000000
namespace Sk
open PySem PySem.Spec PyProof.Rows L2 NdefX
/-! the fields of a caught error (own copy: for laws without SkTubeL and SkCls) -/
structure ErrF (K : PySem.W.Frag) (C : Addr) (n m : Str) : Prop where
  xf : XfC K C
  a : PySem.W.findIn K (.ref C) n = some none
  b : PySem.W.findIn K (.ref C) m = some none
end Sk

set_option Elab.async false
set_option linter.all false
set_option maxRecDepth 100000
set_option maxHeartbeats 4000000
namespace Sk
open PySem PySem.Spec PyProof.Rows L2 NdefX
section
variable {P : Program} {w : World} {K : PySem.W.Frag} {mg : Str → Option Value} {base : Heap}
abbrev s_SequenceError___init__ : Stmt := inClass (top 3) 0
theorem ok_SequenceError___init__ {f cc cda C : Addr} {oc kV doc pm ct : Value} {od an : Option Addr} {osl : Array (Option Value)}
    (lk : K.lookup f = some ⟨oc, od, .func (PySem.W.ksFn "__init__" "SequenceError.__init__" (defArgs s_SequenceError___init__) (defBody s_SequenceError___init__) (defScope s_SequenceError___init__) .none kV doc pm an (.ref cda) ct cc), osl⟩)
    (hcd : PySem.W.codeIn K (.ref cda) "SequenceError.__init__" = true) (U : SupOk P K C cc cda) (T : OexC K C) (msup : mg "super" = none) (n1 : PySem.W.findIn K (.ref C) "code" = some none) :
    FnOk P w K mg base CX0 1 f (PySem.W.ksFn "__init__" "SequenceError.__init__" (defArgs s_SequenceError___init__) (defBody s_SequenceError___init__) (defScope s_SequenceError___init__) .none kV doc pm an (.ref cda) ct cc) ["self", "code"] (spCErr1 C) := by
  refine fn_err (N := ["self", "code", "__class__"]) rfl lk hcd (nscope_by (by decide +kernel)) rfl rfl U T msup rfl (fun vs H Q E h => ?_) (fun env => rfl) (fun env => rfl) fun A outer s H vs Q E hr h => ?_
  · obtain ⟨_, _, rfl, _⟩ := h
    rfl
  · obtain ⟨a, s, rfl, ha, hs, k⟩ := h
    have nd : (["self", "code", "__class__"] : List Str).Nodup := by decide +kernel
    have h1000 : (1000 : Nat) ≤ sizeLine := by decide
    refine ⟨a, [.str s], _, _, rfl, ha, pe_joined (.cons pe_str (.cons (pe_fmt (pv 1)) .nil)), pss_one (ps_ost (pv 0) (pv 1)), ?_⟩
    rw [show startF ["self", "code", "__class__"] [V.ref a, .str s] [some (.ref C)] = [some (.ref a), some (.str s), some (.ref C)] from rfl]
    have e0 : (Str.empty ++ ("sequence: " : Str)).length ≤ 100 := by decide +kernel
    have z : sizeLine = 16777216 := sizeLine_eq
    refine ⟨_, rfl, by omega, _, rfl, .inl ⟨s, rfl, by omega, _, rfl, by rw [Str.length_append]; omega, (by show 1 ≤ 1000; decide), ha, ?_⟩⟩
    refine ⟨_, rfl, _, rfl, a, C, rfl, T, n1, .inl ⟨ha, fun dx hdx n => ?_⟩⟩
    exact k dx hdx n
end
end Sk

set_option Elab.async false
set_option linter.all false
set_option maxRecDepth 100000
set_option maxHeartbeats 4000000
namespace Sk
open PySem PySem.Spec PyProof.Rows L2 PySem.W
section
variable {P : Program} {w : World} {K : PySem.W.Frag} {mg : Str → Option Value} {base : Heap}
abbrev s_law_best : Stmt := top 21
theorem sc_law_best : FnScope ["gaps", "arrivals", "shift", "ranks", "order", "ticks", "best"] ["gaps", "arrivals", "shift"] (defScope s_law_best) := ⟨rfl, rfl, rfl, by decide +kernel, rfl, by decide +kernel, by decide +kernel⟩
theorem ok_law_best {f : Addr} {fd : FuncData} (F : Fun K "_law_best" "_law_best" s_law_best f fd) (T : TxtA mg)
    (D_law_orders : Def P w K mg base 1 "_law_orders" ["many"] (spOrds8))
    (D_law_ticks : Def P w K mg base 1 "_law_ticks" ["gaps", "arrivals", "order"] (spTks8))
    (D_law_good : Def P w K mg base 1 "_law_good" ["arrivals", "order", "ticks", "shift"] (spGood8)) : FnOk P w K mg base CX0 2 f fd ["gaps", "arrivals", "shift"] (spBestL8) := by
  refine F.ok sc_law_best (fun vs H Q E h => ?_) (fun cdv A outer s H vs Q E hr h => ?_)
  · obtain ⟨_, _, _, _, _, _, rfl, _⟩ := h
    rfl
  · obtain ⟨g, ar, rs, m, zs, sh, rfl, G, A, ok, ko, kn⟩ := h
    have hu := hu_of hr
    have hu60 := Nat.lt_of_le_of_lt (Nat.add_le_add_left (by decide : 60 ≤ 64) _) hr.units
    refine ⟨_, (pss_cons (ps_set (i := 3) sc_law_best.nd rfl (Or.inl rfl) (pe_lst pa_nil))
    (pss_cons (ps_for PassesOwn.never rfl (pi_list (pe_def D_law_orders (hr.mono (by decide)) (by rfl) (pa_cons (pe_callB (r := rLenK K) call_len_seq (by rfl) T.len boot_len (pa_cons (pv 1) pa_nil)) pa_nil))) (pg_name (i := 4) sc_law_best.nd rfl (Or.inl rfl))
      (pss_cons (ps_set (i := 5) sc_law_best.nd rfl (Or.inl rfl) (pe_def D_law_ticks (hr.mono (by decide)) (by rfl) (pa_cons (pv 0) (pa_cons (pv 1) (pa_cons (pv 4) pa_nil)))))
    (pss_one (ps_if (pt_val (pe_def D_law_good (hr.mono (by decide)) (by rfl) (pa_cons (pv 1) (pa_cons (pv 4) (pa_cons (pv 5) (pa_cons (pv 2) pa_nil)))))) (pss_one (ps_expr (pe_bm PySem.F.plainAttrs_list PySem.F.slot_list_append PySem.F.type_list_append mt_append (pv 3) (pa_cons (pe_tup (pa_cons (pe_callB (cr_max rfl) (by rfl) T.max boot_max (pa_cons (pe_op op_cat (pe_callTy call_list_of (by rfl) T.list boot_list (pa_cons (pv 5) pa_nil)) (pe_lst (pa_cons pe_int pa_nil))) pa_nil)) (pa_cons (pe_callB (cr_sumT rfl) (by rfl) T.sum boot_sum (pa_cons (pv 5) pa_nil)) (pa_cons (pv 4) (pa_cons (pv 5) pa_nil))))) pa_nil))))
      pss_nil))))
    (pss_cons (ps_if (pt_cmpR op_eq (pe_callB (r := rLenK K) call_len_seq (by rfl) T.len boot_len (pa_cons (pv 3) pa_nil)) pe_int (nomark _)) (pss_one (ps_ret pe_str))
      pss_nil)
    (pss_cons (ps_set (i := 6) sc_law_best.nd rfl (Or.inl rfl) (pe_ix (r := rIxL K) ix_list (pe_callB (cr_sortZ hu60) (by rfl) T.sorted boot_sorted (pa_cons (pv 3) pa_nil)) pe_int (fun _ _ => rfl)))
    (pss_one (ps_ret (pe_tup (pa_cons (pe_ix (r := rIxT K) ix_tup (pv 6) pe_int (fun _ _ => rfl)) (pa_cons (pe_ix (r := rIxT K) ix_tup (pv 6) pe_int (fun _ _ => rfl)) pa_nil))))))))), ?_⟩
    rw [show L2.start ["gaps", "arrivals", "shift", "ranks", "order", "ticks", "best"] [V.ref g, V.ref ar, V.int sh] = [some (V.ref g), some (V.ref ar), some (V.int sh), none, none, none, none] from rfl]
    refine ⟨szOk rfl, fun r hr0 => ?_⟩
    have z1 := same_new (o := .lst []) hr0
    have R1 : RnkAt (upd H r (.lst [])) r m zs [] := ⟨upd_same, fun x hx => by cases hx⟩
    generalize upd H r (.lst []) = H1 at z1 R1 ⊢
    refine nm ?_
    dsimp only [List.set]
    refine ⟨_, rfl, _, _, rfl, .inl (.inl (.inl (z1 _ _ A.1))), zs.length, by rw [List.length_map]; rfl, ok.n6, fun p H2 xs s2 np X2 ex => ?_⟩
    have npr : p ≠ r := fun z => by rw [z, R1.1] at np; cases np
    refine ⟨p, rfl, ⟨_, .inl (.inl X2.1)⟩, for_list (K := K) (a := p) (xs := xs.map fun x => V.ref x.1) (fun i σ H3 => ∃ (v4 v5 v6 : Option V) (ys : List Os), σ = [some (.ref g), some (.ref ar), some (.int sh), some (.ref r), v4, v5, v6] ∧ Same H H3 ∧ OsAt H3 p xs ∧ RnkAt H3 r m zs ys ∧ ys.map (·.2) = ((ords zs.length).take i).filter (candB m zs sh)) ⟨_, _, _, [], rfl, z1.trans s2, X2, R1.same s2, rfl⟩ (fun i σ H3 _ ⟨_, _, _, _, _, _, X3, _⟩ => .inl (.inl X3.1)) ?_ ?_⟩
    · rintro i y σ H3 hy ⟨v4, v5, v6, ys, rfl, s3, X3, R3, ey⟩
      obtain ⟨x, rfl, hx, hul, hxt⟩ := getMap hy
      have ho : x.2 ∈ ords zs.length := by rw [← ex]; exact List.mem_map.mpr ⟨x, hx, rfl⟩
      obtain ⟨ol, oi⟩ := ords_ok ho
      have n6 := ok.n6
      have et : ((ords zs.length).take (i + 1)) = ((ords zs.length).take i) ++ [x.2] := by
        rw [← ex, ← List.map_take, hxt, List.map_append, List.map_take]
        rfl
      have hx3 := X3.2 x hx
      refine nm ?_
      dsimp only [List.set]
      refine ⟨_, rfl, _, rfl, _, rfl, g, ar, x.1, rs, m, zs, x.2, rfl, G.same s3, A.same s3, ok, hx3, oi, by omega, fun t H4 s4 nt ht => ?_⟩
      refine nm ?_
      dsimp only [List.set]
      refine ⟨_, rfl, _, rfl, _, rfl, _, rfl, ar, x.1, t, m, zs, x.2, sh, rfl, A.same (s3.trans s4), ok, s4 _ _ hx3, oi, by omega, ht, fun H5 s5 => ?_⟩
      have s35 := s4.trans s5
      have s05 := s3.trans s35
      have X5 := X3.same s35
      have R5 := R3.same s35
      have ht5 := s5 _ _ ht
      have hx5 := s35 _ _ hx3
      refine ⟨_, rfl, ?_⟩
      cases c : candB m zs sh x.2 with
      | false =>
        refine iteF ?_
        refine nx8 ?_
        refine ⟨_, _, _, ys, rfl, s05, X5, R5, ?_⟩
        rw [et, List.filter_append, List.filter_cons_of_neg (by rw [c]; exact Bool.false_ne_true), ey]
        simp
      | true =>
        refine iteT ?_
        have yl : ys.length ≤ 46656 := by
          have e := congrArg List.length ey
          rw [List.length_map] at e
          have h1 := List.length_filter_le (candB m zs sh) ((ords zs.length).take i)
          have h2 := ordsK_le (n := zs.length) (k := zs.length) n6 n6
          rw [List.length_take] at h1
          unfold ords at h1 e
          omega
        refine ⟨_, rfl, (.inl ⟨rfl, _, .inl (.inl R5.1)⟩), _, rfl, t, _, rfl, .inr (.inl (.inl ht5)), fun l1 hl1 => ?_⟩
        refine ⟨szOk rfl, fun l2 hl2 => ?_⟩
        have y1 := same_new (o := .lst ((tks m zs x.2).map V.int)) hl1
        have y2 := same_new (o := .lst [V.int 0]) hl2
        have hl1' : (upd H5 l1 (.lst ((tks m zs x.2).map V.int))) l1 = some (.lst ((tks m zs x.2).map V.int)) := upd_same
        have s7 := y1.trans y2
        have hl1'' := y2 _ _ hl1'
        have hl2' : (upd (upd H5 l1 (.lst ((tks m zs x.2).map V.int))) l2 (.lst [V.int 0])) l2 = some (.lst [V.int 0]) := upd_same
        generalize upd (upd H5 l1 (.lst ((tks m zs x.2).map V.int))) l2 (.lst [V.int 0]) = H7 at s7 hl1'' hl2' ⊢
        refine ⟨l1, l2, _, _, rfl, rfl, hl1'', hl2', by rw [List.length_map, tks_len, sizeLine_eq]; show _ + 1 ≤ _; omega, fun l3 hl3 => ?_⟩
        have y3 := same_new (o := .lst ((tks m zs x.2).map V.int ++ [V.int 0])) hl3
        refine ⟨l3, tks m zs x.2 ++ [0], rfl, .inl (.inl (by rw [upd_same, List.map_append]; rfl)), by rw [List.length_append]; exact Nat.succ_pos _, fun x0 h1 h2 => ?_⟩
        obtain rfl := top_of (tks_nn ok x.2 oi) h1 h2
        clear h1 h2
        have s8 := s7.trans y3
        generalize upd H7 l3 (.lst ((tks m zs x.2).map V.int ++ [V.int 0])) = H8 at s8 ⊢
        clear s7 y1 y2 y3 hl1 hl1' hl1'' hl2 hl2' hl3
        refine ⟨_, rfl, t, _, rfl, .inl (.inl (s8 _ _ ht5)), _, rfl, _, rfl, szOk rfl, fun p4 hp4 => ?_⟩
        have s9 := same_new (o := .tup [.int (topT m zs x.2), .int (tks m zs x.2).sum, .ref x.1, .ref t]) hp4
        have R9 := (R5.same s8).same s9
        have X9 := (X5.same s8).same s9
        have k9 : KdAt (upd H8 p4 (.tup [.int (topT m zs x.2), .int (tks m zs x.2).sum, .ref x.1, .ref t])) p4 m zs x.2 x.1 t := ⟨upd_same, s9 _ _ (s8 _ _ hx5), s9 _ _ (s8 _ _ ht5)⟩
        have s09 := (s05.trans s8).trans s9
        generalize upd H8 p4 (.tup [.int (topT m zs x.2), .int (tks m zs x.2).sum, .ref x.1, .ref t]) = H9 at R9 X9 k9 s09 ⊢
        refine ⟨_, _, _, rfl, rfl, R9.1, (by rw [List.length_map, sizeLine_eq]; omega), ?_⟩
        refine ⟨_, _, _, ys ++ [(p4, x.2)], rfl, fun b ob hb => ?_, ⟨?_, fun z hz => ?_⟩, R9.add k9, ?_⟩
        · rw [upd_ne (ne_of_none hb hr0)]
          exact s09 _ _ hb
        · rw [upd_ne npr]
          exact X9.1
        · rw [upd_ne (ne_of (X9.2 z hz) R9.1 (by intro z; cases z))]
          exact X9.2 z hz
        · rw [et, List.filter_append, List.filter_cons_of_pos c, List.map_append, ey]
          rfl
    · rintro σ H3 ⟨v4, v5, v6, ys, rfl, s3, X3, R3, ey⟩
      have e1 : (xs.map fun x => V.ref x.1).length = (ords zs.length).length := by rw [← ex, List.length_map, List.length_map]
      rw [e1, List.take_length] at ey
      refine ⟨_, rfl, _, _, rfl, .inl (.inl (.inl R3.1)), rfl, _, rfl, ?_⟩
      by_cases c : ys = []
      · refine ifY (by rw [c]; rfl) ?_
        exact kn (none_first ey c) H3 s3
      · refine ifN (fun z => c (by
          have z := V.int.inj z
          rw [List.length_map] at z
          exact List.length_eq_zero_iff.mp (by omega))) ?_
        refine nx8 ?_
        dsimp only
        refine ⟨_, rfl, r, kdZ m zs ys, rfl, .inl (.inl (by rw [kdZ_v]; exact R3.1)), fun z hz => ?_, fun z hz w hw => ?_, fun z hz => ?_, fun zz p2 pm pw hp2 => ?_⟩
        · obtain ⟨y, hy, rfl⟩ := List.mem_map.mp hz
          obtain ⟨q, t, k⟩ := R3.2 y hy
          exact k.dp
        · obtain ⟨y, hy, rfl⟩ := List.mem_map.mp hz
          obtain ⟨y2, hy2, rfl⟩ := List.mem_map.mp hw
          exact kd_alike m zs _ _
        · obtain ⟨y, hy, rfl⟩ := List.mem_map.mp hz
          exact ⟨⟨_, _, rfl⟩, kd_depth m zs _⟩
        obtain ⟨y, zt, hy, hzt, hB⟩ := best_first R3 ey c pm pw
        have s4 := same_new (o := .lst (zz.map (·.1))) hp2
        obtain ⟨q, t, k⟩ := R3.2 y hy
        have k4 := k.same s4
        have h4 : (upd H3 p2 (.lst (zz.map (·.1)))) p2 = some (.lst (.ref y.1 :: zt)) := by rw [upd_same, hzt]
        have s34 := s3.trans s4
        generalize upd H3 p2 (.lst (zz.map (·.1))) = H4 at h4 k4 s34 ⊢
        refine ⟨_, _, _, .ref y.1, rfl, rfl, .inl (.inl h4), (show atI (V.ref y.1 :: zt) ((0 : Nat) : Int) = _ from atI_nat rfl), ?_⟩
        refine nm ?_
        dsimp only [List.set]
        refine ⟨_, rfl, _, _, _, _, rfl, rfl, .inl (.inl k4.1), rfl, _, rfl, _, _, _, _, rfl, rfl, .inl (.inl k4.1), rfl, szOk rfl, fun p5 hp5 => ?_⟩
        have s9 := same_new (o := .tup [.ref q, .ref t]) hp5
        exact ko y.2 p5 _ hB (s34.trans s9) ⟨q, t, upd_same, s9 _ _ k4.2.1, s9 _ _ k4.2.2⟩
abbrev s_law_found : Stmt := top 22
theorem sc_law_found : FnScope ["gaps", "arrivals", "shift", "e"] ["gaps", "arrivals", "shift"] (defScope s_law_found) := ⟨rfl, rfl, rfl, by decide +kernel, rfl, by decide +kernel, by decide +kernel⟩
theorem ok_law_found {f CE : Addr} {fd : FuncData} {TT : List Addr} (F : Fun K "_law_found" "_law_found" s_law_found f fd) (T : TxtA mg) (XF : ErrF K CE "code" "code")
    (D_SequenceError : ErrD P w K mg base 1 "SequenceError" CE ["self", "code"] (spCErr1 CE))
    (D_best_order : DefX P w K mg base 3 "best_order" ["gaps", "arrivals", "shift"] (spBest8 CE TT)) : FnOk P w K mg base CX0 5 f fd ["gaps", "arrivals", "shift"] (spFoundL8 TT) := by
  refine F.ok sc_law_found (fun vs H Q E h => ?_) (fun cdv A outer s H vs Q E hr h => ?_)
  · obtain ⟨_, _, _, _, _, _, rfl, _⟩ := h
    rfl
  · obtain ⟨g, ar, rs, m, zs, sh, rfl, G, A, ok, hT, ko, kn⟩ := h
    refine ⟨_, (pss_one (ps_try_as (i := 3) rfl rfl sc_law_found.nd rfl rfl ⟨by rfl, by decide, .inl D_SequenceError.gC⟩ takes0 (fun W pn xe tk ps => (pss_one (ps_ret (pe_defX D_best_order (hr.mono (by decide)) (by rfl) tk (pa_cons (pv 0) (pa_cons (pv 1) (pa_cons (pv 2) pa_nil))))))) (fun a oe cls d pn hz hf => (pss_one (ps_ret (pe_xf XF.xf XF.a hz hf (pv 3))))))), ?_⟩
    rw [show L2.start ["gaps", "arrivals", "shift", "e"] [V.ref g, V.ref ar, V.int sh] = [some (V.ref g), some (V.ref ar), some (V.int sh), none] from rfl]
    refine ⟨_, rfl, _, rfl, _, rfl, g, ar, rs, m, zs, sh, rfl, G, A, ok, hT, fun o p H' hB s1 ho => ko o p H' hB s1 ho, fun no H1 d s1 hd => ⟨true, D_SequenceError.te, fun _ a ha => ?_, fun z => Bool.noConfusion z⟩⟩
    dsimp only [List.set]
    have kk := kn no _ (s1.trans (SameT.of (same_new (o := .xd (cdK "none")) hd)))
    exact ⟨_, rfl, rfl, rfl, d, _, _, rfl, upd_same, rfl, kk⟩
end
end Sk

set_option Elab.async false
set_option linter.all false
set_option maxRecDepth 100000
set_option maxHeartbeats 4000000
namespace Sk
open PySem PySem.Spec PyProof.Rows L2 PySem.W
def spLawT (K : PySem.W.Frag) (TT : List Addr) : Sp := fun vs H Q _ => ∃ (a : Addr) (ns : List Int), vs = [.ref a] ∧ SqL K H a (ns.map V.int) ∧ ns.length ≤ 63 ∧ Tabs TT H ∧ ∀ H', Q (.bl true) H'
section
variable {P : Program} {w : World} {K : PySem.W.Frag} {mg : Str → Option Value} {base : Heap}
abbrev s_law_is : Stmt := top 17
theorem sc_law_is : FnScope ["actual", "due"] ["actual", "due"] (defScope s_law_is) := ⟨rfl, rfl, rfl, by decide +kernel, rfl, by decide +kernel, by decide +kernel⟩
theorem ok_law_is {f : Addr} {fd : FuncData} (F : Fun K "_law_is" "_law_is" s_law_is f fd) (T : TxtA mg) : FnOk P w K mg base CX0 1 f fd ["actual", "due"] (spIs18) := by
  refine F.ok sc_law_is (fun vs H Q E h => ?_) (fun cdv A outer s H vs Q E hr h => ?_)
  · obtain ⟨_, _, rfl, _⟩ := h
    rfl
  · obtain ⟨x, y, rfl, k⟩ := h
    refine ⟨_, (pss_one (ps_ret (pe_and (pe_callB call_isi (by rfl) T.isinstance boot_isinstance (pa_cons (pv 0) (pa_cons (pe_bltn (v := .ty "bool") (by rfl) T.bool boot_bool rfl) pa_nil))) (pe_one (pe_cmpR op_eq (pv 0) (pv 1) (nomark _)))))), ?_⟩
    rw [show L2.start ["actual", "due"] [V.bl x, V.bl y] = [some (V.bl x), some (V.bl y)] from rfl]
    refine ⟨_, rfl, _, _, _, _, true, rfl, ClsV.ty _, .base (.bl x), kit_ty (by decide +kernel), true, rfl, ?_⟩
    refine iteT ?_
    refine ⟨_, rfl, _, rfl, rfl, ?_⟩
    have e : decide (V.bl x = V.bl y) = decide (x = y) := by
      by_cases h : x = y
      · rw [h]; simp
      · rw [decide_eq_false h, decide_eq_false fun z => h (V.bl.inj z)]
    show Q (.bl (decide (V.bl x = V.bl y))) H
    rw [e]
    exact k
abbrev s_law : Stmt := top 23
theorem sc_law : FnScope ["script", "state", "long", "gaps", "many", "late", "arrivals", "k", "ready", "shift", "kept", "due", "order", "found", "first", "second", "early", "good", "j"] ["script"] (defScope s_law) := ⟨rfl, rfl, rfl, by decide +kernel, rfl, by decide +kernel, by decide +kernel⟩
theorem ok_law {f : Addr} {fd : FuncData} {TT : List Addr} (F : Fun K "law" "law" s_law f fd) (T : TxtA mg)
    (D_law_start : Def P w K mg base 1 "_law_start" ["script"] (spStart K))
    (D_law_draw : Def P w K mg base 1 "_law_draw" ["state", "bound"] (spDraw K))
    (D_law_pick : Def P w K mg base 2 "_law_pick" ["state", "things"] (spPick K))
    (D_law_best : Def P w K mg base 2 "_law_best" ["gaps", "arrivals", "shift"] (spBestL8))
    (D_law_found : Def P w K mg base 5 "_law_found" ["gaps", "arrivals", "shift"] (spFoundL8 TT))
    (D_law_orders : Def P w K mg base 1 "_law_orders" ["many"] (spOrds8))
    (D_landing_ticks : Def P w K mg base 2 "landing_ticks" ["gaps", "arrivals", "order"] (spLand TT))
    (D_law_ticks : Def P w K mg base 1 "_law_ticks" ["gaps", "arrivals", "order"] (spTks8))
    (D_apart : Def P w K mg base 2 "apart" ["gaps", "first", "second"] (spApart8))
    (D_law_is : Def P w K mg base 1 "_law_is" ["actual", "due"] (spIs18)) : FnOk P w K mg base CX0 7 f fd ["script"] (spLawT K TT) := by
  refine F.ok sc_law (fun vs H Q E h => ?_) (fun cdv A outer s H vs Q E hr h => ?_)
  · obtain ⟨a, ns0, rfl, _⟩ := h
    rfl
  · obtain ⟨a, ns0, rfl, hS, hl0, hT, k⟩ := h
    have hu := hu_of hr
    refine ⟨_, (pss_cons (ps_set (i := 1) sc_law.nd rfl (Or.inr rfl) (pe_def D_law_start (hr.mono (by decide)) (by rfl) (pa_cons (pv 0) pa_nil)))
    (pss_cons (ps_set (i := 2) sc_law.nd rfl (Or.inr rfl) (pe_def D_law_pick (hr.mono (by decide)) (by rfl) (pa_cons (pv 1) (pa_cons (pe_lst (pa_cons pe_int (pa_cons pe_int (pa_cons pe_int pa_nil)))) pa_nil))))
    (pss_cons (ps_set (i := 3) sc_law.nd rfl (Or.inl rfl) (pe_callTy call_tuple_of (by rfl) T.tuple boot_tuple (pa_cons (pe_lc (own := [("j", 18)]) (g := gName 18) (by rfl) sc_law.nd (pi_range1 (by rfl) T.range (pa_cons pe_int pa_nil)) (blkOk_by (own := [("j", 18)]) (N := ["script", "state", "long", "gaps", "many", "late", "arrivals", "k", "ready", "shift", "kept", "due", "order", "found", "first", "second", "early", "good", "j"]) (sc := defScope s_law) (by decide +kernel)) (fun _ _ _ _ _ => (pg_name (i := 18) sc_law.nd rfl (Or.inl rfl))) (fun _ _ _ _ _ => pts_nil) (fun _ _ _ _ _ => (pe_callTy (r := rTup8 K) call_tuple_of (by rfl) T.tuple boot_tuple (pa_cons (pe_lc (own := [("k", 7)]) (g := gName 7) (by rfl) sc_law.nd (pi_range1 (by rfl) T.range (pa_cons pe_int pa_nil)) (by apply blkOk_by; with_unfolding_all rfl) (fun _ _ _ _ _ => (pg_name (i := 7) sc_law.nd rfl (Or.inl rfl))) (fun _ _ _ _ _ => pts_nil) (fun _ _ _ _ _ => (pe_op op_add pe_int (pe_def D_law_draw (hr.mono (by decide)) (by rfl) (pa_cons (pv 1) (pa_cons (pv 2) pa_nil)))))) pa_nil)))) pa_nil)))
    (pss_cons (ps_set (i := 4) sc_law.nd rfl (Or.inl rfl) (pe_def D_law_draw (hr.mono (by decide)) (by rfl) (pa_cons (pv 1) (pa_cons pe_int pa_nil))))
    (pss_cons (ps_if (pt_cmpR op_eq (pe_def D_law_draw (hr.mono (by decide)) (by rfl) (pa_cons (pv 1) (pa_cons pe_int pa_nil))) pe_int (nomark _)) (pss_one (ps_set (i := 4) sc_law.nd rfl (Or.inl rfl) pe_int))
      pss_nil)
    (pss_cons (ps_set (i := 5) sc_law.nd rfl (Or.inl rfl) (pe_def D_law_pick (hr.mono (by decide)) (by rfl) (pa_cons (pv 1) (pa_cons (pe_lst (pa_cons pe_int (pa_cons pe_int pa_nil))) pa_nil))))
    (pss_cons (ps_set (i := 6) sc_law.nd rfl (Or.inl rfl) (pe_lst pa_nil))
    (pss_cons (ps_for PassesOwn.never rfl (pi_range1 (by rfl) T.range (pa_cons (pv 4) pa_nil)) (pg_name (i := 7) sc_law.nd rfl (Or.inl rfl))
      (pss_cons (ps_set (i := 8) sc_law.nd rfl (Or.inl rfl) (pe_def D_law_draw (hr.mono (by decide)) (by rfl) (pa_cons (pv 1) (pa_cons (pv 5) pa_nil))))
    (pss_one (ps_expr (pe_bm PySem.F.plainAttrs_list PySem.F.slot_list_append PySem.F.type_list_append mt_append (pv 6) (pa_cons (pe_tup (pa_cons (pe_def D_law_draw (hr.mono (by decide)) (by rfl) (pa_cons (pv 1) (pa_cons pe_int pa_nil))) (pa_cons (pv 8) (pa_cons (pe_op op_add (pv 8) (pe_def D_law_draw (hr.mono (by decide)) (by rfl) (pa_cons (pv 1) (pa_cons (pe_def D_law_pick (hr.mono (by decide)) (by rfl) (pa_cons (pv 1) (pa_cons (pe_lst (pa_cons pe_int (pa_cons (pe_op op_mulW pe_int (pv 2)) (pa_cons pe_int pa_nil)))) pa_nil))) pa_nil)))) pa_nil)))) pa_nil))))))
    (pss_cons (ps_set (i := 9) sc_law.nd rfl (Or.inl rfl) (pe_def D_law_draw (hr.mono (by decide)) (by rfl) (pa_cons (pv 1) (pa_cons pe_int pa_nil))))
    (pss_cons (ps_set (i := 10) sc_law.nd rfl (Or.inl rfl) (pe_callTy call_list_of (by rfl) T.list boot_list (pa_cons (pv 6) pa_nil)))
    (pss_cons (ps_set (i := 11) sc_law.nd rfl (Or.inl rfl) (pe_def D_law_best (hr.mono (by decide)) (by rfl) (pa_cons (pv 3) (pa_cons (pv 6) (pa_cons (pv 9) pa_nil)))))
    (pss_cons (ps_if (PW.pt (pw_or (pt_cmpR (op_neD hr.units) (pe_def D_law_found (hr.mono (by decide)) (by rfl) (pa_cons (pv 3) (pa_cons (pv 6) (pa_cons (pv 9) pa_nil)))) (pv 11) (nomark _)) (pw_or1 (pt_cmpR (op_neD hr.units) (pv 6) (pv 10) (nomark _))))) (pss_one (ps_ret pe_bl))
      pss_nil)
    (pss_cons (ps_set (i := 12) sc_law.nd rfl (Or.inl rfl) (pe_def D_law_pick (hr.mono (by decide)) (by rfl) (pa_cons (pv 1) (pa_cons (pe_def D_law_orders (hr.mono (by decide)) (by rfl) (pa_cons (pe_callB (call_min2 rfl) (by rfl) T.min boot_min (pa_cons (pv 4) (pa_cons pe_int pa_nil))) pa_nil)) pa_nil))))
    (pss_cons (ps_set (i := 13) sc_law.nd rfl (Or.inl rfl) (pe_def D_landing_ticks (hr.mono (by decide)) (by rfl) (pa_cons (pv 3) (pa_cons (pv 6) (pa_cons (pv 12) pa_nil)))))
    (pss_cons (ps_if (PW.pt (pw_or (pt_not (pt_val (pe_callB (r := rIsi K) call_isi (by rfl) T.isinstance boot_isinstance (pa_cons (pv 13) (pa_cons (pe_bltn (v := .ty "tuple") (by rfl) T.tuple boot_tuple rfl) pa_nil))))) (pw_or1 (pt_cmpR (op_neD hr.units) (pv 13) (pe_def D_law_ticks (hr.mono (by decide)) (by rfl) (pa_cons (pv 3) (pa_cons (pv 6) (pa_cons (pv 12) pa_nil)))) (nomark _))))) (pss_one (ps_ret pe_bl))
      pss_nil)
    (pss_cons (ps_set (i := 14) sc_law.nd rfl (Or.inl rfl) (pe_tup (pa_cons (pe_def D_law_draw (hr.mono (by decide)) (by rfl) (pa_cons (pv 1) (pa_cons pe_int pa_nil))) (pa_cons pe_int (pa_cons (pe_op op_add pe_int (pe_def D_law_draw (hr.mono (by decide)) (by rfl) (pa_cons (pv 1) (pa_cons pe_int pa_nil)))) pa_nil)))))
    (pss_cons (ps_set (i := 15) sc_law.nd rfl (Or.inl rfl) (pe_tup (pa_cons (pe_def D_law_draw (hr.mono (by decide)) (by rfl) (pa_cons (pv 1) (pa_cons pe_int pa_nil))) (pa_cons pe_int (pa_cons pe_int pa_nil)))))
    (pss_cons (ps_set (i := 16) sc_law.nd rfl (Or.inl rfl) (pe_op op_sub (pe_op op_add pe_int (pe_def D_law_draw (hr.mono (by decide)) (by rfl) (pa_cons (pv 1) (pa_cons (pe_op op_mulW pe_int (pv 2)) pa_nil)))) (pe_op op_mulW pe_int (pv 2))))
    (pss_cons (ps_set (i := 15) sc_law.nd rfl (Or.inl rfl) (pe_tup (pa_cons (pe_ix (r := rIxT K) ix_tup (pv 15) pe_int (fun _ _ => rfl)) (pa_cons (pv 16) (pa_cons (pe_op op_add (pv 16) (pe_def D_law_draw (hr.mono (by decide)) (by rfl) (pa_cons (pv 1) (pa_cons pe_int pa_nil)))) pa_nil)))))
    (pss_cons (ps_set (i := 17) sc_law.nd rfl (Or.inl rfl) (pe_or (pe_cmpR op_ge (pe_op op_sub (pe_ix (r := rIxT K) ix_tup (pv 15) pe_int (fun _ _ => rfl)) (pe_ix (r := rIxT K) ix_tup (pv 14) pe_int (fun _ _ => rfl))) (pe_ix (r := rIxT K) ix_tup (pe_ix (r := rIxT K) ix_tup (pv 3) (pe_ix (r := rIxT K) ix_tup (pv 14) pe_int (fun _ _ => rfl)) (fun _ _ => rfl)) (pe_ix (r := rIxT K) ix_tup (pv 15) pe_int (fun _ _ => rfl)) (fun _ _ => rfl)) (nomark _)) (pe_one (pe_cmpR op_ge (pe_op op_sub (pe_ix (r := rIxT K) ix_tup (pv 14) pe_int (fun _ _ => rfl)) (pe_ix (r := rIxT K) ix_tup (pv 15) pe_int (fun _ _ => rfl))) (pe_ix (r := rIxT K) ix_tup (pe_ix (r := rIxT K) ix_tup (pv 3) (pe_ix (r := rIxT K) ix_tup (pv 15) pe_int (fun _ _ => rfl)) (fun _ _ => rfl)) (pe_ix (r := rIxT K) ix_tup (pv 14) pe_int (fun _ _ => rfl)) (fun _ _ => rfl)) (nomark _)))))
    (pss_one (ps_ret (pe_and (pe_def D_law_is (hr.mono (by decide)) (by rfl) (pa_cons (pe_def D_apart (hr.mono (by decide)) (by rfl) (pa_cons (pv 3) (pa_cons (pv 14) (pa_cons (pv 15) pa_nil)))) (pa_cons (pv 17) pa_nil))) (pe_one (pe_def D_law_is (hr.mono (by decide)) (by rfl) (pa_cons (pe_def D_apart (hr.mono (by decide)) (by rfl) (pa_cons (pv 3) (pa_cons (pv 15) (pa_cons (pv 14) pa_nil)))) (pa_cons (pv 17) pa_nil))))))))))))))))))))))))))), ?_⟩
    rw [show L2.start ["script", "state", "long", "gaps", "many", "late", "arrivals", "k", "ready", "shift", "kept", "due", "order", "found", "first", "second", "early", "good", "j"] [V.ref a] = [some (V.ref a), none, none, none, none, none, none, none, none, none, none, none, none, none, none, none, none, none, none] from rfl]
    refine ⟨_, rfl, a, ns0, rfl, hS, hl0, fun d c H1 hd hc S0 s0 => ?_⟩
    have T1 := Same.tabs s0 hT
    clear s0 hS hT hd hc
    refine nm ?_
    dsimp only [List.set]
    -- long
    refine ⟨_, rfl, szOk rfl, fun p2 hp2 => ?_⟩
    refine ⟨d, c, p2, _, rfl, S0.new hp2, .inl (.inl upd_same), (fun z => nomatch z), by decide, fun v2 H2 hv2 S2 k2 => ?_⟩
    obtain ⟨L, rfl, L2, L200⟩ : ∃ L : Int, v2 = .int L ∧ 2 ≤ L ∧ L ≤ 200 := by
      simp only [List.mem_cons, List.not_mem_nil, or_false] at hv2
      rcases hv2 with rfl | rfl | rfl
      · exact ⟨2, rfl, by decide, by decide⟩
      · exact ⟨12, rfl, by decide, by decide⟩
      · exact ⟨200, rfl, by decide, by decide⟩
    have T2 : Tabs TT H2 := let ⟨_, e⟩ := (S0.new (o := .lst [V.int 2, .int 12, .int 200]) hp2).dk; Keep.tabs k2 e (Same.tabs (same_new hp2) T1)
    clear S0 T1 k2 hp2 hv2
    refine nm ?_
    dsimp only [List.set]
    -- gaps
    refine ⟨_, rfl, by decide, by decide, fun E1 hE1 => ?_⟩
    have nE1d := S2.nd hE1
    have nE1c := S2.nc hE1
    refine lc_range (lo := 0) (n := (4 : Int).toNat) (fun i H' => St1 K H' d c ∧ Keep d H2 H' ∧ ∃ ps : List (Addr × List Int), H' E1 = some (.lst (ps.map fun p => V.ref p.1)) ∧ ps.length = i ∧ ∀ p ∈ ps, p.2.length = 4 ∧ H' p.1 = some (.tup (p.2.map V.int))) ⟨S2.new hE1, Keep.of (same_new hE1), [], upd_same, rfl, fun p h => by cases h⟩ ?_ ?_
    · rintro i H' hi ⟨Si, ki, ps, hps, hpl, hpp⟩
      have hi4 : i < 4 := hi
      refine ⟨rfl, ?_⟩
      refine ⟨_, rfl, by decide, by decide, fun E2 hE2 => ?_⟩
      have nE2d := Si.nd hE2
      have nE2c := Si.nc hE2
      refine lc_range (lo := 0) (n := (4 : Int).toNat) (fun j H3 => St1 K H3 d c ∧ Keep d H' H3 ∧ ∃ xs : List Int, H3 E2 = some (.lst (xs.map V.int)) ∧ xs.length = j) ⟨Si.new hE2, Keep.of (same_new hE2), [], upd_same, rfl⟩ ?_ ?_
      · rintro j H3 hj ⟨Sj, kj, xs, hxs, hxl⟩
        have hj4 : j < 4 := hj
        refine ⟨rfl, ?_⟩
        refine ⟨_, rfl, _, rfl, d, c, L, rfl, Sj, by omega, by omega, fun x H4 xa xb S4 k4 => ?_⟩
        refine ⟨_, _, rfl, rfl, xs.map V.int, k4.l Sj hxs, small1000 (by rw [List.length_map]; omega), S4.put nE2d nE2c, keep_put (kj.trans k4) hE2, xs ++ [1 + x], by rw [upd_same, List.map_append]; rfl, by rw [List.length_append, hxl]; rfl⟩
      rintro H3 ⟨Sj, kj, xs, hxs, hxl⟩
      have hxl4 : xs.length = 4 := hxl
      refine ⟨E2, xs.map V.int, rfl, .inl ⟨.inl (.inl hxs), fun l hl => ?_⟩⟩
      have h1 := kj.l Si hps
      have z1 := same_new (o := .tup (xs.map V.int)) hl
      refine ⟨_, z1 _ _ h1, small1000 (by rw [List.length_map]; omega), (Sj.new hl).put nE1d nE1c, keep_put ((ki.trans kj).trans (Keep.of z1)) hE1, ps ++ [(l, xs)], by rw [upd_same, List.map_append]; rfl, by rw [List.length_append, hpl]; rfl, fun p hp => ?_⟩
      rcases List.mem_append.mp hp with h | h
      · have h2 := hpp p h
        have h3 := z1 _ _ (kj.t Si h2.2)
        refine ⟨h2.1, ?_⟩
        rw [upd_ne (ne_of h3 (z1 _ _ h1) (by intro z; cases z))]
        exact h3
      · rw [List.mem_singleton.mp h]
        refine ⟨hxl4, ?_⟩
        have h3 : (upd H3 l (.tup (xs.map V.int))) l = some (.tup (xs.map V.int)) := upd_same
        rw [upd_ne (ne_of h3 (z1 _ _ h1) (by intro z; cases z))]
        exact h3
    rintro H3 ⟨S3, k3, ps, hps, hpl, hpp⟩
    refine ⟨E1, _, rfl, .inl ⟨.inl (.inl hps), fun g hg => ?_⟩⟩
    have z3 := same_new (o := .tup (ps.map fun p => V.ref p.1)) hg
    obtain ⟨rs, m, G3⟩ := gap_of (H := upd H3 g (.tup (ps.map fun p => V.ref p.1))) (g := g) hpl upd_same fun p hp => ⟨(hpp p hp).1, z3 _ _ (hpp p hp).2⟩
    have E3 : E18 K TT (upd H3 g (.tup (ps.map fun p => V.ref p.1))) d c g rs m := ⟨S3.new hg, G3, Same.tabs z3 (let ⟨_, e⟩ := S2.dk; Keep.tabs k3 e T2)⟩
    clear S3 S2 T2 k3 hps hpl hpp z3 G3 nE1d nE1c hE1
    generalize upd H3 g (.tup (ps.map fun p => V.ref p.1)) = H4 at E3 ⊢
    clear hg ps
    refine nm ?_
    dsimp only [List.set]
    -- many
    refine ⟨_, rfl, d, c, 6, rfl, E3.S, by decide, by decide, fun x4 H5 x4a x4b S5 k5 => ?_⟩
    have E5 := E3.keep k5 S5
    clear E3 k5 S5
    obtain ⟨n4, rfl⟩ : ∃ n : Nat, x4 = n := ⟨x4.toNat, by omega⟩
    refine nm ?_
    dsimp only [List.set]
    refine cut (fun σ H6 => ∃ n : Nat, σ = [some (.ref a), some (.ref d), some (.int L), some (.ref g), some (.int (n : Nat)), none, none, none, none, none, none, none, none, none, none, none, none, none, none] ∧ n ≤ 6 ∧ E18 K TT H6 d c g rs m) ?_ ?_
    rotate_left
    · intro h
      refine ⟨_, rfl, d, c, 12, rfl, E5.S, by decide, by decide, fun x6 H6 x6a x6b S6 k6 => ?_⟩
      have E6 := E5.keep k6 S6
      refine ⟨rfl, _, rfl, ite2 (fun _ => ?_) (fun _ => ?_)⟩
      · refine nm ?_
        dsimp only [List.set]
        exact h _ _ ⟨6, rfl, by decide, E6⟩
      · refine nx8 ?_
        exact h _ _ ⟨n4, rfl, by omega, E6⟩
    clear E5 x4a x4b n4
    rintro σ H6 ⟨n, rfl, n6, E6⟩
    -- late
    refine ⟨_, rfl, szOk rfl, fun p7 hp7 => ?_⟩
    refine ⟨d, c, p7, _, rfl, E6.S.new hp7, .inl (.inl upd_same), (fun z => nomatch z), by decide, fun v7 H7 hv7 S7 k7 => ?_⟩
    obtain ⟨Lt, rfl, Lt1, Lt2⟩ : ∃ L : Int, v7 = .int L ∧ 12 ≤ L ∧ L ≤ 150 := by
      simp only [List.mem_cons, List.not_mem_nil, or_false] at hv7
      rcases hv7 with rfl | rfl
      · exact ⟨12, rfl, by decide, by decide⟩
      · exact ⟨150, rfl, by decide, by decide⟩
    have E7 := (E6.same (same_new hp7)).keep k7 S7
    clear E6 k7 hp7 hv7 S7
    refine nm ?_
    dsimp only [List.set]
    refine ⟨szOk rfl, fun ar har => ?_⟩
    have z8 := same_new (o := .lst []) har
    have E8 := E7.same z8
    have A8 : ArsAt (upd H7 ar (.lst [])) ar [] := ⟨upd_same, fun z h => by cases h⟩
    have nad := E7.S.nd har
    have nac := E7.S.nc har
    have ng := ne_of_none E7.G.tu har
    have nr : ∀ i, i < 4 → rs i ≠ ar := fun i hi => ne_of_none (E7.G.ro i hi) har
    have nT : ar ∉ TT := fun h => by
      obtain ⟨ps, e, _⟩ := E7.T ar h
      rw [har] at e
      cases e
    generalize upd H7 ar (.lst []) = H8 at E8 A8 ⊢
    clear E7 z8 har
    refine nm ?_
    dsimp only [List.set]
    -- arrivals
    refine ⟨_, rfl, _, rfl, by omega, by omega, for_range (n := n) (fun i σ H9 => ∃ (v7 v8 : Option V) (zs : List Av), σ = [some (.ref a), some (.ref d), some (.int L), some (.ref g), some (.int (n : Nat)), some (.int Lt), some (.ref ar), v7, v8, none, none, none, none, none, none, none, none, none, none] ∧ E18 K TT H9 d c g rs m ∧ ArsAt H9 ar zs ∧ OkAv zs ∧ zs.length = i) ⟨_, _, [], rfl, E8, A8, ⟨by decide, (fun z h => by cases h), (fun z h => by cases h)⟩, rfl⟩ ?_ ?_⟩
    · rintro i σ H9 hi ⟨v7, v8, zs, rfl, E9, A9, ok9, zl⟩
      refine nm ?_
      dsimp only [List.set]
      refine ⟨_, rfl, _, rfl, d, c, Lt, rfl, E9.S, by omega, by omega, fun r H10 r0 r1 S10 k10 => ?_⟩
      have E10 := E9.keep k10 S10
      have A10 := A9.keep E9.S k10
      clear k10 S10
      refine nm ?_
      dsimp only [List.set]
      refine ⟨_, rfl, (.inl ⟨rfl, _, .inl (.inl A10.1)⟩), _, rfl, d, c, 4, rfl, E10.S, by decide, by decide, fun w0 H11 wa wb S11 k11 => ?_⟩
      obtain ⟨w1, rfl⟩ : ∃ n : Nat, w0 = n := ⟨w0.toNat, by omega⟩
      have E11 := E10.keep k11 S11
      have A11 := A10.keep E10.S k11
      clear k11 S11
      refine ⟨_, rfl, _, rfl, _, rfl, _, rfl, _, rfl, _, _, rfl, rfl, wm (by decide) (by omega), szOk rfl, fun p12 hp12 => ?_⟩
      refine ⟨d, c, p12, _, rfl, E11.S.new hp12, .inl (.inl upd_same), (fun z => nomatch z), (by show 3 ≤ 1000; decide), fun v13 H13 hv13 S13 k13 => ?_⟩
      obtain ⟨b, rfl, b0, b1⟩ : ∃ b : Int, v13 = .int b ∧ 0 < b ∧ b ≤ 900 := by
        simp only [List.mem_cons, List.not_mem_nil, or_false] at hv13
        rcases hv13 with rfl | rfl | rfl
        · exact ⟨3, rfl, by decide, by decide⟩
        · exact ⟨2 * L, rfl, by omega, by omega⟩
        · exact ⟨900, rfl, by decide, by decide⟩
      have E13 := (E11.same (same_new hp12)).keep k13 S13
      have A13 := (A11.same (same_new hp12)).keep (E11.S.new hp12) k13
      clear k13 S13 hp12
      refine ⟨d, c, b, rfl, E13.S, b0, by omega, fun y H14 ya yb S14 k14 => ?_⟩
      have E14 := E13.keep k14 S14
      have A14 := A13.keep E13.S k14
      clear k14 S14
      refine ⟨_, _, rfl, rfl, szOk rfl, fun t ht => ?_⟩
      have z15 := same_new (o := .tup [.int (w1 : Nat), .int r, .int (r + y)]) ht
      have E15 := E14.same z15
      have A15 := A14.same z15
      have ht15 : (upd H14 t (.tup [.int (w1 : Nat), .int r, .int (r + y)])) t = some (.tup [.int (w1 : Nat), .int r, .int (r + y)]) := upd_same
      generalize upd H14 t (.tup [.int (w1 : Nat), .int r, .int (r + y)]) = H15 at E15 A15 ht15 ⊢
      refine ⟨_, _, _, rfl, rfl, A15.1, small1000 (by rw [List.length_map]; omega), ?_⟩
      refine ⟨_, _, zs ++ [⟨t, w1, r, r + y⟩], rfl, ⟨E15.S.put nad nac, ⟨by rw [upd_ne ng]; exact E15.G.tu, fun i hi => by rw [upd_ne (nr i hi)]; exact E15.G.ro i hi⟩, fun P hP => ?_⟩, A15.add ht15, ok9.add (by omega) (by show w1 < 4; omega) (by show 0 ≤ r; omega), by rw [List.length_append, zl]; rfl⟩
      obtain ⟨ps, e, q⟩ := E15.T P hP
      exact ⟨ps, by rw [upd_ne (ne_of e A15.1 (by intro z; cases z))]; exact e, q⟩
    rintro σ H9 ⟨v7, v8, zs, rfl, E9, A9, ok, zl⟩
    have zl : zs.length = n := zl
    clear E8 A8 nad nac ng nr nT
    -- shift, kept
    refine ⟨_, rfl, d, c, 8, rfl, E9.S, by decide, by decide, fun sh H10 sh0 sh1 S10 k10 => ?_⟩
    have E10 := E9.keep k10 S10
    have A10 := A9.keep E9.S k10
    clear k10 S10 E9 A9
    refine nm ?_
    dsimp only [List.set]
    refine ⟨_, rfl, ar, _, rfl, .inl (.inl (.inl A10.1)), fun kp hkp => ?_⟩
    have z11 := same_new (o := .lst (zs.map fun z => V.ref z.a)) hkp
    have E11 := E10.same z11
    have A11 := A10.same z11
    have hkp11 : (upd H10 kp (.lst (zs.map fun z => V.ref z.a))) kp = some (.lst (zs.map fun z => V.ref z.a)) := upd_same
    generalize upd H10 kp (.lst (zs.map fun z => V.ref z.a)) = H11 at E11 A11 hkp11 ⊢
    clear hkp z11 E10 A10
    refine nm ?_
    dsimp only [List.set]
    -- due
    refine cut (fun σ H12 => ∃ v : V, σ = [some (.ref a), some (.ref d), some (.int L), some (.ref g), some (.int (n : Nat)), some (.int Lt), some (.ref ar), v7, v8, some (.int sh), some (.ref kp), some v, none, none, none, none, none, none, none] ∧ E18 K TT H12 d c g rs m ∧ ArsAt H12 ar zs ∧ H12 kp = some (.lst (zs.map fun z => V.ref z.a)) ∧ DueAt H12 v m zs sh) ?_ ?_
    rotate_left
    · intro h
      refine ⟨_, rfl, _, rfl, _, rfl, g, ar, rs, m, zs, sh, rfl, E11.G, A11, ok, fun o p H' hB s1 ho => ?_, fun no H' s1 => ?_⟩
      · refine nm ?_
        dsimp only [List.set]
        exact h _ _ ⟨_, rfl, E11.same s1, A11.same s1, s1 _ _ hkp11, .inl ⟨o, p, rfl, hB, ho⟩⟩
      · refine nm ?_
        dsimp only [List.set]
        exact h _ _ ⟨_, rfl, E11.same s1, A11.same s1, s1 _ _ hkp11, .inr ⟨rfl, no⟩⟩
    clear E11 A11 hkp11
    rintro σ H12 ⟨v, rfl, E12, A12, hkp12, due⟩
    refine cut (fun σ H13 => σ = [some (.ref a), some (.ref d), some (.int L), some (.ref g), some (.int (n : Nat)), some (.int Lt), some (.ref ar), v7, v8, some (.int sh), some (.ref kp), some v, none, none, none, none, none, none, none] ∧ E18 K TT H13 d c g rs m ∧ ArsAt H13 ar zs) ?_ ?_
    rotate_left
    · intro h
      refine ⟨_, rfl, _, rfl, _, rfl, g, ar, rs, m, zs, sh, rfl, E12.G, A12, ok, E12.T, fun o' p' H' hB' st ho' => ?_, fun no' H' st => ?_⟩
      · have A13 := A12.st st E12.T
        have hkp13 := st.l E12.T hkp12
        rcases due with ⟨o, p, rfl, hB, ho⟩ | ⟨rfl, no⟩
        · obtain rfl := isB_uniq hB hB'
          have ho13 := ho.st st E12.T
          refine ⟨_, rfl, ordD m zs o, ordD m zs o, ho'.dp, ho13.dp, sh_ord m zs o, sh_ord m zs o, _, rfl, eqvN (can_ord m zs o) ?_⟩
          refine ⟨_, rfl, _, rfl, _, _, A13.dp A13.1, A13.dp hkp13, sh_pds _, sh_pds _, _, rfl, eqvN (can_pds _) ?_⟩
          refine nx8 ?_
          exact h _ _ ⟨rfl, E12.st st, A13⟩
        · have e := no o' hB'.1
          rw [hB'.2.1] at e
          cases e
      · have A13 := A12.st st E12.T
        have hkp13 := st.l E12.T hkp12
        rcases due with ⟨o, p, rfl, hB, ho⟩ | ⟨rfl, no⟩
        · have e := no' o hB.1
          rw [hB.2.1] at e
          cases e
        · have cn : PyData.canLay0 (.str "none") = true := by decide +kernel
          have sn : SeqAt.shaped (.str "none") = true := by decide +kernel
          refine ⟨_, rfl, .str "none", .str "none", .str _, .str _, sn, sn, _, rfl, eqvN cn ?_⟩
          refine ⟨_, rfl, _, rfl, _, _, A13.dp A13.1, A13.dp hkp13, sh_pds _, sh_pds _, _, rfl, eqvN (can_pds _) ?_⟩
          refine nx8 ?_
          exact h _ _ ⟨rfl, E12.st st, A13⟩
    rintro σ H13 ⟨rfl, E13, A13⟩
    clear E12 A12 hkp12 due
    -- order
    refine ⟨_, rfl, _, rfl, _, _, rfl, min n 4, by rw [min4]; rfl, by omega, fun p14 H14 xs s14 np14 X14 ex => ?_⟩
    have E14 := E13.same s14
    have A14 := A13.same s14
    have k4 : min n 4 ≤ 4 := by omega
    refine ⟨d, c, p14, _, rfl, E14.S, .inl (.inl X14.1), (fun z => ords_pos _ k4 (by rw [← ex, List.map_eq_nil_iff.mp z]; rfl)), (by have := ords_256 k4; rw [← ex, List.length_map] at this; rw [List.length_map]; omega), fun v15 H15 hv15 S15 k15 => ?_⟩
    obtain ⟨x, hx, rfl⟩ := List.mem_map.mp hv15
    have hx15 := k15.t E14.S (X14.2 x hx)
    have E15 := E14.keep k15 S15
    have A15 := A14.keep E14.S k15
    have ho : x.2 ∈ ords (min n 4) := by rw [← ex]; exact List.mem_map.mpr ⟨x, hx, rfl⟩
    obtain ⟨ol, oi⟩ := ords_ok ho
    have oi : ∀ i ∈ x.2, i < zs.length := fun i hi => by
      have := oi i hi
      omega
    clear k15 S15 X14 np14 s14 E13 A13 E14 A14 hv15 ex
    refine nm ?_
    dsimp only [List.set]
    -- found
    refine ⟨_, rfl, _, rfl, _, rfl, g, ar, x.1, rs, m, zs, x.2, rfl, E15.G, A15, ok, hx15, oi, by omega, E15.T, fun fd16 H16 st16 nf16 hf16 => ?_⟩
    have E16 := E15.st st16
    have A16 := A15.st st16 E15.T
    have hx16 := st16.t E15.T hx15
    clear st16 E15 A15 hx15
    refine nm ?_
    dsimp only [List.set]
    refine ⟨_, rfl, _, _, _, _, true, rfl, ClsV.ty "tuple", TyX.base (TyOf.tup hf16), kit_ty (by decide +kernel), ?_⟩
    refine ⟨_, rfl, iteF ?_⟩
    refine ⟨_, rfl, _, rfl, _, rfl, _, rfl, g, ar, x.1, rs, m, zs, x.2, rfl, E16.G, A16, ok, hx16, oi, by omega, fun f17 H17 s17 nf17 hf17 => ?_⟩
    have E17 := E16.same s17
    refine ⟨pdT (tks m zs x.2), pdT (tks m zs x.2), .tup (.inl (.inl (s17 _ _ hf16))) (dps_ints _), .tup (.inl (.inl hf17)) (dps_ints _), sh_pd _, sh_pd _, _, rfl, eqvN (can_pd _) ?_⟩
    refine nx8 ?_
    dsimp only
    clear E16 A16 hx16 s17 hf16 hf17 nf16 nf17
    -- first
    refine ⟨_, rfl, d, c, 4, rfl, E17.S, by decide, by decide, fun w18 H18 wa wb S18 k18 => ?_⟩
    obtain ⟨w1, rfl⟩ : ∃ n : Nat, w18 = n := ⟨w18.toNat, by omega⟩
    have w14 : w1 < 4 := by omega
    have E18a := E17.keep k18 S18
    clear k18 S18 E17 wa wb
    refine ⟨_, rfl, d, c, 9, rfl, E18a.S, by decide, by decide, fun y19 H19 ya yb S19 k19 => ?_⟩
    have E19 := E18a.keep k19 S19
    clear k19 S19 E18a
    refine ⟨_, _, rfl, rfl, szOk rfl, fun f1 hf1 => ?_⟩
    have z20 := same_new (o := .tup [.int (w1 : Nat), .int 50, .int (50 + y19)]) hf1
    have E20 := E19.same z20
    have hf20 : (upd H19 f1 (.tup [.int (w1 : Nat), .int 50, .int (50 + y19)])) f1 = some (.tup [.int (w1 : Nat), .int 50, .int (50 + y19)]) := upd_same
    generalize upd H19 f1 (.tup [.int (w1 : Nat), .int 50, .int (50 + y19)]) = H20 at E20 hf20 ⊢
    clear z20 hf1 E19
    refine nm ?_
    dsimp only [List.set]
    -- second
    refine ⟨_, rfl, d, c, 4, rfl, E20.S, by decide, by decide, fun w21 H21 wa wb S21 k21 => ?_⟩
    obtain ⟨w2, rfl⟩ : ∃ n : Nat, w21 = n := ⟨w21.toNat, by omega⟩
    have w24 : w2 < 4 := by omega
    have E21 := E20.keep k21 S21
    have hf21 := k21.t E20.S hf20
    clear k21 S21 E20 wa wb hf20
    refine ⟨szOk rfl, fun f2 hf2 => ?_⟩
    have z22 := same_new (o := .tup [.int (w2 : Nat), .int 0, .int 0]) hf2
    have E22 := E21.same z22
    have hf22 := z22 _ _ hf21
    have hg22 : (upd H21 f2 (.tup [.int (w2 : Nat), .int 0, .int 0])) f2 = some (.tup [.int (w2 : Nat), .int 0, .int 0]) := upd_same
    generalize upd H21 f2 (.tup [.int (w2 : Nat), .int 0, .int 0]) = H22 at E22 hf22 hg22 ⊢
    clear z22 hf2 E21 hf21
    refine nm ?_
    dsimp only [List.set]
    -- early
    refine ⟨_, rfl, _, rfl, _, _, rfl, rfl, wm (by decide) (by omega), d, c, 4 * L, rfl, E22.S, by omega, by omega, fun y23 H23 y23a y23b S23 k23 => ?_⟩
    have E23 := E22.keep k23 S23
    have hf23 := k23.t E22.S hf22
    have hg23 := k23.t E22.S hg22
    clear k23 S23 E22 hf22 hg22
    refine ⟨_, _, rfl, rfl, _, rfl, _, _, rfl, rfl, wm (by decide) (by omega), _, _, rfl, rfl, ?_⟩
    refine nm ?_
    dsimp only [List.set]
    generalize 50 + y23 - 2 * L = s2
    refine ⟨_, rfl, _, _, _, _, rfl, rfl, .inl (.inl hg23), rfl, _, rfl, _, rfl, _, rfl, d, c, 9, rfl, E23.S, by decide, by decide, fun y24 H24 ya yb S24 k24 => ?_⟩
    have E24 := E23.keep k24 S24
    have hf24 := k24.t E23.S hf23
    clear k24 S24 E23 hf23 hg23
    refine ⟨_, _, rfl, rfl, szOk rfl, fun f3 hf3 => ?_⟩
    have z25 := same_new (o := .tup [.int (w2 : Nat), .int s2, .int (s2 + y24)]) hf3
    have E25 := E24.same z25
    have hf25 := z25 _ _ hf24
    have hs25 : (upd H24 f3 (.tup [.int (w2 : Nat), .int s2, .int (s2 + y24)])) f3 = some (.tup [.int (w2 : Nat), .int s2, .int (s2 + y24)]) := upd_same
    generalize upd H24 f3 (.tup [.int (w2 : Nat), .int s2, .int (s2 + y24)]) = H25 at E25 hf25 hs25 ⊢
    clear z25 hf3 E24 hf24
    refine nm ?_
    dsimp only [List.set]
    -- good
    refine cut (fun σ H26 => σ = [some (.ref a), some (.ref d), some (.int L), some (.ref g), some (.int (n : Nat)), some (.int Lt), some (.ref ar), v7, v8, some (.int sh), some (.ref kp), some v, some (.ref x.1), some (.ref fd16), some (.ref f1), some (.ref f3), some (.int s2), some (.bl (bh8 m w1 w2 (50 + y19) s2 || bh8 m w2 w1 (s2 + y24) 50)), none] ∧ H26 = H25) ?_ ?_
    rotate_left
    · intro h
      refine ⟨_, rfl, _, _, _, _, rfl, rfl, .inl (.inl hs25), rfl, _, rfl, _, _, _, _, rfl, rfl, .inl (.inl hf25), rfl, _, _, rfl, rfl, _, rfl, _, rfl, _, _, _, _, rfl, rfl, .inl (.inl hf25), rfl, _, _, _, _, rfl, rfl, .inl (.inl E25.G.tu), four_of (fun i => V.ref (rs i)) w14, _, rfl, _, _, _, _, rfl, rfl, .inl (.inl hs25), rfl, _, _, _, _, rfl, rfl, .inl (.inl (E25.G.ro w1 w14)), four_of (fun i => V.int (m w1 i)) w24, _, _, rfl, rfl, _, rfl, ?_⟩
      by_cases c1 : m w1 w2 ≤ s2 - (50 + y19)
      · refine ifY c1 ?_
        refine nm ?_
        dsimp only [List.set]
        refine h _ _ ⟨?_, rfl⟩
        rw [show bh8 m w1 w2 (50 + y19) s2 = true from decide_eq_true c1]
        rfl
      · refine ifN c1 ?_
        refine ⟨_, rfl, _, _, _, _, rfl, rfl, .inl (.inl hf25), rfl, _, rfl, _, _, _, _, rfl, rfl, .inl (.inl hs25), rfl, _, _, rfl, rfl, _, rfl, _, rfl, _, _, _, _, rfl, rfl, .inl (.inl hs25), rfl, _, _, _, _, rfl, rfl, .inl (.inl E25.G.tu), four_of (fun i => V.ref (rs i)) w24, _, rfl, _, _, _, _, rfl, rfl, .inl (.inl hf25), rfl, _, _, _, _, rfl, rfl, .inl (.inl (E25.G.ro w2 w24)), four_of (fun i => V.int (m w2 i)) w14, _, _, rfl, rfl, ?_⟩
        refine nm ?_
        dsimp only [List.set]
        refine h _ _ ⟨?_, rfl⟩
        rw [show bh8 m w1 w2 (50 + y19) s2 = false from decide_eq_false c1]
        rfl
    rintro σ H26 ⟨rfl, rfl⟩
    refine ⟨_, rfl, _, rfl, _, rfl, g, f1, f3, rs, m, w1, w2, _, _, _, _, rfl, E25.G, hf25, hs25, w14, w24, _, rfl, _, _, rfl, ?_⟩
    refine ⟨_, rfl, ?_⟩
    rw [decide_eq_true rfl]
    refine iteT ?_
    refine ⟨_, rfl, _, rfl, _, rfl, g, f3, f1, rs, m, w2, w1, _, _, _, _, rfl, E25.G, hs25, hf25, w24, w14, _, rfl, _, _, rfl, ?_⟩
    rw [decide_eq_true (Bool.or_comm _ _)]
    exact k _
end
end Sk

set_option Elab.async false
set_option linter.all false
set_option maxRecDepth 100000
set_option maxHeartbeats 4000000
namespace Sk
open PySem PySem.Spec PyProof.Rows L2
/-! the end -/
theorem all_mk {l : PySem.W.OpenLaw} {w : World} {K : PySem.W.Frag} {h : Heap} {mg : Str → Option Value} {fa f1 f2 f3 f4 f5 f6 f7 f8 f9 f10 f11 f12 f13 f14 f15 f16 f17 tc6 tp6 tc7 tp7 tc8 tp8 tc9 tp9 : Addr} (X : K.In h) (G : h.Ns mainGlobals mg) (hfa : mg "law" = some (.ref fa))
    {od1 an1 od2 an2 od3 an3 od4 an4 od5 an5 od6 an6 od7 an7 od8 an8 od9 an9 od10 an10 od11 an11 od12 an12 od13 an13 od14 an14 od15 an15 od16 an16 od17 an17 : Option Addr} {sl1 sl2 sl3 sl4 sl5 sl6 sl7 sl8 sl9 sl10 sl11 sl12 sl13 sl14 sl15 sl16 sl17 : Array (Option Value)} {oc1 kV1 dc1 pm1 ct1 cd1 oc2 kV2 dc2 pm2 ct2 cd2 oc3 kV3 dc3 pm3 ct3 cd3 oc4 kV4 dc4 pm4 ct4 cd4 oc5 kV5 dc5 pm5 ct5 cd5 oc6 kV6 dc6 pm6 ct6 oc7 kV7 dc7 pm7 ct7 oc8 kV8 dc8 pm8 ct8 oc9 kV9 dc9 pm9 ct9 oc10 kV10 dc10 pm10 ct10 cd10 oc11 kV11 dc11 pm11 ct11 cd11 oc12 kV12 dc12 pm12 ct12 cd12 oc13 kV13 dc13 pm13 ct13 cd13 oc14 kV14 dc14 pm14 ct14 cd14 oc15 kV15 dc15 pm15 ct15 cd15 oc16 kV16 dc16 pm16 ct16 cd16 oc17 kV17 dc17 pm17 ct17 cd17 ov6 ov7 ov8 ov9 : Value} {oo6 oo7 oo8 oo9 : Option Addr} {os6 os7 os8 os9 : Array (Option Value)} {fv6 fv7 fv8 fv9 : Array Value}
    {CE fE0 ccE0 cdE0 NE0 : Addr} {ocE0 kVE0 dcE0 pmE0 ctE0 clE0 cclE0 : Value} {odE0 anE0 cldE0 cddE0 ddE0 : Option Addr} {slE0 cslE0 ccsE0 : Array (Option Value)} {vsE0 : Array Value} {fileE0 nmE0 qE0 : Str} {tfE0 : Tok} {bsE0 bmE0 subE0 : List Value} {snE0 : List Str} {abE0 : Bool} {colE0 : Option Bool} {k0E0 k1E0 k2E0 k3E0 k5E0 : Option Value}
    (a1 : PySem.W.nsIn K mainGlobals "_law_start" = some (some (.ref f1))) (l1 : K.lookup f1 = some ⟨oc1, od1, .func (PySem.W.fnOf "_law_start" "_law_start" (defArgs s_law_start) (defBody s_law_start) (defScope s_law_start) .none kV1 dc1 pm1 an1 cd1 ct1), sl1⟩) (c1 : PySem.W.codeIn K cd1 "_law_start" = true) (k1 : PySem.W.keepIn K (.ref f1) = true)
    (a2 : PySem.W.nsIn K mainGlobals "_law_draw" = some (some (.ref f2))) (l2 : K.lookup f2 = some ⟨oc2, od2, .func (PySem.W.fnOf "_law_draw" "_law_draw" (defArgs s_law_draw) (defBody s_law_draw) (defScope s_law_draw) .none kV2 dc2 pm2 an2 cd2 ct2), sl2⟩) (c2 : PySem.W.codeIn K cd2 "_law_draw" = true) (k2 : PySem.W.keepIn K (.ref f2) = true)
    (a3 : PySem.W.nsIn K mainGlobals "_law_pick" = some (some (.ref f3))) (l3 : K.lookup f3 = some ⟨oc3, od3, .func (PySem.W.fnOf "_law_pick" "_law_pick" (defArgs s_law_pick) (defBody s_law_pick) (defScope s_law_pick) .none kV3 dc3 pm3 an3 cd3 ct3), sl3⟩) (c3 : PySem.W.codeIn K cd3 "_law_pick" = true) (k3 : PySem.W.keepIn K (.ref f3) = true)
    (a4 : PySem.W.nsIn K mainGlobals "_behind" = some (some (.ref f4))) (l4 : K.lookup f4 = some ⟨oc4, od4, .func (PySem.W.fnOf "_behind" "_behind" (defArgs s_behind) (defBody s_behind) (defScope s_behind) .none kV4 dc4 pm4 an4 cd4 ct4), sl4⟩) (c4 : PySem.W.codeIn K cd4 "_behind" = true) (k4 : PySem.W.keepIn K (.ref f4) = true)
    (a5 : PySem.W.nsIn K mainGlobals "apart" = some (some (.ref f5))) (l5 : K.lookup f5 = some ⟨oc5, od5, .func (PySem.W.fnOf "apart" "apart" (defArgs s_apart) (defBody s_apart) (defScope s_apart) .none kV5 dc5 pm5 an5 cd5 ct5), sl5⟩) (c5 : PySem.W.codeIn K cd5 "apart" = true) (k5 : PySem.W.keepIn K (.ref f5) = true)
    (a6 : PySem.W.nsIn K mainGlobals "landing_ticks" = some (some (.ref f6))) (l6 : K.lookup f6 = some ⟨oc6, od6, .func (PySem.W.fnOf "landing_ticks" "landing_ticks" (defArgs s_landing_ticks) (defBody s_landing_ticks) (defScope s_landing_ticks) .none kV6 dc6 pm6 an6 (.ref tc6) ct6), sl6⟩) (c6 : PySem.W.codeIn K (.ref tc6) "landing_ticks" = true) (k6 : PySem.W.keepIn K (.ref f6) = true)
    (lc6 : K.lookup tc6 = some ⟨ov6, oo6, .fields fv6, os6⟩) (hv6 : fv6[11]? = some (.ref tp6)) (np6 : K.lookup tp6 = none) (w6 : PySem.W.CodeHd h tc6 tp6 ∧ h.get? tp6 = some { cls := .none, data := .fields #[] })
    (a7 : PySem.W.nsIn K mainGlobals "_near_places" = some (some (.ref f7))) (l7 : K.lookup f7 = some ⟨oc7, od7, .func (PySem.W.fnOf "_near_places" "_near_places" (defArgs s_near_places) (defBody s_near_places) (defScope s_near_places) .none kV7 dc7 pm7 an7 (.ref tc7) ct7), sl7⟩) (c7 : PySem.W.codeIn K (.ref tc7) "_near_places" = true) (k7 : PySem.W.keepIn K (.ref f7) = true)
    (lc7 : K.lookup tc7 = some ⟨ov7, oo7, .fields fv7, os7⟩) (hv7 : fv7[11]? = some (.ref tp7)) (np7 : K.lookup tp7 = none) (w7 : PySem.W.CodeHd h tc7 tp7 ∧ h.get? tp7 = some { cls := .none, data := .fields #[] })
    (a8 : PySem.W.nsIn K mainGlobals "_in_time" = some (some (.ref f8))) (l8 : K.lookup f8 = some ⟨oc8, od8, .func (PySem.W.fnOf "_in_time" "_in_time" (defArgs s_in_time) (defBody s_in_time) (defScope s_in_time) .none kV8 dc8 pm8 an8 (.ref tc8) ct8), sl8⟩) (c8 : PySem.W.codeIn K (.ref tc8) "_in_time" = true) (k8 : PySem.W.keepIn K (.ref f8) = true)
    (lc8 : K.lookup tc8 = some ⟨ov8, oo8, .fields fv8, os8⟩) (hv8 : fv8[11]? = some (.ref tp8)) (np8 : K.lookup tp8 = none) (w8 : PySem.W.CodeHd h tc8 tp8 ∧ h.get? tp8 = some { cls := .none, data := .fields #[] })
    (a9 : PySem.W.nsIn K mainGlobals "_places" = some (some (.ref f9))) (l9 : K.lookup f9 = some ⟨oc9, od9, .func (PySem.W.fnOf "_places" "_places" (defArgs s_places) (defBody s_places) (defScope s_places) .none kV9 dc9 pm9 an9 (.ref tc9) ct9), sl9⟩) (c9 : PySem.W.codeIn K (.ref tc9) "_places" = true) (k9 : PySem.W.keepIn K (.ref f9) = true)
    (lc9 : K.lookup tc9 = some ⟨ov9, oo9, .fields fv9, os9⟩) (hv9 : fv9[11]? = some (.ref tp9)) (np9 : K.lookup tp9 = none) (w9 : PySem.W.CodeHd h tc9 tp9 ∧ h.get? tp9 = some { cls := .none, data := .fields #[] })
    (a10 : PySem.W.nsIn K mainGlobals "best_order" = some (some (.ref f10))) (l10 : K.lookup f10 = some ⟨oc10, od10, .func (PySem.W.fnOf "best_order" "best_order" (defArgs s_best_order) (defBody s_best_order) (defScope s_best_order) .none kV10 dc10 pm10 an10 cd10 ct10), sl10⟩) (c10 : PySem.W.codeIn K cd10 "best_order" = true) (k10 : PySem.W.keepIn K (.ref f10) = true)
    (a11 : PySem.W.nsIn K mainGlobals "_law_orders" = some (some (.ref f11))) (l11 : K.lookup f11 = some ⟨oc11, od11, .func (PySem.W.fnOf "_law_orders" "_law_orders" (defArgs s_law_orders) (defBody s_law_orders) (defScope s_law_orders) .none kV11 dc11 pm11 an11 cd11 ct11), sl11⟩) (c11 : PySem.W.codeIn K cd11 "_law_orders" = true) (k11 : PySem.W.keepIn K (.ref f11) = true)
    (a12 : PySem.W.nsIn K mainGlobals "_law_ticks" = some (some (.ref f12))) (l12 : K.lookup f12 = some ⟨oc12, od12, .func (PySem.W.fnOf "_law_ticks" "_law_ticks" (defArgs s_law_ticks) (defBody s_law_ticks) (defScope s_law_ticks) .none kV12 dc12 pm12 an12 cd12 ct12), sl12⟩) (c12 : PySem.W.codeIn K cd12 "_law_ticks" = true) (k12 : PySem.W.keepIn K (.ref f12) = true)
    (a13 : PySem.W.nsIn K mainGlobals "_law_good" = some (some (.ref f13))) (l13 : K.lookup f13 = some ⟨oc13, od13, .func (PySem.W.fnOf "_law_good" "_law_good" (defArgs s_law_good) (defBody s_law_good) (defScope s_law_good) .none kV13 dc13 pm13 an13 cd13 ct13), sl13⟩) (c13 : PySem.W.codeIn K cd13 "_law_good" = true) (k13 : PySem.W.keepIn K (.ref f13) = true)
    (a14 : PySem.W.nsIn K mainGlobals "_law_best" = some (some (.ref f14))) (l14 : K.lookup f14 = some ⟨oc14, od14, .func (PySem.W.fnOf "_law_best" "_law_best" (defArgs s_law_best) (defBody s_law_best) (defScope s_law_best) .none kV14 dc14 pm14 an14 cd14 ct14), sl14⟩) (c14 : PySem.W.codeIn K cd14 "_law_best" = true) (k14 : PySem.W.keepIn K (.ref f14) = true)
    (a15 : PySem.W.nsIn K mainGlobals "_law_found" = some (some (.ref f15))) (l15 : K.lookup f15 = some ⟨oc15, od15, .func (PySem.W.fnOf "_law_found" "_law_found" (defArgs s_law_found) (defBody s_law_found) (defScope s_law_found) .none kV15 dc15 pm15 an15 cd15 ct15), sl15⟩) (c15 : PySem.W.codeIn K cd15 "_law_found" = true) (k15 : PySem.W.keepIn K (.ref f15) = true)
    (a16 : PySem.W.nsIn K mainGlobals "_law_is" = some (some (.ref f16))) (l16 : K.lookup f16 = some ⟨oc16, od16, .func (PySem.W.fnOf "_law_is" "_law_is" (defArgs s_law_is) (defBody s_law_is) (defScope s_law_is) .none kV16 dc16 pm16 an16 cd16 ct16), sl16⟩) (c16 : PySem.W.codeIn K cd16 "_law_is" = true) (k16 : PySem.W.keepIn K (.ref f16) = true)
    (a17 : PySem.W.nsIn K mainGlobals "law" = some (some (.ref f17))) (l17 : K.lookup f17 = some ⟨oc17, od17, .func (PySem.W.fnOf "law" "law" (defArgs s_law) (defBody s_law) (defScope s_law) .none kV17 dc17 pm17 an17 cd17 ct17), sl17⟩) (c17 : PySem.W.codeIn K cd17 "law" = true) (k17 : PySem.W.keepIn K (.ref f17) = true)
    (aE0 : PySem.W.nsIn K mainGlobals "SequenceError" = some (some (.ref CE))) (iE0 : PySem.W.findIn K (.ref CE) "__init__" = some (some (.ref fE0))) (tE0 : PySem.W.typeIn K (.ref fE0) = some (.type "function"))
    (lE0 : K.lookup fE0 = some ⟨ocE0, odE0, .func (PySem.W.ksFn "__init__" "SequenceError.__init__" (defArgs s_SequenceError___init__) (defBody s_SequenceError___init__) (defScope s_SequenceError___init__) .none kVE0 dcE0 pmE0 anE0 (.ref cdE0) ctE0 ccE0), slE0⟩) (cE0 : PySem.W.codeIn K (.ref cdE0) "SequenceError.__init__" = true)
    (xE0 : K.lookup CE = some (excClassObj nmE0 qE0 CE NE0 bsE0 bmE0 true snE0 subE0 abE0 colE0 ddE0 k0E0 k1E0 k2E0 k3E0 k5E0 "ValueError.__new__")) (rE0 : PySem.HandSPX.refsVE bmE0 = true) (sE0 : PySem.W.findIn K (.ref CE) "__setattr__" = some (some (.builtin "object.__setattr__"))) (bE0 : PySem.W.subIn K (.ref CE) (.type "BaseException") = some true) (yE0 : PySem.W.typeIn K (.ref CE) = some (.type "type")) (kE0 : PySem.W.keepIn K (.ref CE) = true)
    (uE0 : K.lookup ccE0 = some ⟨clE0, cldE0, .cell (some (.ref CE)), cslE0⟩) (oE0 : K.lookup cdE0 = some ⟨cclE0, cddE0, .fields vsE0, ccsE0⟩) (vE0 : vsE0[2]? = some (.str fileE0 tfE0)) (pE0 : ((l.prog.main.file : Str) == fileE0) = true) (q_E0 : (l.prog.main.scope.names.lookup ("super" : Str)).isSome = false)
    (mE0 : PySem.W.mroIn K CE (.ref CE) = some true) (nE0 : PySem.W.ks_superIn K CE CE "__init__" = some (some (.builtin "ValueError.__init__"))) (zE0 : PySem.W.nsIn K cStatics "thirdparty.any" = some none) (w_E0 : PySem.W.subIn K (.ref CE) (.type "ValueError") = some true) (g_E0 : PySem.W.nsIn K mainGlobals "super" = some none) (n1E0 : PySem.W.findIn K (.ref CE) "code" = some none) (eE0 : PySem.W.exmOne K (.ref CE) (.ref CE) = some true)
    (xgE0 : PySem.W.findIn K (.ref CE) "__getattribute__" = some (some (.builtin "BaseException.__getattribute__"))) (xaE0 : PySem.W.findIn K (.ref CE) "__getattr__" = some none) (xdE0 : PySem.W.hasDictIn K CE = true)
    (z1 : PySem.W.nsIn K mainGlobals "abs" = some none) (z2 : PySem.W.nsIn K mainGlobals "int" = some none) (z3 : PySem.W.nsIn K mainGlobals "len" = some none) (z4 : PySem.W.nsIn K mainGlobals "bool" = some none) (z5 : PySem.W.nsIn K mainGlobals "isinstance" = some none) (z6 : PySem.W.nsIn K mainGlobals "max" = some none) (z7 : PySem.W.nsIn K mainGlobals "min" = some none) (z8 : PySem.W.nsIn K mainGlobals "range" = some none) (z9 : PySem.W.nsIn K mainGlobals "tuple" = some none) (z10 : PySem.W.nsIn K mainGlobals "list" = some none) (z11 : PySem.W.nsIn K mainGlobals "sum" = some none) (z12 : PySem.W.nsIn K mainGlobals "any" = some none) (z13 : PySem.W.nsIn K mainGlobals "all" = some none) (z14 : PySem.W.nsIn K mainGlobals "sorted" = some none) (z15 : PySem.W.nsIn K mainGlobals "dict" = some none) (z16 : PySem.W.nsIn K mainGlobals "enumerate" = some none) (yz : PySem.W.nsIn K mainGlobals "zip" = some none) (yTpm : PySem.W.nsIn K mainGlobals "permutations" = some (some (.type "itertools.permutations"))) :
    LamX.LawAtS l w K CX0 7 63 "script" mg fa h := by
  have e := hfa.symm.trans (PySem.W.mg_of X G a17)
  cases e
  have F1 := fun_mk (st := s_law_start) l1 c1 k1
  have F2 := fun_mk (st := s_law_draw) l2 c2 k2
  have F3 := fun_mk (st := s_law_pick) l3 c3 k3
  have F4 := fun_mk (st := s_behind) l4 c4 k4
  have F5 := fun_mk (st := s_apart) l5 c5 k5
  have F6 := fun_mk (st := s_landing_ticks) l6 c6 k6
  have F7 := fun_mk (st := s_near_places) l7 c7 k7
  have F8 := fun_mk (st := s_in_time) l8 c8 k8
  have F9 := fun_mk (st := s_places) l9 c9 k9
  have F10 := fun_mk (st := s_best_order) l10 c10 k10
  have F11 := fun_mk (st := s_law_orders) l11 c11 k11
  have F12 := fun_mk (st := s_law_ticks) l12 c12 k12
  have F13 := fun_mk (st := s_law_good) l13 c13 k13
  have F14 := fun_mk (st := s_law_best) l14 c14 k14
  have F15 := fun_mk (st := s_law_found) l15 c15 k15
  have F16 := fun_mk (st := s_law_is) l16 c16 k16
  have F17 := fun_mk (st := s_law) l17 c17 k17
  have b1 := F1.binds (ps := ["script"]) fun _ _ _ _ _ _ us hl => match us, hl with | [_], _ => rfl
  have b2 := F2.binds (ps := ["state", "bound"]) fun _ _ _ _ _ _ us hl => match us, hl with | [_, _], _ => rfl
  have b3 := F3.binds (ps := ["state", "things"]) fun _ _ _ _ _ _ us hl => match us, hl with | [_, _], _ => rfl
  have b4 := F4.binds (ps := ["gaps", "first", "second"]) fun _ _ _ _ _ _ us hl => match us, hl with | [_, _, _], _ => rfl
  have b5 := F5.binds (ps := ["gaps", "first", "second"]) fun _ _ _ _ _ _ us hl => match us, hl with | [_, _, _], _ => rfl
  have b6 := F6.binds (ps := ["gaps", "arrivals", "order"]) fun _ _ _ _ _ _ us hl => match us, hl with | [_, _, _], _ => rfl
  have b7 := F7.binds (ps := ["places", "order", "shift"]) fun _ _ _ _ _ _ us hl => match us, hl with | [_, _, _], _ => rfl
  have b8 := F8.binds (ps := ["arrivals", "order", "ticks"]) fun _ _ _ _ _ _ us hl => match us, hl with | [_, _, _], _ => rfl
  have b9 := F9.binds (ps := ["arrivals"]) fun _ _ _ _ _ _ us hl => match us, hl with | [_], _ => rfl
  have b10 := F10.binds (ps := ["gaps", "arrivals", "shift"]) fun _ _ _ _ _ _ us hl => match us, hl with | [_, _, _], _ => rfl
  have b11 := F11.binds (ps := ["many"]) fun _ _ _ _ _ _ us hl => match us, hl with | [_], _ => rfl
  have b12 := F12.binds (ps := ["gaps", "arrivals", "order"]) fun _ _ _ _ _ _ us hl => match us, hl with | [_, _, _], _ => rfl
  have b13 := F13.binds (ps := ["arrivals", "order", "ticks", "shift"]) fun _ _ _ _ _ _ us hl => match us, hl with | [_, _, _, _], _ => rfl
  have b14 := F14.binds (ps := ["gaps", "arrivals", "shift"]) fun _ _ _ _ _ _ us hl => match us, hl with | [_, _, _], _ => rfl
  have b15 := F15.binds (ps := ["gaps", "arrivals", "shift"]) fun _ _ _ _ _ _ us hl => match us, hl with | [_, _, _], _ => rfl
  have b16 := F16.binds (ps := ["actual", "due"]) fun _ _ _ _ _ _ us hl => match us, hl with | [_, _], _ => rfl
  have T : TxtA mg := { abs := PySem.W.mg_none_of X G z1, int := PySem.W.mg_none_of X G z2, len := PySem.W.mg_none_of X G z3, bool := PySem.W.mg_none_of X G z4, isinstance := PySem.W.mg_none_of X G z5, max := PySem.W.mg_none_of X G z6, min := PySem.W.mg_none_of X G z7, range := PySem.W.mg_none_of X G z8, tuple := PySem.W.mg_none_of X G z9, list := PySem.W.mg_none_of X G z10, sum := PySem.W.mg_none_of X G z11, any := PySem.W.mg_none_of X G z12, all := PySem.W.mg_none_of X G z13, sorted := PySem.W.mg_none_of X G z14, dict := PySem.W.mg_none_of X G z15, enumerate := PySem.W.mg_none_of X G z16 }
  have Tz : mg "zip" = none := PySem.W.mg_none_of X G yz
  have Tpm : mg "permutations" = some (.type "itertools.permutations") := PySem.W.mg_of X G yTpm
  refine ⟨PySem.W.fnOf "law" "law" (defArgs s_law) (defBody s_law) (defScope s_law) .none kV17 dc17 pm17 an17 cd17 ct17, [(tc6, tp6), (tc7, tp7), (tc8, tp8), (tc9, tp9)], (spLawT K [tp6, tp7, tp8, tp9]), fun p hp => ?_, fun p hp => ?_, fun p hp => ?_, fun s v => .of_eq rfl, fun H a ns hl hb hH hS => ⟨a, ns, rfl, hS, hl, fun P hP => ?_, fun _ => rfl⟩, fun base _ _ hTB => ?_⟩
  · simp only [List.mem_cons, List.not_mem_nil, or_false] at hp
    rcases hp with rfl | rfl | rfl | rfl
    · exact w6.2
    · exact w7.2
    · exact w8.2
    · exact w9.2
  · simp only [List.mem_cons, List.not_mem_nil, or_false] at hp
    rcases hp with rfl | rfl | rfl | rfl
    · exact np6
    · exact np7
    · exact np8
    · exact np9
  · simp only [List.mem_cons, List.not_mem_nil, or_false] at hp
    rcases hp with rfl | rfl | rfl | rfl
    · exact w6.1
    · exact w7.1
    · exact w8.1
    · exact w9.1
  · simp only [List.mem_cons, List.not_mem_nil, or_false] at hP
    rcases hP with hP | hP | hP | hP
    · rw [hP]; exact ⟨#[], hH (tc6, tp6) (by simp), True.intro⟩
    · rw [hP]; exact ⟨#[], hH (tc7, tp7) (by simp), True.intro⟩
    · rw [hP]; exact ⟨#[], hH (tc8, tp8) (by simp), True.intro⟩
    · rw [hP]; exact ⟨#[], hH (tc9, tp9) (by simp), True.intro⟩
  have TE0 : OexC K CE := ⟨⟨_, _, _, _, _, _, _, _, _, _, _, _, _, _, _, xE0, rE0⟩, sE0, bE0, yE0, kE0⟩
  have UE0 : SupOk l.prog K CE ccE0 cdE0 := ⟨⟨_, _, _, uE0⟩, ⟨_, _, _, _, _, _, oE0, vE0, pE0⟩, q_E0, mE0, nE0, zE0, w_E0⟩
  have DE_SequenceError : ErrD l.prog w K mg base 1 "SequenceError" CE ["self", "code"] (spCErr1 CE) := ⟨⟨_, _, ok_SequenceError___init__ lE0 cE0 UE0 TE0 (PySem.W.mg_none_of X G g_E0) n1E0, .all (fun us hl => match us, hl with | [_, _], _ => rfl), iE0, tE0⟩, PySem.W.mg_of X G aE0, TE0, eE0⟩
  have D1 : Def l.prog w K mg base 1 "_law_start" ["script"] (spStart K) := .mk' F1 b1 (PySem.W.mg_of X G a1) (ok_law_start F1 T.toTxt0)
  have D2 : Def l.prog w K mg base 1 "_law_draw" ["state", "bound"] (spDraw K) := .mk' F2 b2 (PySem.W.mg_of X G a2) (ok_law_draw F2 T.toTxt0)
  have D3 : Def l.prog w K mg base 2 "_law_pick" ["state", "things"] (spPick K) := .mk' F3 b3 (PySem.W.mg_of X G a3) (ok_law_pick F3 T.toTxt0 D2)
  have D4 : Def l.prog w K mg base 1 "_behind" ["gaps", "first", "second"] (spBehind8) := .mk' F4 b4 (PySem.W.mg_of X G a4) (ok_behind F4 T)
  have D5 : Def l.prog w K mg base 2 "apart" ["gaps", "first", "second"] (spApart8) := .mk' F5 b5 (PySem.W.mg_of X G a5) (ok_apart F5 T D4)
  have D6 : Def l.prog w K mg base 2 "landing_ticks" ["gaps", "arrivals", "order"] (spLand [tp6, tp7, tp8, tp9]) := .mk' F6 b6 (PySem.W.mg_of X G a6) (ok_landing_ticks F6 T rfl (hTB (tc6, tp6) (by simp)) (by simp))
  have D7 : Def l.prog w K mg base 2 "_near_places" ["places", "order", "shift"] (spNear8 [tp6, tp7, tp8, tp9]) := .mk' F7 b7 (PySem.W.mg_of X G a7) (ok_near_places F7 T rfl (hTB (tc7, tp7) (by simp)) (by simp))
  have D8 : Def l.prog w K mg base 2 "_in_time" ["arrivals", "order", "ticks"] (spTime8 [tp6, tp7, tp8, tp9]) := .mk' F8 b8 (PySem.W.mg_of X G a8) (ok_in_time F8 T Tz rfl (hTB (tc8, tp8) (by simp)) (by simp))
  have D9 : Def l.prog w K mg base 2 "_places" ["arrivals"] (spPlaces [tp6, tp7, tp8, tp9]) := .mk' F9 b9 (PySem.W.mg_of X G a9) (ok_places F9 T rfl (hTB (tc9, tp9) (by simp)) (by simp))
  have D10 : DefX l.prog w K mg base 3 "best_order" ["gaps", "arrivals", "shift"] (spBest8 CE [tp6, tp7, tp8, tp9]) := .mk' F10 b10 (PySem.W.mg_of X G a10) (ok_best_order F10 T Tpm DE_SequenceError D9 D7 D6 D8)
  have D11 : Def l.prog w K mg base 1 "_law_orders" ["many"] (spOrds8) := .mk' F11 b11 (PySem.W.mg_of X G a11) (ok_law_orders F11 T)
  have D12 : Def l.prog w K mg base 1 "_law_ticks" ["gaps", "arrivals", "order"] (spTks8) := .mk' F12 b12 (PySem.W.mg_of X G a12) (ok_law_ticks F12 T)
  have D13 : Def l.prog w K mg base 1 "_law_good" ["arrivals", "order", "ticks", "shift"] (spGood8) := .mk' F13 b13 (PySem.W.mg_of X G a13) (ok_law_good F13 T)
  have D14 : Def l.prog w K mg base 2 "_law_best" ["gaps", "arrivals", "shift"] (spBestL8) := .mk' F14 b14 (PySem.W.mg_of X G a14) (ok_law_best F14 T D11 D12 D13)
  have D15 : Def l.prog w K mg base 5 "_law_found" ["gaps", "arrivals", "shift"] (spFoundL8 [tp6, tp7, tp8, tp9]) := .mk' F15 b15 (PySem.W.mg_of X G a15) (ok_law_found F15 T ⟨⟨xgE0, xaE0, bE0, xdE0⟩, n1E0, n1E0⟩ DE_SequenceError D10)
  have D16 : Def l.prog w K mg base 1 "_law_is" ["actual", "due"] (spIs18) := .mk' F16 b16 (PySem.W.mg_of X G a16) (ok_law_is F16 T)
  exact ok_law F17 T D1 D2 D3 D14 D15 D11 D6 D12 D5 D16
end Sk
open PySem PySem.W PyProof.Rows
set_option maxRecDepth 100000 in
set_option maxHeartbeats 0 in
theorem PySem.Challenge.cw_skyapart_k18_landings_holds : PySem.Challenge.rw_skyapart_k18_landings.Holds := by
  w_on; o_law; k_head; (case hw => w_witness2)
  k_fill
  refine Sk.walk_tabs (l := PySem.Challenge.rw_skyapart_k18_landings) (n := 63) (k := 7) (x := "script") (CX := fun _ => L2.CX0) rfl (by decide) rfl ⟨rfl, by decide, by decide⟩ (fun w h Y => PySem.W.kIn_of Y) ?F (fun _ _ _ _ _ z => z)
  case F =>
    intro w mg fa h KX G hmg hT
    refine' Sk.all_mk KX G hmg ?a1 ?l1 ?c1 ?k1 ?a2 ?l2 ?c2 ?k2 ?a3 ?l3 ?c3 ?k3 ?a4 ?l4 ?c4 ?k4 ?a5 ?l5 ?c5 ?k5 ?a6 ?l6 ?c6 ?k6 ?lc6 ?hv6 ?np6 ?w6 ?a7 ?l7 ?c7 ?k7 ?lc7 ?hv7 ?np7 ?w7 ?a8 ?l8 ?c8 ?k8 ?lc8 ?hv8 ?np8 ?w8 ?a9 ?l9 ?c9 ?k9 ?lc9 ?hv9 ?np9 ?w9 ?a10 ?l10 ?c10 ?k10 ?a11 ?l11 ?c11 ?k11 ?a12 ?l12 ?c12 ?k12 ?a13 ?l13 ?c13 ?k13 ?a14 ?l14 ?c14 ?k14 ?a15 ?l15 ?c15 ?k15 ?a16 ?l16 ?c16 ?k16 ?a17 ?l17 ?c17 ?k17 ?aE0 ?iE0 ?tE0 ?lE0 ?cE0 ?xE0 ?rE0 ?sE0 ?bE0 ?yE0 ?kE0 ?uE0 ?oE0 ?vE0 ?pE0 ?q_E0 ?mE0 ?nE0 ?zE0 ?w_E0 ?g_E0 ?n1E0 ?eE0 ?xgE0 ?xaE0 ?xdE0 ?z1 ?z2 ?z3 ?z4 ?z5 ?z6 ?z7 ?z8 ?z9 ?z10 ?z11 ?z12 ?z13 ?z14 ?z15 ?z16 ?yz ?yTpm
    (case a1 => k_is); (case l1 => k_is); (case c1 => k_is); (case k1 => k_is)
    (case a2 => k_is); (case l2 => k_is); (case c2 => k_is); (case k2 => k_is)
    (case a3 => k_is); (case l3 => k_is); (case c3 => k_is); (case k3 => k_is)
    (case a4 => k_is); (case l4 => k_is); (case c4 => k_is); (case k4 => k_is)
    (case a5 => k_is); (case l5 => k_is); (case c5 => k_is); (case k5 => k_is)
    (case a6 => k_is); (case l6 => k_is); (case c6 => k_is); (case k6 => k_is)
    (case lc6 => k_is); (case hv6 => exact rfl); (case np6 => kernel_rfl); (case w6 => exact hT "landing_ticks" _ _ _ rfl (by kernel_rfl))
    (case a7 => k_is); (case l7 => k_is); (case c7 => k_is); (case k7 => k_is)
    (case lc7 => k_is); (case hv7 => exact rfl); (case np7 => kernel_rfl); (case w7 => exact hT "_near_places" _ _ _ rfl (by kernel_rfl))
    (case a8 => k_is); (case l8 => k_is); (case c8 => k_is); (case k8 => k_is)
    (case lc8 => k_is); (case hv8 => exact rfl); (case np8 => kernel_rfl); (case w8 => exact hT "_in_time" _ _ _ rfl (by kernel_rfl))
    (case a9 => k_is); (case l9 => k_is); (case c9 => k_is); (case k9 => k_is)
    (case lc9 => k_is); (case hv9 => exact rfl); (case np9 => kernel_rfl); (case w9 => exact hT "_places" _ _ _ rfl (by kernel_rfl))
    (case a10 => k_is); (case l10 => k_is); (case c10 => k_is); (case k10 => k_is)
    (case a11 => k_is); (case l11 => k_is); (case c11 => k_is); (case k11 => k_is)
    (case a12 => k_is); (case l12 => k_is); (case c12 => k_is); (case k12 => k_is)
    (case a13 => k_is); (case l13 => k_is); (case c13 => k_is); (case k13 => k_is)
    (case a14 => k_is); (case l14 => k_is); (case c14 => k_is); (case k14 => k_is)
    (case a15 => k_is); (case l15 => k_is); (case c15 => k_is); (case k15 => k_is)
    (case a16 => k_is); (case l16 => k_is); (case c16 => k_is); (case k16 => k_is)
    (case a17 => k_is); (case l17 => k_is); (case c17 => k_is); (case k17 => k_is)
    (case aE0 => k_is); (case iE0 => k_is); (case tE0 => k_is); (case lE0 => k_is)
    (case cE0 => k_is); (case xE0 => k_is); (case rE0 => decide +kernel); (case sE0 => k_is)
    (case bE0 => k_is); (case yE0 => k_is); (case kE0 => k_is); (case uE0 => k_is)
    (case oE0 => k_is); (case vE0 => exact rfl); (case pE0 => kernel_rfl); (case q_E0 => kernel_rfl)
    (case mE0 => k_is); (case nE0 => kernel_rfl); (case zE0 => k_is); (case w_E0 => k_is)
    (case g_E0 => k_is); (case n1E0 => k_is); (case eE0 => kernel_rfl); (case xgE0 => k_is)
    (case xaE0 => k_is); (case xdE0 => k_is); (case z1 => k_is); (case z2 => k_is)
    (case z3 => k_is); (case z4 => k_is); (case z5 => k_is); (case z6 => k_is)
    (case z7 => k_is); (case z8 => k_is); (case z9 => k_is); (case z10 => k_is)
    (case z11 => k_is); (case z12 => k_is); (case z13 => k_is); (case z14 => k_is)
    (case z15 => k_is); (case z16 => k_is); (case yz => k_is); (case yTpm => k_is)
