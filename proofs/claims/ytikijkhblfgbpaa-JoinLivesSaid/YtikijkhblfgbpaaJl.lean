/-
  Proved here: bits.Len64 and bits.Len of 0 to 4; pdqsortOrdered of at most 12; slices.Sort of at most 4 numbers of uint64.
-/
import Derived.Test.YtikijkhblfgbpaaJs
namespace Go.Proofs.Ytikijkhblfgbpaa
open Go.RowKit Go.Maps Go.Sort

def lenOf (x : Nat) : Int := if x = 0 then 0 else if x = 1 then 1 else if x ≤ 3 then 2 else 3

set_option maxRecDepth 100000 in
set_option maxHeartbeats 4000000 in
theorem len64_small (x : Nat) (hx : x ≤ 4) (w : World) : Calls Try.prog 53 #[.int .u64 x] w fun e w' => e = .returned (.int .i64 (lenOf x)) ∧ w' = w := by
  obtain rfl | rfl | rfl | rfl | rfl : x = 0 ∨ x = 1 ∨ x = 2 ∨ x = 3 ∨ x = 4 := by omega
  all_goals
    go_enter Try.func53, Try.ntmps53
    go_wp2
    go_ret
    exact ⟨by kernel_rfl, rfl⟩

set_option maxHeartbeats 1000000 in
theorem len_small (x : Nat) (hx : x ≤ 4) (w : World) : Calls Try.prog 42 #[.int .u64 x] w fun e w' => e = .returned (.int .i64 (lenOf x)) ∧ w' = w := by
  go_enter Try.func42, Try.ntmps42
  go_wp2_with (go_at_call 53; refine (len64_small x hx _).mono ?_; rintro e w' ⟨rfl, rfl⟩)
  go_ret
  exact ⟨rfl, rfl⟩

set_option maxRecDepth 100000 in
set_option maxHeartbeats 4000000 in
theorem pdq_u64 (A : Option Addr) (n cap : Nat) (hn : n ≤ 12) (lim : Int) (w : World) (Q : World → Prop)
    (h : Calls Try.prog 43 #[.slice A n cap, .int .i64 0, .int .i64 n] w fun e w' => e = .returned (.tuple #[]) ∧ Q w') :
    Calls Try.prog 41 #[.slice A n cap, .int .i64 0, .int .i64 n, .int .i64 lim] w fun e w' => e = .returned (.tuple #[]) ∧ Q w' := by
  have hle : (n : Int) ≤ 12 := by omega
  go_enter Try.func41, Try.ntmps41
  go_wp2
  refine wp_loop_rounds 1 ?_
  rw [rounds_succ]
  go_wp2_with (go_at_call 43; refine h.mono ?_; rintro e w' ⟨rfl, hQ⟩)
  refine bodyPost_ret (results_none rfl _ _ _) rfl ?_
  exact ⟨rfl, hQ⟩

set_option maxRecDepth 100000 in
set_option maxHeartbeats 4000000 in
theorem insert_nil (p : Option Addr) (cap : Nat) (w : World) : Calls Try.prog 43 #[.slice p 0 cap, .int .i64 0, .int .i64 0] w fun e w' => e = .returned (.tuple #[]) ∧ w' = w := by
  go_enter Try.func43, Try.ntmps43
  go_wp2
  refine wp_loop_rounds 1 ?_
  rw [rounds_succ]
  go_wp2
  go_end0
  exact ⟨rfl, rfl⟩

set_option maxRecDepth 100000 in
set_option maxHeartbeats 4000000 in
theorem sort_u64 (A : Option Addr) (n cap : Nat) (hn : n ≤ 4) (w : World) (Q : World → Prop)
    (h : Calls Try.prog 43 #[.slice A n cap, .int .i64 0, .int .i64 n] w fun e w' => e = .returned (.tuple #[]) ∧ Q w') :
    Calls Try.prog 38 #[.slice A n cap] w fun e w' => e = .returned (.tuple #[]) ∧ Q w' := by
  have hu : IntKind.u64.wrap (n : Int) = (n : Int) := by rw [IntKind.wrap_u64]; omega
  go_enter Try.func38, Try.ntmps38
  go_wp2_with (first
    | (go_at_call 42; refine (len_small n hn _).mono ?_; rintro e w' ⟨rfl, rfl⟩)
    | (go_at_call 41; refine (pdq_u64 A n cap (by omega) _ _ Q h).mono ?_; rintro e w' ⟨rfl, hQ⟩))
  go_end0
  exact ⟨rfl, hQ⟩


/-- What a sorted row of ss is, where ss is a permutation of a rising list: that list. -/
theorem sorted_is {ss us : List Int} (hp : ss.Perm us) (hu : us.Pairwise (· < ·)) : (Sort.insertionSort ltInt ss.toArray 0 ss.toArray.size).toList = us := by
  obtain ⟨⟨hsz, _, hperm⟩, hS⟩ := insertionSort_holds (lt := ltInt) swo_ltInt ss.toArray 0 ss.toArray.size (Nat.zero_le _) (Nat.le_refl _)
  obtain ⟨d, hd⟩ : ∃ d, Sort.insertionSort ltInt ss.toArray 0 ss.toArray.size = d := ⟨_, rfl⟩
  rw [hd] at hsz hperm hS ⊢
  have e1 : d.extract 0 ss.toArray.size = d := by rw [← hsz]; exact Array.extract_size
  rw [e1, Array.extract_size] at hperm
  refine List.Perm.eq_of_pairwise (le := fun x y => x ≤ y) (fun a b _ _ h1 h2 => by omega) ?_ (hu.imp (fun h => by omega)) (hperm.trans hp)
  rw [List.pairwise_iff_getElem]
  intro i j hi hj hij
  have hi' : i < d.size := by simpa using hi
  have hj' : j < d.size := by simpa using hj
  have := hS i j (Nat.zero_le _) hij (by omega)
  rw [getElem!_pos d j hj', getElem!_pos d i hi'] at this
  simp only [ltInt, decide_eq_false_iff_not] at this
  simpa using this

abbrev SrtPost (us : List Int) (w : World) (e : Ending) (w' : World) : Prop := ∃ v : Value, e = .returned v ∧ w'.ownsRow w.heap.size 27 1 v us.length (us.map eU) ∧ (v = .slice none 0 0 ↔ us = []) ∧ Below w.heap.size w w'

theorem holds_block {w : World} {g : Nat} {cur : Array Value} {e : TypeId} {ss : List Int} (hb : w.heap[g]? = some (.cells cur e (0, 0))) (ht : cur.toList.take ss.length = ss.map eU) : Holds (Value.int .u64) w g 0 ss.toArray := by
  intro j hj
  have hj' : j < ss.length := by simpa using hj
  refine ⟨?_, by simp [World.frozen?, hb]⟩
  have h1 : (cur.toList.take ss.length)[j]? = (ss.map eU)[j]? := by rw [ht]
  rw [List.getElem?_take_of_lt hj'] at h1
  simp only [World.cell?, hb, Nat.zero_add, Option.isSome_none, Bool.false_eq_true, if_false]
  rw [← Array.getElem?_toList, h1]
  simp [hj']

theorem heap_putRow {w : World} {g n : Nat} {cur : Array Value} {e : TypeId} (d : Array Int) (hb : w.heap[g]? = some (.cells cur e (0, 0))) :
    (putRow (Value.int .u64) (Sort.ahead w n) g 0 d).heap[g]? = some (.cells (putCells (Value.int .u64) 0 d cur) e (0, 0)) := by
  simp [putRow, mapBlock, Sort.ahead, Array.getElem?_modify, hb, onCells]

theorem grown_putRow {w : World} {g n : Nat} (d : Array Int) : w.grownBy (putRow (Value.int .u64) (Sort.ahead w n) g 0 d) (some g) := by
  refine ⟨rfl, rfl, rfl, by simp, fun k hk hne => ?_⟩
  have : g ≠ k := fun e => hne (by rw [e])
  simp [putRow, mapBlock, Sort.ahead, Array.getElem?_modify, this]

theorem own_putRow {w : World} {base g cap n : Nat} {e : TypeId} {cur : Array Value} {ts : List Int} (k : Nat) (hl : ts.length = k) (hbase : base ≤ g) (hb : w.heap[g]? = some (.cells cur e (0, 0))) (h1 : k ≤ cap) (h2 : cap ≤ maxLen) (h3 : cur.size = cap * 1) :
    (putRow (Value.int .u64) (Sort.ahead w n) g 0 ts.toArray).ownsRow base e 1 (.slice (some ⟨g, 0, none⟩) k cap) k (ts.map eU) := by
  subst hl
  refine ⟨by simp, .inr ⟨g, cap, _, rfl, hbase, heap_putRow _ hb, h1, h2, by simp [putCells, h3], ?_⟩⟩
  rw [Nat.mul_one]
  apply List.ext_getElem?
  intro j
  by_cases hj : j < ts.length
  · rw [List.getElem?_take_of_lt hj, Array.getElem?_toList]
    simp [putCells, hj, show j < cur.size by omega]
  · rw [List.getElem?_take_eq_none (by omega), List.getElem?_eq_none (by simp; omega)]

set_option maxRecDepth 100000 in
set_option maxHeartbeats 4000000 in
/-- slices.Sorted of an iterator that gives a permutation of us, which rises and has at most 4 members: us. -/
theorem sorted_any (g : Nat) (lb : Array Value) (eg : ∀ args w, (callFunc g args).run Try.prog w = .ok (.enter g args) w) (us : List Int) (hu : us.Pairwise (· < ·)) (h4 : us.length ≤ 4) (w : World)
    (hseq : SeqGives Fence.wide 1 Try.prog g lb eU (fun ss => ss.Perm us) us.length w) :
    CallsIn Fence.wide 4 Try.prog 29 #[.func (.func g) #[] lb] w (SrtPost us w) := by
  refine callsIn_of_wp Try.func29 rfl trivial ?_ rfl
  simp only [Try.ntmps29, List.size_toArray, List.length_cons, List.length_nil, Nat.reduceAdd, Nat.reduceSub, Array.replicate_succ, Array.replicate_zero, List.push_toArray, List.append_toArray, List.nil_append, List.cons_append]
  have hfc : Fence.wide.fn 37 := trivial
  have hfs : Fence.wide.fn 38 := trivial
  gi_wp2_with (gi_at_call 37; refine (collect_any Fence.wide 3 trivial trivial rfl (by omega) g lb trivial eg (fun ss => ss.Perm us) us.length (by simp [maxLen]; omega) (by omega) _ hseq).mono ?_; rintro e W ⟨v, ss, rfl, hS, hrow, hnil, hb⟩)
  have hlen : ss.length = us.length := hS.length_eq
  rcases hrow.2 with ⟨rfl, hz⟩ | ⟨gb, cap, cur, rfl, hbase, hgb, r1, r2, r3, r4⟩
  · have hss : ss = [] := List.eq_nil_of_length_eq_zero hz
    have hus : us = [] := List.eq_nil_of_length_eq_zero (by omega)
    subst hss hus
    have cS : CallsIn Fence.wide 3 Try.prog 38 #[.slice none 0 0] W fun e w' => e = .returned (.tuple #[]) ∧ w' = W := callsIn_wide.2 (sort_u64 none 0 0 (by omega) W (fun w' => w' = W) (insert_nil none 0 W))
    gi_wp2_with (gi_at_call 38; refine cS.mono ?_; rintro e w' ⟨rfl, rfl⟩)
    go_ret
    exact ⟨.slice none 0 0, rfl, by simpa using hrow, by simp, hb⟩
  · have hH : Holds (Value.int .u64) W gb 0 ss.toArray := holds_block hgb (by simpa using r4)
    have hss : ss.toArray.size = ss.length := by simp
    have cI := insert_u64 gb 0 cap 0 ss.toArray.size ss.toArray W hH (Nat.zero_le _) (Nat.le_refl _) (by simp; omega)
    rw [hss] at cI
    have cS : CallsIn Fence.wide 3 Try.prog 38 #[.slice (some ⟨gb, 0, none⟩) ss.length cap] W fun e w' => e = .returned (.tuple #[]) ∧ ∃ n, w' = putRow (Value.int .u64) (Sort.ahead W n) gb 0 (Sort.insertionSort ltInt ss.toArray 0 ss.length) := callsIn_wide.2 (sort_u64 (some ⟨gb, 0, none⟩) ss.length cap (by omega) W _ cI)
    gi_wp2_with (gi_at_call 38; refine cS.mono ?_; rintro e w' ⟨rfl, n, rfl⟩)
    go_ret
    have hst := sorted_is hS hu
    rw [hss] at hst
    have hst' : Sort.insertionSort ltInt ss.toArray 0 us.length = us.toArray := by rw [← hlen]; rw [← hst]
    rw [hst']
    refine ⟨_, rfl, ?_, ?_, hb.grown (grown_putRow _) hb.size (fun j hj => by cases hj; exact hbase)⟩
    · exact own_putRow us.length rfl hbase hgb (by omega) r2 r3
    · rw [hlen] at hnil
      show Value.slice (some ⟨gb, 0, none⟩) us.length cap = .slice none 0 0 ↔ us = []
      rw [hnil]
      constructor
      · intro h; subst h; exact List.eq_nil_of_length_eq_zero (by simpa using hlen.symm)
      · intro h; subst h; exact List.eq_nil_of_length_eq_zero (by simpa using hlen)

end Go.Proofs.Ytikijkhblfgbpaa
