/-
  Proved here: the keys of a map by uint64, as numbers in a list; maps.Keys and its iterator at this dump (after the how-to's worked row for strings).
-/
import Derived.Test.YtikijkhblfgbpaaBy
import Derived.RangeFuncGives
import Derived.RangeFuncBound
import Derived.Sort.MapsRangeIn
import Derived.Sort.KeysCollected
import Derived.OwnWalkIn
import Derived.TacticsInMore
import Derived.RegionIn
import Derived.LoopNIn
import Derived.LoopIn
import Derived.Maps.AppendAt
import Derived.Sort.OwnSorted
namespace Go.Proofs.Ytikijkhblfgbpaa
open Go.RowKit Go.Maps Go.Sort

abbrev eU (x : Int) : Value := .int .u64 x
def numOf : Lit → Int
  | .int _ a => a
  | _ => 0
/-- The numbers of a map's keys, in the datum's order. -/
def uKeys {H : Type} : DataW H → List Int
  | .map es => es.map fun p => numOf p.1
  | _ => []

theorem key_u64 {P : Program} {k : TypeId} (hk : P.underlying k = some (.int .u64)) {key : Value} {kl : Lit} (h : keyOf P k key = some kl) : ∃ x : Int, key = eU x ∧ kl = .int .u64 x ∧ (Lit.int .u64 x).wf = true := by
  cases key <;> simp [keyOf, hk, mapKey] at h
  rename_i q a
  obtain ⟨⟨rfl, hw⟩, rfl⟩ := h
  exact ⟨a, rfl, rfl, hw⟩

/-- What came so far: each key once, and those that are not left. -/
structure Got {H : Type} (D : DataW H) (left : Lit → Bool) (ss : List Int) : Prop where
  once : ss.Nodup
  mem : ∀ x, x ∈ ss ↔ (has D (.int .u64 x) = true ∧ left (.int .u64 x) = false)

theorem Got.start {H : Type} (D : DataW H) : Got D (has D) [] := ⟨List.nodup_nil, fun x => by cases has D (.int .u64 x) <;> simp⟩
theorem Got.step {H : Type} {D : DataW H} {left : Lit → Bool} {ss : List Int} (h : Got D left ss) {x : Int} {y : DataW H} (hl : left (.int .u64 x) = true) (ha : ∀ zd, D.atKey (.int .u64 x) zd = y) :
    Got D (fun z => left z && !z.sameKey (.int .u64 x)) (ss ++ [x]) := by
  have h1 : has D (.int .u64 x) = true := has_true_of_atKey ha
  have h2 : x ∉ ss := fun hx => by have := ((h.mem x).1 hx).2; rw [hl] at this; cases this
  refine ⟨List.nodup_append.2 ⟨h.once, by simp, fun a hm b hb e => ?_⟩, fun y => ?_⟩
  · rw [e, List.mem_singleton.1 hb] at hm
    exact h2 hm
  · by_cases hy : y = x
    · subst hy; simp [h1, Lit.sameKey]
    · simp [h.mem y, hy, Lit.sameKey]

section
variable {H : Type} {P : Program} {k : TypeId} {R : Value → Option (DataW H × List MemPlace)} {w : World} {b n : Nat} {D : DataW H}

/-- The entries of a map that a walk holds: sorted by number, each key a number of the kind. -/
theorem entries_u64 (h : w.ownsMap P k R b n D) (hk : P.underlying k = some (.int .u64)) :
    ∃ es : List (Lit × DataW H), D = .map es ∧ es.Pairwise (fun p q => p.1.before q.1 = true) ∧ ∀ p ∈ es, ∃ x : Int, p.1 = .int .u64 x ∧ (Lit.int .u64 x).wf = true := by
  obtain ⟨es, clock, _, F, _, rfl⟩ := h
  have hks : ∀ p ∈ es.toList.map (Go.WideElems.rg P k R), KeysOf P k p.1 := fun p hp => Go.Maps.fit_keys F p hp
  refine ⟨_, rfl, sorted_sorted (int_keyed hk).one _ hks (Go.Maps.fit_apart (int_keyed hk) F), fun p hp => ?_⟩
  obtain ⟨v, hv⟩ := hks p (mem_sorted.1 hp)
  obtain ⟨x, _, hx, hw⟩ := key_u64 hk hv
  exact ⟨x, hx, hw⟩

theorem uKeys_sorted (h : w.ownsMap P k R b n D) (hk : P.underlying k = some (.int .u64)) : (uKeys D).Pairwise (· < ·) := by
  obtain ⟨es, rfl, hs, hx⟩ := entries_u64 h hk
  refine List.pairwise_map.2 (hs.imp_of_mem fun {p q} hp hq hpq => ?_)
  obtain ⟨a, ha, _⟩ := hx p hp
  obtain ⟨c, hc, _⟩ := hx q hq
  rw [ha, hc] at hpq ⊢
  simpa [Lit.before, numOf] using hpq

theorem uKeys_wf (h : w.ownsMap P k R b n D) (hk : P.underlying k = some (.int .u64)) : ∀ x ∈ uKeys D, 0 ≤ x ∧ x < 18446744073709551616 := by
  obtain ⟨es, rfl, _, hx⟩ := entries_u64 h hk
  intro x hm
  obtain ⟨p, hp, rfl⟩ := List.mem_map.1 hm
  obtain ⟨a, ha, hw⟩ := hx p hp
  rw [ha]
  have e1 : IntKind.u64.min = 0 := rfl
  have e2 : IntKind.u64.max = 18446744073709551615 := rfl
  simp [Lit.wf] at hw
  simp only [numOf]
  omega

theorem uKeys_mem (h : w.ownsMap P k R b n D) (hk : P.underlying k = some (.int .u64)) (x : Int) : x ∈ uKeys D ↔ has D (.int .u64 x) = true := by
  obtain ⟨es, rfl, _, hx⟩ := entries_u64 h hk
  rw [has_eq, List.any_eq_true]
  show x ∈ es.map (fun p => numOf p.1) ↔ _
  rw [List.mem_map]
  constructor
  · rintro ⟨p, hp, rfl⟩
    obtain ⟨a, ha, _⟩ := hx p hp
    exact ⟨p, hp, by rw [ha]; simp [Lit.sameKey, numOf]⟩
  · rintro ⟨p, hp, hs⟩
    obtain ⟨a, ha, _⟩ := hx p hp
    rw [ha] at hs
    exact ⟨p, hp, by rw [ha]; simpa [Lit.sameKey, numOf] using hs⟩

theorem Got.perm {left : Lit → Bool} {ss : List Int} (g : Got D left ss) (h : w.ownsMap P k R b n D) (hk : P.underlying k = some (.int .u64)) (hl : ∀ kl, left kl = false) : ss.Perm (uKeys D) :=
  (List.perm_ext_iff_of_nodup g.once ((uKeys_sorted h hk).imp (fun hab e => by omega))).2 fun x => by rw [g.mem x, hl, uKeys_mem h hk x]; simp
end

theorem underU : Try.prog.underlying 27 = some (.int .u64) := by kernel_rfl

set_option maxRecDepth 100000 in
set_option maxHeartbeats 1000000 in
/-- The iterator that maps.Keys hands back: the rounds get each key once; whatever J they carry on. -/
theorem iter_keys {H : Type} (F : Fence) (n : Nat) (hf : F.fn 39) (hro : F.round = none) (hn : 1 ≤ n) (l Bm b nn : Nat) (D : DataW H)
    (R : Value → Option (DataW H × List MemPlace)) (J : List Int → World → Prop)
    (hY : ∀ pre x W, J pre W → pre.length < Maps.size D → YieldAt F (n - 1) Try.prog l #[eU x] W fun e W' => e = .returned (.bool true) ∧ J (pre ++ [x]) W' ∧ KeepsWalks W W')
    (W : World) (hJ : AbidesFrom W.heap.size J) (hm : W.cell? ⟨Bm, 0, none⟩ = some (.map (some b))) (hown : W.ownsMap Try.prog 27 R b nn D) (h0 : J [] W) :
    CallsIn F n Try.prog 39 #[.func (.yield l) #[] #[], .pointer (some ⟨Bm, 0, none⟩)] W fun e W' => (∃ v, e = .returned v) ∧ ∃ ss : List Int, ss.Perm (uKeys D) ∧ J ss W' := by
  refine callsIn_of_wp Try.func39 rfl hf ?_ hro
  simp only [Try.ntmps39, List.size_toArray, List.length_cons, List.length_nil, Nat.reduceAdd, Nat.reduceSub, Array.replicate_succ, Array.replicate_zero, List.push_toArray, List.append_toArray, List.nil_append, List.cons_append]
  gi_wp2_with (first
    | (gi_at_range; refine wpListIn_range_own _ rfl _ 45 rfl 27 54 (int_keyed underU) Try.underlying45 _ b nn _ rfl hown ?_; intro w0 hrg0 hg0 hs0)
    | gi_in)
  go_frame
  gi_loopw [3] (fun _ wr => ∃ (left : Lit → Bool) (cnt : Nat) (ss : List Int), wr.ranges Try.prog 27 R b W.heap.size nn D left cnt ∧ ss.length + cnt ≤ Maps.size D ∧ Got D left ss ∧ J ss wr)
    (fun _ wr => wr.rangeLeft b W.heap.size)
  case atStart =>
    exact ⟨_, _, [], hrg0, by simp, Got.start D, hJ [] W w0 none h0 hg0 (fun r e => by cases e)⟩
  case round =>
    obtain ⟨left, cnt, ss, hrg, hcs, hC, hJs⟩ := hrel
    gi_wp2_with (first
      | (gi_at_next; refine wpListIn_next_ranges _ rfl _ rfl 27 (int_keyed underU) R eU id (fun key kl hk => by obtain ⟨x, hx, _⟩ := key_u64 underU hk; exact ⟨x, hx⟩) (fun v _ _ => ⟨v, rfl⟩) b W.heap.size nn _ _ _ rfl hrg ?_ ?_)
      | gi_in)
    · intro hc0 hl0
      gi_wp2
      go_end0
      exact ⟨⟨_, rfl⟩, ss, hC.perm hown underU hl0, hJs⟩
    · intro x c kl yd yp w2 cnt2 hkey hlk hv hat hrg2 hlt hg2 hs2 hen
      obtain ⟨x', ex, rfl, _⟩ := key_u64 underU hkey
      obtain rfl : x = x' := by simpa [eU] using ex
      have hJ2 : J ss w2 := hJ ss wr w2 (some W.heap.size) hJs hg2 (fun r e => by cases e; exact ⟨Nat.le_refl _, hrg.iter_walk⟩)
      obtain ⟨fn, tmps, assign, body, hy, hR⟩ := hY ss x w2 hJ2 (by omega)
      clear hs2
      gi_wp2
      refine hR.mono ?_
      rintro e W3 ⟨rfl, hJ3, hk3⟩
      gi_wp2
      have hrg3 := hrg2.of_walks hk3
      go_roundw
      case rel => exact ⟨_, cnt2, ss ++ [x], hrg3, by simp; omega, hC.step hlk hat, hJ3⟩
      case measure => rw [hrg3.left_eq, hrg.left_eq]; exact hlt

/-- In the world behind maps.Keys, what it handed back gives the keys. -/
theorem keys_gives {H : Type} (F : Fence) (n : Nat) (hf : F.fn 39) (hro : F.round = none) (hn : 1 ≤ n) (Bm b nn : Nat) (D : DataW H) (R : Value → Option (DataW H × List MemPlace)) (w : World)
    (hB : Bm < w.heap.size) (hm : w.cell? ⟨Bm, 0, none⟩ = some (.map (some b))) (hown : w.ownsMap Try.prog 27 R b nn D) :
    SeqGives F n Try.prog 39 #[.pointer (some ⟨Bm, 0, none⟩)] eU (fun ss => ss.Perm (uKeys D)) (Maps.size D) w := fun l J W hW hJ hY h0 => by
  have hl := hown.lt
  obtain ⟨es, clock, hb, Ft, hs, hD⟩ := hown
  exact iter_keys F n hf hro hn l Bm b nn D R J hY W hJ ((hW.cell (p := ⟨Bm, 0, none⟩) hB).trans hm) ⟨es, clock, (hW.block b hl).trans hb, Ft, hs, hD⟩ h0

set_option maxHeartbeats 1000000 in
/-- maps.Keys: the map is boxed, the function value holds the box. -/
theorem keys_any (F : Fence) (n : Nat) (hf : F.fn 30) (hro : F.round = none) (mb : Option Nat) (w : World) :
    CallsIn F n Try.prog 30 #[.map mb] w fun e w' => e = .returned (.func (.func 39) #[] #[.pointer (some ⟨w.heap.size, 0, none⟩)]) ∧ w' = w.alloc (.cells #[.map mb] 45) := by
  refine callsIn_of_wp Try.func30 rfl hf ?_ hro
  simp only [Try.ntmps30, List.size_toArray, List.length_cons, List.length_nil, Nat.reduceAdd, Nat.reduceSub, Array.replicate_succ, Array.replicate_zero, List.push_toArray, List.append_toArray, List.nil_append, List.cons_append]
  gi_wp2
  go_ret
  exact ⟨rfl, rfl⟩

end Go.Proofs.Ytikijkhblfgbpaa
