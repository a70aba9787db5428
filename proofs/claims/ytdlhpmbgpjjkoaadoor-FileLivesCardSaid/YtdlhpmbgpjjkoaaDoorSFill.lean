/-
  Proved here, for every number of bytes below 2^60: sha's filling answers what fills a text of so many bytes up, as 'fillS' says, in memory of its own.
-/
import Derived.Test.YtdlhpmbgpjjkoaaDoorSOut
import Derived.Laws.MakeOwn
import Derived.Laws.AppendOwn
namespace Go.Proofs.YtdlhpmbgpjjkoaaDoor
open Go.RowKit
theorem infoByte : (Tryd.prog.info? 5).map (fun i => (i.zero, i.size, i.bytes)) = some (some (.int .u8 0), 1, 1) := by kernel_rfl
def noughts (n : Nat) : Nat := (119 - n % 64) % 64
def byt (m d : Nat) : Nat := m / 2 ^ d % 256
theorem u8_byt (m d : Nat) : (m : Int) / 2 ^ d % 256 = ((byt m d : Nat) : Int) := by
  unfold byt
  rw [show ((2 : Int) ^ d) = ((2 ^ d : Nat) : Int) by simp]
  rw [← Int.natCast_ediv, show (256 : Int) = ((256 : Nat) : Int) from rfl, ← Int.natCast_emod]
/-- The first k bytes of a number of eight. -/
def be (m : Nat) : Nat → List Nat
  | 0 => []
  | k + 1 => be m k ++ [byt m (56 - 8 * k)]
theorem length_be (m : Nat) : ∀ k, (be m k).length = k
  | 0 => rfl
  | k + 1 => by simp [be, length_be m k]
/-- What fills a text of n bytes up. -/
def fillS (n : Nat) : List Nat := 128 :: (List.replicate (noughts n) 0 ++ be (n * 8) 8)
theorem made8 (q : Nat) : (madeCells #[.int .u8 0] q).toList = V8 (List.replicate q 0) := by
  apply List.ext_getElem
  · simp [madeCells]
  · intro i h1 h2
    simp [madeCells, V8, Nat.mod_one]
theorem made8_0 (q : Nat) : (madeCells #[.int .u8 0] (1 + q + 8))[0]? = some (.int .u8 0) := by
  have h := made8 (1 + q + 8)
  rw [← Array.getElem?_toList, h]
  simp [V8]
theorem made8_own (w : World) (q : Nat) (hq : q < 64) : (w.alloc (.cells ((madeCells #[.int .u8 0] (1 + q + 8)).setIfInBounds 0 (.int .u8 128)) 5)).ownsRow w.heap.size 5 1 (.slice (some ⟨w.heap.size, 0, none⟩) (1 + q) (1 + q + 8)) (1 + q) (V8 (128 :: List.replicate q 0)) := by
  refine ⟨by simp; omega, .inr ⟨w.heap.size, 1 + q + 8, _, rfl, Nat.le_refl _, heap_alloc_new _ _, by omega, by unfold maxLen; omega, by simp [size_madeCells], ?_⟩⟩
  rw [Array.toList_setIfInBounds, made8, show 1 + q + 8 = (q + 8) + 1 by omega, show (1 + q) * 1 = q + 1 by omega, List.replicate_succ]
  simp [V8]
set_option maxRecDepth 100000 in
set_option maxHeartbeats 1000000 in
theorem filling_any (n : Nat) (w : World) (hn : n < 1152921504606846976) : Calls Tryd.prog 51 #[.int .u64 (n : Int)] w fun e w' => ∃ v, e = .returned v ∧ w'.ownsRow w.heap.size 5 1 v (fillS n).length (V8 (fillS n)) ∧ Below w.heap.size w w' := by
  obtain ⟨i0, hi, hz0, hz1, hz2⟩ := info_parts infoByte
  obtain ⟨q, hq⟩ : ∃ q, noughts n = q := ⟨_, rfl⟩
  have hq64 : q < 64 := by rw [← hq]; unfold noughts; omega
  have hqi : (119 - (n : Int) % 64) % 64 = (q : Int) := by rw [← hq]; unfold noughts; omega
  have hmk := fun W : World => run_make W 23 5 i0 (.int .u8 0) Tryd.underlying23 hi hz0 .u64 .u64 (1 + (q : Int)) (1 + (q : Int) + 8) (by omega) (by omega) (by rw [hz2]; omega) (by omega)
  rw [hz1] at hmk
  obtain ⟨m, hm⟩ : ∃ m, n * 8 = m := ⟨_, rfl⟩
  have hmi : (n : Int) * 8 = (m : Int) := by omega
  have hm64 : m < 18446744073709551616 := by omega
  have HF := Lib.hid (show fillS n = 128 :: (List.replicate q 0 ++ be m 8) by unfold fillS; rw [hq, hm])
  have m0 := made8_0 q
  clear hq hm
  go_enter Tryd.func51, Tryd.ntmps51
  go_wp2
  simp only [hqi]
  clear hqi hmi hmk m0
  go_loopw [4, 6] (fun v d wr => ∃ k : Nat, k ≤ 8 ∧ d = .int .i64 (56 - 8 * (k : Int)) ∧ wr.ownsRow w.heap.size 5 1 v (1 + q + k) (V8 (128 :: (List.replicate q 0 ++ be m k))) ∧ Below w.heap.size w wr) (fun _ d _ => (intOf d + 8).toNat)
  case atStart => exact ⟨0, by omega, rfl, by simpa [be] using made8_own w q hq64, (Below.refl _ _).alloc (Nat.le_refl _) _⟩
  case round =>
    obtain ⟨k, hk, rfl, hown, hb⟩ := hrel
    by_cases hlt : k < 8
    · obtain ⟨d, hd⟩ : ∃ d : Nat, d + 8 * k = 56 := ⟨56 - 8 * k, by omega⟩
      have hdi : 56 - 8 * (k : Int) = (d : Int) := by omega
      rw [hdi]
      have hr := u8_byt m d
      clear hdi
      go_wp2_with (at_builtin; refine wpList_append_own _ rfl _ _ 23 rfl w.heap.size 5 i0 (.int .u8 0) 1 1 Tryd.underlying23 hi hz0 hz1 hz2 rfl (by decide) _ _ _ rfl (hown.alloc _) ⟨wr.heap.size, 0, none⟩ 1 1 [.int .u8 (byt m d : Nat)] rfl rfl ?c1 ?c2 ?c3 ?c4 ?c5 ?_)
      case c1 => exact cell_one_new _ _ _
      case c2 => simp [Value.oneCell']
      case c3 => unfold maxLen; omega
      case c4 => omega
      case c5 => have := hb.size; simp; omega
      intro v' w1 hown1 hgrow _
      have hb1 : Below w.heap.size w w1 := (hb.alloc hb.size _).grown hgrow (by have := hb.size; simp; omega) fun g hg => ((hown.lt g) hg).1
      clear hown hgrow hb
      go_wp2
      go_roundw
      case rel =>
        refine ⟨k + 1, by omega, ?_, ?_, hb1⟩
        · go_num
        · have e : V8 (128 :: (List.replicate q 0 ++ be m (k + 1))) = V8 (128 :: (List.replicate q 0 ++ be m k)) ++ [.int .u8 (byt m d : Nat)] := by
            rw [be, show 56 - 8 * k = d by omega]; simp [V8]
          rw [e]
          exact hown1
      case measure => simp [intOf]; omega
    · obtain rfl : k = 8 := by omega
      go_wp2
      go_ret
      refine ⟨_, rfl, ?_, hb⟩
      rw [HF.out]
      have hl : (128 :: (List.replicate q 0 ++ be m 8)).length = 1 + q + 8 := by simp [length_be]; omega
      rw [hl]
      exact hown
end Go.Proofs.YtdlhpmbgpjjkoaaDoor
