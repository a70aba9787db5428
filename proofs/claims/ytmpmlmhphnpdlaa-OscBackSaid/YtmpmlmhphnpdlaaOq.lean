/-
  Proved here: the text that asks for something, as the program writes it.
-/
import Derived.Test.YtmpmlmhphnpdlaaOo
import Derived.Lib.ConvBytes
import Derived.Laws.AppendOwn
set_option linter.unusedSimpArgs false
set_option linter.unusedVariables false
namespace Go.Proofs.Ytmpmlmhphnpdlaa
open Go.RowKit
theorem below_bytesWorld (w : World) (e : TypeId) (s : ByteArray) : Below w.heap.size w (Lib.bytesWorld w e s) :=
  ⟨by simp [Lib.bytesWorld, World.freeze, World.alloc, World.drew, -World.alloc_eq, -World.drew_eq], by simp [Lib.bytesWorld, World.freeze, World.alloc, World.drew, -World.alloc_eq, -World.drew_eq], by simp [Lib.bytesWorld, World.freeze, World.alloc, World.drew, -World.alloc_eq, -World.drew_eq], by rw [Lib.bytesWorld_size]; omega, fun k hk => Lib.bytesWorld_at_old w e s k hk⟩
theorem str_getD {l : List Int} (h : IsBytes l) {j : Nat} (hj : j < l.length) : (((strOfNums l).data.toList.getD j 0).toNat : Int) = l.getD j 0 := by
  rw [strOfNums_data]
  have hx := h (l[j]) (List.getElem_mem hj)
  simp only [List.getD, List.getElem?_map, List.getElem?_eq_getElem hj, Option.map_some, Option.getD_some, UInt8.toNat_ofNat']
  omega
/-- A text's bytes, as a row. -/
theorem conv_str {l : List Int} (h : IsBytes l) {n : Nat} (hn : l.length = n) (hm : n ≤ 1000000) (w : World) : ∃ g c W, (convert 9 85 (.string (strOfNums l))).run Try.prog w = .ok (.slice (some ⟨g, 0, none⟩) n c) W ∧ RI .u8 W (some ⟨g, 0, none⟩) l ∧ n ≤ c ∧ c ≤ 9223372036854775807 ∧ Below w.heap.size w W := by
  subst hn
  refine ⟨_, _, _, by rw [Lib.run_convert_string_bytes (P := Try.prog) w 9 85 5 (strOfNums l) Try.underlying9 Try.underlying85 Try.underlying5, strOfNums_size], fun hp => ⟨_, 0, rfl, by rw [Lib.bytesWorld_size]; omega, fun i hi => ?_⟩, grownCap_ge _ _ _ _, ?_, below_bytesWorld _ _ _⟩
  · rw [Nat.zero_add, Lib.bytesWorld_cell _ _ _ _ (by rw [strOfNums_size]; exact hi), str_getD h hi]
  · have := grownCap_le_maxLen w l.length 0 5 (by unfold maxLen; omega)
    unfold maxLen at this
    exact this
theorem lit_ri {l : List Int} : strOfNums [50, 59] = ⟨#[50, 59]⟩ ∧ strOfNums [53, 50, 59, 99, 59] = ⟨#[53, 50, 59, 99, 59]⟩ := ⟨rfl, rfl⟩
/-- The text and the error. -/
def WrPost (r : List Int × Int) (w : World) (e : Ending) (w' : World) : Prop := e = .returned (.tuple #[.string (strOfNums r.1), .int .i64 r.2]) ∧ Below w.heap.size w w'
theorem writeA_1 {d : List Int} (h : cutS d 64 = d) : writeA 1 d = ([50, 59] ++ d, 0) := by unfold writeA; rw [if_pos ⟨rfl, h⟩]
theorem writeA_1n {d : List Int} (h : cutS d 64 ≠ d) : writeA 1 d = ([], 3) := by unfold writeA; rw [if_neg (fun e => h e.2), if_neg (fun e => absurd e.1 (by decide)), if_neg (by decide)]
theorem writeA_2l {d : List Int} (h : 256 < d.length) : writeA 2 d = ([], 2) := by unfold writeA; rw [if_neg (fun e => absurd e.1 (by decide)), if_pos ⟨rfl, h⟩]
theorem writeA_2 {d : List Int} (h : d.length ≤ 256) : writeA 2 d = ([53, 50, 59, 99, 59] ++ writeS d, 0) := by unfold writeA; rw [if_neg (fun e => absurd e.1 (by decide)), if_neg (fun e => absurd e.2 (by omega)), if_pos rfl]
theorem writeA_n {k : Int} {d : List Int} (h1 : k ≠ 1) (h2 : k ≠ 2) : writeA k d = ([], 3) := by unfold writeA; rw [if_neg (fun e => h1 e.1), if_neg (fun e => h2 e.1), if_neg h2]
set_option maxRecDepth 100000 in
set_option maxHeartbeats 4000000 in
theorem owrite_any {w : World} {k : Int} {d : List Int} (hd : IsBytes d) (hl : d.length ≤ 1000000) :
    Calls Try.prog 40 #[.agg #[.int .i64 k, .string (strOfNums d)]] w (WrPost (writeA k d) w) := by
  by_cases h1 : k = 1
  · subst h1
    have HO := Lib.hid (fun (W : World) => ocut_any (w := W) hd hl 64 (by omega))
    have hq := str_eq (hd.cut 64) hd
    by_cases hc : cutS d 64 = d
    · rw [writeA_1 hc]
      have q : ((strOfNums (cutS d 64)).toList == (strOfNums d).toList) = true := by rw [hq]; simpa using hc
      have hcat : Op.stringOp .add ⟨#[50, 59]⟩ (strOfNums d) = pure (.string (strOfNums ([50, 59] ++ d))) := cat_run [50, 59] d (by simp; omega)
      unfold WrPost
      dsimp only
      generalize strOfNums ([50, 59] ++ d) = R at hcat ⊢
      clear hq hc hd hl
      generalize strOfNums (cutS d 64) = C at HO q
      generalize strOfNums d = D at HO hcat q ⊢
      go_enter Try.func40, Try.ntmps40
      go_wp2
      go_region_held3 (fun W => W.cell? ⟨w.heap.size, 0, none⟩ = some (.int .i64 1) ∧ W.cell? ⟨w.heap.size, 1, none⟩ = some (.string D))
        (first | go_keep)
        (first | (go_at_call 38; refine (HO.out _).mono ?_; rintro e w' ⟨rfl, rfl⟩))
      go_wp2
      go_ret2
      exact ⟨rfl, belowN ((Below.refl _ _).alloc (Nat.le_refl _) _) _⟩
    · rw [writeA_1n hc]
      have q : ((strOfNums (cutS d 64)).toList == (strOfNums d).toList) = false := by rw [hq]; simpa using hc
      clear hq hc hd hl
      generalize strOfNums (cutS d 64) = C at HO q
      generalize strOfNums d = D at HO q ⊢
      go_enter Try.func40, Try.ntmps40
      go_wp2
      go_region_held3 (fun W => W.cell? ⟨w.heap.size, 0, none⟩ = some (.int .i64 1) ∧ W.cell? ⟨w.heap.size, 1, none⟩ = some (.string D))
        (first | go_keep)
        (first | (go_at_call 38; refine (HO.out _).mono ?_; rintro e w' ⟨rfl, rfl⟩))
      go_wp2
      go_ret2
      exact ⟨rfl, belowN ((Below.refl _ _).alloc (Nat.le_refl _) _) _⟩
  · have z1 : (k == 1) = false := by simpa using h1
    by_cases h2 : k = 2
    · subst h2
      obtain ⟨n, hn⟩ : ∃ n, d.length = n := ⟨_, rfl⟩
      have hsz : (strOfNums d).size = n := by rw [strOfNums_size, hn]
      by_cases h256 : 256 < n
      · rw [writeA_2l (by omega)]
        have d1 : decide ((256 : Int) < (n : Int)) = true := by simp; omega
        have d1' : decide (256 < n) = true := by simp; omega
        clear hd hn
        generalize strOfNums d = D at hsz ⊢
        go_enter Try.func40, Try.ntmps40
        go_wp2
        go_region
        go_wp2
        go_ret2
        exact ⟨rfl, belowN ((Below.refl _ _).alloc (Nat.le_refl _) _) _⟩
      · rw [writeA_2 (by omega)]
        have d1 : decide ((256 : Int) < (n : Int)) = false := by simp; omega
        have d1' : decide (256 < n) = false := by simp; omega
        have hwl : (writeS d).length ≤ 1000000 := by rw [write_len]; omega
        have hcat : Op.stringOp .add ⟨#[53, 50, 59, 99, 59]⟩ (strOfNums (writeS d)) = pure (.string (strOfNums ([53, 50, 59, 99, 59] ++ writeS d))) := cat_run [53, 50, 59, 99, 59] _ (by simp; omega)
        unfold WrPost
        dsimp only
        generalize strOfNums ([53, 50, 59, 99, 59] ++ writeS d) = R at hcat ⊢
        obtain ⟨gc, cc, Wc, hcv, hri, hnc, hcm, hbw⟩ := conv_str hd hn (by omega) (w.alloc (.cells #[.int .i64 2, .string (strOfNums d)] 72)).drew
        have HW := Lib.hid (write_any hri hn (by omega) hd hnc hcm)
        have HBW := Lib.hid hbw
        clear hri hnc hcm hbw hd hwl hn
        generalize strOfNums (writeS d) = S at HW hcat
        generalize strOfNums d = D at hsz hcv HBW ⊢
        go_enter Try.func40, Try.ntmps40
        go_wp2
        go_region
        go_wp2_with fail
        refine HW.out.mono ?_
        rintro e w2 ⟨rfl, hb2⟩
        have HB2 := Lib.hid (HBW.out.trans (hb2.mono HBW.out.size))
        clear hb2 HW HBW hcv
        go_wp2
        go_ret2
        exact ⟨rfl, Below.trans (belowN ((Below.refl w.heap.size w).alloc (Nat.le_refl _) _) 1) (HB2.out.mono (by simp))⟩
    · rw [writeA_n h1 h2]
      have z2 : (k == 2) = false := by simpa using h2
      clear hd hl h1 h2
      generalize strOfNums d = D
      go_enter Try.func40, Try.ntmps40
      go_wp2
      go_region
      go_wp2
      go_ret2
      exact ⟨rfl, belowN ((Below.refl _ _).alloc (Nat.le_refl _) _) _⟩
end Go.Proofs.Ytmpmlmhphnpdlaa
