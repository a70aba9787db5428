/-
  Proved here: how many rows and columns there are is changed.
-/
import Derived.Test.YtahmnipcdkcpiaaGq
import Derived.Deep.DeepCutAuto
set_option linter.unusedSimpArgs false
set_option linter.unusedVariables false
namespace Go.Proofs.Ytahmnipcdkcpiaa
open Go.RowKit
/-- The cells behind so many rows that were copied. -/
def resK (C : Nat) (L : List Ce) (C2 n2 : Nat) (c : Ce) : Nat → List Ce
  | 0 => rep n2 c
  | k + 1 => lay (resK C L C2 n2 c k) (k * C2) ((L.drop (k * C)).take (Nat.min C C2))
def resL (R C : Nat) (L : List Ce) (R2 C2 : Nat) (c : Ce) : List Ce := resK C L C2 (R2 * C2) c (Nat.min R2 R)
theorem gr_one (R C : Int) (s : Option Addr) (n c : Nat) : (#[.int .i64 R, .int .i64 C, .slice s n c] : Array Value).all (·.oneCell') = true := by simp [Value.oneCell']
theorem gr_info : (Try.prog.info? 57).map (·.size) = some 3 := by kernel_rfl
/-- What Resize answers and leaves. -/
def RzPost (g b cap R C : Nat) (L : List Ce) (r d : Int) (c : Ce) (w : World) (e : Ending) (w' : World) : Prop :=
  (rightB r d = false → e = .returned (.int .i64 1) ∧ Below w.heap.size w w') ∧
  ∀ R2 C2 : Nat, r = R2 → d = C2 → rightB r d = true → ∃ b2, e = .returned (.int .i64 0) ∧ w.heap.size ≤ b2 ∧ Gr g b2 (R2 * C2) R2 C2 (resL R C L R2 C2 c) w' ∧ w.grownBy w' (some g)
set_option maxRecDepth 100000 in
set_option maxHeartbeats 4000000 in
theorem resize_bad {g b cap R C : Nat} {L : List Ce} {w : World} (h : Gr g b cap R C L w) (r d : Int) (c : Ce) (hq : rightB r d = false) : Calls Try.prog 23 #[.pointer (some ⟨g, 0, none⟩), .int .i64 r, .int .i64 d, cV c] w fun e w' => e = .returned (.int .i64 1) ∧ Below w.heap.size w w' := by
  obtain ⟨p, f, gg, bb⟩ := c
  have hb0 : Below w.heap.size w (w.alloc (.cells #[.int .i32 p, .int .u8 f, .int .u32 gg, .int .u32 bb] 39)) := (Below.refl _ _).alloc (Nat.le_refl _) _
  have HNO := Lib.hid (none_no (h.below hb0))
  have HRI := Lib.hid (right_any r d (w.alloc (.cells #[.int .i32 p, .int .u8 f, .int .u32 gg, .int .u32 bb] 39)))
  rw [hq] at HRI
  have HB0 := Lib.hid hb0
  unfold cV
  clear h hb0 hq
  go_enter Try.func23, Try.ntmps23
  go_wp2_with fail
  refine HNO.out.mono ?_
  rintro e wx ⟨rfl, rfl⟩
  go_wp2_with fail
  refine HRI.out.mono ?_
  rintro e wx ⟨rfl, rfl⟩
  go_wp2
  go_ret
  exact ⟨rfl, HB0.out⟩
set_option maxRecDepth 100000 in
set_option maxHeartbeats 8000000 in
theorem resize_gr {g b cap R C : Nat} {L : List Ce} {w : World} (h : Gr g b cap R C L w) {R2 C2 : Nat} (hq : rightB R2 C2 = true) (c : Ce) : Calls Try.prog 23 #[.pointer (some ⟨g, 0, none⟩), .int .i64 R2, .int .i64 C2, cV c] w fun e w' => ∃ b2, e = .returned (.int .i64 0) ∧ w.heap.size ≤ b2 ∧ Gr g b2 (R2 * C2) R2 C2 (resL R C L R2 C2 c) w' ∧ w.grownBy w' (some g) := by
  obtain ⟨p, f, gg, bb⟩ := c
  have hb0 : Below w.heap.size w (w.alloc (.cells #[.int .i32 p, .int .u8 f, .int .u32 gg, .int .u32 bb] 39)) := (Below.refl _ _).alloc (Nat.le_refl _) _
  have HNO := Lib.hid (none_no (h.below hb0))
  have HRI := Lib.hid (right_any R2 C2 (w.alloc (.cells #[.int .i32 p, .int .u8 f, .int .u32 gg, .int .u32 bb] 39)))
  rw [hq] at HRI
  have hp2 : 1 ≤ R2 ∧ R2 ≤ 12 ∧ 1 ≤ C2 ∧ C2 ≤ 40 := by unfold rightB at hq; simp at hq; omega
  have hp := h.pos
  obtain ⟨n2, hn2⟩ : ∃ n, R2 * C2 = n := ⟨_, rfl⟩
  have HFU := Lib.hid (full_any (w := (w.alloc (.cells #[.int .i32 p, .int .u8 f, .int .u32 gg, .int .u32 bb] 39))) hn2 hp2 ⟨p, f, gg, bb⟩)
  have HN2 := Lib.hid (fun (_ : Unit) => hn2)
  have HG := Lib.hid (fun (W : World) (hW : Below (w.alloc (.cells #[.int .i32 p, .int .u8 f, .int .u32 gg, .int .u32 bb] 39)).heap.size (w.alloc (.cells #[.int .i32 p, .int .u8 f, .int .u32 gg, .int .u32 bb] 39)) W) => And.intro ((h.below hb0).below hW) (hb0.trans (hW.mono hb0.size)))
  have HGL := Lib.hid h.lt
  have HBL := Lib.hid h.row.lt
  unfold resL
  rw [hn2]
  obtain ⟨K, hK⟩ : ∃ k, Nat.min R2 R = k := ⟨_, rfl⟩
  have hKR : K ≤ R := by rw [← hK]; exact Nat.min_le_right _ _
  have hKR2 : K ≤ R2 := by rw [← hK]; exact Nat.min_le_left _ _
  have HK := Lib.hid (And.intro (show (R : Int) < (R2 : Int) → R = K from fun h => by rw [← hK]; show R = min R2 R; omega) (show ¬ (R : Int) < (R2 : Int) → R2 = K from fun h => by rw [← hK]; show R2 = min R2 R; omega))
  rw [hK]
  unfold cV
  clear h hb0 hq hn2 hK
  go_enter Try.func23, Try.ntmps23
  go_wp2_with fail
  refine HNO.out.mono ?_
  rintro e wx ⟨rfl, rfl⟩
  go_wp2_with fail
  refine HRI.out.mono ?_
  rintro e wx ⟨rfl, rfl⟩
  clear HNO HRI
  go_wp2_with fail
  refine HFU.out.mono ?_
  rintro e w2 ⟨g2, b2, rfl, hg2, hb2, hG2, hB2⟩
  obtain ⟨hG, hB⟩ := HG.out w2 hB2
  have hle : w.heap.size ≤ (w.alloc (.cells #[.int .i32 p, .int .u8 f, .int .u32 gg, .int .u32 bb] 39)).heap.size := by simp
  have HL := Lib.hid (And.intro (Nat.le_trans hle hg2) (Nat.le_trans hle hb2))
  have k0 := hG.cells.1
  have HI := Lib.hid (And.intro hG2 (And.intro hG hB))
  clear hg2 hb2 hG2 hB2 hG hB hle HFU HG
  go_upto_region 6 with fail
  go_cut [28, 29] (fun a z wx => a = .int .i64 K ∧ z = .int .i64 0 ∧ wx = w2)
  case first =>
    have q := HK.out
    clear HI HL HK HGL HN2
    by_cases hk : (R : Int) < (R2 : Int)
    · obtain rfl := q.1 hk
      clear q
      go_wp2
      go_meet
      exact ⟨rfl, rfl, rfl⟩
    · obtain rfl := q.2 (by omega)
      clear q
      go_wp2
      go_meet
      exact ⟨rfl, rfl, rfl⟩
  case rest =>
    obtain ⟨rfl, rfl, rfl⟩ := hcut
    clear HK k0
    have HLP : Hid (Gr g2 b2 n2 R2 C2 (resK C L C2 n2 ⟨p, f, gg, bb⟩ 0) wc ∧ Gr g b cap R C L wc ∧ Below w.heap.size w wc) := HI
    clear HI
    go_wp2
    go_loopw [29] (fun kv wr => ∃ i : Nat, kv = .int .i64 i ∧ i ≤ K ∧ Hid (Gr g2 b2 n2 R2 C2 (resK C L C2 n2 ⟨p, f, gg, bb⟩ i) wr ∧ Gr g b cap R C L wr ∧ Below w.heap.size w wr)) (fun kv _ => K - (intOf kv).toNat)
    case atStart => exact ⟨0, rfl, by omega, HLP⟩
    case round =>
      obtain ⟨i, rfl, hi, HS⟩ := hrel
      clear HLP
      by_cases hin : i < K
      · have d1 : decide ((i : Int) < (K : Int)) = true := by simp; omega
        have d1' : decide (i < K) = true := by simp; omega
        have w1 : IntKind.i64.wrap ((i : Int) + 1) = (i : Int) + 1 := IntWalk.i64_in _ (by omega)
        obtain ⟨o2, ho2⟩ : ∃ o, i * C2 = o := ⟨_, rfl⟩
        obtain ⟨o, ho⟩ : ∃ o, i * C = o := ⟨_, rfl⟩
        obtain ⟨m, hm⟩ : ∃ m, Nat.min C C2 = m := ⟨_, rfl⟩
        have hm1 : m ≤ C := by rw [← hm]; exact Nat.min_le_left _ _
        have hm2 : m ≤ C2 := by rw [← hm]; exact Nat.min_le_right _ _
        have hro := (rows_in (C := C) (R := R) (t := i) (d := i) (Nat.le_refl _) (by omega))
        rw [show i + 1 - i = 1 by omega, Nat.one_mul, ho, ← HS.out.2.1.len] at hro
        have hro2 := (rows_in (C := C2) (R := R2) (t := i) (d := i) (Nat.le_refl _) (by omega))
        rw [show i + 1 - i = 1 by omega, Nat.one_mul, ho2, ← HS.out.1.len] at hro2
        have hb2 : Below wr.heap.size wr wr.drew.drew := (Below.refl _ _).drew.drew
        have hX := HS.out.1.below hb2
        have hY := HS.out.2.1.below hb2
        have HX := Lib.hid (line_gr HS.out.1 (show i < R2 by omega) ho2)
        have HY := Lib.hid (line_gr (HS.out.2.1.below (Below.refl wr.heap.size wr).drew) (show i < R by omega) ho)
        have hl : ((L.drop o).take m).length = m := sub_len (by omega)
        obtain ⟨W3, hcp, hR3, hg3⟩ := run_copy4 (W := wr.drew.drew) hX.row 3 (o := o2) (m := C2) (dc := n2 - o2) (k := C) (sc := cap - o) (a := ⟨b, o * 4, none⟩) (cs := (L.drop o).take m) (by rw [hl, hm]) (by rw [hl]; omega) hY.row.sub
        rw [hl, show goInt ((m : Nat) : Int) = .int .i64 (m : Int) from rfl] at hcp
        have hgb := HGL.out
        have hbb := HBL.out
        have hLL := HL.out
        have HS2 : Hid (Gr g2 b2 n2 R2 C2 (resK C L C2 n2 ⟨p, f, gg, bb⟩ (i + 1)) W3 ∧ Gr g b cap R C L W3 ∧ Below w.heap.size w W3) := Lib.hid ⟨by
            have := hX.put hR3 (by rw [lay_len (by rw [hl]; omega)]) hg3
            unfold resK
            rw [ho2, ho, hm]
            exact this,
          hY.grown hg3 (fun e => by injection e with e; omega) (fun e => by injection e with e; omega), (HS.out.2.2.drew.drew).grown hg3 HS.out.2.2.size (fun k e => by injection e with e; omega)⟩
        have HCP := Lib.hid hcp
        clear ho2 ho hm hm1 hm2 hro hro2 hb2 hX hY hl hcp hR3 hg3 hgb hbb hLL HS
        go_wp2_with fail
        refine HX.out.mono ?_
        rintro e wx ⟨rfl, rfl⟩
        go_wp2_with fail
        refine HY.out.mono ?_
        rintro e wx ⟨rfl, rfl⟩
        clear HX HY
        go_wp2_with (refine wpList_copy rfl (.tmp 34) (.tmp 37) _ _ rfl _ _ rfl rfl HCP.out ?_)
        clear HCP
        go_wp2
        go_roundw
        case rel => exact ⟨i + 1, by go_num, by omega, HS2⟩
        case measure => simp [intOf]; omega
      · have d1 : decide ((i : Int) < (K : Int)) = false := by simp; omega
        have d1' : decide (i < K) = false := by simp; omega
        have hiK : i = K := by omega
        have HROW := Lib.hid HS.out.2.1.blk
        obtain ⟨k0, k1, k2⟩ := HS.out.1.cells
        rw [HN2.out ()] at k2
        have HEND := Lib.hid (show Gr g b2 n2 R2 C2 (resK C L C2 n2 ⟨p, f, gg, bb⟩ K) (wr.setRow g #[.int .i64 R2, .int .i64 C2, .slice (some ⟨b2, 0, none⟩) n2 n2]) ∧ w.grownBy (wr.setRow g #[.int .i64 R2, .int .i64 C2, .slice (some ⟨b2, 0, none⟩) n2 n2]) (some g) from by
          have hgb := HGL.out
          have hLL := HL.out
          have hx := HS.out.1
          rw [hiK] at hx
          refine ⟨⟨by rw [HN2.out ()]; exact setRow_heap _ _ _ _ _ _ HS.out.2.1.blk, hx.row.grown (grown_setRow wr g _) (fun e => by injection e with e; omega), hx.len, hx.pos⟩, below_grown HS.out.2.2 (grown_setRow wr g _)⟩)
        clear HS hiK hi hin hKR hKR2
        go_wp2_with (refine wpList_store_row rfl 57 (.tmp 44) (.tmp 43) rfl g #[.int .i64 R2, .int .i64 C2, .slice (some ⟨b2, 0, none⟩) n2 n2] rfl rfl 57 _ HROW.out gr_info rfl (gr_one _ _ _ _ _) ?_)
        clear HROW
        go_wp2
        go_ret
        exact ⟨b2, rfl, HL.out.2, HEND.out⟩
end Go.Proofs.Ytahmnipcdkcpiaa
