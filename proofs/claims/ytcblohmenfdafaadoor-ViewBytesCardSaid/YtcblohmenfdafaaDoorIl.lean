/-
  Proved here: ViewBack.
-/
import Derived.Test.YtcblohmenfdafaaDoorIj
import Derived.Lib.Bytes
set_option linter.unusedSimpArgs false
set_option linter.unusedVariables false
namespace Go.Proofs.YtcblohmenfdafaaDoor
open Go.RowKit
theorem writeY_bytes {s : Sty} (h : Good s) : ∀ x ∈ writeY s, 0 ≤ x ∧ x < 256 := fun x hx => by
  unfold writeY at hx
  rcases List.mem_append.1 hx with h1 | h1
  · rcases List.mem_append.1 h1 with h2 | h2
    · rw [List.mem_singleton.1 h2]
      have := flagsF_range s.fs
      rw [h.len] at this
      omega
    · exact numB_byte _ x h2
  · exact numB_byte _ x h1
theorem cellB_bytes {c : Ce} (h : CeOk c) : ∀ x ∈ cellB c, 0 ≤ x ∧ x < 256 := fun x hx => by
  unfold cellB at hx
  rcases List.mem_append.1 hx with h1 | h1
  · exact writeY_bytes h.good x h1
  · exact numB_byte _ x h1
theorem runs_bytes : ∀ (L : List Ce) (k : Nat), LOk L → ∀ x ∈ runsB k L, 0 ≤ x ∧ x < 256
  | [], _, _ => fun x hx => by rw [runs_nil] at hx; cases hx
  | [c], k, h => fun x hx => by
    rw [runs_one] at hx
    rcases List.mem_append.1 hx with h1 | h1
    · exact numB_byte _ x h1
    · exact cellB_bytes (h c (by simp)).1 x h1
  | c :: d :: L, k, h => fun x hx => by
    have h3 : LOk (d :: L) := fun y hy => h y (List.mem_cons_of_mem _ hy)
    rw [runs_two] at hx
    split at hx
    · exact runs_bytes (d :: L) (k + 1) h3 x hx
    · rcases List.mem_append.1 hx with h1 | h1
      · exact numB_byte _ x h1
      · rcases List.mem_append.1 h1 with h2 | h2
        · exact cellB_bytes (h c (by simp)).1 x h2
        · exact runs_bytes (d :: L) 0 h3 x h2
theorem bytes_view {R C row col : Int} {vis : Bool} {L : List Ce} (hr : rightW R C row col L = true) (h : LOk L) : Bytes (viewB R C row col vis L) := bytes_of_mem fun x hx => by
  obtain ⟨_, _, _, _, _, hb⟩ := rightW_parts hr
  unfold viewB at hx
  rcases List.mem_append.1 hx with h1 | h1
  · simp at h1
    rcases h1 with h1 | h1 | h1 | h1 | h1
    · omega
    · omega
    · omega
    · omega
    · subst h1; cases vis <;> simp
  · exact runs_bytes L 0 h x h1
theorem same_self {R C row col : Int} {vis : Bool} {L : List Ce} : sameW R C row col vis L R C row col vis L = true := by unfold sameW; simp
theorem same_bytes {R C row col R2 C2 row2 col2 : Int} {vis vis2 : Bool} {L M : List Ce} (h1 : rightW R C row col L = true) (k1 : LOk L) (h2 : rightW R2 C2 row2 col2 M = true) (k2 : LOk M) : sameW R C row col vis L R2 C2 row2 col2 vis2 M = decide (viewB R C row col vis L = viewB R2 C2 row2 col2 vis2 M) := by
  by_cases h : viewB R C row col vis L = viewB R2 C2 row2 col2 vis2 M
  · obtain ⟨rfl, rfl, rfl, rfl, rfl, rfl⟩ := isView_inj (bs := viewB R C row col vis L) ⟨h1, k1, rfl⟩ ⟨h2, k2, h⟩
    rw [same_self]; simp
  · rw [decide_eq_false h]
    cases hs : sameW R C row col vis L R2 C2 row2 col2 vis2 M with
    | false => rfl
    | true =>
      unfold sameW at hs
      simp at hs
      obtain ⟨⟨⟨⟨⟨rfl, rfl⟩, rfl⟩, rfl⟩, rfl⟩, rfl⟩ := hs
      exact absurd rfl h
theorem str_eq {X Y : List Int} (hX : Bytes X) (hY : Bytes Y) : ((strOfNums X).toList == (strOfNums Y).toList) = decide (X = Y) := by
  rw [Lib.strOfNums_toList, Lib.strOfNums_toList, Bool.eq_iff_iff, beq_iff_eq, decide_eq_true_iff]
  refine ⟨fun h => ?_, fun h => by rw [h]⟩
  have hl : X.length = Y.length := by have := congrArg List.length h; rwa [Lib.bytesOf_length, Lib.bytesOf_length] at this
  apply List.ext_getElem hl
  intro i h1 h2
  have e := congrArg (fun l => l[i]?) h
  simp [Lib.bytesOf, h1, h2] at e
  have a := hX i
  have b := hY i
  rw [show X.getD i 0 = X[i] by simp [List.getD, h1]] at a
  rw [show Y.getD i 0 = Y[i] by simp [List.getD, h2]] at b
  have e2 := congrArg UInt8.toNat e
  simp at e2
  omega
set_option maxRecDepth 100000 in
set_option maxHeartbeats 32000000 in
theorem back_any {w : World} {v o : Value} {A : Option Addr} {n cap : Nat} {bs : List Int} (hv : VwV w v) (ho : VwV w o) (hR : RB w w.heap.size A bs) (hl : bs.length = n) (hcap : n ≤ cap) (hm : cap ≤ maxLen) (hBB : Bytes bs) (hT : Tab w) : Calls Tryd.prog 5 #[v, o, .slice A n cap] w fun e w' => e = .returned (.bool true) ∧ Below w.heap.size w w' := by
  obtain ⟨R1, C1, A1, n1, cap1, L1, row1, col1, vis1, rfl, hs1, _, _, _, _⟩ := hv
  obtain ⟨R2, C2, A2, n2, cap2, L2, row2, col2, vis2, rfl, hs2, _, _, _, _⟩ := ho
  have hba := (Below.refl w.heap.size w).alloc (Nat.le_refl _) (.cells #[.int .i64 R1, .int .i64 C1, .slice A1 n1 cap1, .int .i64 row1, .int .i64 col1, .bool vis1] 24)
  have hbb := (Below.refl (w.alloc (.cells #[.int .i64 R1, .int .i64 C1, .slice A1 n1 cap1, .int .i64 row1, .int .i64 col1, .bool vis1] 24)).heap.size (w.alloc (.cells #[.int .i64 R1, .int .i64 C1, .slice A1 n1 cap1, .int .i64 row1, .int .i64 col1, .bool vis1] 24))).alloc (Nat.le_refl _) (.cells #[.int .i64 R2, .int .i64 C2, .slice A2 n2 cap2, .int .i64 row2, .int .i64 col2, .bool vis2] 24)
  have HB0 := hba.trans (hbb.mono hba.size)
  have HC0 := (hbb.block w.heap.size (by simp)).trans (heap_alloc_new w (.cells #[.int .i64 R1, .int .i64 C1, .slice A1 n1 cap1, .int .i64 row1, .int .i64 col1, .bool vis1] 24))
  have HC1 := heap_alloc_new (w.alloc (.cells #[.int .i64 R1, .int .i64 C1, .slice A1 n1 cap1, .int .i64 row1, .int .i64 col1, .bool vis1] 24)) (.cells #[.int .i64 R2, .int .i64 C2, .slice A2 n2 cap2, .int .i64 row2, .int .i64 col2, .bool vis2] 24)
  rw [show (w.alloc (.cells #[.int .i64 R1, .int .i64 C1, .slice A1 n1 cap1, .int .i64 row1, .int .i64 col1, .bool vis1] 24)).heap.size = w.heap.size + 1 by simp] at HC1
  have HTB := Lib.hid (hT.below HB0 hT.big)
  have HCR1 := Lib.hid (hs1.cr.below HB0)
  have HCR2 := Lib.hid (hs2.cr.below HB0)
  have HL1 := Lib.hid hs1.len_eq
  have HL2 := Lib.hid hs2.len_eq
  have HOK1 := Lib.hid hs1.ok
  have HOK2 := Lib.hid hs2.ok
  have HM1 := Lib.hid (show n1 ≤ 9223372036854775807 from by have := hs1.le; have := hs1.max; unfold maxLen at this; omega)
  have HM2 := Lib.hid (show n2 ≤ 9223372036854775807 from by have := hs2.le; have := hs2.max; unfold maxLen at this; omega)
  have HRB := Lib.hid hR
  have HBB := Lib.hid hBB
  obtain ⟨q1, hq1⟩ : ∃ q, rightW R1 C1 row1 col1 L1 = q := ⟨_, rfl⟩
  obtain ⟨q2, hq2⟩ : ∃ q, rightW R2 C2 row2 col2 L2 = q := ⟨_, rfl⟩
  have HQ1 := Lib.hid hq1
  have HQ2 := Lib.hid hq2
  obtain ⟨vb, hvb⟩ : ∃ b, w.heap.size = b := ⟨_, rfl⟩
  clear hba hbb hs1 hs2 hR hBB hT hq1 hq2
  go_enter Tryd.func5, Tryd.ntmps5
  go_upto_region 1 with fail
  simp only [hvb] at HC0 HC1 ⊢
  generalize ((w.alloc (.cells #[.int .i64 R1, .int .i64 C1, .slice A1 n1 cap1, .int .i64 row1, .int .i64 col1, .bool vis1] 24)).alloc (.cells #[.int .i64 R2, .int .i64 C2, .slice A2 n2 cap2, .int .i64 row2, .int .i64 col2, .bool vis2] 24)) = U at HB0 HC0 HC1 HTB HCR1 HCR2 ⊢
  have HB := Lib.hid HB0
  have HVC0 := Lib.hid (fun (W : World) (hW : Below U.heap.size U W) => six_cells ((hW.block _ (lt_of_block HC0)).trans HC0))
  have HOC0 := Lib.hid (fun (W : World) (hW : Below U.heap.size U W) => six_cells ((hW.block _ (lt_of_block HC1)).trans HC1))
  have HSB := Lib.hid (Below.refl U.heap.size U)
  clear HB0 HC0 HC1 hvb
  obtain ⟨x0, x1, x2, x3, x4, x5⟩ := HVC0.out _ HSB.out
  obtain ⟨y0, y1, y2, y3, y4, y5⟩ := HOC0.out _ HSB.out
  by_cases h1 : 600 < n1
  · skip
    have pn1 : decide ((600 : Int) < (n1 : Int)) = true := by simp; omega
    have pn1' : decide (600 < n1) = true := by simp; omega
    have pn1'' : decide ((n1 : Int) > (600 : Int)) = true := pn1
    clear h1
    go_wp2_with fail
    refine (alive_any _ (HTB.out.below HSB.out HTB.out.big)).mono ?_
    rintro e w9 ⟨rfl, b9⟩
    have HB9 := Lib.hid (HB.out.trans ((HSB.out.trans (b9.mono HSB.out.size)).mono HB.out.size))
    clear b9
    go_wp2
    go_ret
    exact ⟨by rfl, HB9.out⟩
  by_cases h2 : 600 < n2
  · skip
    have pn1 : decide ((600 : Int) < (n1 : Int)) = false := by simp; omega
    have pn1' : decide (600 < n1) = false := by simp; omega
    have pn1'' : decide ((n1 : Int) > (600 : Int)) = false := pn1
    have pn2 : decide ((600 : Int) < (n2 : Int)) = true := by simp; omega
    have pn2' : decide (600 < n2) = true := by simp; omega
    have pn2'' : decide ((n2 : Int) > (600 : Int)) = true := pn2
    clear h1 h2
    go_wp2_with fail
    refine (alive_any _ (HTB.out.below HSB.out HTB.out.big)).mono ?_
    rintro e w9 ⟨rfl, b9⟩
    have HB9 := Lib.hid (HB.out.trans ((HSB.out.trans (b9.mono HSB.out.size)).mono HB.out.size))
    clear b9
    go_wp2
    go_ret
    exact ⟨by rfl, HB9.out⟩
  by_cases h3 : 8000 < n
  · skip
    have pn1 : decide ((600 : Int) < (n1 : Int)) = false := by simp; omega
    have pn1' : decide (600 < n1) = false := by simp; omega
    have pn1'' : decide ((n1 : Int) > (600 : Int)) = false := pn1
    have pn2 : decide ((600 : Int) < (n2 : Int)) = false := by simp; omega
    have pn2' : decide (600 < n2) = false := by simp; omega
    have pn2'' : decide ((n2 : Int) > (600 : Int)) = false := pn2
    have pn : decide ((8000 : Int) < (n : Int)) = true := by simp; omega
    have pn' : decide (8000 < n) = true := by simp; omega
    have pn'' : decide ((n : Int) > (8000 : Int)) = true := pn
    clear h1 h2 h3
    go_wp2_with fail
    refine (alive_any _ (HTB.out.below HSB.out HTB.out.big)).mono ?_
    rintro e w9 ⟨rfl, b9⟩
    have HB9 := Lib.hid (HB.out.trans ((HSB.out.trans (b9.mono HSB.out.size)).mono HB.out.size))
    clear b9
    go_wp2
    go_ret
    exact ⟨by rfl, HB9.out⟩
  have HLN := Lib.hid (show bs.length = n ∧ n ≤ 100000 ∧ n ≤ cap ∧ cap ≤ maxLen from ⟨hl, by omega, hcap, hm⟩)
  have pn1 : decide ((600 : Int) < (n1 : Int)) = false := by simp; omega
  have pn1' : decide (600 < n1) = false := by simp; omega
  have pn1'' : decide ((n1 : Int) > (600 : Int)) = false := pn1
  have pn2 : decide ((600 : Int) < (n2 : Int)) = false := by simp; omega
  have pn2' : decide (600 < n2) = false := by simp; omega
  have pn2'' : decide ((n2 : Int) > (600 : Int)) = false := pn2
  have pn : decide ((8000 : Int) < (n : Int)) = false := by simp; omega
  have pn' : decide (8000 < n) = false := by simp; omega
  have pn'' : decide ((n : Int) > (8000 : Int)) = false := pn
  clear h1 h2 h3 hl hcap hm
  go_wp2_with fail
  cases q1 with
  | true =>
    have HLK1 := Lib.hid (show LOk L1 from fun c hc => ⟨HOK1.out c hc, (rightW_parts HQ1.out).2.2.1 c hc⟩)
    refine (p_viewwrite (cap := cap1) (HCR1.out.below HSB.out) HL1.out HOK1.out (HTB.out.below HSB.out HTB.out.big) R1 C1 row1 col1 vis1 HQ1.out).mono ?_
    rintro e w2 ⟨u, rfl, o2⟩
    obtain ⟨A4, c4, rfl, hc1, hc2, hrb4⟩ := bytes8 o2
    have HR4 := Lib.hid hrb4
    have HC4 := Lib.hid (And.intro hc1 hc2)
    have HSB2 := Lib.hid (HSB.out.trans (o2.below.mono HSB.out.size))
    have HV4 := Lib.hid (show isView (viewB R1 C1 row1 col1 vis1 L1) R1 C1 row1 col1 vis1 L1 from ⟨HQ1.out, HLK1.out, rfl⟩)
    have HBY := Lib.hid (bytes_view (vis := vis1) HQ1.out HLK1.out)
    have HLE := Lib.hid (show (viewB R1 C1 row1 col1 vis1 L1).length ≤ 100000 from by have := viewB_len (R := R1) (C := C1) (row := row1) (col := col1) (vis := vis1) (fun c hc => (HLK1.out c hc).1) (fun c hc => (HLK1.out c hc).2) (rightW_parts HQ1.out).2.2.2.1; have := (rightW_parts HQ1.out).2.2.2.1; omega)
    obtain ⟨X4, hX4⟩ : ∃ X, viewB R1 C1 row1 col1 vis1 L1 = X := ⟨_, rfl⟩
    have HXE := Lib.hid (fun (_ : Unit) => hX4)
    rw [hX4] at HR4 HC4 HV4 HBY HLE
    rw [hX4]
    obtain ⟨m4, hm4⟩ : ∃ m, X4.length = m := ⟨_, rfl⟩
    rw [hm4] at HC4 HLE
    have HM4 := Lib.hid hm4
    rw [hm4]
    clear o2 hc1 hc2 hrb4 hX4 hm4 HSB x0 x1 x2 x3 x4 x5 y0 y1 y2 y3 y4 y5
    have HSB := HSB2
    clear HSB2
    obtain ⟨y0, y1, y2, y3, y4, y5⟩ := HOC0.out _ HSB.out
    go_wp2_with fail
    cases q2 with
    | true =>
      have HLK2 := Lib.hid (show LOk L2 from fun c hc => ⟨HOK2.out c hc, (rightW_parts HQ2.out).2.2.1 c hc⟩)
      refine (p_viewwrite (cap := cap2) (HCR2.out.below HSB.out) HL2.out HOK2.out (HTB.out.below HSB.out HTB.out.big) R2 C2 row2 col2 vis2 HQ2.out).mono ?_
      rintro e w3 ⟨u5, rfl, o3⟩
      have HSB2 := Lib.hid (HSB.out.trans (o3.below.mono HSB.out.size))
      obtain ⟨A5, c5, rfl, hc1, hc2, hrb5⟩ := bytes8 o3
      have HR5 := Lib.hid hrb5
      have HBY5 := Lib.hid (bytes_view (vis := vis2) HQ2.out HLK2.out)
      have HR4b := Lib.hid (show RI .u8 w3 A4 X4 from RI.below (by exact HR4.out) o3.below)
      have HSE := Lib.hid (show sameW R1 C1 row1 col1 vis1 L1 R2 C2 row2 col2 vis2 L2 = decide (X4 = viewB R2 C2 row2 col2 vis2 L2) from by rw [← HXE.out ()]; exact same_bytes HQ1.out HLK1.out HQ2.out HLK2.out)
      obtain ⟨X5, hX5⟩ : ∃ X, viewB R2 C2 row2 col2 vis2 L2 = X := ⟨_, rfl⟩
      rw [hX5] at HR5 HBY5 HSE
      rw [hX5]
      obtain ⟨m5, hm5⟩ : ∃ m, X5.length = m := ⟨_, rfl⟩
      have HM5 := Lib.hid hm5
      rw [hm5]
      clear o3 hc1 hc2 hrb5 hX5 hm5
      clear HSB HR4 y0 y1 y2 y3 y4 y5
      have HSB := HSB2
      clear HSB2
      go_upto_if 44 with fail
      go_cut [] (fun wx => Hid (Below U.heap.size U wx))
      case first =>
        go_wp2_with fail
        refine (p_viewread (show RB w3 w3.heap.size A4 X4 from HR4b.out) HM4.out HLE.out HC4.out.1 HC4.out.2 HBY.out (HTB.out.below HSB.out HTB.out.big)).mono ?_
        intro e w4 hrd
        rcases hrd with ⟨Ra, Ca, rowa, cola, visa, La, A3, n3, c3, hva, rfl, hn3, hcr3, hb4⟩ | ⟨hno, _⟩
        rotate_left
        · exact absurd HV4.out (hno _ _ _ _ _ _)
        obtain ⟨e1, e2, e3, e4, e5, e6⟩ := isView_inj HV4.out hva
        subst e1 e2 e3 e4 e5 e6
        have hba := (Below.refl w4.heap.size w4).alloc (Nat.le_refl _) (.cells #[.int .i64 R1, .int .i64 C1, .slice A3 n3 c3, .int .i64 row1, .int .i64 col1, .bool vis1] 24)
        have hT3 := heap_alloc_new w4 (.cells #[.int .i64 R1, .int .i64 C1, .slice A3 n3 c3, .int .i64 row1, .int .i64 col1, .bool vis1] 24)
        have hd := (Below.refl (w4.alloc (.cells #[.int .i64 R1, .int .i64 C1, .slice A3 n3 c3, .int .i64 row1, .int .i64 col1, .bool vis1] 24)).heap.size (w4.alloc (.cells #[.int .i64 R1, .int .i64 C1, .slice A3 n3 c3, .int .i64 row1, .int .i64 col1, .bool vis1] 24))).drew
        have HT3 := Lib.hid ((hd.block _ (lt_of_block hT3)).trans hT3)
        have HUX := Lib.hid ((HSB.out.trans ((hb4.trans (hba.mono hb4.size)).mono HSB.out.size)).trans (hd.mono (HSB.out.trans ((hb4.trans (hba.mono hb4.size)).mono HSB.out.size)).size))
        have HC3 := Lib.hid ((hcr3.below hba).below hd)
        have HN3 := Lib.hid hn3.symm
        have HM3 := Lib.hid (show n3 ≤ 9223372036854775807 from by have := (rightW_parts HQ1.out).2.2.2.1; omega)
        have HR4c := Lib.hid (show RI .u8 _ A4 X4 from RI.below (RI.below (RI.below (by exact HR4b.out) hb4) hba) hd)
        have HR5c := Lib.hid (show RI .u8 _ A5 X5 from RI.below (RI.below (RI.below (by exact HR5.out) hb4) hba) hd)
        obtain ⟨tb, htb⟩ : ∃ t, w4.heap.size = t := ⟨_, rfl⟩
        clear hba hb4 hcr3 hn3 hva hT3 hd
        go_upto_region 7 with fail
        simp only [htb] at HT3 ⊢
        clear htb
        refine wp_region_held_drew (S := fun W => Below (w4.alloc (.cells #[.int .i64 R1, .int .i64 C1, .slice A3 n3 c3, .int .i64 row1, .int .i64 col1, .bool vis1] 24)).drew.heap.size (w4.alloc (.cells #[.int .i64 R1, .int .i64 C1, .slice A3 n3 c3, .int .i64 row1, .int .i64 col1, .bool vis1] 24)).drew W) (by kernel_rfl) (Below.refl _ _) (fun hHeld => ?_)
        generalize (w4.alloc (.cells #[.int .i64 R1, .int .i64 C1, .slice A3 n3 c3, .int .i64 row1, .int .i64 col1, .bool vis1] 24)).drew = X at HT3 HUX HC3 HR4c HR5c hHeld ⊢
        have HBX := Lib.hid (Below.refl X.heap.size X)
        have HCV1 := Lib.hid (fun (Y : World) (hY : Below X.heap.size X Y) => conv_text (w := Y) HM4.out c4 (RI.below HR4c.out hY))
        have HCV2 := Lib.hid (fun (Y : World) (hY : Below X.heap.size X Y) => conv_text (w := Y) HM5.out c5 (RI.below HR5c.out hY))
        have HST := Lib.hid (str_eq HBY.out HBY5.out)
        obtain ⟨S4, hS4⟩ : ∃ S, strOfNums X4 = S := ⟨_, rfl⟩
        obtain ⟨S5, hS5⟩ : ∃ S, strOfNums X5 = S := ⟨_, rfl⟩
        rw [hS4] at HCV1 HST
        rw [hS5] at HCV2 HST
        obtain ⟨D, hD⟩ : ∃ D, decide (X4 = X5) = D := ⟨_, rfl⟩
        rw [hD] at HST HSE
        have hst := HST.out
        have hbb : (D != D) = false := by simp
        clear hS4 hS5 hD
        refine wpAnyH_take (i := 0) (v := ?_) (by simp; rfl) (by kernel_rfl) (by kernel_rfl) (by kernel_rfl) (by exact fun _ _ _ h => h) (Or.inl ⟨by rfl, fun wx hSx => ?_⟩) hHeld ?_
        rotate_left
        · clear hSx; go_simp; (try with_reducible rfl)
        simp only [Act.put, List.setIfInBounds_toArray, List.set_cons_zero, List.set_cons_succ]
        refine wpAnyH_take (i := 1) (v := ?_) (by simp; rfl) (by kernel_rfl) (by kernel_rfl) (by kernel_rfl) (by exact fun _ _ _ h => h) (Or.inl ⟨by rfl, fun wx hSx => ?_⟩) hHeld ?_
        rotate_left
        · clear hSx; go_simp; (try with_reducible rfl)
        simp only [Act.put, List.setIfInBounds_toArray, List.set_cons_zero, List.set_cons_succ]
        refine wpAnyH_take (i := 2) (v := ?_) (by simp; rfl) (by kernel_rfl) (by kernel_rfl) (by kernel_rfl) (by exact fun _ _ _ h => h) (Or.inl ⟨by rfl, fun wx hSx => ?_⟩) hHeld ?_
        rotate_left
        · clear hSx; go_simp; (try with_reducible rfl)
        simp only [Act.put, List.setIfInBounds_toArray, List.set_cons_zero, List.set_cons_succ]
        refine wpAnyH_take (i := 3) (v := ?_) (by simp; rfl) (by kernel_rfl) (by kernel_rfl) (by kernel_rfl) (by exact fun _ _ _ h => h) (Or.inl ⟨by rfl, fun wx hSx => ?_⟩) hHeld ?_
        rotate_left
        · obtain ⟨s0, s1, s2, s3, s4, s5⟩ := six_cells ((hSx.block _ (lt_of_block HT3.out)).trans HT3.out); clear hSx; go_simp; (try with_reducible rfl)
        simp only [Act.put, List.setIfInBounds_toArray, List.set_cons_zero, List.set_cons_succ]
        refine wpAnyH_take (i := 4) (v := ?_) (by simp; rfl) (by kernel_rfl) (by kernel_rfl) (by kernel_rfl) (by exact fun _ _ _ h => h) (Or.inl ⟨by rfl, fun wx hSx => ?_⟩) hHeld ?_
        rotate_left
        · obtain ⟨s0, s1, s2, s3, s4, s5⟩ := HVC0.out wx (HUX.out.trans (hSx.mono HUX.out.size)); clear hSx; go_simp; (try with_reducible rfl)
        simp only [Act.put, List.setIfInBounds_toArray, List.set_cons_zero, List.set_cons_succ]
        refine wpAnyH_ready (rs := [5]) (by kernel_rfl) (by simp) ?_
        refine AllReadyH.cons (by simp; rfl) (fun K0 hK0 => ?_) AllReadyH.nil
        go_simp
        refine (p_viewsame (cap := c3) (cap2 := cap1) (HC3.out.below HBX.out) (HCR1.out.below (HUX.out.trans (HBX.out.mono HUX.out.size))) HN3.out HL1.out HM3.out R1 C1 row1 col1 R1 C1 row1 col1 vis1 vis1).mono ?_
        rintro e Y1 ⟨rfl, hb⟩
        rw [same_self]
        have HB2 := Lib.hid (HBX.out.trans (hb.mono HBX.out.size))
        clear hb
        refine hK0.out _ _ HB2.out (fun _ => ?_)
        clear hK0 K0 hHeld
        have hHeld := HB2.out
        refine wpAnyH_take (i := 6) (v := ?_) (by simp; rfl) (by kernel_rfl) (by kernel_rfl) (by kernel_rfl) (by exact fun _ _ _ h => h) (Or.inl ⟨by rfl, fun wx hSx => ?_⟩) hHeld ?_
        rotate_left
        · clear hSx; go_simp; (try with_reducible rfl)
        simp only [Act.put, List.setIfInBounds_toArray, List.set_cons_zero, List.set_cons_succ]
        refine wpAnyH_take (i := 7) (v := ?_) (by simp; rfl) (by kernel_rfl) (by kernel_rfl) (by kernel_rfl) (by exact fun _ _ _ h => h) (Or.inl ⟨by rfl, fun wx hSx => ?_⟩) hHeld ?_
        rotate_left
        · clear hSx; go_simp; (try with_reducible rfl)
        simp only [Act.put, List.setIfInBounds_toArray, List.set_cons_zero, List.set_cons_succ]
        refine wpAnyH_take (i := 8) (v := ?_) (by simp; rfl) (by kernel_rfl) (by kernel_rfl) (by kernel_rfl) (by exact fun _ _ _ h => h) (Or.inl ⟨by rfl, fun wx hSx => ?_⟩) hHeld ?_
        rotate_left
        · clear hSx; go_simp; (try with_reducible rfl)
        simp only [Act.put, List.setIfInBounds_toArray, List.set_cons_zero, List.set_cons_succ]
        refine wpAnyH_take (i := 9) (v := ?_) (by simp; rfl) (by kernel_rfl) (by kernel_rfl) (by kernel_rfl) (by exact fun _ _ _ h => h) (Or.inl ⟨by rfl, fun wx hSx => ?_⟩) hHeld ?_
        rotate_left
        · clear hSx; go_simp; (try with_reducible rfl)
        simp only [Act.put, List.setIfInBounds_toArray, List.set_cons_zero, List.set_cons_succ]
        refine wpAnyH_take (i := 10) (v := ?_) (by simp; rfl) (by kernel_rfl) (by kernel_rfl) (by kernel_rfl) (by exact fun _ _ _ h => h) (Or.inl ⟨by rfl, fun wx hSx => ?_⟩) hHeld ?_
        rotate_left
        · clear hSx; go_simp; (try with_reducible rfl)
        simp only [Act.put, List.setIfInBounds_toArray, List.set_cons_zero, List.set_cons_succ]
        refine wpAnyH_take (i := 11) (v := ?_) (by simp; rfl) (by kernel_rfl) (by kernel_rfl) (by kernel_rfl) (by exact fun _ _ _ h => h) (Or.inl ⟨by rfl, fun wx hSx => ?_⟩) hHeld ?_
        rotate_left
        · clear hSx; go_simp; (try with_reducible rfl)
        simp only [Act.put, List.setIfInBounds_toArray, List.set_cons_zero, List.set_cons_succ]
        refine wpAnyH_take (i := 12) (v := ?_) (by simp; rfl) (by kernel_rfl) (by kernel_rfl) (by kernel_rfl) (by exact fun _ _ _ h => h) (Or.inl ⟨by rfl, fun wx hSx => ?_⟩) hHeld ?_
        rotate_left
        · clear hSx; go_simp; (try with_reducible rfl)
        simp only [Act.put, List.setIfInBounds_toArray, List.set_cons_zero, List.set_cons_succ]
        refine wpAnyH_take (i := 13) (v := ?_) (by simp; rfl) (by kernel_rfl) (by kernel_rfl) (by kernel_rfl) (by exact fun _ _ _ h => h) (Or.inl ⟨by rfl, fun wx hSx => ?_⟩) hHeld ?_
        rotate_left
        · have hcv := HCV1.out wx hSx; clear hSx; go_simp; (try with_reducible rfl)
        simp only [Act.put, List.setIfInBounds_toArray, List.set_cons_zero, List.set_cons_succ]
        refine wpAnyH_take (i := 14) (v := ?_) (by simp; rfl) (by kernel_rfl) (by kernel_rfl) (by kernel_rfl) (by exact fun _ _ _ h => h) (Or.inl ⟨by rfl, fun wx hSx => ?_⟩) hHeld ?_
        rotate_left
        · clear hSx; go_simp; (try with_reducible rfl)
        simp only [Act.put, List.setIfInBounds_toArray, List.set_cons_zero, List.set_cons_succ]
        refine wpAnyH_take (i := 15) (v := ?_) (by simp; rfl) (by kernel_rfl) (by kernel_rfl) (by kernel_rfl) (by exact fun _ _ _ h => h) (Or.inl ⟨by rfl, fun wx hSx => ?_⟩) hHeld ?_
        rotate_left
        · have hcv := HCV2.out wx hSx; clear hSx; go_simp; (try with_reducible rfl)
        simp only [Act.put, List.setIfInBounds_toArray, List.set_cons_zero, List.set_cons_succ]
        refine wpAnyH_take (i := 16) (v := ?_) (by simp; rfl) (by kernel_rfl) (by kernel_rfl) (by kernel_rfl) (by exact fun _ _ _ h => h) (Or.inl ⟨by rfl, fun wx hSx => ?_⟩) hHeld ?_
        rotate_left
        · clear hSx; go_simp; (try with_reducible rfl)
        simp only [Act.put, List.setIfInBounds_toArray, List.set_cons_zero, List.set_cons_succ]
        refine wpAnyH_take (i := 17) (v := ?_) (by simp; rfl) (by kernel_rfl) (by kernel_rfl) (by kernel_rfl) (by exact fun _ _ _ h => h) (Or.inl ⟨by rfl, fun wx hSx => ?_⟩) hHeld ?_
        rotate_left
        · obtain ⟨s0, s1, s2, s3, s4, s5⟩ := HVC0.out wx (HUX.out.trans (hSx.mono HUX.out.size)); clear hSx; go_simp; (try with_reducible rfl)
        simp only [Act.put, List.setIfInBounds_toArray, List.set_cons_zero, List.set_cons_succ]
        refine wpAnyH_take (i := 18) (v := ?_) (by simp; rfl) (by kernel_rfl) (by kernel_rfl) (by kernel_rfl) (by exact fun _ _ _ h => h) (Or.inl ⟨by rfl, fun wx hSx => ?_⟩) hHeld ?_
        rotate_left
        · obtain ⟨s0, s1, s2, s3, s4, s5⟩ := HOC0.out wx (HUX.out.trans (hSx.mono HUX.out.size)); clear hSx; go_simp; (try with_reducible rfl)
        simp only [Act.put, List.setIfInBounds_toArray, List.set_cons_zero, List.set_cons_succ]
        refine wpAnyH_ready (rs := [19]) (by kernel_rfl) (by simp) ?_
        refine AllReadyH.cons (by simp; rfl) (fun K0 hK0 => ?_) AllReadyH.nil
        go_simp
        refine (p_viewsame (cap := cap1) (cap2 := cap2) (HCR1.out.below (HUX.out.trans (HB2.out.mono HUX.out.size))) (HCR2.out.below (HUX.out.trans (HB2.out.mono HUX.out.size))) HL1.out HL2.out HM1.out R1 C1 row1 col1 R2 C2 row2 col2 vis1 vis2).mono ?_
        rintro e Y2 ⟨rfl, hb⟩
        rw [HSE.out]
        have HB3 := Lib.hid (HB2.out.trans (hb.mono HB2.out.size))
        clear hb
        refine hK0.out _ _ HB3.out (fun _ => ?_)
        clear hK0 K0 hHeld
        have hHeld := HB3.out
        refine wpAnyH_take (i := 20) (v := ?_) (by simp; rfl) (by kernel_rfl) (by kernel_rfl) (by kernel_rfl) (by exact fun _ _ _ h => h) (Or.inl ⟨by rfl, fun wx hSx => ?_⟩) hHeld ?_
        rotate_left
        · clear hSx; go_simp; (try with_reducible rfl)
        simp only [Act.put, List.setIfInBounds_toArray, List.set_cons_zero, List.set_cons_succ]
        refine wpAnyH_take (i := 21) (v := ?_) (by simp; rfl) (by kernel_rfl) (by kernel_rfl) (by kernel_rfl) (by exact fun _ _ _ h => h) (Or.inl ⟨by rfl, fun wx hSx => ?_⟩) hHeld ?_
        rotate_left
        · clear hSx; go_simp; (try with_reducible rfl)
        simp only [Act.put, List.setIfInBounds_toArray, List.set_cons_zero, List.set_cons_succ]
        refine wpAnyH_take (i := 22) (v := ?_) (by simp; rfl) (by kernel_rfl) (by kernel_rfl) (by kernel_rfl) (by exact fun _ _ _ h => h) (Or.inl ⟨by rfl, fun wx hSx => ?_⟩) hHeld ?_
        rotate_left
        · clear hSx; go_simp; (try with_reducible rfl)
        simp only [Act.put, List.setIfInBounds_toArray, List.set_cons_zero, List.set_cons_succ]
        refine wpAnyH_done (by kernel_rfl) ?_ _
        go_wp2
        go_meet
        exact Lib.hid (HUX.out.trans (HB3.out.mono HUX.out.size))
      case rest =>
        clear HSB
        have HSB := hcut
        clear hcut
        go_wp2_with fail
        refine (p_viewread ((HRB.out.below (HB.out.trans (HSB.out.mono HB.out.size))).keep' (Nat.le_trans HB.out.size HSB.out.size)) HLN.out.1 HLN.out.2.1 HLN.out.2.2.1 HLN.out.2.2.2 HBB.out (HTB.out.below HSB.out HTB.out.big)).mono ?_
        intro e w4 hrd
        rcases hrd with ⟨Ra, Ca, rowa, cola, visa, La, A3, n3, c3, hva, rfl, hn3, hcr3, hb4⟩ | ⟨hno, rfl, hb4⟩
        · have hba := (Below.refl w4.heap.size w4).alloc (Nat.le_refl _) (.cells #[.int .i64 Ra, .int .i64 Ca, .slice A3 n3 c3, .int .i64 rowa, .int .i64 cola, .bool visa] 24)
          have HT3 := Lib.hid (heap_alloc_new w4 (.cells #[.int .i64 Ra, .int .i64 Ca, .slice A3 n3 c3, .int .i64 rowa, .int .i64 cola, .bool visa] 24))
          have HSB2 := Lib.hid (HSB.out.trans ((hb4.trans (hba.mono hb4.size)).mono HSB.out.size))
          have HC3 := Lib.hid (hcr3.below hba)
          have HVA := Lib.hid hva
          have HN3 := Lib.hid hn3
          obtain ⟨tb, htb⟩ : ∃ t, w4.heap.size = t := ⟨_, rfl⟩
          clear hba hb4 hcr3 hva hn3 HSB
          have HSB := HSB2
          clear HSB2
          go_upto_region 10 with fail
          simp only [htb] at HT3 ⊢
          generalize (w4.alloc (.cells #[.int .i64 Ra, .int .i64 Ca, .slice A3 n3 c3, .int .i64 rowa, .int .i64 cola, .bool visa] 24)) = W5 at HT3 HSB HC3 ⊢
          clear htb
          obtain ⟨s0, s1, s2, s3, s4, s5⟩ := six_cells HT3.out
          go_wp2_with fail
          refine (p_viewwrite (cap := c3) HC3.out HN3.out.symm (fun c hc => (HVA.out.2.1 c hc).1) (HTB.out.below HSB.out HTB.out.big) Ra Ca rowa cola visa HVA.out.1).mono ?_
          rintro e w6 ⟨u6, rfl, o6⟩
          rw [← HVA.out.2.2] at o6
          obtain ⟨A6, c6, rfl, hc1, hc2, hrb6⟩ := bytes8 o6
          have HR6 := Lib.hid hrb6
          have HSB2 := Lib.hid (HSB.out.trans (o6.below.mono HSB.out.size))
          rw [HLN.out.1]
          clear o6 hc1 hc2 hrb6 s0 s1 s2 s3 s4 s5 HSB
          have HSB := HSB2
          clear HSB2
          go_wp2_with fail
          refine (alive_any _ (HTB.out.below HSB.out HTB.out.big)).mono ?_
          rintro e w9 ⟨rfl, b9⟩
          have hcv1 := conv_text (w := w9) HLN.out.1 c6 (RI.below (by exact HR6.out) b9)
          have hcv2 := conv_text (w := w9) HLN.out.1 cap (RI.below (by exact HRB.out) (HB.out.trans ((HSB.out.trans (b9.mono HSB.out.size)).mono HB.out.size)))
          generalize strOfNums bs = S at hcv1 hcv2
          have sS : (S.toList == S.toList) = true := by simp
          have HB9 := Lib.hid (HB.out.trans ((HSB.out.trans (b9.mono HSB.out.size)).mono HB.out.size))
          clear b9
          go_wp2
          go_ret
          exact ⟨by rfl, HB9.out⟩
        · have hba := (Below.refl w4.heap.size w4).alloc (Nat.le_refl _) (.cells #[.int .i64 0, .int .i64 0, .slice none 0 0, .int .i64 0, .int .i64 0, .bool false] 24)
          have HSB2 := Lib.hid (HSB.out.trans ((hb4.trans (hba.mono hb4.size)).mono HSB.out.size))
          have HT3 := Lib.hid (heap_alloc_new w4 (.cells #[.int .i64 0, .int .i64 0, .slice none 0 0, .int .i64 0, .int .i64 0, .bool false] 24))
          obtain ⟨tb, htb⟩ : ∃ t, w4.heap.size = t := ⟨_, rfl⟩
          clear hba hb4 hno HSB
          have HSB := HSB2
          clear HSB2
          go_upto_region 10 with fail
          simp only [htb] at HT3 ⊢
          generalize (w4.alloc (.cells #[.int .i64 0, .int .i64 0, .slice none 0 0, .int .i64 0, .int .i64 0, .bool false] 24)) = W5 at HT3 HSB ⊢
          clear htb
          obtain ⟨s0, s1, s2, s3, s4, s5⟩ := six_cells HT3.out
          go_wp2_with fail
          refine (p_viewwrite_no (L := []) (A := none) (n := 0) (cap := 0) (fun h => absurd h (by simp)) rfl (by decide) (fun c h => absurd h (by simp)) 0 0 0 0 false (by decide +kernel)).mono ?_
          rintro e w6 ⟨rfl, b6⟩
          have HSB2 := Lib.hid (HSB.out.trans (b6.mono HSB.out.size))
          clear HSB b6 s0 s1 s2 s3 s4 s5
          have HSB := HSB2
          clear HSB2
          go_wp2_with fail
          refine (alive_any _ (HTB.out.below HSB.out HTB.out.big)).mono ?_
          rintro e w9 ⟨rfl, b9⟩
          have HB9 := Lib.hid (HB.out.trans ((HSB.out.trans (b9.mono HSB.out.size)).mono HB.out.size))
          clear b9
          go_wp2
          go_ret
          exact ⟨by rfl, HB9.out⟩
    | false =>
      refine (p_viewwrite_no (cap := cap2) (HCR2.out.below HSB.out) HL2.out HM2.out HOK2.out R2 C2 row2 col2 vis2 HQ2.out).mono ?_
      rintro e w3 ⟨rfl, b3⟩
      have HSB2 := Lib.hid (HSB.out.trans (b3.mono HSB.out.size))
      have HR4b := Lib.hid (show RI .u8 w3 A4 X4 from RI.below (by exact HR4.out) b3)
      clear b3
      clear HSB HR4 y0 y1 y2 y3 y4 y5
      have HSB := HSB2
      clear HSB2
      go_upto_if 44 with fail
      go_cut [] (fun wx => Hid (Below U.heap.size U wx))
      case first =>
        go_wp2_with fail
        refine (p_viewread (show RB w3 w3.heap.size A4 X4 from HR4b.out) HM4.out HLE.out HC4.out.1 HC4.out.2 HBY.out (HTB.out.below HSB.out HTB.out.big)).mono ?_
        intro e w4 hrd
        rcases hrd with ⟨Ra, Ca, rowa, cola, visa, La, A3, n3, c3, hva, rfl, hn3, hcr3, hb4⟩ | ⟨hno, _⟩
        rotate_left
        · exact absurd HV4.out (hno _ _ _ _ _ _)
        obtain ⟨e1, e2, e3, e4, e5, e6⟩ := isView_inj HV4.out hva
        subst e1 e2 e3 e4 e5 e6
        have hba := (Below.refl w4.heap.size w4).alloc (Nat.le_refl _) (.cells #[.int .i64 R1, .int .i64 C1, .slice A3 n3 c3, .int .i64 row1, .int .i64 col1, .bool vis1] 24)
        have hT3 := heap_alloc_new w4 (.cells #[.int .i64 R1, .int .i64 C1, .slice A3 n3 c3, .int .i64 row1, .int .i64 col1, .bool vis1] 24)
        have hd := (Below.refl (w4.alloc (.cells #[.int .i64 R1, .int .i64 C1, .slice A3 n3 c3, .int .i64 row1, .int .i64 col1, .bool vis1] 24)).heap.size (w4.alloc (.cells #[.int .i64 R1, .int .i64 C1, .slice A3 n3 c3, .int .i64 row1, .int .i64 col1, .bool vis1] 24))).drew
        have HT3 := Lib.hid ((hd.block _ (lt_of_block hT3)).trans hT3)
        have HUX := Lib.hid ((HSB.out.trans ((hb4.trans (hba.mono hb4.size)).mono HSB.out.size)).trans (hd.mono (HSB.out.trans ((hb4.trans (hba.mono hb4.size)).mono HSB.out.size)).size))
        have HC3 := Lib.hid ((hcr3.below hba).below hd)
        have HN3 := Lib.hid hn3.symm
        have HM3 := Lib.hid (show n3 ≤ 9223372036854775807 from by have := (rightW_parts HQ1.out).2.2.2.1; omega)
        have HR4c := Lib.hid (show RI .u8 _ A4 X4 from RI.below (RI.below (RI.below (by exact HR4b.out) hb4) hba) hd)
        obtain ⟨tb, htb⟩ : ∃ t, w4.heap.size = t := ⟨_, rfl⟩
        clear hba hb4 hcr3 hn3 hva hT3 hd
        go_upto_region 7 with fail
        simp only [htb] at HT3 ⊢
        clear htb
        refine wp_region_held_drew (S := fun W => Below (w4.alloc (.cells #[.int .i64 R1, .int .i64 C1, .slice A3 n3 c3, .int .i64 row1, .int .i64 col1, .bool vis1] 24)).drew.heap.size (w4.alloc (.cells #[.int .i64 R1, .int .i64 C1, .slice A3 n3 c3, .int .i64 row1, .int .i64 col1, .bool vis1] 24)).drew W) (by kernel_rfl) (Below.refl _ _) (fun hHeld => ?_)
        generalize (w4.alloc (.cells #[.int .i64 R1, .int .i64 C1, .slice A3 n3 c3, .int .i64 row1, .int .i64 col1, .bool vis1] 24)).drew = X at HT3 HUX HC3 HR4c hHeld ⊢
        have HBX := Lib.hid (Below.refl X.heap.size X)
        have HCV1 := Lib.hid (fun (Y : World) (hY : Below X.heap.size X Y) => conv_text (w := Y) HM4.out c4 (RI.below HR4c.out hY))
        refine wpAnyH_take (i := 0) (v := ?_) (by simp; rfl) (by kernel_rfl) (by kernel_rfl) (by kernel_rfl) (by exact fun _ _ _ h => h) (Or.inl ⟨by rfl, fun wx hSx => ?_⟩) hHeld ?_
        rotate_left
        · clear hSx; go_simp; (try with_reducible rfl)
        simp only [Act.put, List.setIfInBounds_toArray, List.set_cons_zero, List.set_cons_succ]
        refine wpAnyH_take (i := 1) (v := ?_) (by simp; rfl) (by kernel_rfl) (by kernel_rfl) (by kernel_rfl) (by exact fun _ _ _ h => h) (Or.inl ⟨by rfl, fun wx hSx => ?_⟩) hHeld ?_
        rotate_left
        · clear hSx; go_simp; (try with_reducible rfl)
        simp only [Act.put, List.setIfInBounds_toArray, List.set_cons_zero, List.set_cons_succ]
        refine wpAnyH_take (i := 2) (v := ?_) (by simp; rfl) (by kernel_rfl) (by kernel_rfl) (by kernel_rfl) (by exact fun _ _ _ h => h) (Or.inl ⟨by rfl, fun wx hSx => ?_⟩) hHeld ?_
        rotate_left
        · clear hSx; go_simp; (try with_reducible rfl)
        simp only [Act.put, List.setIfInBounds_toArray, List.set_cons_zero, List.set_cons_succ]
        refine wpAnyH_take (i := 3) (v := ?_) (by simp; rfl) (by kernel_rfl) (by kernel_rfl) (by kernel_rfl) (by exact fun _ _ _ h => h) (Or.inl ⟨by rfl, fun wx hSx => ?_⟩) hHeld ?_
        rotate_left
        · obtain ⟨s0, s1, s2, s3, s4, s5⟩ := six_cells ((hSx.block _ (lt_of_block HT3.out)).trans HT3.out); clear hSx; go_simp; (try with_reducible rfl)
        simp only [Act.put, List.setIfInBounds_toArray, List.set_cons_zero, List.set_cons_succ]
        refine wpAnyH_take (i := 4) (v := ?_) (by simp; rfl) (by kernel_rfl) (by kernel_rfl) (by kernel_rfl) (by exact fun _ _ _ h => h) (Or.inl ⟨by rfl, fun wx hSx => ?_⟩) hHeld ?_
        rotate_left
        · obtain ⟨s0, s1, s2, s3, s4, s5⟩ := HVC0.out wx (HUX.out.trans (hSx.mono HUX.out.size)); clear hSx; go_simp; (try with_reducible rfl)
        simp only [Act.put, List.setIfInBounds_toArray, List.set_cons_zero, List.set_cons_succ]
        refine wpAnyH_ready (rs := [5]) (by kernel_rfl) (by simp) ?_
        refine AllReadyH.cons (by simp; rfl) (fun K0 hK0 => ?_) AllReadyH.nil
        go_simp
        refine (p_viewsame (cap := c3) (cap2 := cap1) (HC3.out.below HBX.out) (HCR1.out.below (HUX.out.trans (HBX.out.mono HUX.out.size))) HN3.out HL1.out HM3.out R1 C1 row1 col1 R1 C1 row1 col1 vis1 vis1).mono ?_
        rintro e Y1 ⟨rfl, hb⟩
        rw [same_self]
        have HB2 := Lib.hid (HBX.out.trans (hb.mono HBX.out.size))
        clear hb
        refine hK0.out _ _ HB2.out (fun _ => ?_)
        clear hK0 K0 hHeld
        have hHeld := HB2.out
        refine wpAnyH_take (i := 6) (v := ?_) (by simp; rfl) (by kernel_rfl) (by kernel_rfl) (by kernel_rfl) (by exact fun _ _ _ h => h) (Or.inl ⟨by rfl, fun wx hSx => ?_⟩) hHeld ?_
        rotate_left
        · clear hSx; go_simp; (try with_reducible rfl)
        simp only [Act.put, List.setIfInBounds_toArray, List.set_cons_zero, List.set_cons_succ]
        refine wpAnyH_take (i := 7) (v := ?_) (by simp; rfl) (by kernel_rfl) (by kernel_rfl) (by kernel_rfl) (by exact fun _ _ _ h => h) (Or.inl ⟨by rfl, fun wx hSx => ?_⟩) hHeld ?_
        rotate_left
        · clear hSx; go_simp; (try with_reducible rfl)
        simp only [Act.put, List.setIfInBounds_toArray, List.set_cons_zero, List.set_cons_succ]
        refine wpAnyH_take (i := 8) (v := ?_) (by simp; rfl) (by kernel_rfl) (by kernel_rfl) (by kernel_rfl) (by exact fun _ _ _ h => h) (Or.inl ⟨by rfl, fun wx hSx => ?_⟩) hHeld ?_
        rotate_left
        · clear hSx; go_simp; (try with_reducible rfl)
        simp only [Act.put, List.setIfInBounds_toArray, List.set_cons_zero, List.set_cons_succ]
        refine wpAnyH_take (i := 9) (v := ?_) (by simp; rfl) (by kernel_rfl) (by kernel_rfl) (by kernel_rfl) (by exact fun _ _ _ h => h) (Or.inl ⟨by rfl, fun wx hSx => ?_⟩) hHeld ?_
        rotate_left
        · clear hSx; go_simp; (try with_reducible rfl)
        simp only [Act.put, List.setIfInBounds_toArray, List.set_cons_zero, List.set_cons_succ]
        refine wpAnyH_take (i := 10) (v := ?_) (by simp; rfl) (by kernel_rfl) (by kernel_rfl) (by kernel_rfl) (by exact fun _ _ _ h => h) (Or.inl ⟨by rfl, fun wx hSx => ?_⟩) hHeld ?_
        rotate_left
        · clear hSx; go_simp; (try with_reducible rfl)
        simp only [Act.put, List.setIfInBounds_toArray, List.set_cons_zero, List.set_cons_succ]
        refine wpAnyH_take (i := 11) (v := ?_) (by simp; rfl) (by kernel_rfl) (by kernel_rfl) (by kernel_rfl) (by exact fun _ _ _ h => h) (Or.inl ⟨by rfl, fun wx hSx => ?_⟩) hHeld ?_
        rotate_left
        · clear hSx; go_simp; (try with_reducible rfl)
        simp only [Act.put, List.setIfInBounds_toArray, List.set_cons_zero, List.set_cons_succ]
        refine wpAnyH_take (i := 12) (v := undef) (by simp; rfl) (by kernel_rfl) (by kernel_rfl) (by kernel_rfl) (by exact fun _ _ _ h => h) (Or.inr ⟨by rfl, rfl⟩) hHeld ?_
        simp only [Act.put, List.setIfInBounds_toArray, List.set_cons_zero, List.set_cons_succ]
        refine wpAnyH_take (i := 13) (v := undef) (by simp; rfl) (by kernel_rfl) (by kernel_rfl) (by kernel_rfl) (by exact fun _ _ _ h => h) (Or.inr ⟨by rfl, rfl⟩) hHeld ?_
        simp only [Act.put, List.setIfInBounds_toArray, List.set_cons_zero, List.set_cons_succ]
        refine wpAnyH_take (i := 14) (v := undef) (by simp; rfl) (by kernel_rfl) (by kernel_rfl) (by kernel_rfl) (by exact fun _ _ _ h => h) (Or.inr ⟨by rfl, rfl⟩) hHeld ?_
        simp only [Act.put, List.setIfInBounds_toArray, List.set_cons_zero, List.set_cons_succ]
        refine wpAnyH_take (i := 15) (v := undef) (by simp; rfl) (by kernel_rfl) (by kernel_rfl) (by kernel_rfl) (by exact fun _ _ _ h => h) (Or.inr ⟨by rfl, rfl⟩) hHeld ?_
        simp only [Act.put, List.setIfInBounds_toArray, List.set_cons_zero, List.set_cons_succ]
        refine wpAnyH_take (i := 16) (v := undef) (by simp; rfl) (by kernel_rfl) (by kernel_rfl) (by kernel_rfl) (by exact fun _ _ _ h => h) (Or.inr ⟨by rfl, rfl⟩) hHeld ?_
        simp only [Act.put, List.setIfInBounds_toArray, List.set_cons_zero, List.set_cons_succ]
        refine wpAnyH_take (i := 17) (v := undef) (by simp; rfl) (by kernel_rfl) (by kernel_rfl) (by kernel_rfl) (by exact fun _ _ _ h => h) (Or.inr ⟨by rfl, rfl⟩) hHeld ?_
        simp only [Act.put, List.setIfInBounds_toArray, List.set_cons_zero, List.set_cons_succ]
        refine wpAnyH_take (i := 18) (v := undef) (by simp; rfl) (by kernel_rfl) (by kernel_rfl) (by kernel_rfl) (by exact fun _ _ _ h => h) (Or.inr ⟨by rfl, rfl⟩) hHeld ?_
        simp only [Act.put, List.setIfInBounds_toArray, List.set_cons_zero, List.set_cons_succ]
        refine wpAnyH_take (i := 19) (v := undef) (by simp; rfl) (by kernel_rfl) (by kernel_rfl) (by kernel_rfl) (by exact fun _ _ _ h => h) (Or.inr ⟨by rfl, rfl⟩) hHeld ?_
        simp only [Act.put, List.setIfInBounds_toArray, List.set_cons_zero, List.set_cons_succ]
        refine wpAnyH_take (i := 20) (v := undef) (by simp; rfl) (by kernel_rfl) (by kernel_rfl) (by kernel_rfl) (by exact fun _ _ _ h => h) (Or.inr ⟨by rfl, rfl⟩) hHeld ?_
        simp only [Act.put, List.setIfInBounds_toArray, List.set_cons_zero, List.set_cons_succ]
        refine wpAnyH_take (i := 21) (v := ?_) (by simp; rfl) (by kernel_rfl) (by kernel_rfl) (by kernel_rfl) (by exact fun _ _ _ h => h) (Or.inl ⟨by rfl, fun wx hSx => ?_⟩) hHeld ?_
        rotate_left
        · clear hSx; go_simp; (try with_reducible rfl)
        simp only [Act.put, List.setIfInBounds_toArray, List.set_cons_zero, List.set_cons_succ]
        refine wpAnyH_take (i := 22) (v := ?_) (by simp; rfl) (by kernel_rfl) (by kernel_rfl) (by kernel_rfl) (by exact fun _ _ _ h => h) (Or.inl ⟨by rfl, fun wx hSx => ?_⟩) hHeld ?_
        rotate_left
        · clear hSx; go_simp; (try with_reducible rfl)
        simp only [Act.put, List.setIfInBounds_toArray, List.set_cons_zero, List.set_cons_succ]
        refine wpAnyH_done (by kernel_rfl) ?_ _
        go_wp2
        go_meet
        exact Lib.hid (HUX.out.trans (HB2.out.mono HUX.out.size))
      case rest =>
        clear HSB
        have HSB := hcut
        clear hcut
        go_wp2_with fail
        refine (p_viewread ((HRB.out.below (HB.out.trans (HSB.out.mono HB.out.size))).keep' (Nat.le_trans HB.out.size HSB.out.size)) HLN.out.1 HLN.out.2.1 HLN.out.2.2.1 HLN.out.2.2.2 HBB.out (HTB.out.below HSB.out HTB.out.big)).mono ?_
        intro e w4 hrd
        rcases hrd with ⟨Ra, Ca, rowa, cola, visa, La, A3, n3, c3, hva, rfl, hn3, hcr3, hb4⟩ | ⟨hno, rfl, hb4⟩
        · have hba := (Below.refl w4.heap.size w4).alloc (Nat.le_refl _) (.cells #[.int .i64 Ra, .int .i64 Ca, .slice A3 n3 c3, .int .i64 rowa, .int .i64 cola, .bool visa] 24)
          have HT3 := Lib.hid (heap_alloc_new w4 (.cells #[.int .i64 Ra, .int .i64 Ca, .slice A3 n3 c3, .int .i64 rowa, .int .i64 cola, .bool visa] 24))
          have HSB2 := Lib.hid (HSB.out.trans ((hb4.trans (hba.mono hb4.size)).mono HSB.out.size))
          have HC3 := Lib.hid (hcr3.below hba)
          have HVA := Lib.hid hva
          have HN3 := Lib.hid hn3
          obtain ⟨tb, htb⟩ : ∃ t, w4.heap.size = t := ⟨_, rfl⟩
          clear hba hb4 hcr3 hva hn3 HSB
          have HSB := HSB2
          clear HSB2
          go_upto_region 10 with fail
          simp only [htb] at HT3 ⊢
          generalize (w4.alloc (.cells #[.int .i64 Ra, .int .i64 Ca, .slice A3 n3 c3, .int .i64 rowa, .int .i64 cola, .bool visa] 24)) = W5 at HT3 HSB HC3 ⊢
          clear htb
          obtain ⟨s0, s1, s2, s3, s4, s5⟩ := six_cells HT3.out
          go_wp2_with fail
          refine (p_viewwrite (cap := c3) HC3.out HN3.out.symm (fun c hc => (HVA.out.2.1 c hc).1) (HTB.out.below HSB.out HTB.out.big) Ra Ca rowa cola visa HVA.out.1).mono ?_
          rintro e w6 ⟨u6, rfl, o6⟩
          rw [← HVA.out.2.2] at o6
          obtain ⟨A6, c6, rfl, hc1, hc2, hrb6⟩ := bytes8 o6
          have HR6 := Lib.hid hrb6
          have HSB2 := Lib.hid (HSB.out.trans (o6.below.mono HSB.out.size))
          rw [HLN.out.1]
          clear o6 hc1 hc2 hrb6 s0 s1 s2 s3 s4 s5 HSB
          have HSB := HSB2
          clear HSB2
          go_wp2_with fail
          refine (alive_any _ (HTB.out.below HSB.out HTB.out.big)).mono ?_
          rintro e w9 ⟨rfl, b9⟩
          have hcv1 := conv_text (w := w9) HLN.out.1 c6 (RI.below (by exact HR6.out) b9)
          have hcv2 := conv_text (w := w9) HLN.out.1 cap (RI.below (by exact HRB.out) (HB.out.trans ((HSB.out.trans (b9.mono HSB.out.size)).mono HB.out.size)))
          generalize strOfNums bs = S at hcv1 hcv2
          have sS : (S.toList == S.toList) = true := by simp
          have HB9 := Lib.hid (HB.out.trans ((HSB.out.trans (b9.mono HSB.out.size)).mono HB.out.size))
          clear b9
          go_wp2
          go_ret
          exact ⟨by rfl, HB9.out⟩
        · have hba := (Below.refl w4.heap.size w4).alloc (Nat.le_refl _) (.cells #[.int .i64 0, .int .i64 0, .slice none 0 0, .int .i64 0, .int .i64 0, .bool false] 24)
          have HSB2 := Lib.hid (HSB.out.trans ((hb4.trans (hba.mono hb4.size)).mono HSB.out.size))
          have HT3 := Lib.hid (heap_alloc_new w4 (.cells #[.int .i64 0, .int .i64 0, .slice none 0 0, .int .i64 0, .int .i64 0, .bool false] 24))
          obtain ⟨tb, htb⟩ : ∃ t, w4.heap.size = t := ⟨_, rfl⟩
          clear hba hb4 hno HSB
          have HSB := HSB2
          clear HSB2
          go_upto_region 10 with fail
          simp only [htb] at HT3 ⊢
          generalize (w4.alloc (.cells #[.int .i64 0, .int .i64 0, .slice none 0 0, .int .i64 0, .int .i64 0, .bool false] 24)) = W5 at HT3 HSB ⊢
          clear htb
          obtain ⟨s0, s1, s2, s3, s4, s5⟩ := six_cells HT3.out
          go_wp2_with fail
          refine (p_viewwrite_no (L := []) (A := none) (n := 0) (cap := 0) (fun h => absurd h (by simp)) rfl (by decide) (fun c h => absurd h (by simp)) 0 0 0 0 false (by decide +kernel)).mono ?_
          rintro e w6 ⟨rfl, b6⟩
          have HSB2 := Lib.hid (HSB.out.trans (b6.mono HSB.out.size))
          clear HSB b6 s0 s1 s2 s3 s4 s5
          have HSB := HSB2
          clear HSB2
          go_wp2_with fail
          refine (alive_any _ (HTB.out.below HSB.out HTB.out.big)).mono ?_
          rintro e w9 ⟨rfl, b9⟩
          have HB9 := Lib.hid (HB.out.trans ((HSB.out.trans (b9.mono HSB.out.size)).mono HB.out.size))
          clear b9
          go_wp2
          go_ret
          exact ⟨by rfl, HB9.out⟩
  | false =>
    refine (p_viewwrite_no (cap := cap1) (HCR1.out.below HSB.out) HL1.out HM1.out HOK1.out R1 C1 row1 col1 vis1 HQ1.out).mono ?_
    rintro e w2 ⟨rfl, b2⟩
    have HSB2 := Lib.hid (HSB.out.trans (b2.mono HSB.out.size))
    clear HSB b2 x0 x1 x2 x3 x4 x5 y0 y1 y2 y3 y4 y5
    have HSB := HSB2
    clear HSB2
    obtain ⟨y0, y1, y2, y3, y4, y5⟩ := HOC0.out _ HSB.out
    go_wp2_with fail
    cases q2 with
    | true =>
      refine (p_viewwrite (cap := cap2) (HCR2.out.below HSB.out) HL2.out HOK2.out (HTB.out.below HSB.out HTB.out.big) R2 C2 row2 col2 vis2 HQ2.out).mono ?_
      rintro e w3 ⟨u5, rfl, o3⟩
      have HSB2 := Lib.hid (HSB.out.trans (o3.below.mono HSB.out.size))
      clear o3
      clear HSB y0 y1 y2 y3 y4 y5
      have HSB := HSB2
      clear HSB2
      go_upto_if 44 with fail
      go_cut [] (fun wx => Hid (Below U.heap.size U wx))
      case first =>
        go_wp2
        go_meet
        exact HSB
      case rest =>
        clear HSB
        have HSB := hcut
        clear hcut
        go_wp2_with fail
        refine (p_viewread ((HRB.out.below (HB.out.trans (HSB.out.mono HB.out.size))).keep' (Nat.le_trans HB.out.size HSB.out.size)) HLN.out.1 HLN.out.2.1 HLN.out.2.2.1 HLN.out.2.2.2 HBB.out (HTB.out.below HSB.out HTB.out.big)).mono ?_
        intro e w4 hrd
        rcases hrd with ⟨Ra, Ca, rowa, cola, visa, La, A3, n3, c3, hva, rfl, hn3, hcr3, hb4⟩ | ⟨hno, rfl, hb4⟩
        · have hba := (Below.refl w4.heap.size w4).alloc (Nat.le_refl _) (.cells #[.int .i64 Ra, .int .i64 Ca, .slice A3 n3 c3, .int .i64 rowa, .int .i64 cola, .bool visa] 24)
          have HT3 := Lib.hid (heap_alloc_new w4 (.cells #[.int .i64 Ra, .int .i64 Ca, .slice A3 n3 c3, .int .i64 rowa, .int .i64 cola, .bool visa] 24))
          have HSB2 := Lib.hid (HSB.out.trans ((hb4.trans (hba.mono hb4.size)).mono HSB.out.size))
          have HC3 := Lib.hid (hcr3.below hba)
          have HVA := Lib.hid hva
          have HN3 := Lib.hid hn3
          obtain ⟨tb, htb⟩ : ∃ t, w4.heap.size = t := ⟨_, rfl⟩
          clear hba hb4 hcr3 hva hn3 HSB
          have HSB := HSB2
          clear HSB2
          go_upto_region 10 with fail
          simp only [htb] at HT3 ⊢
          generalize (w4.alloc (.cells #[.int .i64 Ra, .int .i64 Ca, .slice A3 n3 c3, .int .i64 rowa, .int .i64 cola, .bool visa] 24)) = W5 at HT3 HSB HC3 ⊢
          clear htb
          obtain ⟨s0, s1, s2, s3, s4, s5⟩ := six_cells HT3.out
          go_wp2_with fail
          refine (p_viewwrite (cap := c3) HC3.out HN3.out.symm (fun c hc => (HVA.out.2.1 c hc).1) (HTB.out.below HSB.out HTB.out.big) Ra Ca rowa cola visa HVA.out.1).mono ?_
          rintro e w6 ⟨u6, rfl, o6⟩
          rw [← HVA.out.2.2] at o6
          obtain ⟨A6, c6, rfl, hc1, hc2, hrb6⟩ := bytes8 o6
          have HR6 := Lib.hid hrb6
          have HSB2 := Lib.hid (HSB.out.trans (o6.below.mono HSB.out.size))
          rw [HLN.out.1]
          clear o6 hc1 hc2 hrb6 s0 s1 s2 s3 s4 s5 HSB
          have HSB := HSB2
          clear HSB2
          go_wp2_with fail
          refine (alive_any _ (HTB.out.below HSB.out HTB.out.big)).mono ?_
          rintro e w9 ⟨rfl, b9⟩
          have hcv1 := conv_text (w := w9) HLN.out.1 c6 (RI.below (by exact HR6.out) b9)
          have hcv2 := conv_text (w := w9) HLN.out.1 cap (RI.below (by exact HRB.out) (HB.out.trans ((HSB.out.trans (b9.mono HSB.out.size)).mono HB.out.size)))
          generalize strOfNums bs = S at hcv1 hcv2
          have sS : (S.toList == S.toList) = true := by simp
          have HB9 := Lib.hid (HB.out.trans ((HSB.out.trans (b9.mono HSB.out.size)).mono HB.out.size))
          clear b9
          go_wp2
          go_ret
          exact ⟨by rfl, HB9.out⟩
        · have hba := (Below.refl w4.heap.size w4).alloc (Nat.le_refl _) (.cells #[.int .i64 0, .int .i64 0, .slice none 0 0, .int .i64 0, .int .i64 0, .bool false] 24)
          have HSB2 := Lib.hid (HSB.out.trans ((hb4.trans (hba.mono hb4.size)).mono HSB.out.size))
          have HT3 := Lib.hid (heap_alloc_new w4 (.cells #[.int .i64 0, .int .i64 0, .slice none 0 0, .int .i64 0, .int .i64 0, .bool false] 24))
          obtain ⟨tb, htb⟩ : ∃ t, w4.heap.size = t := ⟨_, rfl⟩
          clear hba hb4 hno HSB
          have HSB := HSB2
          clear HSB2
          go_upto_region 10 with fail
          simp only [htb] at HT3 ⊢
          generalize (w4.alloc (.cells #[.int .i64 0, .int .i64 0, .slice none 0 0, .int .i64 0, .int .i64 0, .bool false] 24)) = W5 at HT3 HSB ⊢
          clear htb
          obtain ⟨s0, s1, s2, s3, s4, s5⟩ := six_cells HT3.out
          go_wp2_with fail
          refine (p_viewwrite_no (L := []) (A := none) (n := 0) (cap := 0) (fun h => absurd h (by simp)) rfl (by decide) (fun c h => absurd h (by simp)) 0 0 0 0 false (by decide +kernel)).mono ?_
          rintro e w6 ⟨rfl, b6⟩
          have HSB2 := Lib.hid (HSB.out.trans (b6.mono HSB.out.size))
          clear HSB b6 s0 s1 s2 s3 s4 s5
          have HSB := HSB2
          clear HSB2
          go_wp2_with fail
          refine (alive_any _ (HTB.out.below HSB.out HTB.out.big)).mono ?_
          rintro e w9 ⟨rfl, b9⟩
          have HB9 := Lib.hid (HB.out.trans ((HSB.out.trans (b9.mono HSB.out.size)).mono HB.out.size))
          clear b9
          go_wp2
          go_ret
          exact ⟨by rfl, HB9.out⟩
    | false =>
      refine (p_viewwrite_no (cap := cap2) (HCR2.out.below HSB.out) HL2.out HM2.out HOK2.out R2 C2 row2 col2 vis2 HQ2.out).mono ?_
      rintro e w3 ⟨rfl, b3⟩
      have HSB2 := Lib.hid (HSB.out.trans (b3.mono HSB.out.size))
      clear b3
      clear HSB y0 y1 y2 y3 y4 y5
      have HSB := HSB2
      clear HSB2
      go_upto_if 44 with fail
      go_cut [] (fun wx => Hid (Below U.heap.size U wx))
      case first =>
        go_wp2
        go_meet
        exact HSB
      case rest =>
        clear HSB
        have HSB := hcut
        clear hcut
        go_wp2_with fail
        refine (p_viewread ((HRB.out.below (HB.out.trans (HSB.out.mono HB.out.size))).keep' (Nat.le_trans HB.out.size HSB.out.size)) HLN.out.1 HLN.out.2.1 HLN.out.2.2.1 HLN.out.2.2.2 HBB.out (HTB.out.below HSB.out HTB.out.big)).mono ?_
        intro e w4 hrd
        rcases hrd with ⟨Ra, Ca, rowa, cola, visa, La, A3, n3, c3, hva, rfl, hn3, hcr3, hb4⟩ | ⟨hno, rfl, hb4⟩
        · have hba := (Below.refl w4.heap.size w4).alloc (Nat.le_refl _) (.cells #[.int .i64 Ra, .int .i64 Ca, .slice A3 n3 c3, .int .i64 rowa, .int .i64 cola, .bool visa] 24)
          have HT3 := Lib.hid (heap_alloc_new w4 (.cells #[.int .i64 Ra, .int .i64 Ca, .slice A3 n3 c3, .int .i64 rowa, .int .i64 cola, .bool visa] 24))
          have HSB2 := Lib.hid (HSB.out.trans ((hb4.trans (hba.mono hb4.size)).mono HSB.out.size))
          have HC3 := Lib.hid (hcr3.below hba)
          have HVA := Lib.hid hva
          have HN3 := Lib.hid hn3
          obtain ⟨tb, htb⟩ : ∃ t, w4.heap.size = t := ⟨_, rfl⟩
          clear hba hb4 hcr3 hva hn3 HSB
          have HSB := HSB2
          clear HSB2
          go_upto_region 10 with fail
          simp only [htb] at HT3 ⊢
          generalize (w4.alloc (.cells #[.int .i64 Ra, .int .i64 Ca, .slice A3 n3 c3, .int .i64 rowa, .int .i64 cola, .bool visa] 24)) = W5 at HT3 HSB HC3 ⊢
          clear htb
          obtain ⟨s0, s1, s2, s3, s4, s5⟩ := six_cells HT3.out
          go_wp2_with fail
          refine (p_viewwrite (cap := c3) HC3.out HN3.out.symm (fun c hc => (HVA.out.2.1 c hc).1) (HTB.out.below HSB.out HTB.out.big) Ra Ca rowa cola visa HVA.out.1).mono ?_
          rintro e w6 ⟨u6, rfl, o6⟩
          rw [← HVA.out.2.2] at o6
          obtain ⟨A6, c6, rfl, hc1, hc2, hrb6⟩ := bytes8 o6
          have HR6 := Lib.hid hrb6
          have HSB2 := Lib.hid (HSB.out.trans (o6.below.mono HSB.out.size))
          rw [HLN.out.1]
          clear o6 hc1 hc2 hrb6 s0 s1 s2 s3 s4 s5 HSB
          have HSB := HSB2
          clear HSB2
          go_wp2_with fail
          refine (alive_any _ (HTB.out.below HSB.out HTB.out.big)).mono ?_
          rintro e w9 ⟨rfl, b9⟩
          have hcv1 := conv_text (w := w9) HLN.out.1 c6 (RI.below (by exact HR6.out) b9)
          have hcv2 := conv_text (w := w9) HLN.out.1 cap (RI.below (by exact HRB.out) (HB.out.trans ((HSB.out.trans (b9.mono HSB.out.size)).mono HB.out.size)))
          generalize strOfNums bs = S at hcv1 hcv2
          have sS : (S.toList == S.toList) = true := by simp
          have HB9 := Lib.hid (HB.out.trans ((HSB.out.trans (b9.mono HSB.out.size)).mono HB.out.size))
          clear b9
          go_wp2
          go_ret
          exact ⟨by rfl, HB9.out⟩
        · have hba := (Below.refl w4.heap.size w4).alloc (Nat.le_refl _) (.cells #[.int .i64 0, .int .i64 0, .slice none 0 0, .int .i64 0, .int .i64 0, .bool false] 24)
          have HSB2 := Lib.hid (HSB.out.trans ((hb4.trans (hba.mono hb4.size)).mono HSB.out.size))
          have HT3 := Lib.hid (heap_alloc_new w4 (.cells #[.int .i64 0, .int .i64 0, .slice none 0 0, .int .i64 0, .int .i64 0, .bool false] 24))
          obtain ⟨tb, htb⟩ : ∃ t, w4.heap.size = t := ⟨_, rfl⟩
          clear hba hb4 hno HSB
          have HSB := HSB2
          clear HSB2
          go_upto_region 10 with fail
          simp only [htb] at HT3 ⊢
          generalize (w4.alloc (.cells #[.int .i64 0, .int .i64 0, .slice none 0 0, .int .i64 0, .int .i64 0, .bool false] 24)) = W5 at HT3 HSB ⊢
          clear htb
          obtain ⟨s0, s1, s2, s3, s4, s5⟩ := six_cells HT3.out
          go_wp2_with fail
          refine (p_viewwrite_no (L := []) (A := none) (n := 0) (cap := 0) (fun h => absurd h (by simp)) rfl (by decide) (fun c h => absurd h (by simp)) 0 0 0 0 false (by decide +kernel)).mono ?_
          rintro e w6 ⟨rfl, b6⟩
          have HSB2 := Lib.hid (HSB.out.trans (b6.mono HSB.out.size))
          clear HSB b6 s0 s1 s2 s3 s4 s5
          have HSB := HSB2
          clear HSB2
          go_wp2_with fail
          refine (alive_any _ (HTB.out.below HSB.out HTB.out.big)).mono ?_
          rintro e w9 ⟨rfl, b9⟩
          have HB9 := Lib.hid (HB.out.trans ((HSB.out.trans (b9.mono HSB.out.size)).mono HB.out.size))
          clear b9
          go_wp2
          go_ret
          exact ⟨by rfl, HB9.out⟩
end Go.Proofs.YtcblohmenfdafaaDoor
