/-
  Proved here: the document's own goes of base.
-/
import Derived.Test.YtidjcbnjadlbaaaBr
namespace Go.Proofs.Ytidjcbnjadlbaaa
open Go.RowKit
def moreL (i : Nat) : List Int := if i = 1 then [65, 65, 65] else if i = 2 then [65, 61] else if i = 3 then [61] else []
def twoL (i : Nat) : List Int := if i = 0 then [65, 65] else if i = 1 then [61, 61] else if i = 2 then [65] else if i = 3 then [61] else if i = 4 then [81, 61, 61] else [65, 65, 61]
theorem moreL_b (i : Nat) : IsBytes (moreL i) ∧ (moreL i).length ≤ 3 := by
  unfold moreL
  split
  · exact ⟨by unfold IsBytes; decide, by decide⟩
  · split
    · exact ⟨by unfold IsBytes; decide, by decide⟩
    · split
      · exact ⟨by unfold IsBytes; decide, by decide⟩
      · exact ⟨fun x hx => (nomatch hx), by decide⟩
theorem twoL_b (i : Nat) : IsBytes (twoL i) ∧ (twoL i).length ≤ 3 := by
  unfold twoL
  split
  · exact ⟨by unfold IsBytes; decide, by decide⟩
  · split
    · exact ⟨by unfold IsBytes; decide, by decide⟩
    · split
      · exact ⟨by unfold IsBytes; decide, by decide⟩
      · split
        · exact ⟨by unfold IsBytes; decide, by decide⟩
        · split
          · exact ⟨by unfold IsBytes; decide, by decide⟩
          · exact ⟨by unfold IsBytes; decide, by decide⟩
theorem bytes_cat {a b : List Int} (ha : IsBytes a) (hb : IsBytes b) : IsBytes (a ++ b) := fun x hx => by
  rcases List.mem_append.1 hx with h | h
  · exact ha x h
  · exact hb x h
theorem pre_cat {t M : List Int} (h : goodB (t ++ M) = true) : preB t = true := by
  have := pre_prefix (good_pre _ h) t.length
  rwa [List.take_left'] at this
  rfl
/-- Which completions are asked. -/
def call1 (r i : Nat) : Prop := (moreL i).length + r = 4 ∨ (r = 0 ∧ i = 0)
def call2 (r i : Nat) : Prop := (twoL i).length + r = 4
theorem pre_none {t : List Int} {r : Nat} (hr : t.length % 4 = r) (h1 : ∀ j, j < 4 → call1 r j → goodB (t ++ moreL j) = false) (h2 : ∀ j, j < 6 → call2 r j → goodB (t ++ twoL j) = false) : preB t = false := by
  have : r = 0 ∨ r = 1 ∨ r = 2 ∨ r = 3 := by omega
  rcases this with rfl | rfl | rfl | rfl
  · rw [pre_mod0 t hr]
    have := h1 0 (by omega) (.inr ⟨rfl, rfl⟩)
    simpa [moreL] using this
  · rw [comp1 t hr]
    have a := h1 1 (by omega) (.inl (by decide))
    have b := h2 4 (by omega) (by unfold call2; decide)
    have c := h2 5 (by omega) (by unfold call2; decide)
    simp only [moreL, twoL] at a b c
    simp at a b c
    rw [a, b, c]; rfl
  · rw [comp2 t hr]
    have a := h1 2 (by omega) (.inl (by decide))
    have b := h2 0 (by omega) (by unfold call2; decide)
    have c := h2 1 (by omega) (by unfold call2; decide)
    simp only [moreL, twoL] at a b c
    simp at a b c
    rw [a, b, c]; rfl
  · rw [comp3 t hr]
    have a := h1 3 (by omega) (.inl (by decide))
    have b := h2 2 (by omega) (by unfold call2; decide)
    simp only [moreL, twoL] at a b
    simp at a b
    rw [a, b]; rfl
theorem row_at {w : World} {g : Nat} {cs : Array Value} {t : TypeId} {fr : Nat × Nat} (h : w.heap[g]? = some (.cells cs t fr)) (i : Nat) : w.cell? ⟨g, i, none⟩ = cs[i]? := by unfold World.cell?; simp [h]
def moreV : Array Value := #[.string ⟨#[]⟩, .string ⟨#[65, 65, 65]⟩, .string ⟨#[65, 61]⟩, .string ⟨#[61]⟩]
def twoV : Array Value := #[.string ⟨#[65, 65]⟩, .string ⟨#[61, 61]⟩, .string ⟨#[65]⟩, .string ⟨#[61]⟩, .string ⟨#[81, 61, 61]⟩, .string ⟨#[65, 65, 61]⟩]
theorem moreV_at {i : Nat} (h : i < 4) : moreV[i]? = some (.string (strOfNums (moreL i))) := by
  have : i = 0 ∨ i = 1 ∨ i = 2 ∨ i = 3 := by omega
  rcases this with rfl | rfl | rfl | rfl <;> rfl
theorem twoV_at {i : Nat} (h : i < 6) : twoV[i]? = some (.string (strOfNums (twoL i))) := by
  have : i = 0 ∨ i = 1 ∨ i = 2 ∨ i = 3 ∨ i = 4 ∨ i = 5 := by omega
  rcases this with rfl | rfl | rfl | rfl | rfl | rfl <;> rfl
set_option maxRecDepth 100000 in
set_option maxHeartbeats 4000000 in
theorem rgoes_any {w : World} {t : List Int} (ht : IsBytes t) (hl : t.length ≤ 99000) :
    Calls Try.prog 40 #[.string (strOfNums t)] w fun e w' => e = .returned (.bool (preB t)) ∧ Below w.heap.size w w' := by
  have HT := Lib.hid ht
  have hsz : (strOfNums t).size = t.length := strOfNums_size t
  obtain ⟨n, hnn⟩ : ∃ n, t.length = n := ⟨_, rfl⟩
  rw [hnn] at hsz hl
  have HL := Lib.hid (fun (_ : Unit) => hnn)
  obtain ⟨r, hr⟩ : ∃ r, n % 4 = r := ⟨_, rfl⟩
  have HRR := Lib.hid (fun (_ : Unit) => hr)
  have a1 : ((n : Int)).tmod 4 = (r : Int) := by rw [Int.tmod_eq_emod_of_nonneg (by omega)]; omega
  have a2 : IntKind.i64.wrap (r : Int) = (r : Int) := IntWalk.i64_in _ (by omega)
  have r4 : r < 4 := by omega
  obtain ⟨G, hG⟩ : ∃ G, preB t = G := ⟨_, rfl⟩
  have HG := Lib.hid (fun (_ : Unit) => hG)
  rw [hG]
  clear hG
  by_cases h0 : t = []
  · have e : G = true := by rw [← HG.out (), h0]; rfl
    subst e
    have hs : (strOfNums t).toList.isEmpty = true := by rw [h0, ByteArray.toList_eq, strOfNums_data]; rfl
    clear h0 hnn hr
    go_enter Try.func40, Try.ntmps40
    go_wp2
    go_ret
    exact ⟨rfl, Below.refl _ _⟩
  · have hs : (strOfNums t).toList.isEmpty = false := by
      rw [ByteArray.toList_eq, strOfNums_data]
      cases t with
      | nil => exact absurd rfl h0
      | cons x r => rfl
    clear h0 hnn hr
    have hB1 : Below w.heap.size w (w.alloc (.cells moreV 9)) := (Below.refl _ _).alloc (Nat.le_refl _) _
    have hrow1 : (w.alloc (.cells moreV 9)).heap[w.heap.size]? = some (.cells moreV 9 (0, 0)) := heap_alloc_new _ _
    have H1 := Lib.hid (And.intro hB1 hrow1)
    clear hB1 hrow1
    go_enter Try.func40, Try.ntmps40
    go_wp2
    change Hid (Below w.heap.size w (w.alloc (.cells #[.string ⟨#[]⟩, .string ⟨#[65, 65, 65]⟩, .string ⟨#[65, 61]⟩, .string ⟨#[61]⟩] 9)) ∧ _) at H1
    go_loopw [5] (fun iv wr => ∃ i : Nat, iv = .int .i64 i ∧ i ≤ 4 ∧ Hid (∀ j, j < i → call1 r j → goodB (t ++ moreL j) = false) ∧ Hid (Below w.heap.size w wr ∧ wr.heap[w.heap.size]? = some (.cells moreV 9 (0, 0)))) (fun iv _ => 4 - (intOf iv).toNat)
    case atStart => exact ⟨0, rfl, by omega, Lib.hid (fun j hj => absurd hj (by omega)), H1⟩
    case round =>
      obtain ⟨i, rfl, hi, HJ, HB⟩ := hrel
      clear H1
      by_cases hin : i < 4
      · have e0 : wr.cell? ⟨w.heap.size, i, none⟩ = some (.string (strOfNums (moreL i))) := (row_at HB.out.2 i).trans (moreV_at hin)
        obtain ⟨M, hM⟩ : ∃ M, moreL i = M := ⟨_, rfl⟩
        have hMb := moreL_b i
        rw [hM] at e0 hMb
        obtain ⟨hMb, hMl⟩ := hMb
        have hms : (strOfNums M).size = M.length := strOfNums_size M
        obtain ⟨lm, hlm⟩ : ∃ l, M.length = l := ⟨_, rfl⟩
        rw [hlm] at hms hMl
        have HM := Lib.hid (fun (_ : Unit) => And.intro hM hlm)
        have d1 : decide ((i : Int) < 4) = true := by simp; omega
        have g3 : (0 : Int) ≤ (i : Int) := by omega
        have g4 : (i : Int) < 4 := by omega
        have hct := cat_run t M (by rw [HL.out (), hlm]; omega)
        have HRD := Lib.hid (fun w : World => rread14_any (w := w) (bytes_cat HT.out hMb) (by rw [List.length_append, HL.out (), hlm]; omega))
        obtain ⟨g, hg⟩ : ∃ g, goodB (t ++ M) = g := ⟨_, rfl⟩
        rw [hg] at HRD
        have HGD := Lib.hid (fun (_ : Unit) => hg)
        obtain ⟨wA, rfl⟩ : ∃ W, W = wr := ⟨_, rfl⟩
        clear hM hg hMb hlm
        by_cases hc1 : lm + r = 4
        · have b1 : (((lm : Int) + (r : Int)) == 4) = true := by simp; omega
          have b1' : ((lm + r) == 4) = true := by simp; omega
          clear hc1
          go_wp2_with fail
          refine (HRD.out _).mono ?_
          rintro e w3 ⟨v3, rfl, hO3⟩
          have HB3 := Lib.hid (show Below w.heap.size w w3 ∧ w3.heap[w.heap.size]? = some (.cells moreV 9 (0, 0)) from ⟨HB.out.1.trans (hO3.below.mono HB.out.1.size), (hO3.below.block _ (lt_of_block HB.out.2)).trans HB.out.2⟩)
          clear hO3 HRD HB
          cases g
          · have HJ' : Hid (∀ j, j < i + 1 → call1 r j → goodB (t ++ moreL j) = false) := Lib.hid (fun j hj hc => by
              rcases Nat.lt_or_ge j i with h | h
              · exact HJ.out j h hc
              · rw [show j = i by omega, (HM.out ()).1]; exact HGD.out ())
            clear HJ HM HGD
            go_wp2
            go_roundw
            case rel => exact ⟨i + 1, by go_num, by omega, HJ', HB3⟩
            case measure => simp [intOf]; omega
          · have e : G = true := by rw [← HG.out ()]; exact pre_cat (HGD.out ())
            subst e
            clear HJ HM HGD
            go_wp2
            go_ret
            exact ⟨rfl, HB3.out.1⟩
        · have b1 : (((lm : Int) + (r : Int)) == 4) = false := by simp; omega
          have b1' : ((lm + r) == 4) = false := by simp; omega
          by_cases hc2 : r = 0
          · have b2 : ((r : Int) == 0) = true := by simp; omega
            have b2' : (r == 0) = true := by simp; omega
            by_cases hc3 : i = 0
            · have b3 : ((i : Int) == 0) = true := by simp; omega
              have b3' : (i == 0) = true := by simp; omega
              clear hc1 hc2 hc3
              go_wp2_with fail
              refine (HRD.out _).mono ?_
              rintro e w3 ⟨v3, rfl, hO3⟩
              have HB3 := Lib.hid (show Below w.heap.size w w3 ∧ w3.heap[w.heap.size]? = some (.cells moreV 9 (0, 0)) from ⟨HB.out.1.trans (hO3.below.mono HB.out.1.size), (hO3.below.block _ (lt_of_block HB.out.2)).trans HB.out.2⟩)
              clear hO3 HRD HB
              cases g
              · have HJ' : Hid (∀ j, j < i + 1 → call1 r j → goodB (t ++ moreL j) = false) := Lib.hid (fun j hj hc => by
                  rcases Nat.lt_or_ge j i with h | h
                  · exact HJ.out j h hc
                  · rw [show j = i by omega, (HM.out ()).1]; exact HGD.out ())
                clear HJ HM HGD
                go_wp2
                go_roundw
                case rel => exact ⟨i + 1, by go_num, by omega, HJ', HB3⟩
                case measure => simp [intOf]; omega
              · have e : G = true := by rw [← HG.out ()]; exact pre_cat (HGD.out ())
                subst e
                clear HJ HM HGD
                go_wp2
                go_ret
                exact ⟨rfl, HB3.out.1⟩
            · have b3 : ((i : Int) == 0) = false := by simp; omega
              have b3' : (i == 0) = false := by simp; omega
              have HJ' : Hid (∀ j, j < i + 1 → call1 r j → goodB (t ++ moreL j) = false) := Lib.hid (fun j hj hc => by
                rcases Nat.lt_or_ge j i with h | h
                · exact HJ.out j h hc
                · exfalso
                  rw [show j = i by omega] at hc
                  unfold call1 at hc
                  rw [(HM.out ()).1, (HM.out ()).2] at hc
                  omega)
              clear HJ HM HGD HRD hc1 hc2 hc3
              go_wp2
              go_roundw
              case rel => exact ⟨i + 1, by go_num, by omega, HJ', HB⟩
              case measure => simp [intOf]; omega
          · have b2 : ((r : Int) == 0) = false := by simp; omega
            have b2' : (r == 0) = false := by simp; omega
            have HJ' : Hid (∀ j, j < i + 1 → call1 r j → goodB (t ++ moreL j) = false) := Lib.hid (fun j hj hc => by
              rcases Nat.lt_or_ge j i with h | h
              · exact HJ.out j h hc
              · exfalso
                rw [show j = i by omega] at hc
                unfold call1 at hc
                rw [(HM.out ()).1, (HM.out ()).2] at hc
                omega)
            clear HJ HM HGD HRD hc1 hc2
            go_wp2
            go_roundw
            case rel => exact ⟨i + 1, by go_num, by omega, HJ', HB⟩
            case measure => simp [intOf]; omega
      · have hi4 : i = 4 := by omega
        have d1 : decide ((i : Int) < 4) = false := by simp; omega
        have HJ1 : Hid (∀ j, j < 4 → call1 r j → goodB (t ++ moreL j) = false) := Lib.hid (fun j hj => HJ.out j (by omega))
        obtain ⟨W, hW⟩ : ∃ W, wr.alloc (.cells twoV 9) = W := ⟨_, rfl⟩
        have hB2 : Below w.heap.size w W := hW ▸ (HB.out.1.alloc HB.out.1.size _)
        have hrow2 : W.heap[wr.heap.size]? = some (.cells twoV 9 (0, 0)) := hW ▸ heap_alloc_new _ _
        have hsw : w.heap.size ≤ wr.heap.size := HB.out.1.size
        have hWW : wr.alloc (.cells #[.string ⟨#[65, 65]⟩, .string ⟨#[61, 61]⟩, .string ⟨#[65]⟩, .string ⟨#[61]⟩, .string ⟨#[81, 61, 61]⟩, .string ⟨#[65, 65, 61]⟩] 9) = W := hW
        have H2 := Lib.hid (And.intro hB2 hrow2)
        obtain ⟨z, hz⟩ : ∃ z, wr.heap.size = z := ⟨_, rfl⟩
        rw [hz] at H2
        have HZ := Lib.hid (fun (_ : Unit) => hsw)
        clear hB2 hrow2 HJ HB hi hin hW hi4
        go_wp2
        try rw [hWW]
        try rw [hz]
        clear hWW hz hsw
        go_loopw [9] (fun iv wx => ∃ i : Nat, iv = .int .i64 i ∧ i ≤ 6 ∧ Hid (∀ j, j < i → call2 r j → goodB (t ++ twoL j) = false) ∧ Hid (Below w.heap.size w wx ∧ wx.heap[z]? = some (.cells twoV 9 (0, 0)))) (fun iv _ => 6 - (intOf iv).toNat)
        case atStart => exact ⟨0, rfl, by omega, Lib.hid (fun j hj => absurd hj (by omega)), H2⟩
        case round =>
          obtain ⟨i, rfl, hi, HJ, HB⟩ := hrel
          clear H2
          by_cases hin : i < 6
          · have e0 : wr.cell? ⟨z, i, none⟩ = some (.string (strOfNums (twoL i))) := (row_at HB.out.2 i).trans (twoV_at hin)
            obtain ⟨M, hM⟩ : ∃ M, twoL i = M := ⟨_, rfl⟩
            have hMb := twoL_b i
            rw [hM] at e0 hMb
            obtain ⟨hMb, hMl⟩ := hMb
            have hms : (strOfNums M).size = M.length := strOfNums_size M
            obtain ⟨lm, hlm⟩ : ∃ l, M.length = l := ⟨_, rfl⟩
            rw [hlm] at hms hMl
            have HM := Lib.hid (fun (_ : Unit) => And.intro hM hlm)
            have d1 : decide ((i : Int) < 6) = true := by simp; omega
            have g3 : (0 : Int) ≤ (i : Int) := by omega
            have g4 : (i : Int) < 6 := by omega
            have hct := cat_run t M (by rw [HL.out (), hlm]; omega)
            have HRD := Lib.hid (fun w : World => rread14_any (w := w) (bytes_cat HT.out hMb) (by rw [List.length_append, HL.out (), hlm]; omega))
            obtain ⟨g, hg⟩ : ∃ g, goodB (t ++ M) = g := ⟨_, rfl⟩
            rw [hg] at HRD
            have HGD := Lib.hid (fun (_ : Unit) => hg)
            obtain ⟨wA, rfl⟩ : ∃ W, W = wr := ⟨_, rfl⟩
            clear hM hg hMb hlm
            by_cases hc1 : lm + r = 4
            · have b1 : (((lm : Int) + (r : Int)) == 4) = true := by simp; omega
              have b1' : ((lm + r) == 4) = true := by simp; omega
              clear hc1
              go_wp2_with fail
              refine (HRD.out _).mono ?_
              rintro e w3 ⟨v3, rfl, hO3⟩
              have HB3 := Lib.hid (show Below w.heap.size w w3 ∧ w3.heap[z]? = some (.cells twoV 9 (0, 0)) from ⟨HB.out.1.trans (hO3.below.mono HB.out.1.size), (hO3.below.block _ (lt_of_block HB.out.2)).trans HB.out.2⟩)
              clear hO3 HRD HB
              cases g
              · have HJ' : Hid (∀ j, j < i + 1 → call2 r j → goodB (t ++ twoL j) = false) := Lib.hid (fun j hj hc => by
                  rcases Nat.lt_or_ge j i with h | h
                  · exact HJ.out j h hc
                  · rw [show j = i by omega, (HM.out ()).1]; exact HGD.out ())
                clear HJ HM HGD
                go_wp2
                go_roundw
                case rel => exact ⟨i + 1, by go_num, by omega, HJ', HB3⟩
                case measure => simp [intOf]; omega
              · have e : G = true := by rw [← HG.out ()]; exact pre_cat (HGD.out ())
                subst e
                clear HJ HM HGD
                go_wp2
                go_ret
                exact ⟨rfl, HB3.out.1⟩
            · have b1 : (((lm : Int) + (r : Int)) == 4) = false := by simp; omega
              have b1' : ((lm + r) == 4) = false := by simp; omega
              have HJ' : Hid (∀ j, j < i + 1 → call2 r j → goodB (t ++ twoL j) = false) := Lib.hid (fun j hj hc => by
                rcases Nat.lt_or_ge j i with h | h
                · exact HJ.out j h hc
                · exfalso
                  rw [show j = i by omega] at hc
                  unfold call2 at hc
                  rw [(HM.out ()).1, (HM.out ()).2] at hc
                  omega)
              clear HJ HM HGD HRD hc1
              go_wp2
              go_roundw
              case rel => exact ⟨i + 1, by go_num, by omega, HJ', HB⟩
              case measure => simp [intOf]; omega
          · have d1 : decide ((i : Int) < 6) = false := by simp; omega
            have e : G = false := by
              rw [← HG.out ()]
              exact pre_none (by rw [HL.out ()]; exact HRR.out ()) HJ1.out (fun j hj => HJ.out j (by omega))
            subst e
            clear HJ HJ1
            go_wp2
            go_ret
            exact ⟨rfl, HB.out.1⟩
end Go.Proofs.Ytidjcbnjadlbaaa
