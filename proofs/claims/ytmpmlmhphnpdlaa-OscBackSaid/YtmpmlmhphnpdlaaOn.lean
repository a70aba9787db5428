/-
  Proved here: what the program reads behind a clipping's number, and what a text asks for.
-/
import Derived.Test.YtmpmlmhphnpdlaaOm
import Derived.Laws.CopyOwn
import Derived.Laws.ResultCell
set_option linter.unusedSimpArgs false
set_option linter.unusedVariables false
namespace Go.Proofs.Ytmpmlmhphnpdlaa
open Go.RowKit
theorem results_cell_tmp {P : Program} {fn : Func} {p q : Tmp} {ty : TypeId} (h : fn.results = #[.cell p ty, .tmp q]) (tmps : Array Value) (w : World) (g : Nat) (t : TypeId) (cs : Array Value) (fr : Nat × Nat) (d : TypeDesc) (u : Value)
    (hp : tmps.getD p undef = .pointer (some ⟨g, 0, none⟩)) (hq : tmps.getD q undef = u) (hg : w.heap[g]? = some (.cells cs t fr))
    (hu : P.underlying ty = some d) (hd : (match d with | .struct _ | .array _ _ => true | _ => false) = true) (hi : (P.info? ty).map (·.size) = some cs.size) :
    (results fn tmps).run P w = .ok (.tuple #[.agg cs, u]) w := by
  have hp' : tmps[p]?.getD undef = .pointer (some ⟨g, 0, none⟩) := by simpa using hp
  have hq' : tmps[q]?.getD undef = u := by simpa using hq
  simp [results, h, hp', hq', asAddr, run_loadVar_row w g t ty cs fr d hg hu hd hi]
theorem dw_at {t : List Int} {i : Nat} (hi : i < t.length) (h : ∀ j, j < i → whichB (t.getD j 0) = true) (hn : whichB (t.getD i 0) = false) : t.dropWhile whichB = t.drop i := by
  have e : t.take i ++ t.drop i = t := List.take_append_drop i t
  have h1 : ∀ x ∈ t.take i, whichB x = true := fun x hx => by
    obtain ⟨j, hj, rfl⟩ := List.getElem_of_mem hx
    rw [List.length_take] at hj
    have := h j (by omega)
    simpa [List.getD, show j < t.length by omega] using this
  rw [← e, List.dropWhile_append_of_pos h1, e, List.drop_eq_getElem_cons hi, List.dropWhile_cons_of_neg]
  simpa [List.getD, hi] using hn
theorem dw_nil : ∀ t : List Int, (∀ x ∈ t, whichB x = true) → t.dropWhile whichB = []
  | [], _ => rfl
  | x :: r, h => by
    rw [List.dropWhile_cons_of_pos (h x (by simp))]
    exact dw_nil r (fun y hy => h y (by simp [hy]))
theorem dw_end {t : List Int} (h : ∀ j, j < t.length → whichB (t.getD j 0) = true) : t.dropWhile whichB = [] := dw_nil t fun x hx => by
  obtain ⟨j, hj, rfl⟩ := List.getElem_of_mem hx
  simpa [List.getD, hj] using h j hj
/-- What is behind the letters and the semicolon. -/
def behS (t : List Int) : List Int × Bool := if (t.dropWhile whichB).getD 0 0 = 59 then ((t.dropWhile whichB).drop 1, true) else ([], false)
theorem clip_beh (t : List Int) : clipS t = if (behS t).2 = true then decA (behS t).1 else noneA 3 := by
  unfold clipS behS
  split <;> simp
theorem beh_no {t : List Int} {i : Nat} (hi : i < t.length) (h : ∀ j, j < i → whichB (t.getD j 0) = true) (hn : whichB (t.getD i 0) = false) (h9 : t.getD i 0 ≠ 59) : behS t = ([], false) := by
  unfold behS
  rw [dw_at hi h hn, if_neg]
  simpa [List.getD] using h9
theorem beh_at {t : List Int} {i : Nat} (hi : i < t.length) (h : ∀ j, j < i → whichB (t.getD j 0) = true) (h9 : t.getD i 0 = 59) : behS t = (t.drop (i + 1), true) := by
  unfold behS
  rw [dw_at hi h (by rw [h9]; rfl), if_pos (by simpa [List.getD] using h9), List.drop_drop]
theorem beh_end {t : List Int} (h : ∀ j, j < t.length → whichB (t.getD j 0) = true) : behS t = ([], false) := by
  unfold behS
  rw [dw_end h, if_neg (by simp)]
theorem beh_sub (t : List Int) : (∀ x ∈ (behS t).1, x ∈ t) ∧ (behS t).1.length ≤ t.length := by
  have hs : List.Sublist (t.dropWhile whichB) t := List.dropWhile_sublist _
  unfold behS
  split
  · exact ⟨fun x hx => hs.subset (List.mem_of_mem_drop hx), by have := hs.length_le; simp; omega⟩
  · exact ⟨fun x hx => by simp at hx, by simp⟩
theorem str_drop (t : List Int) (i : Nat) (hi : i ≤ t.length) : (strOfNums t).extract i t.length = strOfNums (t.drop i) := by
  have := str_back (t.take i) (t.drop i)
  rw [List.take_append_drop, List.length_take, List.length_drop] at this
  rw [show min i t.length = i by omega, show i + (t.length - i) = t.length by omega] at this
  exact this
theorem which_cases {q : Int} (h : whichB q = true) : q = 99 ∨ q = 112 ∨ q = 115 ∨ q = 113 ∨ q = 48 ∨ q = 49 ∨ q = 50 ∨ q = 51 ∨ q = 52 ∨ q = 53 ∨ q = 54 ∨ q = 55 ∨ q = 56 ∨ q = 57 := by
  unfold whichB at h
  simp at h
  omega
set_option maxRecDepth 100000 in
set_option maxHeartbeats 4000000 in
theorem behind_any {w : World} {t : List Int} (ht : IsBytes t) (hl : t.length ≤ 1000000) :
    Calls Try.prog 77 #[.string (strOfNums t)] w fun e w' => e = .returned (.tuple #[.string (strOfNums (behS t).1), .bool (behS t).2]) ∧ Below w.heap.size w w' := by
  have HT := Lib.hid ht
  have HAT := Lib.hid (fun (i : Nat) (hi : i < t.length) (h : i < (strOfNums t).size) => str_at ht hi h)
  have HDR := Lib.hid (fun (i : Nat) (hi : i ≤ t.length) => str_drop t i hi)
  obtain ⟨s, hs⟩ : ∃ s, strOfNums t = s := ⟨_, rfl⟩
  have hsz : s.size = t.length := by rw [← hs]; exact strOfNums_size t
  obtain ⟨n, hn⟩ : ∃ n, t.length = n := ⟨_, rfl⟩
  rw [hs] at HAT HDR ⊢
  rw [hn] at hsz hl
  have HN := Lib.hid (fun (_ : Unit) => hn)
  obtain ⟨R, hR⟩ : ∃ R, strOfNums (behS t).1 = R := ⟨_, rfl⟩
  obtain ⟨bb, hbb⟩ : ∃ R, (behS t).2 = R := ⟨_, rfl⟩
  have HR := Lib.hid (fun (r : List Int × Bool) (h : behS t = r) => show R = strOfNums r.1 ∧ bb = r.2 from by rw [← hR, ← hbb, h]; exact ⟨rfl, rfl⟩)
  rw [hR, hbb]
  have HSZ := Lib.hid (fun (_ : Unit) => hsz)
  clear ht hs hn hR hbb
  go_enter Try.func77, Try.ntmps77
  go_wp2
  go_step3
  go_wp2
  go_step3
  go_wp2
  go_loopw [4, 5] (fun _ _ wr => ∃ i : Nat, wr = w.iter s i ∧ i ≤ n ∧ Hid (∀ j, j < i → whichB (t.getD j 0) = true)) (fun _ _ wr => n - wr.iterPos w.heap.size)
  case atStart => exact ⟨0, rfl, by omega, Lib.hid (fun j hj => absurd hj (by omega))⟩
  case round =>
    obtain ⟨i, rfl, hi, HP⟩ := hrel
    by_cases hin : i < n
    · have hiz : i < s.size := by rw [HSZ.out ()]; exact hin
      have hat := HAT.out i (by rw [HN.out ()]; exact hin) hiz
      obtain ⟨q, hq⟩ : ∃ q, t.getD i 0 = q := ⟨_, rfl⟩
      rw [hq] at hat
      have HQ := Lib.hid (fun (_ : Unit) => hq)
      have g3 : (0 : Int) ≤ (i : Int) := by omega
      have g4 : (i : Int) < (n : Int) := by omega
      have w1 : IntKind.i64.wrap ((i : Int) + 1) = (i : Int) + 1 := IntWalk.i64_in _ (by omega)
      clear hq
      by_cases hq8 : q < 128
      · have q0 : 0 ≤ q := by rw [← hat]; omega
        have hnext : ∀ ty, (Instr.next (.pointer (some ⟨w.heap.size, 0, none⟩)) true ty).run Try.prog (w.iter s i) = .ok (.tuple #[.bool true, .int .i64 i, .int .i32 q]) (w.iter s (i + 1)) := fun ty => by
          rw [run_next_ascii w s i ty hiz (by omega)]; rw [hat]
        clear hat
        cases hw : whichB q with
        | true =>
          have HP' : Hid (∀ j, j < i + 1 → whichB (t.getD j 0) = true) := Lib.hid (fun j hj => by
            rcases Nat.lt_or_ge j i with e | e
            · exact HP.out j e
            · rw [show j = i by omega, HQ.out ()]; exact hw)
          have hc := which_cases hw
          clear hw HP HQ q0 hq8
          rcases hc with rfl | rfl | rfl | rfl | rfl | rfl | rfl | rfl | rfl | rfl | rfl | rfl | rfl | rfl
          all_goals
            go_wp2
            go_roundw
            case rel => exact ⟨i + 1, rfl, by omega, HP'⟩
            case measure => simp; omega
        | false =>
          by_cases h9 : q = 59
          · subst h9
            obtain ⟨e1, e2⟩ := HR.out _ (beh_at (by rw [HN.out ()]; exact hin) HP.out (HQ.out ()))
            have e3 := HDR.out (i + 1) (by rw [HN.out ()]; omega)
            rw [HN.out ()] at e3
            dsimp only at e1 e2
            rw [← e3] at e1
            clear e3 HP HQ hw q0 hq8
            have c5 : (0 : Int) ≤ (i : Int) + 1 := by omega
            have c6 : (i : Int) + 1 ≤ (n : Int) := by omega
            subst e1 e2
            go_wp2
            first | rw [Exit.noGoto_ret] | skip
            go_ret2
            exact ⟨rfl, below_iter w s _⟩
          · obtain ⟨e1, e2⟩ := HR.out _ (beh_no (by rw [HN.out ()]; exact hin) HP.out (by rw [HQ.out ()]; exact hw) (by rw [HQ.out ()]; exact h9))
            have e1' : R = ByteArray.empty := e1
            clear e1
            have hne : q ≠ 99 ∧ q ≠ 112 ∧ q ≠ 115 ∧ q ≠ 113 ∧ q ≠ 48 ∧ q ≠ 49 ∧ q ≠ 50 ∧ q ≠ 51 ∧ q ≠ 52 ∧ q ≠ 53 ∧ q ≠ 54 ∧ q ≠ 55 ∧ q ≠ 56 ∧ q ≠ 57 := by
              refine ⟨?_, ?_, ?_, ?_, ?_, ?_, ?_, ?_, ?_, ?_, ?_, ?_, ?_, ?_⟩ <;> (intro e; subst e; exact absurd hw (by decide))
            obtain ⟨z0, z1, z2, z3, z4, z5, z6, z7, z8, z9, za, zb, zc, zd⟩ := hne
            clear HP HQ hw q0 hq8
            subst e1' e2
            go_wp2
            first | rw [Exit.noGoto_ret] | skip
            go_ret2
            exact ⟨rfl, below_iter w s _⟩
      · have hd := decode_high s i hiz (by omega)
        obtain ⟨c, hc⟩ : ∃ c, (Utf8.decode s i).1 = c := ⟨_, rfl⟩
        obtain ⟨k, hk⟩ : ∃ k, (Utf8.decode s i).2 = k := ⟨_, rfl⟩
        rw [hc, hk] at hd
        have hnext : ∀ ty, (Instr.next (.pointer (some ⟨w.heap.size, 0, none⟩)) true ty).run Try.prog (w.iter s i) = .ok (.tuple #[.bool true, .int .i64 i, .int .i32 c]) (w.iter s (i + k)) := fun ty => by
          rw [run_next_any w s i ty hiz, hc, hk]
        have hw : whichB q = false := by
          have : ¬ whichB q = true := fun e => by have := which_cases e; omega
          simpa using this
        obtain ⟨e1, e2⟩ := HR.out _ (beh_no (by rw [HN.out ()]; exact hin) HP.out (by rw [HQ.out ()]; exact hw) (by rw [HQ.out ()]; omega))
        have e1' : R = ByteArray.empty := e1
        clear e1
        have z0 : (c : Int) ≠ 99 := by omega
        have z1 : (c : Int) ≠ 112 := by omega
        have z2 : (c : Int) ≠ 115 := by omega
        have z3 : (c : Int) ≠ 113 := by omega
        have z4 : (c : Int) ≠ 48 := by omega
        have z5 : (c : Int) ≠ 49 := by omega
        have z6 : (c : Int) ≠ 50 := by omega
        have z7 : (c : Int) ≠ 51 := by omega
        have z8 : (c : Int) ≠ 52 := by omega
        have z9 : (c : Int) ≠ 53 := by omega
        have za : (c : Int) ≠ 54 := by omega
        have zb : (c : Int) ≠ 55 := by omega
        have zc : (c : Int) ≠ 56 := by omega
        have zd : (c : Int) ≠ 57 := by omega
        have ze : (c : Int) ≠ 59 := by omega
        clear HP HQ hw hd hc hk hat
        subst e1' e2
        go_wp2
        first | rw [Exit.noGoto_ret] | skip
        go_ret2
        exact ⟨rfl, below_iter w s _⟩
    · obtain rfl : i = n := by omega
      have hnext : ∀ ty, (Instr.next (.pointer (some ⟨w.heap.size, 0, none⟩)) true ty).run Try.prog (w.iter s i) = .ok (.tuple #[.bool false]) (w.iter s i) := fun ty => run_next_end w s i ty (by rw [HSZ.out ()]; omega)
      obtain ⟨e1, e2⟩ := HR.out _ (beh_end (by rw [HN.out ()]; exact HP.out))
      have e1' : R = ByteArray.empty := e1
      clear e1 HP
      subst e1' e2
      go_wp2
      first | rw [Exit.noGoto_ret] | skip
      go_ret2
      exact ⟨rfl, below_iter w s _⟩
end Go.Proofs.Ytmpmlmhphnpdlaa
