/-
  Proved here: looking a frame up in a Table (join), came, missing, isFull, Missing.
-/
import Derived.Test.YtikijkhblfgbpaaJt
namespace Go.Proofs.Ytikijkhblfgbpaa
open Go.RowKit Go.Maps Go.Sort

def getF (fs : List FV) (id : Int) : Option FV := fs.find? fun f => decide (f.id = id)
def valF : Option FV → Value
  | some f => .pointer (some ⟨f.g, 0, none⟩)
  | none => .pointer none
theorem getF_mem {fs : List FV} {id : Int} {f : FV} (h : getF fs id = some f) : f ∈ fs ∧ f.id = id := ⟨List.mem_of_find?_eq_some h, by simpa using List.find?_some h⟩
theorem atKey_dat (fs : List FV) (id : Int) (z : DataW Unit) : (dat fs).atKey (.int .u64 id) z = match getF fs id with | some f => .lit (.int .i64 f.g) | none => z := by
  unfold dat DataW.atKey getF
  induction fs with
  | nil => rfl
  | cons f r ih =>
    by_cases h : f.id = id
    · simp [h, Lit.sameKey]
    · simpa [h, Lit.sameKey] using ih
theorem RF_inv {v : Value} {o : Option FV} {ps : List MemPlace} (h : RF v = some ((match o with | some f => DataW.lit (.int .i64 f.g) | none => .lit (.int .i64 (-1))), ps)) : v = valF o := by
  unfold RF at h
  split at h
  · cases o with
    | none =>
      simp only [Option.some.injEq, Prod.mk.injEq, DataW.lit.injEq, Lit.int.injEq] at h
      have := h.1.2; omega
    | some f =>
      simp only [Option.some.injEq, Prod.mk.injEq, DataW.lit.injEq, Lit.int.injEq] at h
      rename_i g
      obtain rfl : g = f.g := by have := h.1.2; omega
      rfl
  · cases o with
    | none => rfl
    | some f =>
      simp only [Option.some.injEq, Prod.mk.injEq, DataW.lit.injEq, Lit.int.injEq] at h
      have := h.1.2; omega
  · cases h
theorem wf_u64 {x : Int} (h0 : 0 ≤ x) (h1 : x < 18446744073709551616) : (Lit.int .u64 x).wf = true := by
  have e1 : IntKind.u64.min = 0 := rfl
  have e2 : IntKind.u64.max = 18446744073709551615 := rfl
  simp [Lit.wf]
  omega
theorem keyOf_u64 {x : Int} (h0 : 0 ≤ x) (h1 : x < 18446744073709551616) : keyOf Try.prog 27 (.int .u64 x) = some (.int .u64 x) := by
  have := wf_u64 h0 h1
  have hU := underU
  simp [keyOf, hU, mapKey, this]

/-- 'frames[id]'. -/
theorem look_any {w : World} {b n : Nat} {fs : List FV} (h : w.ownsMap Try.prog 27 RF b n (dat fs)) (id : Int) (h0 : 0 ≤ id) (h1 : id < 18446744073709551616) :
    ∀ m, (Instr.lookup 45 (.map (some b)) (.int .u64 id) false).run Try.prog (w.drewN m) = .ok (valF (getF fs id)) (w.drewN m) := fun m => by
  have h' : (w.drewN m).ownsMap Try.prog 27 RF b n (dat fs) := h
  obtain ⟨v, ps, hrun, hv⟩ := h'.lookup (int_keyed underU) Try.underlying45 (z := .pointer none) (by kernel_rfl) (zd := .lit (.int .i64 (-1))) (zp := []) rfl (keyOf_u64 h0 h1)
  rw [atKey_dat] at hv
  rw [hrun, RF_inv hv]

/-- The cells of a frame. -/
theorem FrameAt.cells {w : World} {base : Nat} {f : FV} (h : FrameAt w base f) : f.g < w.heap.size ∧ w.cell? ⟨f.g, 0, none⟩ = some (.int .i64 f.ct) ∧ PS w w.heap.size (some ⟨f.g, 1, none⟩) f.ps := by
  obtain ⟨C, hC, hP⟩ := h.row
  have hl := (Array.getElem?_eq_some_iff.1 hC).1
  refine ⟨hl, by simp [World.cell?, hC], fun hn => ⟨f.g, 1, rfl, hl, fun i hi => ?_⟩⟩
  obtain ⟨h1, h2, h3, v, h4, h5⟩ := hP.toPC.at_ i hi
  obtain ⟨A', c', rfl, h6⟩ := h5
  have hc : ∀ j, w.cell? ⟨f.g, 1 + j, none⟩ = C[j]? := fun j => by simp [World.cell?, hC, Nat.add_comm 1 j]
  refine ⟨(hc _).trans h1, ?_, ?_, A', c', ?_, h6⟩
  · rw [show 1 + i * 4 + 1 = 1 + (i * 4 + 1) by omega]; exact (hc _).trans h2
  · rw [show 1 + i * 4 + 2 = 1 + (i * 4 + 2) by omega]; exact (hc _).trans h3
  · rw [show 1 + i * 4 + 3 = 1 + (i * 4 + 3) by omega]; exact (hc _).trans h4

def cameB (ps : List Prt) (i : Nat) : Bool := !((pAt ps i).ct == 0)
def missS (ps : List Prt) : Nat → Nat
  | 0 => 0
  | k + 1 => missS ps k + (if cameB ps k then 0 else 1)
theorem missS_le (ps : List Prt) : ∀ k, missS ps k ≤ k
  | 0 => Nat.le_refl _
  | k + 1 => by have := missS_le ps k; unfold missS; split <;> omega

theorem came_any {w : World} {base : Nat} {f : FV} (h : FrameAt w base f) (i : Nat) (hi : i < 64) : Calls Try.prog 35 #[.pointer (some ⟨f.g, 0, none⟩), .int .i64 i] w fun e w' => e = .returned (.bool (cameB f.ps i)) ∧ w = w' := by
  obtain ⟨ct, hct⟩ : ∃ ct, ct = (pAt f.ps i).ct := ⟨_, rfl⟩
  obtain ⟨hl, _, hP⟩ := h.cells
  have h64 := h.n64
  obtain ⟨b, off, e, _, hc⟩ := hP (by omega)
  injection e with e
  injection e with e1 e2
  subst e1; subst e2
  obtain ⟨_, _, c2, _⟩ := hc i (by omega)
  rw [← hct] at c2
  have HR := Lib.hid (show cameB f.ps i = !(ct == 0) by rw [hct]; rfl)
  clear hc hP h hct hl h64
  go_enter Try.func35, Try.ntmps35
  go_wp2
  go_ret
  exact ⟨by rw [HR.out]; first | rfl | simp, rfl⟩

theorem isFull_any {w : World} {base t : Nat} {T : TV} (h : TabAt w base t T) : Calls Try.prog 34 #[.pointer (some ⟨t, 0, none⟩)] w fun e w' => e = .returned (.bool (decide (4 ≤ T.fs.length))) ∧ w = w' := by
  obtain ⟨_, _, _, b, hbl, hc, hm⟩ := h.cells
  have hln : ∀ ty, (Builtin.len_ #[45] ty #[.map (some b)]).run Try.prog w = .ok (.int .i64 (T.fs.length : Nat)) w := fun ty => by
    have := hm.len Try.underlying45 ty
    rwa [size_dat] at this
  obtain ⟨n, hn⟩ : ∃ n, n = T.fs.length := ⟨_, rfl⟩
  rw [← hn] at hln ⊢
  have HR := Lib.hid (show decide (4 ≤ (n : Int)) = decide (4 ≤ n) by by_cases h4 : 4 ≤ n <;> simp [h4] <;> omega)
  clear hm h hn
  go_enter Try.func34, Try.ntmps34
  go_wp2
  go_ret
  exact ⟨by rw [← HR.out]; rfl, rfl⟩

theorem missing_any {w : World} {base : Nat} {f : FV} (h : FrameAt w base f) : Calls Try.prog 21 #[.pointer (some ⟨f.g, 0, none⟩)] w fun e w' => e = .returned (.int .i64 (missS f.ps f.ct : Nat)) ∧ w = w' := by
  obtain ⟨_, hc, _⟩ := h.cells
  have h1 := h.ct1
  obtain ⟨ct, hct⟩ : ∃ ct, ct = f.ct := ⟨_, rfl⟩
  rw [← hct] at hc h1 ⊢
  have HC := Lib.hid (fun i hi => came_any h i hi)
  clear h hct
  go_enter Try.func21, Try.ntmps21
  go_wp2
  go_loopw [3, 9] (fun c i wr => ∃ k : Nat, k ≤ ct ∧ c = .int .i64 (missS f.ps k : Nat) ∧ i = .int .i64 k ∧ w = wr) (fun _ i _ => ct - (intOf i).toNat)
  case atStart => exact ⟨0, by omega, rfl, rfl, rfl⟩
  case round =>
    obtain ⟨k, hk, rfl, rfl, rfl⟩ := hrel
    obtain ⟨m, hm⟩ : ∃ m, m = missS f.ps k := ⟨_, rfl⟩
    have hmk : m ≤ k := by rw [hm]; exact missS_le _ _
    rw [← hm]
    by_cases hlt : k < ct
    · have c1 := HC.out k (by omega)
      by_cases hB : cameB f.ps k = true
      · have HS := Lib.hid (show missS f.ps (k + 1) = m by rw [missS, if_pos hB, hm]; rfl)
        rw [hB] at c1
        have CC := Lib.hid c1
        clear c1 hB hm
        go_wp2_with (go_at_call 35; refine CC.out.mono ?_; rintro e w' ⟨rfl, rfl⟩)
        go_roundw
        case rel => exact ⟨k + 1, by omega, by rw [HS.out], by go_num, by first | rfl | trivial⟩
        case measure => simp [intOf]; omega
      · have HS := Lib.hid (show missS f.ps (k + 1) = m + 1 by rw [missS, if_neg hB, hm])
        rw [Bool.not_eq_true] at hB
        rw [hB] at c1
        have CC := Lib.hid c1
        clear c1 hB hm
        go_wp2_with (go_at_call 35; refine CC.out.mono ?_; rintro e w' ⟨rfl, rfl⟩)
        go_roundw
        case rel => exact ⟨k + 1, by omega, by rw [HS.out]; go_num, by go_num, by first | rfl | trivial⟩
        case measure => simp [intOf]; omega
    · obtain rfl : k = ct := by omega
      have HM := Lib.hid hm
      clear hm
      go_wp2
      go_ret
      exact ⟨by rw [← HM.out]; rfl, rfl⟩

theorem Missing_nil (id : Int) (w : World) : Calls Try.prog 15 #[.pointer none, .int .u64 id] w fun e w' => e = .returned (.int .i64 0) ∧ w = w' := by
  go_enter Try.func15, Try.ntmps15
  go_wp2_with (go_at_call 28; refine (isNone_nil _).mono ?_; rintro e w' ⟨rfl, rfl⟩)
  go_ret
  exact ⟨rfl, rfl⟩
def missO : Option FV → Nat
  | some f => missS f.ps f.ct
  | none => 0
theorem Missing_any {w : World} {base t : Nat} {T : TV} (h : TabAt w base t T) (id : Int) (h0 : 0 ≤ id) (h1 : id < 18446744073709551616) : Calls Try.prog 15 #[.pointer (some ⟨t, 0, none⟩), .int .u64 id] w fun e w' => e = .returned (.int .i64 (missO (getF T.fs id) : Nat)) ∧ w = w' := by
  have HN := Lib.hid (isNone_any h)
  obtain ⟨_, _, _, b, hbl, hc, hm⟩ := h.cells
  have hk := look_any hm id h0 h1 0
  obtain ⟨o, ho⟩ : ∃ o, o = getF T.fs id := ⟨_, rfl⟩
  rw [← ho] at hk ⊢
  change (Instr.lookup 45 (.map (some b)) (.int .u64 id) false).run Try.prog w = .ok (valF o) w at hk
  cases o with
  | none =>
    clear hm h ho
    simp only [valF] at hk
    go_enter Try.func15, Try.ntmps15
    go_wp2_with (go_at_call 28; refine HN.out.mono ?_; rintro e w' ⟨rfl, rfl⟩)
    go_ret
    exact ⟨rfl, rfl⟩
  | some f =>
    have HM := Lib.hid (missing_any (h.frames f (getF_mem ho.symm).1))
    clear hm h ho
    simp only [valF] at hk
    go_enter Try.func15, Try.ntmps15
    go_wp2_with (first
      | (go_at_call 28; refine HN.out.mono ?_; rintro e w' ⟨rfl, rfl⟩)
      | (go_at_call 21; refine HM.out.mono ?_; rintro e w' ⟨rfl, rfl⟩))
    go_ret
    exact ⟨rfl, rfl⟩

end Go.Proofs.Ytikijkhblfgbpaa
