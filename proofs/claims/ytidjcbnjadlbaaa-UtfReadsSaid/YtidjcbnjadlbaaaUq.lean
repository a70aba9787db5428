/-
  Proved here: the program's Bytes of utf: points' bytes.
-/
import Derived.Test.YtidjcbnjadlbaaaUb
import Derived.Lib.AppendStr
set_option linter.unusedSimpArgs false
set_option linter.unusedVariables false
namespace Go.Proofs.Ytidjcbnjadlbaaa
open Go.RowKit Go.Lib
theorem encode_cells (p : Int) : strCells (Utf8.encode p) = NV .u8 (bytesP (fixP p)) := by
  by_cases hp : isP p = true
  · have e : fixP p = p := by unfold fixP; rw [if_pos hp]
    rw [e]
    rw [isP_iff] at hp
    have v : Utf8.valid p = true := by simp [Utf8.valid]; omega
    obtain ⟨n, rfl⟩ : ∃ n : Nat, p = n := ⟨p.toNat, by omega⟩
    unfold bytesP
    by_cases h1 : n < 128
    · rw [if_pos (by omega)]
      simp [Utf8.encode, v, h1, strCells, NV]; omega
    · rw [if_neg (by omega)]
      by_cases h2 : n < 2048
      · rw [if_pos (by omega)]
        simp [Utf8.encode, v, h1, h2, strCells, NV]; omega
      · rw [if_neg (by omega)]
        by_cases h3 : n < 65536
        · rw [if_pos (by omega)]
          simp [Utf8.encode, v, h1, h2, h3, strCells, NV]; omega
        · rw [if_neg (by omega)]
          simp [Utf8.encode, v, h1, h2, h3, strCells, NV]; omega
  · have e : fixP p = 65533 := by unfold fixP; rw [if_neg hp]
    rw [e]
    rw [isP_iff] at hp
    have v : Utf8.valid p = false := by simp [Utf8.valid]; omega
    simp [Utf8.encode, v, strCells, NV, Utf8.runeError, bytesP]
theorem Own8.apps {w : World} {v : Value} {xs : List Int} {W : World} (h : Own8 w v xs W) (s : ByteArray) (ys : List Int) (hs : strCells s = NV .u8 ys) (hn : xs.length + ys.length ≤ 100000) :
    ∃ A n c w', (Builtin.append_ #[22, 9] 22 #[v, .string s]).run Try.prog W = .ok (.slice A n c) w' ∧ Own8 w (.slice A n c) (xs ++ ys) w' := by
  have hsz : s.size = ys.length := by rw [← strCells_length, hs]; simp [NV]
  obtain ⟨i0, hi, hz0, hz1, hz2⟩ := info_parts info_u8
  obtain ⟨v', w', r, o, g, _⟩ := run_append_own_string (P := Try.prog) W w.heap.size 22 9 22 5 i0 Try.underlying22 Try.underlying9 hi hz0 hz1 hz2 v _ (NV .u8 xs) h.own s (by unfold maxLen; omega) (by omega) h.below.size
  obtain ⟨A, c, rfl, _⟩ := own_slice o
  exact ⟨A, _, c, w', r, own_cast o (by simp [hsz]) (by rw [hs]; simp [NV]), h.below.grown g h.below.size (ownBlock_le h.own)⟩
theorem wpList_app2 {P : Program} {ops : Array Oper} {rest : List Oper} {o : Oper} {a : Act} {W w' : World} {Q : Exit → Act → World → Prop} {v' : Value} (hgd : o.guard = none) (s x : Operand) (t u : TypeId)
    (ho : o.op = .call { callee := .builtin .append, args := #[s, x], argTypes := #[t, u] }) (v sx : Value) (hs : a.eval s = v) (hx : a.eval x = sx) (hrun : (Builtin.append_ #[t, u] o.type #[v, sx]).run P W = .ok v' w') (h : wpList P ops Q rest (a.put o.dst v') w') :
    wpList P ops Q (o :: rest) a W := by
  refine wpList_plain hgd fun K hK => ?_
  unfold Oper.wp execOp
  simp only [ho, resolve, invoke, builtin, Sem.run_bind, Sem.run_pure, Result.andThen_ok, List.map_toArray, List.map_cons, List.map_nil, hs, hx, hrun]
  exact hK _ _ h
set_option maxRecDepth 100000 in
set_option maxHeartbeats 1000000 in
theorem pbytes_any {w : World} {A : Option Addr} {n c : Nat} {l : List Int} (hR : RI .i32 w A l) (hl : l.length = n) (hn : n ≤ 20000) :
    Calls Try.prog 19 #[.slice A n c] w fun e w' => ∃ v, e = .returned v ∧ Own8 w v (bytesL l) w' := by
  have HR := Lib.hid hR
  have HL := Lib.hid hl
  clear hR hl
  obtain ⟨W1, hmk, hO1⟩ : ∃ W1, (Instr.makeSlice 22 (.int .i64 0) (.int .i64 n)).run Try.prog w = .ok (.slice (some ⟨w.heap.size, 0, none⟩) 0 n) W1 ∧ Own8 w (.slice (some ⟨w.heap.size, 0, none⟩) 0 n) [] W1 := by
    obtain ⟨i0, hi, hz0, hz1, hz2⟩ := info_parts info_u8
    refine ⟨_, run_make (P := Try.prog) w 22 5 i0 _ Try.underlying22 hi hz0 .i64 .i64 0 n (by omega) (by omega) (by rw [hz2]; omega) (by omega), ⟨?_, (Below.refl _ _).alloc (Nat.le_refl _) _⟩⟩
    exact World.ownsRow_made w _ n (Nat.le_refl _) (by unfold maxLen; omega) (by rw [size_madeCells, hz1]; simp)
  have HO1 := Lib.hid (show Own8 w (.slice (some ⟨w.heap.size, 0, none⟩) 0 n) (bytesL (l.take 0)) W1 from hO1)
  clear hO1
  go_enter Try.func19, Try.ntmps19
  go_wp2
  go_loopw [3, 5, 11] (fun ov _ iv wr => ∃ (v : Value) (i : Nat), v = ov ∧ iv = .int .i64 i ∧ i ≤ n ∧ Hid (Own8 w v (bytesL (l.take i)) wr)) (fun _ _ iv _ => n - (intOf iv).toNat)
  case atStart => exact ⟨_, 0, rfl, rfl, by omega, HO1⟩
  case round =>
    obtain ⟨v, i, rfl, rfl, hi, HO⟩ := hrel
    clear HO1 hmk
    by_cases hin : i < n
    · have d1 : decide ((i : Int) < (n : Int)) = true := by simp; omega
      have d2 : decide (i < n) = true := by simp; omega
      obtain ⟨bl, off, rfl, hbl, hc⟩ := HR.out (by rw [HL.out]; omega)
      have e0 := (HO.out.below.cell (p := ⟨bl, off + i, none⟩) hbl).trans (hc i (by rw [HL.out]; exact hin))
      obtain ⟨p, hp⟩ : ∃ p, l.getD i 0 = p := ⟨_, rfl⟩
      rw [hp] at e0
      have hTS := take_succ (l := l) (i := i) (by rw [HL.out]; exact hin)
      rw [hp] at hTS
      have hLen := bytesL_len (l.take i)
      have hLen2 : (l.take i).length ≤ i := by simp; omega
      have hP4 := bytesP_len (fixP p)
      obtain ⟨S, hS⟩ : ∃ S, Utf8.encode p = S := ⟨_, rfl⟩
      obtain ⟨A4, n4, c4, w4, hrun, hO4⟩ := HO.out.apps (Utf8.encode p) (bytesP (fixP p)) (encode_cells p) (by omega)
      rw [← bytesL_one, ← bytesL_app, ← hTS] at hO4
      rw [hS] at hrun
      have hcv : (convert 21 9 (.int .i32 p)).run Try.prog wr = .ok (.string S) wr := by rw [← hS]; rfl
      have HRUN := Lib.hid hrun
      have HO4 := Lib.hid hO4
      have g3 : (0 : Int) ≤ (i : Int) := by omega
      have g4 : (i : Int) < (n : Int) := by omega
      clear hc hp hTS hLen hLen2 hP4 hS hrun hO4 HO
      go_wp2_with (first | (at_builtin; refine wpList_app2 rfl (.tmp 15) (.tmp 17) _ _ rfl _ _ rfl rfl HRUN.out ?_))
      go_roundw
      case rel => exact ⟨_, i + 1, rfl, by go_num, by omega, HO4⟩
      case measure => simp [intOf]; omega
    · have e : i = n := by omega
      have d1 : decide ((i : Int) < (n : Int)) = false := by simp; omega
      have d2 : decide (i < n) = false := by simp; omega
      have hO := HO.out
      rw [List.take_of_length_le (by rw [HL.out]; omega)] at hO
      have HO4 := Lib.hid hO
      clear hO HO e
      go_wp2
      go_ret
      exact ⟨_, rfl, HO4.out⟩
end Go.Proofs.Ytidjcbnjadlbaaa
