/-
  Proved here: the document's own Write of base.
-/
import Derived.Test.YtmpmlmhphnpdlaaBw
namespace Go.Proofs.Ytmpmlmhphnpdlaa
open Go.RowKit
def zer (n : Nat) : Nat := if n % 3 = 1 then 4 else if n % 3 = 2 then 2 else 0
/-- The bits, and those that fill up. -/
def allB (b : List Int) : List Int := bitsB b ++ List.replicate (zer b.length) 0
theorem allB_len (b : List Int) : (allB b).length = 8 * b.length + zer b.length := by unfold allB; rw [List.length_append, bitsB_len, List.length_replicate]
theorem zer_le (n : Nat) : zer n ≤ 4 ∧ (8 * n + zer n) % 6 = 0 := by unfold zer; split <;> (try split) <;> omega
theorem allB_at (b : List Int) {i : Nat} (hi : i < 8 * b.length) : (allB b).getD i 0 = halves (7 - i % 8) (b.getD (i / 8) 0) % 2 := by
  rw [← bitsB_at b i hi]
  unfold allB
  simp [List.getD, List.getElem?_append_left (show i < (bitsB b).length by rw [bitsB_len]; exact hi)]
theorem allB_zero (b : List Int) {i : Nat} (hi : 8 * b.length ≤ i) : (allB b).getD i 0 = 0 := by
  unfold allB
  simp only [List.getD]
  rw [List.getElem?_append_right (by rw [bitsB_len]; exact hi)]
  by_cases h : i - (bitsB b).length < zer b.length
  · simp [h]
  · simp [h]
theorem allB_bit (b : List Int) (i : Nat) : 0 ≤ (allB b).getD i 0 ∧ (allB b).getD i 0 ≤ 1 := by
  rcases Nat.lt_or_ge i (8 * b.length) with h | h
  · rw [allB_at b h]; omega
  · rw [allB_zero b h]; omega
/-- The state behind i bits. -/
def stS (b : List Int) (i : Nat) : List Int × Int × Nat := ((allB b).take i).foldl stepW ([], 0, 0)
theorem stS_step (b : List Int) {i : Nat} (hi : i < (allB b).length) : stS b (i + 1) = stepW (stS b i) ((allB b).getD i 0) := by
  unfold stS
  rw [List.take_add_one, List.foldl_append]
  simp [List.getD, hi]
theorem stS_n (b : List Int) : ∀ i, i ≤ (allB b).length → (stS b i).2.2 = i % 6 ∧ 0 ≤ (stS b i).2.1 ∧ (stS b i).2.1 < 2 ^ (i % 6) ∧ (stS b i).1.length = i / 6
  | 0, _ => by simp [stS]
  | i + 1, h => by
    obtain ⟨h1, h2, h3, h4⟩ := stS_n b i (by omega)
    have hb := allB_bit b i
    rw [stS_step b (by omega)]
    obtain ⟨⟨o, v, n⟩, hs⟩ : ∃ s, stS b i = s := ⟨_, rfl⟩
    rw [hs] at h1 h2 h3 h4 ⊢
    dsimp only at h1 h2 h3 h4
    by_cases h6 : n + 1 = 6
    · rw [stepW_yes h6]
      refine ⟨by show 0 = _; omega, by simp, by show (0 : Int) < _; rw [show (i + 1) % 6 = 0 by omega]; decide, ?_⟩
      show (o ++ [_]).length = _
      rw [List.length_append, h4]; simp; omega
    · rw [stepW_no h6]
      have e : (i + 1) % 6 = i % 6 + 1 := by omega
      refine ⟨by show n + 1 = _; omega, by show 0 ≤ 2 * v + _; omega, ?_, by show o.length = _; omega⟩
      show 2 * v + _ < _
      rw [e, Int.pow_succ]; omega
theorem pow6 {n : Nat} (h : n < 6) : (2 : Int) ^ n ≤ 32 := by
  have : n = 0 ∨ n = 1 ∨ n = 2 ∨ n = 3 ∨ n = 4 ∨ n = 5 := by omega
  rcases this with rfl | rfl | rfl | rfl | rfl | rfl <;> decide
theorem stS_v (b : List Int) {i : Nat} (hi : i ≤ (allB b).length) : 0 ≤ (stS b i).2.1 ∧ (stS b i).2.1 < 32 := by
  obtain ⟨_, h2, h3, _⟩ := stS_n b i hi
  have := pow6 (n := i % 6) (by omega)
  omega
theorem stS_all (b : List Int) : (stS b (allB b).length).1 = rawS b := by
  unfold stS rawS
  rw [List.take_length]; rfl
theorem cat_run (a b : List Int) (h : a.length + b.length ≤ 10000000) : Op.stringOp .add (strOfNums a) (strOfNums b) = pure (.string (strOfNums (a ++ b))) := by
  unfold Op.stringOp
  dsimp only
  rw [if_neg (by rw [strOfNums_size, strOfNums_size]; show ¬ ((a.length + b.length : Nat) : Int) > 9223372036854775807; omega), str_app]
theorem str61 : (⟨#[61]⟩ : ByteArray) = strOfNums [61] := rfl
/-- What fills up, one sign after the other. -/
theorem pads_step {n : Nat} (h : n % 4 ≠ 0) : pads n = 61 :: pads (n + 1) := by
  unfold pads
  have : n % 4 = 1 ∨ n % 4 = 2 ∨ n % 4 = 3 := by omega
  rcases this with h | h | h
  · rw [h, show (n + 1) % 4 = 2 by omega]; rfl
  · rw [h, show (n + 1) % 4 = 3 by omega]; rfl
  · rw [h, show (n + 1) % 4 = 0 by omega]; rfl
/-- How long a text is. -/
def strLen : Value → Nat
  | .string s => s.size
  | _ => 0
set_option maxRecDepth 100000 in
set_option maxHeartbeats 4000000 in
theorem rwrite_any {w : World} {A : Option Addr} {n c : Nat} {bs : List Int} (hR : RI .u8 w A bs) (hl : bs.length = n) (hn : n ≤ 100000) (hb : IsBytes bs) :
    Calls Try.prog 67 #[.slice A n c] w fun e w' => e = .returned (.string (strOfNums (writeS bs))) ∧ Below w.heap.size w w' := by
  have HW := Lib.hid (fun (_ : Unit) => raw_write bs hb)
  have HR := Lib.hid hR
  have HL := Lib.hid hl
  have HB := Lib.hid hb
  obtain ⟨E, hE⟩ : ∃ E, (allB bs).length = E := ⟨_, rfl⟩
  have hE1 := allB_len bs
  have hz := zer_le n
  rw [hE, hl] at hE1
  have HE := Lib.hid hE
  have w8 : IntKind.i64.wrap (8 * (n : Int)) = ((8 * n : Nat) : Int) := by rw [show 8 * (n : Int) = ((8 * n : Nat) : Int) by omega]; exact IntWalk.i64_in _ (by omega)
  obtain ⟨N8, hN8⟩ : ∃ N8, 8 * n = N8 := ⟨_, rfl⟩
  rw [hN8] at w8 hE1 hz
  have HN8 := Lib.hid (fun (_ : Unit) => hN8)
  have hN9 : N8 ≤ 800000 := by omega
  have HZ := Lib.hid (show E % 6 = 0 ∧ E ≤ N8 + 4 ∧ N8 ≤ E from by omega)
  have H0 := Lib.hid (fun (_ : Unit) => show stS bs 0 = ([], 0, 0) from rfl)
  clear hR hl hb hE hE1 hz hN8
  go_enter Try.func67, Try.ntmps67
  go_wp2
  go_loopw [3, 4, 5, 6] (fun ov vv nv iv wr => ∃ (o : List Int) (v : Int) (m i : Nat), ov = .string (strOfNums o) ∧ vv = .int .i64 v ∧ nv = .int .i64 m ∧ iv = .int .i64 i ∧ i ≤ E ∧ Hid (Unit → stS bs i = (o, v, m)) ∧ Hid (Below w.heap.size w wr)) (fun _ _ _ iv _ => E + 1 - (intOf iv).toNat)
  case atStart => exact ⟨[], 0, 0, 0, rfl, rfl, rfl, rfl, by omega, H0, Lib.hid (Below.refl _ _)⟩
  case round =>
    obtain ⟨o, v, m, i, rfl, rfl, rfl, rfl, hi, HS, HBW⟩ := hrel
    clear H0
    have hst := stS_n bs i (by rw [HE.out]; exact hi)
    have hsv := stS_v bs (i := i) (by rw [HE.out]; exact hi)
    rw [HS.out ()] at hst hsv
    dsimp only at hst hsv
    obtain ⟨hm, _, _, hol⟩ := hst
    obtain ⟨v0, v1⟩ := hsv
    have hzz := HZ.out
    by_cases hgo : i < N8 ∨ 0 < m
    · have hiE : i < E := by omega
      have hm5 : m < 6 := by omega
      clear hm
      obtain ⟨t, ht⟩ : ∃ t, (allB bs).getD i 0 = t := ⟨_, rfl⟩
      have htb := allB_bit bs i
      rw [ht] at htb
      obtain ⟨t0, t1⟩ := htb
      have HST := Lib.hid (fun (_ : Unit) => show stS bs (i + 1) = stepW (o, v, m) t from by rw [stS_step bs (by rw [HE.out]; exact hiE), HS.out (), ht])
      have w1 : IntKind.i64.wrap (2 * v) = 2 * v := IntWalk.i64_in _ (by omega)
      have w2 : IntKind.i64.wrap (2 * v + t) = 2 * v + t := IntWalk.i64_in _ (by omega)
      by_cases hA : i < N8
      · have hi8 : i / 8 < n := by have := HN8.out (); omega
        have hAt : halves (7 - i % 8) (bs.getD (i / 8) 0) % 2 = t := by rw [← ht, allB_at bs (by rw [HL.out]; have := HN8.out (); omega)]
        obtain ⟨bl, off, rfl, hbl, hc⟩ := HR.out (by rw [HL.out]; omega)
        have e0 := (HBW.out.cell (p := ⟨bl, off + i / 8, none⟩) hbl).trans (hc (i / 8) (by rw [HL.out]; exact hi8))
        have hc0 : 0 ≤ bs.getD (i / 8) 0 ∧ bs.getD (i / 8) 0 < 256 := HB.out _ (by
          have hlt : i / 8 < bs.length := by rw [HL.out]; exact hi8
          simp [List.getD, hlt])
        obtain ⟨c0, hcc⟩ : ∃ c0, bs.getD (i / 8) 0 = c0 := ⟨_, rfl⟩
        rw [hcc] at hAt e0 hc0
        have HAT := Lib.hid (fun (_ : Unit) => hAt)
        have HC0 := Lib.hid hc0
        obtain ⟨c00, c01⟩ := hc0
        obtain ⟨d8, hd8⟩ : ∃ d, i / 8 = d := ⟨_, rfl⟩
        obtain ⟨r8, hr8⟩ : ∃ r, i % 8 = r := ⟨_, rfl⟩
        have a1 : ((i : Int)).tdiv 8 = (d8 : Int) := by rw [Int.tdiv_eq_ediv_of_nonneg (by omega)]; omega
        have a2 : IntKind.i64.wrap (d8 : Int) = (d8 : Int) := IntWalk.i64_in _ (by omega)
        have a3 : ((i : Int)).tmod 8 = (r8 : Int) := by rw [Int.tmod_eq_emod_of_nonneg (by omega)]; omega
        have a4 : IntKind.i64.wrap (r8 : Int) = (r8 : Int) := IntWalk.i64_in _ (by omega)
        have g3 : (0 : Int) ≤ (d8 : Int) := by omega
        have g4 : (d8 : Int) < (n : Int) := by omega
        have l1 : decide ((i : Int) < ((N8 : Nat) : Int)) = true := by simp; omega
        have l2 : decide (i < N8) = true := by simp; omega
        have hr7 : r8 ≤ 7 := by omega
        rw [hd8] at e0
        rw [hr8] at HAT
        obtain ⟨wA, rfl⟩ : ∃ W, W = wr := ⟨_, rfl⟩
        clear hc hcc hAt ht hd8 hr8
        go_wp2
        go_loopw [8, 9] (fun cv kv wx => ∃ q : Nat, cv = .int .i64 (halves q c0) ∧ kv = .int .i64 ((r8 + q : Nat) : Int) ∧ r8 + q ≤ 7 ∧ wA = wx) (fun _ kv _ => 7 - (intOf kv).toNat)
        case atStart => exact ⟨0, rfl, by simp, by omega, rfl⟩
        case round =>
          obtain ⟨q, rfl, rfl, hq, rfl⟩ := hrel
          obtain ⟨x0, x1⟩ := halves_range HC0.out.1 HC0.out.2 q
          obtain ⟨x, hx⟩ : ∃ x, halves q c0 = x := ⟨_, rfl⟩
          have HX := Lib.hid (fun (_ : Unit) => hx)
          rw [hx] at x0 x1 ⊢
          clear hx
          by_cases hq7 : r8 + q < 7
          · have k1 : decide (((r8 + q : Nat) : Int) < 7) = true := by simp; omega
            have k2 : x.tdiv 2 = x / 2 := Int.tdiv_eq_ediv_of_nonneg x0
            have k3 : IntKind.i64.wrap (x / 2) = x / 2 := IntWalk.i64_in _ (by omega)
            have HX2 := Lib.hid (fun (_ : Unit) => show x / 2 = halves (q + 1) c0 from by rw [halves_snoc, HX.out ()])
            clear HX
            go_wp2
            go_roundw
            case rel => exact ⟨q + 1, by rw [HX2.out ()], by go_num, by omega, trivial⟩
            case measure => simp [intOf]; omega
          · have k1 : decide (((r8 + q : Nat) : Int) < 7) = false := by simp; omega
            have k2 : x.tmod 2 = t := by rw [Int.tmod_eq_emod_of_nonneg x0, ← HX.out (), ← HAT.out (), show 7 - r8 = q by omega]
            have k3 : IntKind.i64.wrap t = t := IntWalk.i64_in _ (by omega)
            clear HX HAT
            by_cases h6 : m + 1 = 6
            · obtain ⟨u, hu⟩ : ∃ u : Nat, 2 * v + t = u := ⟨(2 * v + t).toNat, by omega⟩
              obtain ⟨y, hy⟩ : ∃ y, lett u = y := ⟨_, rfl⟩
              have HS6 := Lib.hid (fun (_ : Unit) => show stS bs (i + 1) = (o ++ [y], 0, 0) from by rw [HST.out (), stepW_yes h6, hu, hy])
              have HLE : Hid (∀ w : World, Calls Try.prog 74 #[.int .i64 (2 * v + t)] w fun e w' => e = .returned (.int .u8 y) ∧ w = w') := Lib.hid (fun w => by rw [hu, ← hy]; exact rletter_any u (by omega) w)
              have m6 : ((((m + 1 : Nat) : Int)) == 6) = true := by simp; omega
              have m7 : ((m + 1) == 6) = true := by simp; omega
              have m8 : (((m : Int) + 1) == 6) = true := by simp; omega
              have hcv := conv_nums (w := wA.alloc (.cells #[.int .u8 y] 5)) (bs := [y]) (n := 1) rfl 1 (RI.one .u8 wA y 5)
              have hct := cat_run o [y] (by simp; omega)
              have HB6 := Lib.hid (HBW.out.alloc HBW.out.size (.cells #[.int .u8 y] 5))
              clear hu hy HS HBW HST
              go_wp2_with (go_at_call 74; refine (HLE.out _).mono ?_; rintro e w' ⟨rfl, rfl⟩)
              go_roundw
              case rel => exact ⟨o ++ [y], 0, 0, i + 1, rfl, rfl, rfl, by go_num, by omega, HS6, HB6⟩
              case measure => simp [intOf]; omega
            · have HS6 := Lib.hid (fun (_ : Unit) => show stS bs (i + 1) = (o, 2 * v + t, m + 1) from by rw [HST.out (), stepW_no h6])
              have m6 : ((((m + 1 : Nat) : Int)) == 6) = false := by simp; omega
              have m7 : ((m + 1) == 6) = false := by simp; omega
              have m8 : (((m : Int) + 1) == 6) = false := by simp; omega
              clear HS HST
              go_wp2
              go_roundw
              case rel => exact ⟨o, 2 * v + t, m + 1, i + 1, rfl, rfl, by go_num, by go_num, by omega, HS6, HBW⟩
              case measure => simp [intOf]; omega
      · have ht0 : t = 0 := by rw [← ht, allB_zero bs (by rw [HL.out]; have := HN8.out (); omega)]
        subst ht0
        have l1 : decide ((i : Int) < ((N8 : Nat) : Int)) = false := by simp; omega
        have l2 : decide (i < N8) = false := by simp; omega
        have l3 : decide ((0 : Int) < (m : Int)) = true := by simp; omega
        have l4 : decide (0 < m) = true := by simp; omega
        clear ht
        by_cases h6 : m + 1 = 6
        · obtain ⟨u, hu⟩ : ∃ u : Nat, 2 * v = u := ⟨(2 * v).toNat, by omega⟩
          obtain ⟨y, hy⟩ : ∃ y, lett u = y := ⟨_, rfl⟩
          have HS6 := Lib.hid (fun (_ : Unit) => show stS bs (i + 1) = (o ++ [y], 0, 0) from by rw [HST.out (), stepW_yes h6, Int.add_zero, hu, hy])
          have HLE : Hid (∀ w : World, Calls Try.prog 74 #[.int .i64 u] w fun e w' => e = .returned (.int .u8 y) ∧ w = w') := Lib.hid (fun w => hy ▸ rletter_any u (by omega) w)
          have m6 : ((((m + 1 : Nat) : Int)) == 6) = true := by simp; omega
          have m7 : ((m + 1) == 6) = true := by simp; omega
          have m8 : (((m : Int) + 1) == 6) = true := by simp; omega
          have hcv := conv_nums (w := wr.alloc (.cells #[.int .u8 y] 5)) (bs := [y]) (n := 1) rfl 1 (RI.one .u8 wr y 5)
          have hct := cat_run o [y] (by simp; omega)
          have HB6 := Lib.hid (HBW.out.alloc HBW.out.size (.cells #[.int .u8 y] 5))
          have w3 : IntKind.i64.wrap (2 * v) = (u : Int) := by rw [w1, hu]
          have w4 : IntKind.i64.wrap (u : Int) = (u : Int) := IntWalk.i64_in _ (by omega)
          clear w1 w2
          clear hu hy HS HBW HST
          go_wp2_with (go_at_call 74; refine (HLE.out _).mono ?_; rintro e w' ⟨rfl, rfl⟩)
          go_roundw
          case rel => exact ⟨o ++ [y], 0, 0, i + 1, rfl, rfl, rfl, by go_num, by omega, HS6, HB6⟩
          case measure => simp [intOf]; omega
        · have HS6 := Lib.hid (fun (_ : Unit) => show stS bs (i + 1) = (o, 2 * v, m + 1) from by rw [HST.out (), stepW_no h6, Int.add_zero])
          have m6 : ((((m + 1 : Nat) : Int)) == 6) = false := by simp; omega
          have m7 : ((m + 1) == 6) = false := by simp; omega
          have m8 : (((m : Int) + 1) == 6) = false := by simp; omega
          clear HS HST
          go_wp2
          go_roundw
          case rel => exact ⟨o, 2 * v, m + 1, i + 1, rfl, rfl, by go_num, by go_num, by omega, HS6, HBW⟩
          case measure => simp [intOf]; omega
    · have hiE : i = E := by omega
      clear hm
      have l1 : decide ((i : Int) < ((N8 : Nat) : Int)) = false := by simp; omega
      have l2 : decide (i < N8) = false := by simp; omega
      have l3 : decide ((0 : Int) < (m : Int)) = false := by simp; omega
      have l4 : decide (0 < m) = false := by simp; omega
      have HP : Hid (Unit → o ++ pads o.length = writeS bs) := Lib.hid (fun _ => by
        have e : o = rawS bs := by
          have := stS_all bs
          rw [HE.out, ← hiE, HS.out ()] at this
          exact this
        rw [e]; exact HW.out ())
      obtain ⟨wA, rfl⟩ : ∃ W, W = wr := ⟨_, rfl⟩
      clear HS hiE
      go_wp2
      go_loopw [3] (fun ov wx => ∃ o2 : List Int, ov = .string (strOfNums o2) ∧ o2.length ≤ 200000 ∧ Hid (Unit → o2 ++ pads o2.length = writeS bs) ∧ wA = wx) (fun ov _ => (4 - strLen ov % 4) % 4)
      case atStart => exact ⟨o, rfl, by omega, HP, rfl⟩
      case round =>
        obtain ⟨o2, rfl, ho2, HP2, rfl⟩ := hrel
        clear HP
        have hsz : (strOfNums o2).size = o2.length := strOfNums_size o2
        obtain ⟨L2, hL2⟩ : ∃ L, o2.length = L := ⟨_, rfl⟩
        rw [hL2] at hsz ho2
        have hg : goInt L2 = .int .i64 L2 := rfl
        have a3 : ((L2 : Int)).tmod 4 = ((L2 % 4 : Nat) : Int) := by rw [Int.tmod_eq_emod_of_nonneg (by omega)]; omega
        have a4 : IntKind.i64.wrap ((L2 % 4 : Nat) : Int) = ((L2 % 4 : Nat) : Int) := IntWalk.i64_in _ (by omega)
        obtain ⟨r4, hr4⟩ : ∃ r, L2 % 4 = r := ⟨_, rfl⟩
        rw [hr4] at a3 a4
        by_cases h4 : r4 = 0
        · have z1 : ((r4 : Int) != 0) = false := by simp; exact h4
          have z2 : (r4 != 0) = false := by simp; exact h4
          have HF := Lib.hid (fun (_ : Unit) => show o2 = writeS bs from by
            have := HP2.out ()
            rw [hL2] at this
            unfold pads at this
            rw [if_pos (by omega)] at this
            simpa using this)
          clear HP2 hL2 hr4 h4
          go_wp2
          go_ret
          exact ⟨by rw [← HF.out ()]; rfl, HBW.out⟩
        · have z1 : ((r4 : Int) != 0) = true := by simp; exact h4
          have z2 : (r4 != 0) = true := by simp; exact h4
          have HF : Hid (Unit → (o2 ++ [61]) ++ pads (o2 ++ [61]).length = writeS bs) := Lib.hid (fun _ => by
            have := HP2.out ()
            rw [pads_step (by rw [hL2]; omega)] at this
            rw [← this]; simp)
          have hct := cat_run o2 [61] (by simp; omega)
          rw [← str61] at hct
          have HLN := Lib.hid (fun (_ : Unit) => And.intro hL2 hr4)
          clear HP2 hL2 hr4
          go_wp2
          go_roundw
          case rel => exact ⟨o2 ++ [61], rfl, by simp; have := HLN.out (); omega, HF, trivial⟩
          case measure =>
            have := (HLN.out ()).1
            have := (HLN.out ()).2
            simp only [strLen, strOfNums_size, List.length_append, List.length_cons, List.length_nil]
            omega
end Go.Proofs.Ytmpmlmhphnpdlaa
