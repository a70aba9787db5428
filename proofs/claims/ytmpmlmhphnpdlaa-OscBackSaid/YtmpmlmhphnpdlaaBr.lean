/-
  Proved here: the document's own Read of base.
-/
import Derived.Test.YtmpmlmhphnpdlaaBx
namespace Go.Proofs.Ytmpmlmhphnpdlaa
open Go.RowKit
theorem str_at {t : List Int} (ht : IsBytes t) {i : Nat} (hi : i < t.length) (h : i < (strOfNums t).size) : ((((strOfNums t)[i]'h).toNat : Nat) : Int) = t.getD i 0 := by
  have hx := ht (t[i]) (List.getElem_mem hi)
  have e : (strOfNums t)[i]'h = UInt8.ofNat (t[i]).toNat := by
    show (strOfNums t).data[i] = _
    simp [strOfNums]
  rw [e]
  simp only [List.getD, List.getElem?_eq_getElem hi, Option.getD_some, UInt8.toNat_ofNat']
  omega
theorem str_eq {a b : List Int} (ha : IsBytes a) (hb : IsBytes b) : ((strOfNums a).toList == (strOfNums b).toList) = decide (a = b) := by
  have key : ∀ (a b : List Int), IsBytes a → IsBytes b → (a.map (fun n => UInt8.ofNat n.toNat) = b.map (fun n => UInt8.ofNat n.toNat) → a = b) := by
    intro a
    induction a with
    | nil => intro b _ _ h; cases b with | nil => rfl | cons y s => simp at h
    | cons x r ih =>
      intro b h1 h2 h
      cases b with
      | nil => simp at h
      | cons y s =>
        simp only [List.map_cons, List.cons.injEq] at h
        have hx := h1 x (by simp)
        have hy := h2 y (by simp)
        have e := congrArg UInt8.toNat h.1
        simp only [UInt8.toNat_ofNat'] at e
        rw [show x = y by omega, ih s (fun z hz => h1 z (by simp [hz])) (fun z hz => h2 z (by simp [hz])) h.2]
  rw [ByteArray.toList_eq, ByteArray.toList_eq, strOfNums_data, strOfNums_data]
  by_cases h : a = b
  · subst h; simp
  · have h2 : a.map (fun n => UInt8.ofNat n.toNat) ≠ b.map (fun n => UInt8.ofNat n.toNat) := fun e => h (key a b ha hb e)
    simp [h, h2]
/-- The letters ahead of what fills up. -/
theorem headL_len : ∀ t : List Int, (headL t).length ≤ t.length ∧ headL t = t.take (headL t).length ∧ (∀ i, i < (headL t).length → t.getD i 0 ≠ 61) ∧ ((headL t).length < t.length → t.getD (headL t).length 0 = 61)
  | [] => by simp [headL]
  | c :: r => by
    obtain ⟨h1, h2, h3, h4⟩ := headL_len r
    by_cases h : c = 61
    · have e : headL (c :: r) = [] := by rw [headL, if_pos h]
      rw [e]
      exact ⟨by simp, by simp, fun i hi => absurd hi (by simp), fun _ => by simpa using h⟩
    · have e : headL (c :: r) = c :: headL r := by rw [headL, if_neg h]
      rw [e]
      refine ⟨by simp only [List.length_cons]; omega, by simp only [List.length_cons, List.take_succ_cons]; rw [← h2], fun i hi => ?_, fun hl => ?_⟩
      · cases i with
        | zero => simpa using h
        | succ i => simpa using h3 i (by simpa using hi)
      · simpa using h4 (by simpa using hl)
/-- The state behind i letters and q bits of the next. -/
def stR (t : List Int) (i q : Nat) : List Int × Int × Nat := (bitsL ((t.take i).map valL) ++ (bits6 (valL (t.getD i 0))).take q).foldl stepR ([], 0, 0)
theorem bitsL_app : ∀ a b : List Int, bitsL (a ++ b) = bitsL a ++ bitsL b
  | [], b => rfl
  | x :: r, b => by rw [List.cons_append, bitsL, bitsL, bitsL_app r b, List.append_assoc]
theorem stR_next {t : List Int} {i : Nat} (hi : i < t.length) : stR t i 6 = stR t (i + 1) 0 := by
  have e : t.take (i + 1) = t.take i ++ [t.getD i 0] := by rw [List.take_add_one]; simp [List.getD, hi]
  unfold stR
  rw [e, List.map_append, bitsL_app]
  simp [bitsL, bits6]
def kS (q : Nat) : Int := if q = 0 then 32 else if q = 1 then 16 else if q = 2 then 8 else if q = 3 then 4 else if q = 4 then 2 else if q = 5 then 1 else 0
theorem bits6_at (x : Int) {q : Nat} (hq : q < 6) : (bits6 x).take (q + 1) = (bits6 x).take q ++ [x / kS q % 2] := by
  have : q = 0 ∨ q = 1 ∨ q = 2 ∨ q = 3 ∨ q = 4 ∨ q = 5 := by omega
  rcases this with rfl | rfl | rfl | rfl | rfl | rfl <;> simp [bits6, kS]
theorem kS_half {q : Nat} (hq : q < 6) : kS q / 2 = kS (q + 1) ∧ 0 < kS q ∧ kS q ≤ 32 := by
  have : q = 0 ∨ q = 1 ∨ q = 2 ∨ q = 3 ∨ q = 4 ∨ q = 5 := by omega
  rcases this with rfl | rfl | rfl | rfl | rfl | rfl <;> decide
theorem stR_step (t : List Int) (i : Nat) {q : Nat} (hq : q < 6) : stR t i (q + 1) = stepR (stR t i q) (valL (t.getD i 0) / kS q % 2) := by
  unfold stR
  rw [bits6_at _ hq, ← List.append_assoc, List.foldl_append]
  rfl
/-- Numbers within bounds. -/
def FitR (s : List Int × Int × Nat) (k : Nat) : Prop := s.2.2 = k % 8 ∧ 0 ≤ s.2.1 ∧ s.2.1 < 2 ^ (k % 8) ∧ s.1.length = k / 8 ∧ IsBytes s.1
theorem FitR.step {s : List Int × Int × Nat} {k : Nat} (h : FitR s k) {x : Int} (h0 : 0 ≤ x) (h1 : x ≤ 1) : FitR (stepR s x) (k + 1) := by
  obtain ⟨o, v, n⟩ := s
  obtain ⟨a1, a2, a3, a4, a5⟩ := h
  dsimp only at a1 a2 a3 a4 a5
  by_cases h8 : n + 1 = 8
  · rw [stepR_yes h8]
    refine ⟨by show 0 = _; omega, by simp, by show (0 : Int) < _; rw [show (k + 1) % 8 = 0 by omega]; decide, ?_, fun y hy => ?_⟩
    · show (o ++ [_]).length = _
      rw [List.length_append, a4]; simp; omega
    · rcases List.mem_append.1 hy with hy | hy
      · exact a5 y hy
      · rw [List.mem_singleton.1 hy]
        rw [show k % 8 = 7 by omega] at a3
        have : (2 : Int) ^ 7 = 128 := by decide
        omega
  · rw [stepR_no h8]
    have e : (k + 1) % 8 = k % 8 + 1 := by omega
    refine ⟨by show n + 1 = _; omega, by show 0 ≤ 2 * v + _; omega, ?_, by show o.length = _; omega, a5⟩
    show 2 * v + _ < _
    rw [e, Int.pow_succ]; omega
theorem foldR_fit : ∀ (l : List Int) (s : List Int × Int × Nat) (k : Nat), (∀ x ∈ l, 0 ≤ x ∧ x ≤ 1) → FitR s k → FitR (l.foldl stepR s) (k + l.length)
  | [], s, k, _, h => by simpa using h
  | x :: r, s, k, hl, h => by
    have hx := hl x (by simp)
    have := foldR_fit r (stepR s x) (k + 1) (fun y hy => hl y (by simp [hy])) (h.step hx.1 hx.2)
    rw [List.foldl_cons, List.length_cons]
    rwa [show k + (r.length + 1) = k + 1 + r.length by omega]
theorem bits6_bit (x : Int) : ∀ y ∈ bits6 x, 0 ≤ y ∧ y ≤ 1 := fun y hy => by
  simp only [bits6, List.mem_cons, List.not_mem_nil, or_false] at hy
  rcases hy with rfl | rfl | rfl | rfl | rfl | rfl <;> omega
theorem bitsL_bit : ∀ (l : List Int), ∀ y ∈ bitsL l, 0 ≤ y ∧ y ≤ 1
  | [], y, hy => by cases hy
  | x :: r, y, hy => by
    rw [bitsL] at hy
    rcases List.mem_append.1 hy with h | h
    · exact bits6_bit x y h
    · exact bitsL_bit r y h
theorem bitsL_len : ∀ l : List Int, (bitsL l).length = 6 * l.length
  | [] => rfl
  | x :: r => by rw [bitsL, List.length_append, bitsL_len r]; simp [bits6]; omega
theorem stR_fit {t : List Int} {i q : Nat} (hi : i ≤ t.length) (hq : q ≤ 6) : FitR (stR t i q) (6 * i + q) := by
  have h0 : FitR (([], 0, 0) : List Int × Int × Nat) 0 := ⟨rfl, by simp, by decide, rfl, fun x hx => by cases hx⟩
  have := foldR_fit (bitsL ((t.take i).map valL) ++ (bits6 (valL (t.getD i 0))).take q) ([], 0, 0) 0 (fun x hx => by
    rcases List.mem_append.1 hx with h | h
    · exact bitsL_bit _ x h
    · exact bits6_bit _ x (List.mem_of_mem_take h)) h0
  rw [List.length_append, bitsL_len, List.length_map, List.length_take, List.length_take, Nat.zero_add] at this
  rw [show min i t.length = i by omega, show min q (bits6 (valL (t.getD i 0))).length = q by show min q 6 = q; omega] at this
  exact this
theorem pow8 {n : Nat} (h : n < 8) : (2 : Int) ^ n ≤ 128 := by
  have : n = 0 ∨ n = 1 ∨ n = 2 ∨ n = 3 ∨ n = 4 ∨ n = 5 ∨ n = 6 ∨ n = 7 := by omega
  rcases this with rfl | rfl | rfl | rfl | rfl | rfl | rfl | rfl <;> decide
theorem good_iff {t : List Int} (hall : ∀ c ∈ headL t, 0 ≤ valL c) {o : List Int} (ho : outR ((headL t).map valL) = o) (hob : IsBytes o) : goodB t = decide (writeS o = t) := by
  rw [Bool.eq_iff_iff, read_good, ho]
  simp only [decide_eq_true_eq]
  exact ⟨fun h => h.2.2, fun h => ⟨hall, hob, h⟩⟩
theorem write_bytes : ∀ l : List Int, IsBytes l → ∀ x ∈ writeS l, 0 ≤ x ∧ x < 256
  | [], _, x, hx => by cases hx
  | [a], h, x, hx => by
    have ha := h a (by simp)
    simp only [writeS, List.mem_cons, List.not_mem_nil, or_false] at hx
    have h1 := lett_range (v := a / 4) (by omega) (by omega)
    have h2 := lett_range (v := a % 4 * 16) (by omega) (by omega)
    rcases hx with rfl | rfl | rfl | rfl <;> omega
  | [a, b], h, x, hx => by
    have ha := h a (by simp)
    have hb := h b (by simp)
    simp only [writeS, List.mem_cons, List.not_mem_nil, or_false] at hx
    have h1 := lett_range (v := a / 4) (by omega) (by omega)
    have h2 := lett_range (v := a % 4 * 16 + b / 16) (by omega) (by omega)
    have h3 := lett_range (v := b % 16 * 4) (by omega) (by omega)
    rcases hx with rfl | rfl | rfl | rfl <;> omega
  | a :: b :: c :: r, h, x, hx => by
    have ha := h a (by simp)
    have hb := h b (by simp)
    have hc := h c (by simp)
    simp only [writeS, List.mem_cons] at hx
    have h1 := lett_range (v := a / 4) (by omega) (by omega)
    have h2 := lett_range (v := a % 4 * 16 + b / 16) (by omega) (by omega)
    have h3 := lett_range (v := b % 16 * 4 + c / 64) (by omega) (by omega)
    have h4 := lett_range (v := c % 64) (by omega) (by omega)
    rcases hx with rfl | rfl | rfl | rfl | hx
    · omega
    · omega
    · omega
    · omega
    · exact write_bytes r (fun y hy => h y (by simp [hy])) x hx
set_option maxRecDepth 100000 in
set_option maxHeartbeats 4000000 in
theorem rread14_any {w : World} {t : List Int} (ht : IsBytes t) (hl : t.length ≤ 100000) :
    Calls Try.prog 64 #[.string (strOfNums t)] w fun e w' => ∃ v, e = .returned (.tuple #[v, .bool (goodB t)]) ∧ Own8 w v (if goodB t = true then decB t else []) w' := by
  have HT := Lib.hid ht
  have hsz : (strOfNums t).size = t.length := strOfNums_size t
  obtain ⟨h1, h2, h3, h4⟩ := headL_len t
  obtain ⟨hn, hhn⟩ : ∃ hn, (headL t).length = hn := ⟨_, rfl⟩
  rw [hhn] at h1 h2 h3 h4
  obtain ⟨n, hnn⟩ : ∃ n, t.length = n := ⟨_, rfl⟩
  rw [hnn] at hsz hl h1 h4
  have HL := Lib.hid (fun (_ : Unit) => hnn)
  have HH := Lib.hid (fun (_ : Unit) => h2)
  have HHN := Lib.hid (fun (_ : Unit) => hhn)
  have H3 := Lib.hid (fun (_ : Unit) => h3)
  have H4 := Lib.hid (fun (_ : Unit) => h4)
  have H0 := Lib.hid (fun (_ : Unit) => show stR t 0 0 = ([], 0, 0) from rfl)
  have HO0 := Lib.hid (Own8.new w)
  clear ht hhn h2 h3 h4 hnn
  obtain ⟨G, hG⟩ : ∃ G, goodB t = G := ⟨_, rfl⟩
  have HG := Lib.hid (fun (_ : Unit) => hG)
  rw [hG]
  clear hG
  go_enter Try.func64, Try.ntmps64
  go_wp2
  go_loopw [4, 5, 6, 7] (fun ov vv mv iv wr => ∃ (u : Value) (o : List Int) (v : Int) (m i : Nat), u = ov ∧ vv = .int .i64 v ∧ mv = .int .i64 m ∧ iv = .int .i64 i ∧ i ≤ hn ∧ Hid (Unit → stR t i 0 = (o, v, m)) ∧ Hid (∀ j, j < i → 0 ≤ valL (t.getD j 0)) ∧ Hid (Own8 w u o wr)) (fun _ _ _ iv _ => hn + 1 - (intOf iv).toNat)
  case atStart => exact ⟨_, [], 0, 0, 0, rfl, rfl, rfl, rfl, by omega, H0, Lib.hid (fun j hj => absurd hj (by omega)), HO0⟩
  case round =>
    obtain ⟨u, o, v, m, i, rfl, rfl, rfl, rfl, hi, HS, HV, HO⟩ := hrel
    clear H0 HO0
    by_cases hin : i < hn
    · have hlt : i < n := by omega
      have hxr := HT.out _ (show t.getD i 0 ∈ t from by
        have h9 : i < t.length := by rw [HL.out ()]; exact hlt
        simp [List.getD, h9])
      have hx61 := H3.out () i hin
      obtain ⟨xn, hxn⟩ : ∃ xn : Nat, t.getD i 0 = xn := ⟨(t.getD i 0).toNat, by omega⟩
      have hxs : ((strOfNums t)[i]'(by rw [hsz]; exact hlt)).toNat = xn := by
        have := str_at HT.out (i := i) (by rw [HL.out ()]; exact hlt) (by rw [hsz]; exact hlt)
        rw [hxn] at this; omega
      rw [hxn] at hxr hx61
      have x61 : ((xn : Int) != 61) = true := by simp; omega
      have x62 : (xn != 61) = true := by simp; omega
      have d1 : decide ((i : Int) < (n : Int)) = true := by simp; omega
      have d2 : decide (i < n) = true := by simp; omega
      obtain ⟨y, hy⟩ : ∃ y, valL xn = y := ⟨_, rfl⟩
      have hyr := val_range xn
      rw [hy] at hyr
      have HXN := Lib.hid (fun (_ : Unit) => hxn)
      have HY := Lib.hid (fun (_ : Unit) => hy)
      have HVA : Hid (∀ w : World, Calls Try.prog 73 #[.int .u8 xn] w fun e w' => e = .returned (.int .i64 y) ∧ w = w') := Lib.hid (fun w => hy ▸ rvalue_any xn w)
      clear hxn hy
      by_cases hy0 : y < 0
      · have e : G = false := by
          rw [← HG.out ()]
          cases hg : goodB t
          · rfl
          · have h9 := ((read_good t).1 hg).1 (t.getD i 0) (by
              have hlen := HHN.out ()
              have hlt9 : i < (headL t).length := by omega
              have he : t.getD i 0 = (headL t)[i] := by
                have h8 : i < t.length := by rw [HL.out ()]; exact hlt
                have : (headL t).getD i 0 = (t.take hn).getD i 0 := by rw [HH.out ()]
                rw [show (t.take hn).getD i 0 = t.getD i 0 from by simp [List.getD, hin]] at this
                rw [← this]; simp [List.getD, hlt9]
              rw [he]; exact List.getElem_mem hlt9)
            rw [HXN.out (), HY.out ()] at h9
            omega
        subst e
        have HF : Hid (Own8 w (.slice none 0 0) [] wr) := Lib.hid ⟨World.ownsRow_nil _ _ _ _, HO.out.below⟩
        clear HS HV HO
        go_wp2_with (go_at_call 73; refine (HVA.out _).mono ?_; rintro e w' ⟨rfl, rfl⟩)
        go_returns
        exact ⟨_, rfl, HF.out⟩
      · have y0 : decide (y < 0) = false := by simp; omega
        have yr1 : 0 ≤ y := by omega
        have yr2 : y < 64 := hyr.2
        have HSQ := Lib.hid (fun (_ : Unit) => HS.out ())
        obtain ⟨wA, rfl⟩ : ∃ W, W = wr := ⟨_, rfl⟩
        clear hyr
        go_wp2_with (go_at_call 73; refine (HVA.out _).mono ?_; rintro e w' ⟨rfl, rfl⟩)
        go_loopw [4, 5, 6, 9] (fun ov vv mv kv wx => ∃ (u : Value) (o : List Int) (v : Int) (m q : Nat), u = ov ∧ vv = .int .i64 v ∧ mv = .int .i64 m ∧ kv = .int .i64 (kS q) ∧ q ≤ 6 ∧ Hid (Unit → stR t i q = (o, v, m)) ∧ Hid (Own8 w u o wx)) (fun _ _ _ kv _ => (intOf kv).toNat)
        case atStart => exact ⟨_, o, v, m, 0, rfl, rfl, rfl, rfl, by omega, HSQ, HO⟩
        case round =>
          clear HS HSQ HO
          obtain ⟨u, o, v, m, q, rfl, rfl, rfl, rfl, hq, HS, HO⟩ := hrel
          have hft := stR_fit (t := t) (i := i) (q := q) (by rw [HL.out ()]; omega) hq
          rw [HS.out ()] at hft
          obtain ⟨f1, f2, f3, f4, _⟩ := hft
          dsimp only at f1 f2 f3 f4
          have f5 := pow8 (n := (6 * i + q) % 8) (by omega)
          have v1 : v < 128 := by omega
          have m8 : m < 8 := by omega
          have ol : o.length ≤ 75100 := by omega
          by_cases hq6 : q < 6
          · obtain ⟨k1, k2, k3⟩ := kS_half hq6
            obtain ⟨K, hK⟩ : ∃ K, kS q = K := ⟨_, rfl⟩
            obtain ⟨K2, hK2⟩ : ∃ K, kS (q + 1) = K := ⟨_, rfl⟩
            rw [hK, hK2] at k1
            rw [hK] at k2 k3
            obtain ⟨z, hz⟩ : ∃ z, y / K = z := ⟨_, rfl⟩
            have z0 : 0 ≤ z ∧ z < 64 := by
              rw [← hz]
              exact ⟨Int.ediv_nonneg yr1 (by omega), by have := Int.ediv_le_self K yr1; omega⟩
            obtain ⟨z1, z2⟩ := z0
            obtain ⟨b, hb⟩ : ∃ b, z % 2 = b := ⟨_, rfl⟩
            have HST := Lib.hid (fun (_ : Unit) => show stR t i (q + 1) = stepR (o, v, m) b from by rw [stR_step t i hq6, HS.out (), HXN.out (), HY.out (), hK, hz, hb])
            have HKK := Lib.hid (fun (_ : Unit) => And.intro hK hK2)
            have a1 : y.tdiv K = z := by rw [Int.tdiv_eq_ediv_of_nonneg yr1, hz]
            have a2 : z.tmod 2 = b := by rw [Int.tmod_eq_emod_of_nonneg z1, hb]
            have b0 : 0 ≤ b ∧ b ≤ 1 := by omega
            obtain ⟨b1, b2⟩ := b0
            have a3 : K.tdiv 2 = K2 := by rw [Int.tdiv_eq_ediv_of_nonneg (by omega), k1]
            have a4 : IntKind.i64.wrap K2 = K2 := IntWalk.i64_in _ (by omega)
            have a5 : IntKind.i64.wrap z = z := IntWalk.i64_in _ (by omega)
            have a6 : IntKind.i64.wrap b = b := IntWalk.i64_in _ (by omega)
            have kz : (K == 0) = false := by simp; omega
            have kn : K ≠ 0 := by omega
            have kp : decide (0 < K) = true := by simp; omega
            rw [hK]
            clear hz hb hK hK2 f1 HS
            by_cases h8 : m + 1 = 8
            · obtain ⟨p, hp⟩ : ∃ p, 2 * v + b = p := ⟨_, rfl⟩
              have HS8 := Lib.hid (fun (_ : Unit) => show stR t i (q + 1) = (o ++ [p], 0, 0) from by rw [HST.out (), stepR_yes h8, hp])
              have m1 : (((m : Int) + 1) == 8) = true := by simp; omega
              have m2 : ((m + 1) == 8) = true := by simp; omega
              have w1 : IntKind.u8.wrap (2 * v + b) = 2 * v + b := IntWalk.u8_in _ (by omega)
              obtain ⟨A4, n4, c4, w4, hrun, hO4⟩ := HO.out.app [2 * v + b] 1 rfl (by omega)
              rw [hp] at hO4
              have HRUN := Lib.hid hrun
              have HO4 := Lib.hid hO4
              clear hrun hO4 hp HST HO
              go_wp2_with (first | (at_builtin; refine wpList_app rfl (.tmp 43) (.tmp 46) _ rfl _ _ rfl rfl HRUN.out ?_))
              go_roundw
              case rel => exact ⟨_, o ++ [p], 0, 0, q + 1, rfl, rfl, rfl, by rw [(HKK.out ()).2], by omega, HS8, HO4⟩
              case measure => simp [intOf]; omega
            · have HS8 := Lib.hid (fun (_ : Unit) => show stR t i (q + 1) = (o, 2 * v + b, m + 1) from by rw [HST.out (), stepR_no h8])
              have m1 : (((m : Int) + 1) == 8) = false := by simp; omega
              have m2 : ((m + 1) == 8) = false := by simp; omega
              clear HST
              go_wp2
              go_roundw
              case rel => exact ⟨u, o, 2 * v + b, m + 1, q + 1, rfl, rfl, by go_num, by rw [(HKK.out ()).2], by omega, HS8, HO⟩
              case measure => simp [intOf]; omega
          · have e : q = 6 := by omega
            subst e
            have HN := Lib.hid (fun (_ : Unit) => show stR t (i + 1) 0 = (o, v, m) from by rw [← stR_next (by rw [HL.out ()]; exact hlt), HS.out ()])
            have HV' : Hid (∀ j, j < i + 1 → 0 ≤ valL (t.getD j 0)) := Lib.hid (fun j hj => by
              rcases Nat.lt_or_ge j i with h | h
              · exact HV.out j h
              · rw [show j = i by omega, HXN.out (), HY.out ()]; exact yr1)
            have k6 : kS 6 = 0 := rfl
            rw [k6]
            clear HS HV f1
            go_wp2
            go_roundw
            case rel => exact ⟨u, o, v, m, i + 1, rfl, rfl, rfl, by go_num, by omega, HN, HV', HO⟩
            case measure => simp [intOf]; omega
    · have e : i = hn := by omega
      subst e
      have hft := stR_fit (t := t) (i := i) (q := 0) (by rw [HL.out ()]; omega) (by omega)
      rw [HS.out ()] at hft
      obtain ⟨_, _, _, f4, f5⟩ := hft
      dsimp only at f4 f5
      have ho : outR ((headL t).map valL) = o := by
        have := HS.out ()
        unfold stR at this
        rw [← HH.out ()] at this
        unfold outR
        simp only [List.take_zero, List.append_nil] at this
        rw [this]
      have hall : ∀ c ∈ headL t, 0 ≤ valL c := fun c hc => by
        obtain ⟨j, hj, rfl⟩ := List.getElem_of_mem hc
        have hjl := HHN.out ()
        have hji : j < i := by omega
        have := HV.out j hji
        have he : t.getD j 0 = (headL t)[j] := by
          have : (headL t).getD j 0 = (t.take i).getD j 0 := by rw [HH.out ()]
          rw [show (t.take i).getD j 0 = t.getD j 0 from by simp [List.getD, hji]] at this
          rw [← this]; simp [List.getD, hj]
        rwa [he] at this
      have hgi := good_iff hall ho f5
      rw [HG.out ()] at hgi
      have hdec : G = true → o = decB t := fun hg => by
        have := out_good t ((HG.out ()).trans hg)
        rw [← ho, this.2]
      obtain ⟨A, c, rfl, _⟩ := own_slice HO.out.own
      obtain ⟨hri, _⟩ := HO.out.ri
      have HWR := Lib.hid (rwrite_any (c := c) hri rfl (by omega) f5)
      have hse := str_eq (a := writeS o) (b := t) (by
        intro x hx
        have key : ∀ l : List Int, IsBytes l → ∀ x ∈ writeS l, 0 ≤ x ∧ x < 256 := write_bytes
        exact key o f5 x hx) HT.out
      have HSE : Hid (((strOfNums (writeS o)).toList == (strOfNums t).toList) = G) := Lib.hid (hse.trans hgi.symm)
      have HDC := Lib.hid hdec
      clear hse hgi hdec hall ho f4 f5 hri HS HV
      have hend : (decide ((i : Int) < (n : Int)) = false ∧ decide (i < n) = false) ∨ (decide ((i : Int) < (n : Int)) = true ∧ decide (i < n) = true ∧ ∃ h : i < (strOfNums t).size, ((strOfNums t)[i]'h).toNat = 61) := by
        rcases Nat.lt_or_ge i n with h | h
        · refine .inr ⟨by simp; omega, by simp; omega, by rw [hsz]; exact h, ?_⟩
          have h61 := H4.out () h
          have := str_at HT.out (i := i) (by rw [HL.out ()]; exact h) (by rw [hsz]; exact h)
          omega
        · exact .inl ⟨by simp; omega, by simp; omega⟩
      rcases hend with ⟨d1, d2⟩ | ⟨d1, d2, hix, h61⟩
      · cases G
        · have hse : ((strOfNums (writeS o)).toList == (strOfNums t).toList) = false := HSE.out
          clear HSE HDC
          go_wp2_with fail
          refine HWR.out.mono ?_
          rintro e w5 ⟨rfl, hb5⟩
          have HO5 := Lib.hid (HO.out.to hb5)
          clear hb5
          go_wp2
          go_returns
          exact ⟨_, rfl, ⟨World.ownsRow_nil _ _ _ _, HO5.out.below⟩⟩
        · have hse : ((strOfNums (writeS o)).toList == (strOfNums t).toList) = true := HSE.out
          have HDD := Lib.hid (fun (_ : Unit) => HDC.out rfl)
          clear HSE HDC
          go_wp2_with fail
          refine HWR.out.mono ?_
          rintro e w5 ⟨rfl, hb5⟩
          have HO5 := Lib.hid (HO.out.to hb5)
          clear hb5
          go_wp2
          go_returns
          exact ⟨_, rfl, Eq.subst (motive := fun z => Own8 w (.slice A o.length c) z w5) (HDD.out ()) HO5.out⟩
      · cases G
        · have hse : ((strOfNums (writeS o)).toList == (strOfNums t).toList) = false := HSE.out
          clear HSE HDC
          go_wp2_with fail
          refine HWR.out.mono ?_
          rintro e w5 ⟨rfl, hb5⟩
          have HO5 := Lib.hid (HO.out.to hb5)
          clear hb5
          go_wp2
          go_returns
          exact ⟨_, rfl, ⟨World.ownsRow_nil _ _ _ _, HO5.out.below⟩⟩
        · have hse : ((strOfNums (writeS o)).toList == (strOfNums t).toList) = true := HSE.out
          have HDD := Lib.hid (fun (_ : Unit) => HDC.out rfl)
          clear HSE HDC
          go_wp2_with fail
          refine HWR.out.mono ?_
          rintro e w5 ⟨rfl, hb5⟩
          have HO5 := Lib.hid (HO.out.to hb5)
          clear hb5
          go_wp2
          go_returns
          exact ⟨_, rfl, Eq.subst (motive := fun z => Own8 w (.slice A o.length c) z w5) (HDD.out ()) HO5.out⟩


end Go.Proofs.Ytmpmlmhphnpdlaa
