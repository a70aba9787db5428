/-
  Proved here, for every slice that reads as numbers below 2^40: the document's own 'carried' answers digits of the same number, in memory of its own.
-/
import Derived.Test.YtakfcdemoaogfaaDoorRMath
import Derived.Test.YtakfcdemoaogfaaDoorSFill
namespace Go.Proofs.YtakfcdemoaogfaaDoor
open Go.RowKit
theorem infoU64 : (Tryd.prog.info? 36).map (fun i => (i.zero, i.size, i.bytes)) = some (some (.int .u64 0), 1, 8) := by kernel_rfl
def V64 (l : List Nat) : List Value := l.map fun n : Nat => .int .u64 (n : Int)
theorem length_V64 (l : List Nat) : (V64 l).length = l.length := by simp [V64]
theorem V64_get {l : List Nat} {i : Nat} (h : i < l.length) : (V64 l)[i]? = some (.int .u64 (l.getD i 0 : Nat)) := by simp [V64, List.getD, h]
theorem V64_append (a b : List Nat) : V64 (a ++ b) = V64 a ++ V64 b := by simp [V64]
theorem own_le {w : World} {base : Nat} {e : TypeId} {size : Nat} {v : Value} {n : Nat} {xs : List Value} (h : w.ownsRow base e size v n xs) : ∀ k, v.ownBlock = some k → base ≤ k := by
  intro k hk
  rcases h.2 with ⟨rfl, _⟩ | ⟨g, cap, cur, rfl, hg, _⟩
  · simp [Value.ownBlock] at hk
  · have : g = k := by simpa [Value.ownBlock] using hk
    omega
/-- A slice of some kind of number that reads as xs. -/
def RN (κ : IntKind) (w : World) (A : Option Addr) (xs : List Nat) : Prop :=
  0 < xs.length → ∃ b off, A = some ⟨b, off, none⟩ ∧ b < w.heap.size ∧ ∀ i, i < xs.length → w.cell? ⟨b, off + i, none⟩ = some (.int κ (xs.getD i 0 : Nat))
theorem RN.to {κ : IntKind} {w w' : World} {A : Option Addr} {cs : List Nat} (h : RN κ w A cs) (hb : Below w.heap.size w w') : RN κ w' A cs := fun hl => by
  obtain ⟨b, off, e, hlt, hc⟩ := h hl
  exact ⟨b, off, e, Nat.lt_of_lt_of_le hlt hb.size, fun i hi => (hb.cell (p := ⟨b, off + i, none⟩) hlt).trans (hc i hi)⟩
/-- What the call itself made reads as it. -/
theorem own_rn {κ : IntKind} {w : World} {base : Nat} {e : TypeId} {v : Value} {n : Nat} {xs : List Nat} (h : w.ownsRow base e 1 v n (xs.map fun n : Nat => Value.int κ (n : Int))) : ∃ A c, v = .slice A n c ∧ RN κ w A xs ∧ n ≤ c ∧ c ≤ maxLen := by
  have hlen : xs.length = n := by have := h.1; simpa using this
  rcases id h.2 with ⟨rfl, rfl⟩ | ⟨g, cap, cur, rfl, hg, hh, h1, h2, _⟩
  · exact ⟨none, 0, rfl, fun hp => absurd hp (by omega), by omega, by unfold maxLen; omega⟩
  · refine ⟨_, cap, rfl, fun hp => ⟨g, 0, rfl, (Array.getElem?_eq_some_iff.1 hh).1, fun i hi => ?_⟩, h1, h2⟩
    have := h.cellAt i (by omega)
    rw [Nat.zero_add, this]
    simp [List.getD, hi]
def CarPost (l : List Nat) (w : World) (e : Ending) (w' : World) : Prop :=
  ∃ out v, e = .returned v ∧ val out = val l ∧ (∀ d ∈ out, d < 4096) ∧ l.length ≤ out.length ∧ out.length ≤ l.length + 4 ∧ w'.ownsRow w.heap.size 36 1 v out.length (V64 out) ∧ Below w.heap.size w w'
set_option maxRecDepth 100000 in
set_option maxHeartbeats 1000000 in
theorem carried_any (l : List Nat) (A : Option Addr) (cap : Nat) (w : World) (hR : RN .u64 w A l) (hd : ∀ i, l.getD i 0 < 1099511627776) (hl : l.length ≤ 1000) :
    Calls Tryd.prog 44 #[.slice A l.length cap] w (CarPost l w) := by
  obtain ⟨i0, hi, hz0, hz1, hz2⟩ := info_parts infoU64
  have HR := Lib.hid hR
  have HD := Lib.hid hd
  clear hR hd
  go_enter Tryd.func44, Tryd.ntmps44
  go_wp2
  go_loopw [3, 4, 5] (fun v c i wr => ∃ (k cN : Nat) (out : List Nat), k ≤ l.length + 4 ∧ out.length = k ∧ i = .int .i64 k ∧ c = .int .u64 cN ∧ cN < 1099511627776 ∧ wr.ownsRow w.heap.size 36 1 v out.length (V64 out) ∧ Below w.heap.size w wr ∧ Hid (cN * 4096 ^ (k - l.length) < 1099511627776 ∧ val out + 4096 ^ k * (cN + val (l.drop k)) = val l ∧ ∀ d ∈ out, d < 4096))
    (fun _ c i _ => (l.length - (intOf i).toNat) * 1099511627776 + (intOf c).toNat)
  case atStart => exact ⟨0, 0, [], by omega, rfl, rfl, rfl, by omega, World.ownsRow_nil _ _ _ _, Below.refl _ _, by simp, by simp [val], by simp⟩
  case round =>
    obtain ⟨k, cN, out, hk, ho, rfl, rfl, hc, hown, hbel, hH⟩ := hrel
    have hbs := hbel.size
    have HO := Lib.hid ho
    by_cases hlt : k < l.length
    · obtain ⟨b, off, rfl, hbl, hcl⟩ := HR.out (by omega)
      have hcw : wr.cell? ⟨b, off + k, none⟩ = some (.int .u64 (l.getD k 0 : Nat)) := (hbel.cell (p := ⟨b, off + k, none⟩) hbl).trans (hcl k hlt)
      clear hcl
      have hx := HD.out k
      obtain ⟨hN1, hN2, hN3⟩ := hH
      have HV := Lib.hid (car_in hlt ho hN2)
      have HW := Lib.hid (all_lt_append hN3 (show (cN + l.getD k 0) % 4096 < 4096 by omega))
      clear hN1 hN2 hN3
      obtain ⟨x, hxx⟩ : ∃ x, l.getD k 0 = x := ⟨_, rfl⟩
      rw [hxx] at hcw hx HV HW
      clear hxx
      rw [ho] at hown
      clear ho
      have r1 : ((cN : Int) + (x : Int)) % 18446744073709551616 = ((cN + x : Nat) : Int) := by omega
      have r2 : ((cN + x : Nat) : Int) % 4096 = (((cN + x) % 4096 : Nat) : Int) := by omega
      have r3 : ((cN + x : Nat) : Int) / 4096 = (((cN + x) / 4096 : Nat) : Int) := by omega
      go_wp2_with (at_builtin; refine wpList_append_own _ rfl _ _ 79 rfl w.heap.size 36 i0 (.int .u64 0) 1 8 Tryd.underlying79 hi hz0 hz1 hz2 rfl (by decide) _ _ _ rfl (hown.alloc _) ⟨wr.heap.size, 0, none⟩ 1 1 [.int .u64 ((cN + x) % 4096 : Nat)] rfl rfl ?c1 ?c2 ?c3 ?c4 ?c5 ?_)
      case c1 =>
        intro q u hq
        match q, hq with
        | 0, hq => simp at hq; subst hq; simp [Addr.add]
      case c2 => intro u hu; simp at hu; subst hu; rfl
      case c3 => unfold maxLen; omega
      case c4 => omega
      case c5 => simp; omega
      · intro v' w1 hown1 hgrow _
        have hb1 : Below w.heap.size w w1 := (hbel.alloc hbs _).grown hgrow (by simp; omega) (own_le hown)
        clear hgrow hown hbel
        go_wp2
        go_roundw
        case rel => exact ⟨k + 1, (cN + x) / 4096, out ++ [(cN + x) % 4096], by omega, by simp [HO.out], by go_num, rfl, by omega, by rw [List.length_append, HO.out, V64_append]; exact hown1, hb1, by rw [show k + 1 - l.length = 0 by omega]; omega, HV.out, HW.out⟩
        case measure => simp [intOf]; omega
    · by_cases h0 : cN = 0
      · subst h0
        have hE := Lib.hid (show CarPost l w (.returned _) wr from ⟨out, _, rfl, car_end (by omega) hH.2.1, hH.2.2, by omega, by omega, hown, hbel⟩)
        clear hH hown hbel
        go_wp2
        go_ret
        exact hE.out
      · obtain ⟨hN1, hN2, hN3⟩ := hH
        have hk4 : k < l.length + 4 := by
          rcases Nat.lt_or_ge k (l.length + 4) with h | h
          · exact h
          · obtain rfl : k = l.length + 4 := by omega
            rw [Nat.add_sub_cancel_left] at hN1
            exact absurd (car_stop hN1) h0
        have HV := Lib.hid (car_out (by omega) ho hN2)
        have HW := Lib.hid (all_lt_append hN3 (show cN % 4096 < 4096 by omega))
        have HC := Lib.hid (car_less hN1)
        have hp : 0 < cN := by omega
        clear hN1 hN2 hN3 h0
        rw [ho] at hown
        clear ho
        obtain ⟨m, hm⟩ : ∃ m, cN % 4096 = m := ⟨_, rfl⟩
        obtain ⟨q, hq⟩ : ∃ q, cN / 4096 = q := ⟨_, rfl⟩
        have r2 : (cN : Int) % 4096 = (m : Int) := by omega
        have r3 : (cN : Int) / 4096 = (q : Int) := by omega
        have hq1 : q < cN := by omega
        rw [hm, hq] at HV
        rw [hm] at HW
        rw [hq] at HC
        clear hm hq
        go_wp2_with (at_builtin; refine wpList_append_own _ rfl _ _ 79 rfl w.heap.size 36 i0 (.int .u64 0) 1 8 Tryd.underlying79 hi hz0 hz1 hz2 rfl (by decide) _ _ _ rfl (hown.alloc _) ⟨wr.heap.size, 0, none⟩ 1 1 [.int .u64 (m)] rfl rfl ?c1 ?c2 ?c3 ?c4 ?c5 ?_)
        case c1 =>
          intro j u hj
          match j, hj with
          | 0, hj => simp at hj; subst hj; simp [Addr.add]
        case c2 => intro u hu; simp at hu; subst hu; rfl
        case c3 => unfold maxLen; omega
        case c4 => omega
        case c5 => simp; omega
        · intro v' w1 hown1 hgrow _
          have hb1 : Below w.heap.size w w1 := (hbel.alloc hbs _).grown hgrow (by simp; omega) (own_le hown)
          clear hgrow hown hbel
          go_wp2
          go_roundw
          case rel => exact ⟨k + 1, q, out ++ [m], by omega, by simp [HO.out], by go_num, rfl, by omega, by rw [List.length_append, HO.out, V64_append]; exact hown1, hb1, by rw [show k + 1 - l.length = k - l.length + 1 by omega]; exact HC.out, HV.out, HW.out⟩
          case measure => simp [intOf]; omega
end Go.Proofs.YtakfcdemoaogfaaDoor
