/-
  Proved here: Newest and Heard of the document's own Peer, whatever it heard; nothing is changed.
-/
import Derived.Test.YtjbnoggmnfannaaPo
namespace Go.Proofs.Ytjbnoggmnfannaa
open Go.RowKit
/-- The addresses, as the document's Peer keeps them. -/
def addrs (L : List (Nat × Int)) : List Int := L.map fun x => x.2
theorem addrs_len (L : List (Nat × Int)) : (addrs L).length = L.length := by simp [addrs]
theorem nonces_at {L : List (Nat × Int)} {i : Nat} (hi : i < L.length) : (nonces L).getD i 0 = ((wAt L i).1 : Int) := by simp [nonces, wAt, List.getD, hi]
theorem addrs_at {L : List (Nat × Int)} {i : Nat} (hi : i < L.length) : (addrs L).getD i 0 = (wAt L i).2 := by simp [addrs, wAt, List.getD, hi]
theorem wAt_mem {L : List (Nat × Int)} {i : Nat} (hi : i < L.length) : wAt L i ∈ L := by
  have : wAt L i = L[i] := by simp [wAt, List.getD, hi]
  rw [this]; exact List.getElem_mem hi
/-- The document's Peer in block x, with its two rows. -/
structure RP (w : World) (x : Nat) (vL vA : Value) (L : List (Nat × Int)) (M : Int) : Prop where
  row : w.heap[x]? = some (.cells #[vL, vA, .int .i64 M] 30 (0, 0))
  ownL : w.ownsRow (x + 1) 23 1 vL L.length (NV .u64 (nonces L))
  ownA : w.ownsRow (x + 1) 34 1 vA L.length (NV .u32 (addrs L))
section
variable {w : World} {x : Nat} {vL vA : Value} {L : List (Nat × Int)} {M : Int}
theorem RP.c0 (h : RP w x vL vA L M) : w.cell? ⟨x, 0, none⟩ = some vL := by have := h.row; simp [World.cell?, this]
theorem RP.c1 (h : RP w x vL vA L M) : w.cell? ⟨x, 1, none⟩ = some vA := by have := h.row; simp [World.cell?, this]
theorem RP.c2 (h : RP w x vL vA L M) : w.cell? ⟨x, 2, none⟩ = some (.int .i64 M) := by have := h.row; simp [World.cell?, this]
theorem RP.free (h : RP w x vL vA L M) (i : Nat) : w.frozen? ⟨x, i, none⟩ = false := frozen_of_row w x i _ _ h.row
theorem RP.lt (h : RP w x vL vA L M) : x < w.heap.size := lt_of_block h.row
theorem RP.drew (h : RP w x vL vA L M) : RP w.drew x vL vA L M := ⟨h.row, h.ownL, h.ownA⟩
theorem RP.below {w' : World} (h : RP w x vL vA L M) (hb : Below w.heap.size w w') : RP w' x vL vA L M := ⟨(hb.block x h.lt).trans h.row, own_below h.ownL hb, own_below h.ownA hb⟩
theorem RP.only {w' : World} {g : Nat} (h : RP w x vL vA L M) (ho : Only g w w') (hg : g < x) : RP w' x vL vA L M :=
  ⟨(ho.block x h.lt (by omega)).trans h.row, own_far h.ownL ho.grown (fun k e => by injection e with e; omega), own_far h.ownA ho.grown (fun k e => by injection e with e; omega)⟩
end
/-- The greatest nonce of L, and its place. -/
def NewS (L : List (Nat × Int)) (N : Nat) (a : Int) : Prop := (L = [] ∧ N = 0 ∧ a = -1) ∨ (∃ k : Nat, a = k ∧ k < L.length ∧ (wAt L k).1 = N ∧ ∀ y ∈ L, y.1 ≤ N)
theorem wAt_take {L : List (Nat × Int)} {i k : Nat} (h : k < i) : wAt (L.take i) k = wAt L k := by simp [wAt, List.getD, h]
theorem take_snoc {L : List (Nat × Int)} {i : Nat} (hi : i < L.length) : L.take (i + 1) = L.take i ++ [wAt L i] := by
  rw [List.take_add_one]; simp [wAt, List.getD, hi]
theorem NewS.step {L : List (Nat × Int)} {i N : Nat} {a : Int} (h : NewS (L.take i) N a) (hi : i < L.length) (hpos : 0 < (wAt L i).1) :
    (N < (wAt L i).1 → NewS (L.take (i + 1)) (wAt L i).1 i) ∧ (¬ N < (wAt L i).1 → NewS (L.take (i + 1)) N a) := by
  have hl : (L.take (i + 1)).length = i + 1 := by simp; omega
  have hl0 : (L.take i).length = i := by simp; omega
  constructor
  · intro hlt
    refine .inr ⟨i, rfl, by omega, by rw [wAt_take (by omega)], fun y hy => ?_⟩
    rw [take_snoc hi] at hy
    rcases List.mem_append.1 hy with hy | hy
    · rcases h with ⟨h, _⟩ | ⟨_, _, _, _, h⟩
      · rw [h] at hy; cases hy
      · have := h y hy; omega
    · rw [List.mem_singleton.1 hy]; exact Nat.le_refl _
  · intro hge
    rcases h with ⟨_, h2, _⟩ | ⟨k, h1, h2, h3, h4⟩
    · omega
    · refine .inr ⟨k, h1, by omega, by rw [wAt_take (by omega)] at h3 ⊢; exact h3, fun y hy => ?_⟩
      rw [take_snoc hi] at hy
      rcases List.mem_append.1 hy with hy | hy
      · exact h4 y hy
      · rw [List.mem_singleton.1 hy]; omega
/-- It is the peer's own. -/
theorem NewS.eq {L : List (Nat × Int)} {p : PV} {N : Nat} {a : Int} (h : NewS L N a) (hL : Hd L p) : N = p.N ∧ (L = [] → a = -1 ∧ p.N = 0) ∧ (L ≠ [] → 0 < p.N ∧ ∃ k : Nat, a = k ∧ k < L.length ∧ (wAt L k).1 = p.N) := by
  rcases h with ⟨h1, h2, h3⟩ | ⟨k, h1, h2, h3, h4⟩
  · subst h1
    have : p.N = 0 := by
      rcases Nat.eq_zero_or_pos p.N with h | h
      · exact h
      · exact absurd (hL.most h) (by simp)
    exact ⟨by omega, fun _ => ⟨h3, this⟩, fun h => absurd rfl h⟩
  · have hm := wAt_mem h2
    have ht := hL.top _ hm
    have hp := hL.pos _ hm
    have := h4 _ (hL.most (by omega))
    have e : N = p.N := by show N = p.N; have : p.N ≤ N := this; omega
    exact ⟨e, (fun h => by rw [h] at h2; cases h2), fun _ => ⟨by omega, k, h1, h2, h3.trans e⟩⟩

set_option maxHeartbeats 1000000 in
theorem rnewest_any {w : World} {x : Nat} {vL vA : Value} {L : List (Nat × Int)} {M : Int} (h : RP w x vL vA L M) (hl : L.length ≤ 1000) (hpos : ∀ y ∈ L, 0 < y.1) :
    Calls Try.prog 10 #[.pointer (some ⟨x, 0, none⟩)] w fun e w' => (∃ (N : Nat) (a : Int), e = .returned (.tuple #[.int .u64 N, .int .i64 a]) ∧ NewS L N a) ∧ w = w' := by
  obtain ⟨A, c, rfl, _⟩ := own_slice h.ownL
  have c0 := h.c0
  have HO := Lib.hid h.ownL
  have HP := Lib.hid hpos
  obtain ⟨n, hn⟩ : ∃ n, L.length = n := ⟨_, rfl⟩
  rw [hn] at HO c0 hl
  have HN := Lib.hid hn
  clear h hpos hn
  go_enter Try.func10, Try.ntmps10
  go_wp2
  go_loopw [4, 5, 6] (fun nv av iv wr => ∃ (i N : Nat) (a : Int), i ≤ n ∧ iv = .int .i64 i ∧ nv = .int .u64 (N : Int) ∧ av = .int .i64 a ∧ Hid (NewS (L.take i) N a) ∧ w = wr) (fun _ _ iv _ => n - (intOf iv).toNat)
  case atStart => exact ⟨0, 0, -1, by omega, rfl, rfl, rfl, Lib.hid (.inl ⟨rfl, rfl, rfl⟩), rfl⟩
  case round =>
    obtain ⟨i, N, a, hi, rfl, rfl, rfl, HS, rfl⟩ := hrel
    by_cases hin : i < n
    · obtain ⟨g, rfl, _, _, hc⟩ := own_cells HO.out ((nonces_len L).trans HN.out) (by omega)
      have e0 := hc i hin
      rw [nonces_at (by rw [HN.out]; exact hin)] at e0
      have hst := HS.out.step (by rw [HN.out]; exact hin) (HP.out _ (wAt_mem (by rw [HN.out]; exact hin)))
      obtain ⟨y, hy⟩ : ∃ y, (wAt L i).1 = y := ⟨_, rfl⟩
      rw [hy] at e0 hst
      have HST := Lib.hid hst
      have g3 : (0 : Int) ≤ (i : Int) := by omega
      have g4 : (i : Int) < (n : Int) := by omega
      clear hc hy hst HS
      by_cases hlt : N < y
      · have d1 : decide ((N : Int) < (y : Int)) = true := by simp; omega
        have d2 : decide (N < y) = true := by simp; omega
        go_wp2
        go_roundw
        case rel => exact ⟨i + 1, y, i, by omega, by go_num, rfl, rfl, Lib.hid (HST.out.1 hlt), trivial⟩
        case measure => simp [intOf]; omega
      · have d1 : decide ((N : Int) < (y : Int)) = false := by simp; omega
        have d2 : decide (N < y) = false := by simp; omega
        go_wp2
        go_roundw
        case rel => exact ⟨i + 1, N, a, by omega, by go_num, rfl, rfl, Lib.hid (HST.out.2 hlt), trivial⟩
        case measure => simp [intOf]; omega
    · have hge : n ≤ i := by omega
      have HF : Hid (NewS L N a) := Lib.hid (by have := HS.out; rwa [List.take_of_length_le (by rw [HN.out]; exact hge)] at this)
      clear HS
      go_wp2
      go_returns
      exact ⟨⟨N, a, rfl, HF.out⟩, rfl⟩
set_option maxHeartbeats 1000000 in
theorem rheard_any {w : World} {x : Nat} {vL vA : Value} {L : List (Nat × Int)} {M : Int} {p : PV} (h : RP w x vL vA L M) (hl : L.length ≤ 1000) (hL : Hd L p) (m : Nat) (hm : m < 18446744073709551616) (b : Bool) (hb : heardS p.N p.H m = b) :
    Calls Try.prog 14 #[.pointer (some ⟨x, 0, none⟩), .int .u64 m] w fun e w' => e = .returned (.bool b) ∧ w = w' := by
  obtain ⟨A, c, rfl, _⟩ := own_slice h.ownL
  have hh := hL.heard m
  rw [hb] at hh
  have HH := Lib.hid hh
  have c0 := h.c0
  have HO := Lib.hid h.ownL
  have HR := Lib.hid h
  have HL := Lib.hid hL
  have HMX := Lib.hid hL.max
  obtain ⟨n, hn⟩ : ∃ n, L.length = n := ⟨_, rfl⟩
  rw [hn] at HO c0 hl
  have HN := Lib.hid hn
  have HPOS := Lib.hid hL.pos
  clear h hL hn hh hb
  go_enter Try.func14, Try.ntmps14
  go_wp2_with fail
  refine (rnewest_any HR.out (by rw [HN.out]; exact hl) HPOS.out).mono ?_
  rintro e w' ⟨⟨N, a, rfl, hS⟩, rfl⟩
  obtain ⟨rfl, h1, h2⟩ := hS.eq HL.out
  by_cases hnil : L = []
  · obtain ⟨rfl, hz⟩ := h1 hnil
    have hbf : b = false := by
      cases b
      · rfl
      · have := HH.out.1 rfl; omega
    subst hbf
    clear h1 h2 hS
    go_wp2
    go_ret
    exact ⟨rfl, rfl⟩
  · obtain ⟨hpN, k, rfl, hk, _⟩ := h2 hnil
    have a0 : decide ((k : Int) < 0) = false := by simp
    clear h1 h2 hS
    by_cases hm0 : m = 0
    · have hbt : b = true := HH.out.2 ⟨hpN, by omega, .inl hm0⟩
      subst hbt
      have a1 : ((m : Int) == 0) = true := by simp; omega
      go_wp2
      go_ret
      exact ⟨rfl, rfl⟩
    · have a1 : ((m : Int) == 0) = false := by simp; omega
      obtain ⟨d, hd⟩ : ∃ d, p.N - m = d := ⟨_, rfl⟩
      obtain ⟨N, hNe⟩ : ∃ N, p.N = N := ⟨_, rfl⟩
      rw [hNe] at hd HH hpN HMX ⊢
      have HMX' := HMX.out
      by_cases hfar : m < N ∧ 63 < d
      · have hbt : b = true := HH.out.2 ⟨hpN, by omega, .inr (.inl (by omega))⟩
        subst hbt
        have a2 : decide ((m : Int) < (N : Int)) = true := by simp; omega
        have a3 : decide (m < N) = true := by simp; omega
        have a4 : IntKind.u64.wrap ((N : Int) - (m : Int)) = (d : Int) := by rw [show (N : Int) - (m : Int) = (d : Int) by omega]; exact IntWalk.u64_in _ (by omega)
        have a5 : decide ((63 : Int) < (d : Int)) = true := by simp; omega
        have a6 : decide (63 < d) = true := by simp; omega
        clear hNe HMX'
        go_wp2
        go_ret
        exact ⟨rfl, rfl⟩
      · have HF := Lib.hid (fun (_ : Unit) => hfar)
        have HB := Lib.hid (fun (_ : Unit) => show b = true ↔ ∃ j, j < n ∧ (wAt L j).1 = m from by
          rw [HH.out]
          constructor
          · rintro ⟨_, h2, h3 | h3 | h3⟩
            · omega
            · omega
            · obtain ⟨y, hy, rfl⟩ := List.mem_map.1 h3
              obtain ⟨j, hj, rfl⟩ := List.getElem_of_mem hy
              exact ⟨j, by rw [← HN.out]; exact hj, by simp [wAt, List.getD, hj]⟩
          · rintro ⟨j, hj, rfl⟩
            have hmem := wAt_mem (L := L) (i := j) (by rw [HN.out]; exact hj)
            refine ⟨hpN, ?_, .inr (.inr (List.mem_map.2 ⟨_, hmem, rfl⟩))⟩
            have := HL.out.top _ hmem
            rw [hNe] at this
            exact this)
        have HD : Hid (m < N → N - m = d ∧ d ≤ 63) := Lib.hid (fun h => ⟨hd, by omega⟩)
        clear hd hfar HH
        have key : (decide ((m : Int) < (N : Int)) = false ∧ decide (m < N) = false) ∨ (decide ((m : Int) < (N : Int)) = true ∧ decide (m < N) = true ∧ IntKind.u64.wrap ((N : Int) - (m : Int)) = (d : Int) ∧ decide ((63 : Int) < (d : Int)) = false ∧ decide (63 < d) = false) := by
          by_cases hlt : m < N
          · obtain ⟨h1, h2⟩ := HD.out hlt
            refine .inr ⟨by simp; omega, by simp; omega, ?_, by simp; omega, by simp; omega⟩
            rw [show (N : Int) - (m : Int) = (d : Int) by omega]
            exact IntWalk.u64_in _ (by omega)
          · exact .inl ⟨by simp; omega, by simp; omega⟩
        clear hNe HMX' HD
        rcases key with ⟨a2, a3⟩ | ⟨a2, a3, a4, a5, a6⟩
        · go_wp2
          go_loopw [7] (fun jv wr => ∃ j : Nat, j ≤ n ∧ jv = .int .i64 j ∧ Hid (∀ i, i < j → (wAt L i).1 ≠ m) ∧ w = wr) (fun jv _ => n - (intOf jv).toNat)
          case atStart => exact ⟨0, by omega, rfl, Lib.hid (fun i hi => absurd hi (by omega)), rfl⟩
          case round =>
            obtain ⟨j, hj, rfl, HJ, rfl⟩ := hrel
            by_cases hjn : j < n
            · obtain ⟨g, rfl, _, _, hc⟩ := own_cells HO.out ((nonces_len L).trans HN.out) (by omega)
              have e0 := hc j hjn
              rw [nonces_at (by rw [HN.out]; exact hjn)] at e0
              obtain ⟨y, hy⟩ : ∃ y, (wAt L j).1 = y := ⟨_, rfl⟩
              rw [hy] at e0
              have HY := Lib.hid (fun (_ : Unit) => hy)
              have g3 : (0 : Int) ≤ (j : Int) := by omega
              have g4 : (j : Int) < (n : Int) := by omega
              clear hc hy
              by_cases hym : y = m
              · have hbt : b = true := (HB.out ()).2 ⟨j, hjn, (HY.out ()).trans hym⟩
                have d1 : ((y : Int) == (m : Int)) = true := by simp; omega
                have d2 : (y == m) = true := by simp; omega
                subst hbt
                clear HJ hym
                go_wp2
                go_ret
                exact ⟨rfl, rfl⟩
              · have d1 : ((y : Int) == (m : Int)) = false := by simp; omega
                have d2 : (y == m) = false := by simp; omega
                have HJ' : Hid (∀ i, i < j + 1 → (wAt L i).1 ≠ m) := Lib.hid (fun i hi => by
                  rcases Nat.lt_or_ge i j with h | h
                  · exact HJ.out i h
                  · rw [show i = j by omega, HY.out ()]; exact hym)
                clear HJ hym
                go_wp2
                go_roundw
                case rel => exact ⟨j + 1, by omega, by go_num, HJ', trivial⟩
                case measure => simp [intOf]; omega
            · have hbf : b = false := by
                cases b
                · rfl
                · obtain ⟨i, hi, he⟩ := (HB.out ()).1 rfl
                  exact absurd he (HJ.out i (by omega))
              have hge : n ≤ j := by omega
              subst hbf
              clear HJ hjn
              go_wp2
              go_ret
              exact ⟨rfl, rfl⟩
        · go_wp2
          go_loopw [7] (fun jv wr => ∃ j : Nat, j ≤ n ∧ jv = .int .i64 j ∧ Hid (∀ i, i < j → (wAt L i).1 ≠ m) ∧ w = wr) (fun jv _ => n - (intOf jv).toNat)
          case atStart => exact ⟨0, by omega, rfl, Lib.hid (fun i hi => absurd hi (by omega)), rfl⟩
          case round =>
            obtain ⟨j, hj, rfl, HJ, rfl⟩ := hrel
            by_cases hjn : j < n
            · obtain ⟨g, rfl, _, _, hc⟩ := own_cells HO.out ((nonces_len L).trans HN.out) (by omega)
              have e0 := hc j hjn
              rw [nonces_at (by rw [HN.out]; exact hjn)] at e0
              obtain ⟨y, hy⟩ : ∃ y, (wAt L j).1 = y := ⟨_, rfl⟩
              rw [hy] at e0
              have HY := Lib.hid (fun (_ : Unit) => hy)
              have g3 : (0 : Int) ≤ (j : Int) := by omega
              have g4 : (j : Int) < (n : Int) := by omega
              clear hc hy
              by_cases hym : y = m
              · have hbt : b = true := (HB.out ()).2 ⟨j, hjn, (HY.out ()).trans hym⟩
                have d1 : ((y : Int) == (m : Int)) = true := by simp; omega
                have d2 : (y == m) = true := by simp; omega
                subst hbt
                clear HJ hym
                go_wp2
                go_ret
                exact ⟨rfl, rfl⟩
              · have d1 : ((y : Int) == (m : Int)) = false := by simp; omega
                have d2 : (y == m) = false := by simp; omega
                have HJ' : Hid (∀ i, i < j + 1 → (wAt L i).1 ≠ m) := Lib.hid (fun i hi => by
                  rcases Nat.lt_or_ge i j with h | h
                  · exact HJ.out i h
                  · rw [show i = j by omega, HY.out ()]; exact hym)
                clear HJ hym
                go_wp2
                go_roundw
                case rel => exact ⟨j + 1, by omega, by go_num, HJ', trivial⟩
                case measure => simp [intOf]; omega
            · have hbf : b = false := by
                cases b
                · rfl
                · obtain ⟨i, hi, he⟩ := (HB.out ()).1 rfl
                  exact absurd he (HJ.out i (by omega))
              have hge : n ≤ j := by omega
              subst hbf
              clear HJ hjn
              go_wp2
              go_ret
              exact ⟨rfl, rfl⟩
end Go.Proofs.Ytjbnoggmnfannaa
