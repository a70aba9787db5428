/-
  Proved here: what an empty peer, which no call made, answers. And the document's Hear, whatever the nonce.
-/
import Derived.Test.YtjbnoggmnfannaaPu
namespace Go.Proofs.Ytjbnoggmnfannaa
open Go.RowKit
/-- An empty peer in block z. -/
def Zp (w : World) (z : Nat) : Prop := w.heap[z]? = some (.cells #[.bool false, .int .u64 0, .int .u64 0, .int .u32 0, .int .i64 0] 45 (0, 0))
theorem none_zp (z : Nat) (w : World) (h : Zp w z) : Calls Try.prog 17 #[.pointer (some ⟨z, 0, none⟩)] w fun e w' => e = .returned (.bool true) ∧ w = w' := by
  have c0 : w.cell? ⟨z, 0, none⟩ = some (.bool false) := by unfold Zp at h; simp [World.cell?, h]
  have c1 : w.cell? ⟨z, 1, none⟩ = some (.int .u64 0) := by unfold Zp at h; simp [World.cell?, h]
  have c2 : w.cell? ⟨z, 2, none⟩ = some (.int .u64 0) := by unfold Zp at h; simp [World.cell?, h]
  have c3 : w.cell? ⟨z, 3, none⟩ = some (.int .u32 0) := by unfold Zp at h; simp [World.cell?, h]
  have c4 : w.cell? ⟨z, 4, none⟩ = some (.int .i64 0) := by unfold Zp at h; simp [World.cell?, h]
  clear h
  go_enter Try.func17, Try.ntmps17
  go_wp2
  go_ret
  exact ⟨rfl, rfl⟩
theorem silent_zp (z : Nat) (w : World) (h : Zp w z) : Calls Try.prog 19 #[.pointer (some ⟨z, 0, none⟩)] w fun e w' => e = .returned (.bool true) ∧ w = w' := by
  have H := Lib.hid h
  clear h
  go_enter Try.func19, Try.ntmps19
  go_wp2_with fail
  refine (none_zp z w H.out).mono ?_
  rintro e w' ⟨rfl, rfl⟩
  go_wp2
  go_ret
  exact ⟨rfl, rfl⟩
theorem heard_zp (z : Nat) (n : Int) (w : World) (h : Zp w z) : Calls Try.prog 13 #[.pointer (some ⟨z, 0, none⟩), .int .u64 n] w fun e w' => e = .returned (.bool false) ∧ w = w' := by
  have H := Lib.hid h
  clear h
  go_enter Try.func13, Try.ntmps13
  go_wp2_with fail
  refine (silent_zp z w H.out).mono ?_
  rintro e w' ⟨rfl, rfl⟩
  go_wp2
  go_ret
  exact ⟨rfl, rfl⟩
theorem hear_zp (z : Nat) (n f : Int) (w : World) (h : Zp w z) : Calls Try.prog 8 #[.pointer (some ⟨z, 0, none⟩), .int .u64 n, .int .u32 f] w fun e w' => e = .returned (.tuple #[.bool false, .int .i64 6]) ∧ w = w' := by
  have H := Lib.hid h
  clear h
  go_enter Try.func8, Try.ntmps8
  go_wp2_with fail
  refine (none_zp z w H.out).mono ?_
  rintro e w' ⟨rfl, rfl⟩
  go_wp2
  go_returns
  exact ⟨rfl, rfl⟩
theorem RPost.bad {w : World} {x : Nat} {vL vA : Value} {L : List (Nat × Int)} {p : PV} (h : RP w x vL vA L p.M) {m : Nat} {f E : Int} (hr : hearS p m f = (p, false, E)) (hE : E ≠ 0) : RPost w x L p m f (.returned (.tuple #[.bool false, .int .i64 E])) w := by
  unfold RPost
  rw [hr]
  exact ⟨rfl, vL, vA, by rw [if_neg hE]; exact h, Below.refl _ _⟩
theorem rhear_any {w : World} {x : Nat} {vL vA : Value} {L : List (Nat × Int)} {p : PV} (h : RP w x vL vA L p.M) (hl : L.length ≤ 900) (hL : Hd L p) (hd : (L.map Prod.fst).Nodup) (m : Nat) (f : Int) (hm : m < 18446744073709551616) :
    Calls Try.prog 9 #[.pointer (some ⟨x, 0, none⟩), .int .u64 m, .int .u32 f] w fun e w' => RPost w x L p m f e w' := by
  by_cases h0 : m = 0
  · have HQ := Lib.hid (fun (_ : Unit) => RPost.bad h (m := m) (f := f) (E := 1) (by unfold hearS; rw [if_pos (.inl h0)]) (by decide))
    subst h0
    clear h hL hd
    go_enter Try.func9, Try.ntmps9
    go_wp2
    go_returns
    exact HQ.out ()
  by_cases h1 : 9223372036854775807 < m
  · have HQ := Lib.hid (fun (_ : Unit) => RPost.bad h (m := m) (f := f) (E := 1) (by unfold hearS; rw [if_pos (.inr h1)]) (by decide))
    have z0 : ((m : Int) == 0) = false := by simp; omega
    have z1 : decide ((9223372036854775807 : Int) < (m : Int)) = true := by simp; omega
    clear h hL hd
    go_enter Try.func9, Try.ntmps9
    go_wp2
    go_returns
    exact HQ.out ()
  by_cases h2 : heardS p.N p.H m = true
  · have HQ := Lib.hid (fun (_ : Unit) => RPost.bad h (m := m) (f := f) (E := 23) (by unfold hearS; rw [if_neg (by omega), if_pos h2]) (by decide))
    have z0 : ((m : Int) == 0) = false := by simp; omega
    have z1 : decide ((9223372036854775807 : Int) < (m : Int)) = false := by simp; omega
    have HR := Lib.hid (rheard_any h (by omega) hL m hm true h2)
    clear h hL hd h2
    go_enter Try.func9, Try.ntmps9
    go_wp2_with fail
    refine HR.out.mono ?_
    rintro e w' ⟨rfl, rfl⟩
    go_wp2
    go_returns
    exact HQ.out ()
  · exact rhear_fine h hl hL hd m f (by omega) (by omega) (by simpa using h2)
end Go.Proofs.Ytjbnoggmnfannaa
