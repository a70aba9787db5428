/-
  Proved here: what it is for a slice to read as fields; and, for every such slice, Great answers a bool and changes nothing; where it answers false there are at most 140 fields, of at most 17000 bytes each, and 60000 in all.
-/
import Derived.Test.YtdhnhpcmfbiieaaDoorVFields
namespace Go.Proofs.YtdhnhpcmfbiieaaDoor
open Go.RowKit

/-- The field at place i. -/
def fAt (fs : List Fld) (i : Nat) : Fld := fs.getD i (0, [])
/-- A slice's cell that reads as the bytes d. -/
def DC (w : World) (B : Nat) (p : Addr) (d : List Int) : Prop := ∃ A c, w.cell? p = some (.slice A d.length c) ∧ RB w B A d ∧ d.length ≤ c ∧ c ≤ maxLen ∧ (A = none → c = 0)
/-- A slice that reads as fields, below block B. -/
def FS (w : World) (B : Nat) (A : Option Addr) (fs : List Fld) : Prop :=
  0 < fs.length → ∃ b off, A = some ⟨b, off, none⟩ ∧ b < B ∧ ∀ i, i < fs.length → w.cell? ⟨b, off + i * 2, none⟩ = some (.int .u8 (fAt fs i).1) ∧ DC w B ⟨b, off + i * 2 + 1, none⟩ (fAt fs i).2
/-- Tags are bytes, and data are. -/
def FOk (fs : List Fld) : Prop := ∀ f ∈ fs, 0 ≤ f.1 ∧ f.1 < 256 ∧ Bytes f.2
/-- Not too great for a statement. -/
def Fit (fs : List Fld) : Prop := fs.length ≤ 140 ∧ ∀ i, i < fs.length → (fAt fs i).2.length ≤ 17000

theorem DC.keep {w w' : World} {B : Nat} {p : Addr} {d : List Int} (h : DC w B p d) (hp : p.block < B) (hk : ∀ q : Addr, q.block < B → w'.cell? q = w.cell? q) : DC w' B p d := by
  obtain ⟨A, c, h1, h2, h3⟩ := h
  exact ⟨A, c, (hk p hp).trans h1, h2.keep hk, h3⟩
theorem DC.more {w : World} {B B' : Nat} {p : Addr} {d : List Int} (h : DC w B p d) (hB : B ≤ B') : DC w B' p d := by
  obtain ⟨A, c, h1, h2, h3⟩ := h
  exact ⟨A, c, h1, h2.keep' hB, h3⟩
theorem FS.keep {w w' : World} {B : Nat} {A : Option Addr} {fs : List Fld} (h : FS w B A fs) (hk : ∀ q : Addr, q.block < B → w'.cell? q = w.cell? q) : FS w' B A fs := fun hl => by
  obtain ⟨b, off, e, hb, hc⟩ := h hl
  exact ⟨b, off, e, hb, fun i hi => ⟨(hk _ hb).trans (hc i hi).1, (hc i hi).2.keep hb hk⟩⟩
theorem FS.below {w w' : World} {B : Nat} {A : Option Addr} {fs : List Fld} (h : FS w B A fs) (hb : Below B w w') : FS w' B A fs := h.keep fun _ hq => hb.cell hq
theorem FS.more {w : World} {B B' : Nat} {A : Option Addr} {fs : List Fld} (h : FS w B A fs) (hB : B ≤ B') : FS w B' A fs := fun hl => by
  obtain ⟨b, off, e, hb, hc⟩ := h hl
  exact ⟨b, off, e, by omega, fun i hi => ⟨(hc i hi).1, (hc i hi).2.more hB⟩⟩

/-- What Great answers. -/
def GreatPost (fs : List Fld) (w : World) (e : Ending) (w' : World) : Prop := w = w' ∧ (e = .returned (.bool true) ∨ (e = .returned (.bool false) ∧ Fit fs))

set_option maxHeartbeats 1000000 in
theorem great_any (fs : List Fld) (A : Option Addr) (cap B : Nat) (w : World) (hF : FS w B A fs) (hl : fs.length ≤ maxLen) : Calls Tryd.prog 17 #[.slice A fs.length cap] w (GreatPost fs w) := by
  unfold maxLen at hl
  have HF := Lib.hid hF
  clear hF
  go_enter Tryd.func17, Tryd.ntmps17
  go_wp2
  go_loop [3, 4] (fun all i => ∃ (k : Nat) (s : Int), k ≤ fs.length ∧ (0 < k → fs.length ≤ 140) ∧ 0 ≤ s ∧ s ≤ 60000 ∧ i = .int .i64 k ∧ all = .int .i64 s ∧ ∀ j, j < k → (fAt fs j).2.length ≤ 17000) (fun _ i => fs.length - (intOf i).toNat)
  case atStart => exact ⟨0, 0, by omega, by omega, by omega, by omega, rfl, rfl, fun j h => absurd h (by omega)⟩
  case round =>
    obtain ⟨k, s, hk, hk140, hs0, hs1, rfl, rfl, hj⟩ := hrel
    have HJ := Lib.hid hj
    have HK := Lib.hid hk140
    clear hj hk140
    by_cases hlt : k < fs.length
    · by_cases h140 : 140 < fs.length
      · have d1 : decide ((140 : Int) < (fs.length : Int)) = true := by simp; omega
        go_wp2
        go_ret
        exact ⟨rfl, .inl rfl⟩
      · have d1 : decide ((140 : Int) < (fs.length : Int)) = false := by simp; omega
        obtain ⟨b, off, hA, hb, hc⟩ := HF.out (by omega)
        subst hA
        obtain ⟨A', c', hcell, _, hcl, hcm, _⟩ := (hc k hlt).2
        clear hc
        unfold maxLen at hcm
        go_wp2
        · go_ret
          exact ⟨rfl, .inl rfl⟩
        · go_ret
          exact ⟨rfl, .inl rfl⟩
        · have h1 : ((fAt fs k).2.length : Int) ≤ 17000 := by assumption
          have h2 : s + ((fAt fs k).2.length : Int) ≤ 60000 := by assumption
          go_round
          case rel =>
            refine ⟨k + 1, s + ((fAt fs k).2.length : Int), by omega, fun _ => by omega, by omega, h2, by go_num, rfl, fun j hj => ?_⟩
            rcases Nat.lt_or_ge j k with h | h
            · exact HJ.out j h
            · obtain rfl : j = k := by omega
              omega
          case measure => simp [intOf]; omega
    · go_wp2
      go_ret
      refine ⟨rfl, .inr ⟨rfl, ?_, fun i hi => HJ.out i (by omega)⟩⟩
      rcases Nat.eq_zero_or_pos k with h | h
      · omega
      · exact HK.out h
end Go.Proofs.YtdhnhpcmfbiieaaDoor
