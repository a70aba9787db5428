/-
  Proved here, for every list of bytes that a slice reads as: Numbers, the program's and the document's own, answers what 'numsS' says: the numbers in memory of its own, or none and an error.
-/
import Derived.Test.YtdhnhpcmfbiieaaDoorVFields
import Derived.Test.YtdhnhpcmfbiieaaDoorVRefGet
namespace Go.Proofs.YtdhnhpcmfbiieaaDoor
open Go.RowKit

/-- The numbers from p on, behind those that there are. -/
def ngo (bs : List Int) : Nat → Nat → List Int → List Int × Int
  | 0, _, out => (out, 0)
  | f + 1, p, out => if p < bs.length then (if (getS bs (p : Int)).2.2 = 0 then ngo bs f (getS bs (p : Int)).2.1.toNat (out ++ [(getS bs (p : Int)).1]) else ([], (getS bs (p : Int)).2.2)) else (out, 0)
/-- What Numbers answers. -/
def numsS (bs : List Int) : List Int × Int := ngo bs (bs.length + 1) 0 []

theorem infoU64 : (Tryd.prog.info? 22).map (fun i => (i.zero, i.size, i.bytes)) = some (some (.int .u64 0), 1, 8) := by kernel_rfl
abbrev U64 (l : List Int) : List Value := l.map (Value.int .u64)

def NumsPost (R : List Int × Int) (w : World) (e : Ending) (w' : World) : Prop :=
  ∃ v, e = .returned (.tuple #[v, .int .i64 R.2]) ∧ w'.ownsRow w.heap.size 22 1 v R.1.length (U64 R.1) ∧ Below w.heap.size w w'

theorem np_err {bs : List Int} {f p : Nat} {out : List Int} {w w' : World} (hp : p < bs.length) (hf : bs.length < f + p) (h0 : (getS bs (p : Int)).2.2 ≠ 0) (hR : ngo bs f p out = numsS bs) (hb : Below w.heap.size w w') :
    NumsPost (numsS bs) w (.returned (.tuple #[.slice none 0 0, .int .i64 (getS bs (p : Int)).2.2])) w' := by
  obtain ⟨f, rfl⟩ : ∃ g, f = g + 1 := ⟨f - 1, by omega⟩
  rw [ngo, if_pos hp, if_neg h0] at hR
  rw [← hR]
  exact ⟨_, rfl, World.ownsRow_nil _ _ _ _, hb⟩
theorem np_end {bs : List Int} {f p : Nat} {out : List Int} {w w' : World} {v : Value} (hp : ¬ p < bs.length) (hp' : p ≤ bs.length) (hf : bs.length < f + p) (hR : ngo bs f p out = numsS bs) (ho : w'.ownsRow w.heap.size 22 1 v out.length (U64 out)) (hb : Below w.heap.size w w') :
    NumsPost (numsS bs) w (.returned (.tuple #[v, .int .i64 0])) w' := by
  obtain ⟨f, rfl⟩ : ∃ g, f = g + 1 := ⟨f - 1, by omega⟩
  rw [ngo, if_neg hp] at hR
  rw [← hR]
  exact ⟨_, rfl, ho, hb⟩
theorem ngo_step {bs : List Int} {f p : Nat} {out : List Int} {R : List Int × Int} {x : Int} {q : Nat} (hp : p < bs.length) (hf : bs.length < f + p) (he : (getS bs (p : Int)).2.2 = 0) (hR : ngo bs f p out = R) (hx : (getS bs (p : Int)).1 = x) (hq : (getS bs (p : Int)).2.1 = (q : Int)) :
    ngo bs (f - 1) q (out ++ [x]) = R := by
  obtain ⟨f, rfl⟩ : ∃ g, f = g + 1 := ⟨f - 1, by omega⟩
  rw [ngo, if_pos hp, if_pos he, hq, hx, Int.toNat_natCast] at hR
  exact hR

set_option maxHeartbeats 2000000 in
theorem nums_any (bs : List Int) (A : Option Addr) (cap : Nat) (w : World) (hR : RB w w.heap.size A bs) (hcap : bs.length ≤ cap) (hm : cap ≤ maxLen) (hl : bs.length ≤ 17592186040320) (hB : Bytes bs) (hT : Tab w) :
    Calls Tryd.prog 12 #[.slice A bs.length cap] w (NumsPost (numsS bs) w) := by
  obtain ⟨i0, hi, hz0, hz1, hz2⟩ := info_parts infoU64
  have HR := Lib.hid hR
  clear hR
  go_enter Tryd.func12, Tryd.ntmps12
  go_wp2
  go_loopw [4, 5] (fun l pt wr => ∃ (p f : Nat) (out : List Int), p ≤ bs.length ∧ out.length ≤ p ∧ bs.length < f + p ∧ pt = .int .i64 p ∧ wr.ownsRow w.heap.size 22 1 l out.length (U64 out) ∧ Below w.heap.size w wr ∧ ngo bs f p out = numsS bs)
    (fun _ pt _ => bs.length - (intOf pt).toNat)
  case atStart => exact ⟨0, bs.length + 1, [], by omega, by simp, by omega, rfl, World.ownsRow_nil _ _ _ _, Below.refl _ _, rfl⟩
  case round =>
    obtain ⟨p, f, out, hp, hol, hf, rfl, hown, hbel, hRR⟩ := hrel
    have HRR := Lib.hid hRR
    clear hRR
    by_cases hlt : p < bs.length
    · go_wp2_with fail
      refine (get_any bs A cap w.heap.size (p : Int) _ (HR.out.below hbel) hcap hm hB (hT.below hbel hT.big)).mono ?_
      rintro e w' ⟨rfl, rfl⟩
      by_cases h2 : (getS bs (p : Int)).2.2 = 0
      · obtain ⟨hN0, hN1, hF0, hF1⟩ := getS_ok hB h2
        have b2 : ((getS bs (p : Int)).2.2 != 0) = false := by simpa using h2
        have hbs := hbel.size
        obtain ⟨F, hF⟩ : ∃ F : Nat, (getS bs (p : Int)).2.1 = (F : Int) := ⟨(getS bs (p : Int)).2.1.toNat, by omega⟩
        obtain ⟨N, hN⟩ : ∃ N : Int, (getS bs (p : Int)).1 = N := ⟨_, rfl⟩
        have HG := Lib.hid (ngo_step hlt hf h2 HRR.out hN hF)
        obtain ⟨E, hE⟩ : ∃ E, (getS bs (p : Int)).2.2 = E := ⟨_, rfl⟩
        clear h2
        rw [hF] at hF0 hF1 ⊢
        rw [hN] at hN0 hN1 ⊢
        rw [hE] at b2 ⊢
        clear hF hN hE
        go_wp2_with (at_builtin; refine wpList_append_own _ rfl _ _ 30 rfl w.heap.size 22 i0 (.int .u64 0) 1 8 Tryd.underlying30 hi hz0 hz1 hz2 rfl (by decide) _ _ _ rfl (hown.alloc _) ⟨wr.heap.size, 0, none⟩ 1 1 [.int .u64 N] rfl rfl ?c1 ?c2 ?c3 ?c4 ?c5 ?_)
        case c1 =>
          intro q u hq
          match q, hq with
          | 0, hq => simp at hq; subst hq; simp [Addr.add]
        case c2 => intro u hu; simp at hu; subst hu; rfl
        case c3 => unfold maxLen; omega
        case c4 => omega
        case c5 => simp; omega
        · intro v' w1 hown1 hgrow _
          have hb1 : Below w.heap.size w w1 := (hbel.alloc hbs _).grown hgrow (by simp; omega) (ownBlock_le hown)
          clear hgrow hown hbel
          go_wp2
          go_roundw
          case rel => exact ⟨F, f - 1, out ++ [N], by omega, by simp; omega, by omega, rfl, by simpa [U64] using hown1, hb1, HG.out⟩
          case measure => simp [intOf]; omega
      · have b2 : ((getS bs (p : Int)).2.2 != 0) = true := by simpa using h2
        have HE := Lib.hid (np_err (w := w) (w' := wr) hlt hf h2 HRR.out hbel)
        clear h2
        go_wp2
        go_ret2
        exact HE.out
    · have HE := Lib.hid (np_end (w := w) hlt hp hf HRR.out hown hbel)
      go_wp2
      go_ret2
      exact HE.out

set_option maxHeartbeats 2000000 in
theorem rnums_any (bs : List Int) (A : Option Addr) (cap : Nat) (w : World) (hR : RB w w.heap.size A bs) (hcap : bs.length ≤ cap) (hm : cap ≤ maxLen) (hl : bs.length ≤ 17592186040320) (hB : Bytes bs) :
    Calls Tryd.prog 13 #[.slice A bs.length cap] w (NumsPost (numsS bs) w) := by
  obtain ⟨i0, hi, hz0, hz1, hz2⟩ := info_parts infoU64
  have HR := Lib.hid hR
  clear hR
  go_enter Tryd.func13, Tryd.ntmps13
  go_wp2
  go_loopw [4, 5] (fun l pt wr => ∃ (p f : Nat) (out : List Int), p ≤ bs.length ∧ out.length ≤ p ∧ bs.length < f + p ∧ pt = .int .i64 p ∧ wr.ownsRow w.heap.size 22 1 l out.length (U64 out) ∧ Below w.heap.size w wr ∧ ngo bs f p out = numsS bs)
    (fun _ pt _ => bs.length - (intOf pt).toNat)
  case atStart => exact ⟨0, bs.length + 1, [], by omega, by simp, by omega, rfl, World.ownsRow_nil _ _ _ _, Below.refl _ _, rfl⟩
  case round =>
    obtain ⟨p, f, out, hp, hol, hf, rfl, hown, hbel, hRR⟩ := hrel
    have HRR := Lib.hid hRR
    clear hRR
    by_cases hlt : p < bs.length
    · go_wp2_with fail
      refine (rget_any bs A cap w.heap.size (p : Int) _ (HR.out.below hbel) (by omega) hB).mono ?_
      rintro e w' ⟨rfl, rfl⟩
      by_cases h2 : (getS bs (p : Int)).2.2 = 0
      · obtain ⟨hN0, hN1, hF0, hF1⟩ := getS_ok hB h2
        have b2 : ((getS bs (p : Int)).2.2 != 0) = false := by simpa using h2
        have hbs := hbel.size
        obtain ⟨F, hF⟩ : ∃ F : Nat, (getS bs (p : Int)).2.1 = (F : Int) := ⟨(getS bs (p : Int)).2.1.toNat, by omega⟩
        obtain ⟨N, hN⟩ : ∃ N : Int, (getS bs (p : Int)).1 = N := ⟨_, rfl⟩
        have HG := Lib.hid (ngo_step hlt hf h2 HRR.out hN hF)
        obtain ⟨E, hE⟩ : ∃ E, (getS bs (p : Int)).2.2 = E := ⟨_, rfl⟩
        clear h2
        rw [hF] at hF0 hF1 ⊢
        rw [hN] at hN0 hN1 ⊢
        rw [hE] at b2 ⊢
        clear hF hN hE
        go_wp2_with (at_builtin; refine wpList_append_own _ rfl _ _ 30 rfl w.heap.size 22 i0 (.int .u64 0) 1 8 Tryd.underlying30 hi hz0 hz1 hz2 rfl (by decide) _ _ _ rfl (hown.alloc _) ⟨wr.heap.size, 0, none⟩ 1 1 [.int .u64 N] rfl rfl ?c1 ?c2 ?c3 ?c4 ?c5 ?_)
        case c1 =>
          intro q u hq
          match q, hq with
          | 0, hq => simp at hq; subst hq; simp [Addr.add]
        case c2 => intro u hu; simp at hu; subst hu; rfl
        case c3 => unfold maxLen; omega
        case c4 => omega
        case c5 => simp; omega
        · intro v' w1 hown1 hgrow _
          have hb1 : Below w.heap.size w w1 := (hbel.alloc hbs _).grown hgrow (by simp; omega) (ownBlock_le hown)
          clear hgrow hown hbel
          go_wp2
          go_roundw
          case rel => exact ⟨F, f - 1, out ++ [N], by omega, by simp; omega, by omega, rfl, by simpa [U64] using hown1, hb1, HG.out⟩
          case measure => simp [intOf]; omega
      · have b2 : ((getS bs (p : Int)).2.2 != 0) = true := by simpa using h2
        have HE := Lib.hid (np_err (w := w) (w' := wr) hlt hf h2 HRR.out hbel)
        clear h2
        go_wp2
        go_ret2
        exact HE.out
    · have HE := Lib.hid (np_end (w := w) hlt hp hf HRR.out hown hbel)
      go_wp2
      go_ret2
      exact HE.out
end Go.Proofs.YtdhnhpcmfbiieaaDoor
