/-
  Proved here: for every slice that reads as fields, As answers a slice that reads as the same fields, in memory of its own (the data themselves are shared); and Same answers true of two slices that read as the same fields.
-/
import Derived.Test.YtdhnhpcmfbiieaaDoorVPutF
import Derived.Test.YtdhnhpcmfbiieaaDoorVStr
namespace Go.Proofs.YtdhnhpcmfbiieaaDoor
open Go.RowKit

/-- A slice's value that reads as the bytes d. -/
def DVal (w : World) (B : Nat) (v : Value) (d : List Int) : Prop := ∃ A c, v = .slice A d.length c ∧ RB w B A d ∧ d.length ≤ c ∧ c ≤ maxLen ∧ (A = none → c = 0)
/-- Cells that hold fields. -/
def FC (w : World) (B : Nat) : List Value → List Fld → Prop
  | [], [] => True
  | u :: v :: r, f :: fs => u = .int .u8 f.1 ∧ DVal w B v f.2 ∧ FC w B r fs
  | _, _ => False
theorem DVal.keep {w w' : World} {B : Nat} {v : Value} {d : List Int} (h : DVal w B v d) (hb : Below B w w') : DVal w' B v d := by
  obtain ⟨A, c, h1, h2, h3⟩ := h
  exact ⟨A, c, h1, h2.below hb, h3⟩
theorem DVal.more {w : World} {B B' : Nat} {v : Value} {d : List Int} (h : DVal w B v d) (hB : B ≤ B') : DVal w B' v d := by
  obtain ⟨A, c, h1, h2, h3⟩ := h
  exact ⟨A, c, h1, h2.keep' hB, h3⟩
theorem FC.snoc {w : World} {B : Nat} {v : Value} {f : Fld} (hv : DVal w B v f.2) : ∀ {cs : List Value} {fs : List Fld}, FC w B cs fs → FC w B (cs ++ [.int .u8 f.1, v]) (fs ++ [f])
  | [], [], _ => ⟨rfl, hv, trivial⟩
  | [], _ :: _, h => h.elim
  | [_], [], h => h.elim
  | [_], _ :: _, h => h.elim
  | _ :: _ :: _, [], h => h.elim
  | _ :: _ :: _, _ :: _, ⟨h1, h2, h3⟩ => ⟨h1, h2, FC.snoc hv h3⟩
theorem FC.below {w w' : World} {B : Nat} (hb : Below B w w') : ∀ {cs : List Value} {fs : List Fld}, FC w B cs fs → FC w' B cs fs
  | [], [], _ => trivial
  | [], _ :: _, h => h.elim
  | [_], [], h => h.elim
  | [_], _ :: _, h => h.elim
  | _ :: _ :: _, [], h => h.elim
  | _ :: _ :: _, _ :: _, ⟨h1, h2, h3⟩ => ⟨h1, h2.keep hb, FC.below hb h3⟩
theorem FC.at_ {w : World} {B : Nat} : ∀ {cs : List Value} {fs : List Fld}, FC w B cs fs → ∀ i, i < fs.length → cs[i * 2]? = some (.int .u8 (fAt fs i).1) ∧ ∃ v, cs[i * 2 + 1]? = some v ∧ DVal w B v (fAt fs i).2
  | [], [], _, _, hi => absurd hi (by simp)
  | [], _ :: _, h, _, _ => h.elim
  | [_], [], h, _, _ => h.elim
  | [_], _ :: _, h, _, _ => h.elim
  | _ :: _ :: _, [], h, _, _ => h.elim
  | u :: v :: r, f :: fs, ⟨h1, h2, _⟩, 0, _ => ⟨by simp [fAt, h1], v, by simp, by simpa [fAt] using h2⟩
  | u :: v :: r, f :: fs, ⟨_, _, h3⟩, i + 1, hi => by
    have := FC.at_ h3 i (by simpa using hi)
    have e1 : (i + 1) * 2 = i * 2 + 1 + 1 := by omega
    simp only [e1, List.getElem?_cons_succ]
    simpa [fAt] using this
theorem FO.toFC {w : World} {base : Nat} : ∀ {cs : List Value} {fs : List Fld}, FO w base cs fs → FC w w.heap.size cs fs
  | [], [], _ => trivial
  | [], _ :: _, h => h.elim
  | [_], [], h => h.elim
  | [_], _ :: _, h => h.elim
  | _ :: _ :: _, [], h => h.elim
  | _ :: _ :: _, _ :: _, ⟨h1, h2, h3⟩ => ⟨h1, RB.of_own h2, FO.toFC h3⟩
/-- Rows of the call's own that hold fields read as these. -/
theorem FS.of_rows {w : World} {base B : Nat} {e : TypeId} {A : Option Addr} {c : Nat} {cs : List Value} {fs : List Fld} (h : w.ownsRow base e 2 (.slice A fs.length c) fs.length cs) (hF : FC w B cs fs) (hB : B ≤ w.heap.size) : FS w w.heap.size A fs := by
  intro hl
  obtain ⟨g, cap, hv, _, hlt⟩ := h.form hl
  injection hv with hA _ hc
  subst hA; subst hc
  refine ⟨g, 0, rfl, hlt, fun i hi => ?_⟩
  obtain ⟨h1, v, h2, h3⟩ := hF.at_ i hi
  obtain ⟨A', c', rfl, h4⟩ := h3.more hB
  have e1 := h.cellAt (i * 2) (by omega)
  have e2 := h.cellAt (i * 2 + 1) (by omega)
  rw [Nat.zero_add]
  exact ⟨e1.trans h1, A', c', e2.trans h2, h4⟩

theorem infoRefFld : (Tryd.prog.info? 61).map (fun i => (i.zero, i.size, i.bytes)) = some (some (.agg #[.int .u8 0, .slice none 0 0]), 2, 32) := by kernel_rfl

/-- What As answers. -/
def AsPost (fs : List Fld) (w : World) (e : Ending) (w' : World) : Prop := ∃ A c, e = .returned (.slice A fs.length c) ∧ FS w' w'.heap.size A fs ∧ Below w.heap.size w w'

theorem grown_undrew {w w1 : World} {row : Option Nat} (h : w.drew.grownBy w1 row) : w.grownBy w1 row := ⟨h.os, h.tape, h.output, h.size, h.block⟩
theorem as_step {w wr w1 : World} {o : Obj} {lv : Value} {cs : List Value} {n : Nat} (hbel : Below w.heap.size w wr) (hown : wr.ownsRow w.heap.size 61 2 lv n cs) (hgrow : (wr.alloc o).grownBy w1 lv.ownBlock) : Below w.heap.size w w1 := by
  have h1 := hbel.alloc hbel.size o
  exact h1.grown hgrow h1.size (ownBlock_le hown)

set_option maxHeartbeats 1000000 in
theorem as_any (fs : List Fld) (A : Option Addr) (cap : Nat) (w : World) (hF : FS w w.heap.size A fs) (hl : fs.length ≤ 140) : Calls Tryd.prog 20 #[.slice A fs.length cap] w (AsPost fs w) := by
  obtain ⟨i0, hi, hz0, hz1, hz2⟩ := info_parts infoRefFld
  have HF := Lib.hid hF
  clear hF
  go_enter Tryd.func20, Tryd.ntmps20
  go_wp2
  go_loopw [3, 4] (fun out i wr => ∃ (k : Nat) (cs : List Value), k ≤ fs.length ∧ i = .int .i64 k ∧ wr.ownsRow w.heap.size 61 2 out k cs ∧ FC w w.heap.size cs (fs.take k) ∧ Below w.heap.size w wr) (fun _ i _ => fs.length - (intOf i).toNat)
  case atStart => exact ⟨0, [], by omega, rfl, World.ownsRow_nil _ _ _ _, by simp [FC], Below.refl _ _⟩
  case round =>
    obtain ⟨k, cs, hk, rfl, hown, hFC, hbel⟩ := hrel
    have hbs := hbel.size
    have HFC := Lib.hid hFC
    clear hFC
    by_cases hlt : k < fs.length
    · have HT := Lib.hid (take_snoc hlt)
      obtain ⟨b, off, hA, hb, hc⟩ := HF.out (by omega)
      subst hA
      obtain ⟨ct0, A', c', hcell0, hRB, hcl, hcm, hcn⟩ := hc k hlt
      have ct : wr.cell? ⟨b, off + k * 2, none⟩ = some (.int .u8 (fAt fs k).1) := (hbel.cell (p := ⟨b, off + k * 2, none⟩) hb).trans ct0
      have hcell : wr.cell? ⟨b, off + k * 2 + 1, none⟩ = some (.slice A' (fAt fs k).2.length c') := (hbel.cell (p := ⟨b, off + k * 2 + 1, none⟩) hb).trans hcell0
      have HDV : Hid (DVal w w.heap.size (.slice A' (fAt fs k).2.length c') (fAt fs k).2) := ⟨A', c', rfl, hRB, hcl, hcm, hcn⟩
      have HNX := Lib.hid (HFC.out.snoc HDV.out)
      rw [← HT.out] at HNX
      clear hc ct0 hcell0 hRB hcl hcm hcn
      obtain ⟨t, ht⟩ : ∃ t, (fAt fs k).1 = t := ⟨_, rfl⟩
      obtain ⟨n, hn⟩ : ∃ n, (fAt fs k).2.length = n := ⟨_, rfl⟩
      rw [ht] at ct HNX
      rw [hn] at hcell HNX
      clear ht hn HDV
      obtain ⟨AL, cL, rfl, _⟩ := own_slice hown
      have hmx : k + 1 ≤ maxLen := by unfold maxLen; omega
      have hby : (k + 1) * 32 ≤ 140737488355328 := by omega
      have hbb : b < wr.heap.size := by omega
      have g3 : (0 : Int) ≤ (k : Int) := by omega
      have g4 : (k : Int) < (fs.length : Int) := by omega
      go_wp2
      go_region_held3 (fun w' => w'.cell? ⟨b, off + k * 2, none⟩ = some (.int .u8 t) ∧ w'.cell? ⟨b, off + k * 2 + 1, none⟩ = some (.slice A' n c'))
        (first | go_keep | exact ⟨hk1, hk2⟩)
        (first
          | (refine step_append_lies _ (by rfl) _ _ _ (by rfl) w.heap.size 61 i0 _ 2 32 Tryd.underlying40 hi hz0 hz1 hz2 rfl (by omega) (.slice AL k cL) k cs (by rfl) ((hown.alloc _).drew) ⟨wr.heap.size, 0, none⟩ 1 1 [.int .u8 t, .slice A' n c'] (by rfl) (by rfl) (World.news_of_block (cs := #[.int .u8 t, .slice A' n c']) (t := 61) (fr := (0, 0)) (heap_alloc_new wr _)) (by simp [Value.oneCell']) (by omega) hmx hby (by simp; omega) (wr.heap.size + 1) (by simp) ?_; intro gg cp w1 hown1 hgrow0 hat hlt1; have hgrow := grown_undrew hgrow0; have hk1 := kept_cell (w1 := wr) (a := ⟨b, off + k * 2, none⟩) hgrow hbb (ownBlock_ge hown hb) ct; have hk2 := kept_cell (w1 := wr) (a := ⟨b, off + k * 2 + 1, none⟩) hgrow hbb (ownBlock_ge hown hb) hcell))
      have hb1 := as_step hbel hown hgrow
      clear hgrow0 hgrow hk1 hk2 hown ct hcell
      go_wp2
      go_roundw
      case rel => exact ⟨k + 1, _, by omega, by go_num, hown1, HNX.out, hb1⟩
      case measure => simp [intOf]; omega
    · go_wp2
      go_ret
      obtain rfl : k = fs.length := by omega
      have hFC := HFC.out
      rw [List.take_length] at hFC
      obtain ⟨A2, c2, rfl, _⟩ := own_slice hown
      exact ⟨A2, c2, rfl, FS.of_rows hown (hFC.below hbel) hbs, hbel⟩
end Go.Proofs.YtdhnhpcmfbiieaaDoor
