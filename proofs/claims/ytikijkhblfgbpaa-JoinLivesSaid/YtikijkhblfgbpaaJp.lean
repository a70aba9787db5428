/-
  Proved here: Put (join), where it refuses and where it does not.
-/
import Derived.Test.YtikijkhblfgbpaaJq
namespace Go.Proofs.Ytikijkhblfgbpaa
open Go.RowKit Go.Maps Go.Sort

theorem cell_grown (W : World) (b off : Nat) (v : Value) : W.grownBy (W.setCell ⟨b, off, none⟩ v) (some b) := ⟨rfl, rfl, rfl, (KeepsWalks.setCell W _ v).size, fun k _ hk => Below.heap_setCell _ _ _ k (fun e => hk (by rw [e]))⟩
def lay4 (w : World) (g k : Nat) (p : Prt) (v : Value) : World := (((w.setCell ⟨g, 1 + k * 4, none⟩ (.int .u64 p.id)).setCell ⟨g, 1 + k * 4 + 1, none⟩ (.int .i64 p.ix)).setCell ⟨g, 1 + k * 4 + 2, none⟩ (.int .i64 p.ct)).setCell ⟨g, 1 + k * 4 + 3, none⟩ v
theorem lay4_grown (w : World) (g k : Nat) (p : Prt) (v : Value) : w.grownBy (lay4 w g k p v) (some g) :=
  grown_store (grown_store (grown_store (cell_grown w g _ _) (cell_grown _ g _ _) rfl) (cell_grown _ g _ _) rfl) (cell_grown _ g _ _) rfl
theorem dat_laid (T : TV) (f : FV) (k : Nat) (p : Prt) : dat (laid T f k p).fs = dat T.fs := by
  unfold dat laid
  rw [List.map_map]
  congr 1
  apply List.map_congr_left
  intro y _
  by_cases e : y.g = f.g <;> simp [laidF, e]
theorem TabAt.laid {w : World} {base t : Nat} {T : TV} {f : FV} (h : TabAt w base t T) (hf : f ∈ T.fs) (k : Nat) (hk : k < 64) (p : Prt) (v : Value) (hv : w.ownsRow base 5 1 v p.d.length (B8 p.d)) : TabAt (lay4 w f.g k p v) base t (laid T f k p) := by
  have hg := lay4_grown w f.g k p v
  obtain ⟨b, hb, ht, hm⟩ := h.map
  obtain ⟨_, ⟨C0, hC0, _⟩, _⟩ := h.frames f hf
  have hno : ∀ cur, Obj.cells (Value.int .i64 f.ct :: C0).toArray 59 (0, 0) ≠ .cells cur 5 (0, 0) := fun cur e => by injection e with _ e2; exact absurd e2 (by decide)
  have htl := (Array.getElem?_eq_some_iff.1 ht).1
  have hm0 := hm
  obtain ⟨es, clock, ho, _⟩ := hm0
  have htg : some t ≠ some f.g := fun e => by injection e with e; rw [e, hC0] at ht; injection ht with ht; injection ht with _ e2; exact absurd e2 (by decide)
  have hbg : some b ≠ some f.g := fun e => by injection e with e; rw [e, hC0] at ho; cases ho
  refine ⟨h.le, ⟨b, hb, (hg.block _ htl htg).trans ht, own_tight (n := T.fs.length) (by rw [dat_laid]; exact hm.kept hg hbg) rfl⟩, fun y hy => ?_, ?_, h.fl0, h.fl1, by simp [Go.Proofs.Ytikijkhblfgbpaa.laid, h.few]⟩
  · obtain ⟨z, hz, rfl⟩ := List.mem_map.1 hy
    have hZ := h.frames z hz
    by_cases e : z.g = f.g
    · rw [if_pos e]
      obtain ⟨h1, ⟨C, hC, hP⟩, h2, h3, h4⟩ := hZ
      refine ⟨h1, ⟨_, ?_, PO.set (hv.kept hg (row_other hv hC0 hno)) (hP.imp fun v d h2 => h2.kept hg (row_other h2 hC0 hno)) k (by omega)⟩, by simp [laidF, h2], h3, h4⟩
      rw [e] at hC
      have h5 := heap_setCell_same _ f.g (1 + k * 4 + 3) _ _ v (heap_setCell_same _ f.g (1 + k * 4 + 2) _ _ (.int .i64 p.ct) (heap_setCell_same _ f.g (1 + k * 4 + 1) _ _ (.int .i64 p.ix) (heap_setCell_same w f.g (1 + k * 4) _ _ (.int .u64 p.id) hC)))
      have e0 : 1 + k * 4 = k * 4 + 1 := by omega
      show (lay4 w f.g k p v).heap[z.g]? = _
      rw [e]
      refine Eq.trans h5 ?_
      simp only [List.setIfInBounds_toArray, e0, List.set_cons_succ]
      rfl
    · rw [if_neg e]
      exact hZ.grown hg (fun e' => e e'.symm) hC0 hno
  · have : (Go.Proofs.Ytikijkhblfgbpaa.laid T f k p).fs.map FV.g = T.fs.map FV.g := by
      unfold Go.Proofs.Ytikijkhblfgbpaa.laid
      rw [List.map_map]
      apply List.map_congr_left
      intro y _
      by_cases e : y.g = f.g <;> simp [laidF, e]
    rw [this]; exact h.apart

end Go.Proofs.Ytikijkhblfgbpaa
