/-
  Kept here: what a Table (join) is in memory. Proved: isNone, Floor, isFull, Waits.
-/
import Derived.Test.YtikijkhblfgbpaaJl
import Derived.Test.YtikijkhblfgbpaaFc
import Derived.Maps.OwnSet
import Derived.Shelf.Abstract
namespace Go.Proofs.Ytikijkhblfgbpaa
open Go.RowKit Go.Maps Go.Sort

/-- A frame that is not whole: its number, its block, its count, its 64 places. -/
structure FV where
  id : Int
  g : Nat
  ct : Nat
  ps : List Prt
structure TV where
  fl : Int
  fs : List FV
def ids (T : TV) : List Int := T.fs.map FV.id

/-- How a frame's pointer reads in the map: by its block. -/
def RF : Value → Option (DataW Unit × List MemPlace)
  | .pointer (some ⟨g, 0, none⟩) => some (.lit (.int .i64 g), [])
  | .pointer none => some (.lit (.int .i64 (-1)), [])
  | _ => none
def dat (fs : List FV) : DataW Unit := .map (fs.map fun f => (.int .u64 f.id, .lit (.int .i64 f.g)))
theorem uKeys_dat (T : TV) : uKeys (dat T.fs) = ids T := by simp [uKeys, dat, ids, numOf, Function.comp_def]
theorem size_dat (fs : List FV) : Maps.size (dat fs) = fs.length := by simp [Maps.size, dat]

structure FrameAt (w : World) (base : Nat) (f : FV) : Prop where
  le : base ≤ f.g
  row : ∃ C : List Value, w.heap[f.g]? = some (.cells (Value.int .i64 f.ct :: C).toArray 59 (0, 0)) ∧ PO w base C f.ps
  n64 : f.ps.length = 64
  ct0 : 1 ≤ f.ct
  ct1 : f.ct ≤ 64

structure TabAt (w : World) (base t : Nat) (T : TV) : Prop where
  le : base ≤ t
  map : ∃ b, base ≤ b ∧ w.heap[t]? = some (.cells #[.int .u64 T.fl, .map (some b)] 47 (0, 0)) ∧ w.ownsMap Try.prog 27 RF b T.fs.length (dat T.fs)
  frames : ∀ f ∈ T.fs, FrameAt w base f
  apart : (T.fs.map FV.g).Nodup
  fl0 : 1 ≤ T.fl
  fl1 : T.fl < 18446744073709551616
  few : T.fs.length ≤ 4

theorem FrameAt.keep {w w' : World} {base : Nat} {f : FV} (h : FrameAt w base f) (hb : Below w.heap.size w w') : FrameAt w' base f := by
  obtain ⟨h1, ⟨C, hC, hP⟩, h2, h3, h4⟩ := h
  exact ⟨h1, ⟨C, (hb.block _ (Array.getElem?_eq_some_iff.1 hC).1).trans hC, PO.below hb hP⟩, h2, h3, h4⟩
theorem own_map_keep {w w' : World} {b n : Nat} {D : DataW Unit} (h : w.ownsMap Try.prog 27 RF b n D) (hb : Below w.heap.size w w') : w'.ownsMap Try.prog 27 RF b n D := by
  have hl := h.lt
  obtain ⟨es, clock, hh, Ft, hs, hD⟩ := h
  exact ⟨es, clock, (hb.block b hl).trans hh, Ft, hs, hD⟩
theorem TabAt.keep {w w' : World} {base t : Nat} {T : TV} (h : TabAt w base t T) (hb : Below w.heap.size w w') : TabAt w' base t T := by
  obtain ⟨b, hb0, ht, hm⟩ := h.map
  exact ⟨h.le, ⟨b, hb0, (hb.block _ (Array.getElem?_eq_some_iff.1 ht).1).trans ht, own_map_keep hm hb⟩, fun f hf => (h.frames f hf).keep hb, h.apart, h.fl0, h.fl1, h.few⟩
theorem TabAt.sorted {w : World} {base t : Nat} {T : TV} (h : TabAt w base t T) : (ids T).Pairwise (· < ·) := by
  obtain ⟨b, _, _, hm⟩ := h.map
  rw [← uKeys_dat]
  exact uKeys_sorted hm underU
theorem TabAt.idw {w : World} {base t : Nat} {T : TV} (h : TabAt w base t T) : ∀ f ∈ T.fs, 0 ≤ f.id ∧ f.id < 18446744073709551616 := fun f hf => by
  obtain ⟨b, _, _, hm⟩ := h.map
  exact uKeys_wf hm underU f.id (by rw [uKeys_dat]; exact List.mem_map.2 ⟨f, hf, rfl⟩)

/-- Its two cells. -/
theorem TabAt.cells {w : World} {base t : Nat} {T : TV} (h : TabAt w base t T) : t < w.heap.size ∧ w.cell? ⟨t, 0, none⟩ = some (.int .u64 T.fl) ∧ w.frozen? ⟨t, 0, none⟩ = false ∧ ∃ b, b < w.heap.size ∧ w.cell? ⟨t, 1, none⟩ = some (.map (some b)) ∧ w.ownsMap Try.prog 27 RF b T.fs.length (dat T.fs) := by
  obtain ⟨b, _, ht, hm⟩ := h.map
  exact ⟨(Array.getElem?_eq_some_iff.1 ht).1, by simp [World.cell?, ht], by simp [World.frozen?, ht], b, hm.lt, by simp [World.cell?, ht], hm⟩

theorem isNone_nil (w : World) : Calls Try.prog 28 #[.pointer none] w fun e w' => e = .returned (.bool true) ∧ w = w' := by
  go_enter Try.func28, Try.ntmps28
  go_wp2
  go_ret
  exact ⟨rfl, rfl⟩
theorem isNone_zero (t : Nat) (w : World) (hc : w.cell? ⟨t, 0, none⟩ = some (.int .u64 0)) : Calls Try.prog 28 #[.pointer (some ⟨t, 0, none⟩)] w fun e w' => e = .returned (.bool true) ∧ w = w' := by
  go_enter Try.func28, Try.ntmps28
  go_wp2
  go_ret
  exact ⟨rfl, rfl⟩
theorem isNone_some (t : Nat) (fl : Int) (w : World) (h1 : 1 ≤ fl) (hc : w.cell? ⟨t, 0, none⟩ = some (.int .u64 fl)) : Calls Try.prog 28 #[.pointer (some ⟨t, 0, none⟩)] w fun e w' => e = .returned (.bool false) ∧ w = w' := by
  have h0 : ¬ fl = 0 := by omega
  go_enter Try.func28, Try.ntmps28
  go_wp2
  go_ret
  exact ⟨by simp [h0], rfl⟩
theorem isNone_any {w : World} {base t : Nat} {T : TV} (h : TabAt w base t T) : Calls Try.prog 28 #[.pointer (some ⟨t, 0, none⟩)] w fun e w' => e = .returned (.bool false) ∧ w = w' := isNone_some t T.fl w h.fl0 h.cells.2.1

theorem floor_nil (w : World) : Calls Try.prog 14 #[.pointer none] w fun e w' => e = .returned (.int .u64 0) ∧ w = w' := by
  go_enter Try.func14, Try.ntmps14
  go_wp2_with (go_at_call 28; refine (isNone_nil _).mono ?_; rintro e w' ⟨rfl, rfl⟩)
  go_ret
  exact ⟨rfl, rfl⟩
theorem floor_any {w : World} {base t : Nat} {T : TV} (h : TabAt w base t T) : Calls Try.prog 14 #[.pointer (some ⟨t, 0, none⟩)] w fun e w' => e = .returned (.int .u64 T.fl) ∧ w = w' := by
  have HN := Lib.hid (isNone_any h)
  obtain ⟨_, hc, _⟩ := h.cells
  clear h
  go_enter Try.func14, Try.ntmps14
  go_wp2_with (go_at_call 28; refine HN.out.mono ?_; rintro e w' ⟨rfl, rfl⟩)
  go_ret
  exact ⟨rfl, rfl⟩

set_option maxRecDepth 100000 in
set_option maxHeartbeats 1000000 in
/-- Waits answers the numbers of all frames. -/
theorem waits_any {w : World} {base t : Nat} {T : TV} (h : TabAt w base t T) : Calls Try.prog 12 #[.pointer (some ⟨t, 0, none⟩)] w (SrtPost (ids T) w) := by
  refine (callsIn_wide (n := 5)).1 ?_
  have hlen : (ids T).length ≤ 4 := by simp [ids, h.few]
  have hs := h.sorted
  have cN : CallsIn Fence.wide 4 Try.prog 28 #[.pointer (some ⟨t, 0, none⟩)] w fun e w' => e = .returned (.bool false) ∧ w = w' := callsIn_wide.2 (isNone_any h)
  obtain ⟨_, _, _, b, hbl, hc, hm⟩ := h.cells
  have hseq : SeqGives Fence.wide 1 Try.prog 39 #[.pointer (some ⟨w.heap.size, 0, none⟩)] eU (fun ss => ss.Perm (ids T)) (ids T).length (w.alloc (.cells #[.map (some b)] 45)) := by
    have hk := keys_gives Fence.wide 1 trivial rfl (by omega) w.heap.size b T.fs.length (dat T.fs) RF (w.alloc (.cells #[.map (some b)] 45)) (by simp) (by simp) (own_map_keep hm ((Below.refl _ w).alloc (Nat.le_refl _) _))
    rw [uKeys_dat, size_dat] at hk
    have e : (ids T).length = T.fs.length := by simp [ids]
    rw [e]; exact hk
  have cK : ∀ mb W, CallsIn Fence.wide 4 Try.prog 30 #[.map mb] W fun e w' => e = .returned (.func (.func 39) #[] #[.pointer (some ⟨W.heap.size, 0, none⟩)]) ∧ w' = W.alloc (.cells #[.map mb] 45) := fun mb W => keys_any Fence.wide 4 trivial rfl mb W
  have cS := sorted_any 39 #[.pointer (some ⟨w.heap.size, 0, none⟩)] (enters_of Try.func39 (by kernel_rfl) rfl) (ids T) hs hlen _ hseq
  have hf1 : Fence.wide.fn 28 := trivial
  have hf2 : Fence.wide.fn 30 := trivial
  have hf3 : Fence.wide.fn 29 := trivial
  have HS := Lib.hid cS
  clear hseq cS hm h
  refine callsIn_of_wp Try.func12 rfl trivial ?_ rfl
  simp only [Try.ntmps12, List.size_toArray, List.length_cons, List.length_nil, Nat.reduceAdd, Nat.reduceSub, Array.replicate_succ, Array.replicate_zero, List.push_toArray, List.append_toArray, List.nil_append, List.cons_append]
  gi_wp2_with (first
    | (gi_at_call 28; refine cN.mono ?_; rintro e w' ⟨rfl, rfl⟩)
    | (gi_at_call 30; refine (cK _ _).mono ?_; rintro e w' ⟨rfl, rfl⟩)
    | (gi_at_call 29; refine HS.out.mono ?_; rintro e w' ⟨v, rfl, hrow, hnil, hb⟩))
  go_ret
  exact ⟨v, rfl, own_mono hrow (by simp), hnil, ((Below.refl _ w).alloc (Nat.le_refl _) _).trans (hb.mono (by simp))⟩

end Go.Proofs.Ytikijkhblfgbpaa
