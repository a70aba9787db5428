/-
  Kept here: what a call leaves as it was; a sender in memory: forty cells, and a row of bytes that lies below.
-/
import Derived.Test.YtdlhpmbgpjjkoaaDoorMl
import Derived.Test.YtdlhpmbgpjjkoaaDoorSAlive
import Derived.ArgAppend
import Derived.Laws.Cover3
import Derived.Laws.AppendOwnNone
set_option linter.unusedSimpArgs false
set_option linter.unusedVariables false
namespace Go.Proofs.YtdlhpmbgpjjkoaaDoor
open Go.RowKit
theorem Only.of {g : Nat} {a b : World} (h : Below a.heap.size a b) : Only g a b := ⟨h.os, h.tape, h.output, h.size, fun i hi _ => h.block i hi⟩
theorem OnlyCell {g : Nat} (w : World) (i : Nat) (v : Value) : Only g w (w.setCell ⟨g, i, none⟩ v) := (Only.refl g w).setCell i v
theorem OnlyBelow {g : Nat} {a w w' : World} (h : Only g w w') (hb : Below a.heap.size a w) (hg : a.heap.size ≤ g) : Below a.heap.size a w' := h.below hb hg hb.size
theorem Bto {w a b : World} (h : Below w.heap.size w a) (k : Below a.heap.size a b) : Below w.heap.size w b := h.trans (k.mono h.size)
theorem Bal {w a : World} (h : Below w.heap.size w a) (o : Obj) : Below w.heap.size w (a.alloc o) := h.alloc h.size o
theorem Own8.back {w U W : World} {v : Value} {xs : List Int} (h : Own8 U v xs W) (hb : Below w.heap.size w U) : Own8 w v xs W := ⟨own_mono h.own hb.size, hb.trans (h.below.mono hb.size)⟩
theorem oneCell_U8 (l : List Int) : ∀ u ∈ NV .u8 l, u.oneCell' = true := by
  intro u hu
  obtain ⟨x, _, rfl⟩ := List.mem_map.1 hu
  rfl
set_option maxHeartbeats 400000 in
theorem clone_any {bs : List Int} {n : Nat} (hn : bs.length = n) {A : Option Addr} {cap : Nat} (w : World) (hR : RI .u8 w A bs) (hl : n ≤ 100000) (hA : A = none → cap = 0) :
    Calls Tryd.prog 30 #[.slice A n cap] w fun e w' => ∃ v, e = .returned v ∧ Own8 w v bs w' := by
  subst hn
  rcases A with _ | ad
  · have hz : bs.length = 0 := by
      rcases Nat.eq_zero_or_pos bs.length with h | h
      · exact h
      · obtain ⟨_, _, h, _⟩ := hR h
        cases h
    obtain rfl : bs = [] := List.eq_nil_of_length_eq_zero hz
    obtain rfl := hA rfl
    have hnil := fun W => Lib.run_eql_slice_nil (P := Tryd.prog) W 23 5 none 0 0 0 0 Tryd.underlying23
    go_enter Tryd.func30, Tryd.ntmps30
    go_wp2
    go_ret
    exact ⟨_, rfl, Own8.new w⟩
  · have hnil := fun W => Lib.run_eql_slice_nil (P := Tryd.prog) W 23 5 (some ad) bs.length cap 0 0 Tryd.underlying23
    obtain ⟨i0, hi, hz0, hz1, hz2⟩ := info_parts info_u8
    go_enter Tryd.func30, Tryd.ntmps30
    go_wp2_with (at_builtin; refine wpList_append_own _ rfl _ _ 23 rfl w.heap.size 5 i0 (.int .u8 0) 1 1 Tryd.underlying23 hi hz0 hz1 hz2 rfl (by decide) _ 0 [] rfl (World.ownsRow_made w #[] 0 (Nat.le_refl _) (by unfold maxLen; omega) rfl) ad bs.length cap (NV .u8 bs) rfl (by simp) ?c1 (oneCell_U8 bs) ?c3 ?c4 ?c5 ?_)
    case c1 => exact (hR.below ((Below.refl _ w).alloc (Nat.le_refl _) _)).cells
    case c3 => unfold maxLen; omega
    case c4 => omega
    case c5 => simp
    · intro v' w1 hown1 hgrow _
      go_wp2
      go_ret
      refine ⟨v', rfl, by simpa using hown1, ((Below.refl _ _).alloc (Nat.le_refl _) _).grown hgrow (by simp) ?_⟩
      intro k hk
      have : w.heap.size = k := by simpa [Value.ownBlock] using hk
      omega
/-- A description's cells. -/
def infL (id : Nat) (nm : ByteArray) (n : Nat) (sum : List Nat) : List Value := .int .u64 id :: .string nm :: .int .i64 n :: V8 sum
theorem infL_len {id : Nat} {nm : ByteArray} {n : Nat} {sum : List Nat} (h : sum.length = 32) : (infL id nm n sum).length = 35 := by simp [infL, h]
theorem infL_one (id : Nat) (nm : ByteArray) (n : Nat) (sum : List Nat) : ∀ u ∈ infL id nm n sum, u.oneCell' = true := by
  intro u hu
  rcases List.mem_cons.1 hu with rfl | hu
  · rfl
  rcases List.mem_cons.1 hu with rfl | hu
  · rfl
  rcases List.mem_cons.1 hu with rfl | hu
  · rfl
  exact one_V8 _ u hu
/-- A sender's cells. -/
def sdL (id : Nat) (nm : ByteArray) (n : Nat) (sum : List Nat) (d : Value) (N b p : Nat) (z : Bool) : List Value :=
  infL id nm n sum ++ [d, .int .i64 N, .int .u64 b, .int .i64 p, .bool z]
section
variable {id : Nat} {nm : ByteArray} {n : Nat} {sum : List Nat} {d : Value} {N b p : Nat} {z : Bool}
theorem sdL_len (h : sum.length = 32) : (sdL id nm n sum d N b p z).length = 40 := by simp [sdL, infL_len h]
theorem sdL_0 : (sdL id nm n sum d N b p z)[0]? = some (.int .u64 id) := rfl
theorem sdL_1 : (sdL id nm n sum d N b p z)[1]? = some (.string nm) := rfl
theorem sdL_2 : (sdL id nm n sum d N b p z)[2]? = some (.int .i64 n) := rfl
theorem sdL_inf (h : sum.length = 32) {j : Nat} {v : Value} (hv : (infL id nm n sum)[j]? = some v) : (sdL id nm n sum d N b p z)[j]? = some v := by
  unfold sdL
  rw [List.getElem?_append_left (List.getElem?_eq_some_iff.1 hv).1, hv]
theorem sdL_at (h : sum.length = 32) (i : Nat) : (sdL id nm n sum d N b p z)[35 + i]? = [d, .int .i64 (N : Int), .int .u64 (b : Int), .int .i64 (p : Int), .bool z][i]? := by
  unfold sdL
  rw [List.getElem?_append_right (by rw [infL_len h]; omega), infL_len h, show 35 + i - 35 = i by omega]
theorem sdL_set (h : sum.length = 32) (i : Nat) (v : Value) : (sdL id nm n sum d N b p z).set (35 + i) v = infL id nm n sum ++ ([d, .int .i64 (N : Int), .int .u64 (b : Int), .int .i64 (p : Int), .bool z].set i v) := by
  unfold sdL
  rw [List.set_append, if_neg (by rw [infL_len h]; omega), infL_len h, show 35 + i - 35 = i by omega]
theorem sdL_one (hd : d.oneCell' = true) : ∀ u ∈ sdL id nm n sum d N b p z, u.oneCell' = true := by
  intro u hu
  rcases List.mem_append.1 hu with hu | hu
  · exact infL_one _ _ _ _ u hu
  · simp at hu
    rcases hu with rfl | rfl | rfl | rfl | rfl
    · exact hd
    all_goals rfl
end
/-- A sender in block g. -/
structure Sd (w : World) (g : Nat) (id : Nat) (nm : ByteArray) (sum : List Nat) (bs : List Int) (N b p : Nat) (z : Bool) : Prop where
  ex : ∃ A c, w.heap[g]? = some (.cells (sdL id nm bs.length sum (.slice A bs.length c) N b p z).toArray 57 (0, 0)) ∧ RI .u8 w A bs ∧ (∀ a, A = some a → a.block < g) ∧ bs.length ≤ c ∧ c ≤ maxLen ∧ (A = none → c = 0)
  id1 : 1 ≤ id
  sum32 : sum.length = 32
  right : rB N b = true
  num : N = (bs.length + 63) / 64
  size : bs.length ≤ 4096
  at64 : p ≤ 64
section
variable {w : World} {g : Nat} {id : Nat} {nm : ByteArray} {sum : List Nat} {bs : List Int} {N b p : Nat} {z : Bool}
theorem Sd.lt (h : Sd w g id nm sum bs N b p z) : g < w.heap.size := by
  obtain ⟨A, c, hh, _⟩ := h.ex
  exact lt_of_block hh
theorem Sd.below {w' : World} (h : Sd w g id nm sum bs N b p z) (hb : Below w.heap.size w w') : Sd w' g id nm sum bs N b p z := by
  obtain ⟨A, c, hh, hr, h3⟩ := h.ex
  exact ⟨⟨A, c, (hb.block g h.lt).trans hh, hr.below hb, h3⟩, h.id1, h.sum32, h.right, h.num, h.size, h.at64⟩
theorem Sd.drew (h : Sd w g id nm sum bs N b p z) : Sd w.drew g id nm sum bs N b p z := by
  obtain ⟨A, c, hh, hr, h3⟩ := h.ex
  exact ⟨⟨A, c, hh, hr, h3⟩, h.id1, h.sum32, h.right, h.num, h.size, h.at64⟩
theorem Sd.cellOf (h : Sd w g id nm sum bs N b p z) {i : Nat} {v : Value} (hv : ∀ d, (sdL id nm bs.length sum d N b p z)[i]? = some v) : w.cell? ⟨g, i, none⟩ = some v := by
  obtain ⟨A, c, hh, _⟩ := h.ex
  rw [cell_of_row w g i _ _ _ hh, List.getElem?_toArray]
  exact hv _
theorem Sd.c0 (h : Sd w g id nm sum bs N b p z) : w.cell? ⟨g, 0, none⟩ = some (.int .u64 id) := h.cellOf fun _ => sdL_0
theorem Sd.c2 (h : Sd w g id nm sum bs N b p z) : w.cell? ⟨g, 2, none⟩ = some (.int .i64 (bs.length : Nat)) := h.cellOf fun _ => sdL_2
theorem Sd.c36 (h : Sd w g id nm sum bs N b p z) : w.cell? ⟨g, 36, none⟩ = some (.int .i64 N) := h.cellOf fun _ => sdL_at h.sum32 1
theorem Sd.c37 (h : Sd w g id nm sum bs N b p z) : w.cell? ⟨g, 37, none⟩ = some (.int .u64 b) := h.cellOf fun _ => sdL_at h.sum32 2
theorem Sd.c38 (h : Sd w g id nm sum bs N b p z) : w.cell? ⟨g, 38, none⟩ = some (.int .i64 p) := h.cellOf fun _ => sdL_at h.sum32 3
theorem Sd.c39 (h : Sd w g id nm sum bs N b p z) : w.cell? ⟨g, 39, none⟩ = some (.bool z) := h.cellOf fun _ => sdL_at h.sum32 4
theorem Sd.c35 (h : Sd w g id nm sum bs N b p z) : ∃ A c, w.cell? ⟨g, 35, none⟩ = some (.slice A bs.length c) ∧ RI .u8 w A bs ∧ bs.length ≤ c ∧ c ≤ maxLen ∧ (A = none → c = 0) := by
  obtain ⟨A, c, hh, hr, h0, h1, h2, h3⟩ := h.ex
  refine ⟨A, c, ?_, hr, h1, h2, h3⟩
  rw [cell_of_row w g 35 _ _ _ hh, List.getElem?_toArray]
  exact sdL_at h.sum32 0
theorem Sd.free (h : Sd w g id nm sum bs N b p z) (i : Nat) : w.frozen? ⟨g, i, none⟩ = false := by
  obtain ⟨A, c, hh, _⟩ := h.ex
  exact frozen_of_row w g i _ _ hh
theorem RI.apart {w' : World} {A : Option Addr} (h : RI .u8 w A bs) (hA : ∀ a, A = some a → a.block < g) (ho : Only g w w') : RI .u8 w' A bs := fun hp => by
  obtain ⟨b, off, e, hlt, hc⟩ := h hp
  have hb : b ≠ g := by have := hA _ e; simp at this; omega
  exact ⟨b, off, e, Nat.lt_of_lt_of_le hlt ho.size, fun i hi => (World.cell?_of_block (ho.block b hlt hb)).trans (hc i hi)⟩
theorem Sd.s38 (h : Sd w g id nm sum bs N b p z) {p' : Nat} (hp : p' ≤ 64) : Sd (w.setCell ⟨g, 38, none⟩ (.int .i64 p')) g id nm sum bs N b p' z := by
  obtain ⟨A, c, hh, hr, h0, h3⟩ := h.ex
  exact ⟨⟨A, c, by rw [heap_setCell_same w g 38 _ _ _ hh, List.setIfInBounds_toArray, show 38 = 35 + 3 from rfl, sdL_set h.sum32]; rfl, hr.apart h0 (OnlyCell w 38 _), h0, h3⟩, h.id1, h.sum32, h.right, h.num, h.size, hp⟩
theorem Sd.s39 (h : Sd w g id nm sum bs N b p z) (z' : Bool) : Sd (w.setCell ⟨g, 39, none⟩ (.bool z')) g id nm sum bs N b p z' := by
  obtain ⟨A, c, hh, hr, h0, h3⟩ := h.ex
  exact ⟨⟨A, c, by rw [heap_setCell_same w g 39 _ _ _ hh, List.setIfInBounds_toArray, show 39 = 35 + 4 from rfl, sdL_set h.sum32]; rfl, hr.apart h0 (OnlyCell w 39 _), h0, h3⟩, h.id1, h.sum32, h.right, h.num, h.size, h.at64⟩
theorem Sd.put (h : Sd w g id nm sum bs N b p z) {b' : Nat} (hb : rB N b' = true) : Sd ((w.setCell ⟨g, 36, none⟩ (.int .i64 N)).setCell ⟨g, 37, none⟩ (.int .u64 b')) g id nm sum bs N b' p z := by
  obtain ⟨A, c, hh, hr, h0, h3⟩ := h.ex
  have h1 : (w.setCell ⟨g, 36, none⟩ (.int .i64 N)).heap[g]? = some (.cells (sdL id nm bs.length sum (.slice A bs.length c) N b p z).toArray 57 (0, 0)) := by
    rw [heap_setCell_same w g 36 _ _ _ hh, List.setIfInBounds_toArray, show 36 = 35 + 1 from rfl, sdL_set h.sum32]; rfl
  exact ⟨⟨A, c, by rw [heap_setCell_same _ g 37 _ _ _ h1, List.setIfInBounds_toArray, show 37 = 35 + 2 from rfl, sdL_set h.sum32]; rfl, (hr.apart h0 (OnlyCell w 36 _)).apart h0 (OnlyCell _ 37 _), h0, h3⟩, h.id1, h.sum32, hb, h.num, h.size, h.at64⟩
theorem Sd.n64 (h : Sd w g id nm sum bs N b p z) : N ≤ 64 := by have := h.num; have := h.size; omega
theorem Sd.b64 (h : Sd w g id nm sum bs N b p z) : b < 18446744073709551616 := rB_lt h.right
end
end Go.Proofs.YtdlhpmbgpjjkoaaDoor
