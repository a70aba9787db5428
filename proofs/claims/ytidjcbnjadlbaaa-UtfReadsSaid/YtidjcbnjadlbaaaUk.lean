/-
  Proved here: the program's Is, End and Points of utf.
-/
import Derived.Test.YtidjcbnjadlbaaaUj
import Derived.Test.YtidjcbnjadlbaaaUd
import Derived.Laws.OwnMore
set_option linter.unusedSimpArgs false
set_option linter.unusedVariables false
namespace Go.Proofs.Ytidjcbnjadlbaaa
open Go.RowKit
theorem is_any (p : Int) (w : World) : Calls Try.prog 21 #[.int .i32 p] w fun e w' => e = .returned (.bool (isP p)) ∧ w = w' := by
  have e : isP p = (decide (0 ≤ p) && decide (p < 55296) || decide (57343 < p) && decide (p < 1114112)) := by unfold isP; rw [Bool.decide_or, Bool.decide_and, Bool.decide_and]
  rw [e]
  go_enter Try.func21, Try.ntmps21
  go_wp2
  all_goals go_ret
  all_goals exact ⟨ret_bool (Bool.eq_iff_iff.2 (by simp <;> omega)), rfl⟩
/-- A slice of points that reads as these, at or above block B. -/
structure Lies (w : World) (B : Nat) (v : Value) (xs : List Int) : Prop where
  at_ : ∃ A c, v = .slice A xs.length c ∧ (A = none → c = 0) ∧ RI .i32 w A xs ∧ ∀ ad, A = some ad → B ≤ ad.block
theorem Lies.keep {w w' : World} {B : Nat} {v : Value} {xs : List Int} (h : Lies w B v xs) (hs : w.heap.size ≤ w'.heap.size) (hk : ∀ k, B ≤ k → k < w.heap.size → w'.heap[k]? = w.heap[k]?) : Lies w' B v xs := by
  obtain ⟨A, c, rfl, hA, hR, hB⟩ := h.at_
  refine ⟨A, c, rfl, hA, fun hp => ?_, hB⟩
  obtain ⟨b, off, rfl, hlt, hc⟩ := hR hp
  exact ⟨b, off, rfl, Nat.lt_of_lt_of_le hlt hs, fun i hi => (World.cell?_of_block (hk b (hB _ rfl) hlt)).trans (hc i hi)⟩
theorem Lies.go {w w' : World} {B g : Nat} {v : Value} {xs : List Int} (h : Lies w B v xs) (k : Only g w w') (hg : g < B) : Lies w' B v xs :=
  h.keep k.size fun i h1 h2 => k.block i h2 (by omega)
theorem Lies.to {w w' : World} {B : Nat} {v : Value} {xs : List Int} (h : Lies w B v xs) (hb : Below w.heap.size w w') : Lies w' B v xs := h.keep hb.size fun i _ h2 => hb.block i h2
theorem Lies.mono {w : World} {B B' : Nat} {v : Value} {xs : List Int} (h : Lies w B v xs) (hB : B' ≤ B) : Lies w B' v xs := by
  obtain ⟨A, c, rfl, hA, hR, hx⟩ := h.at_
  exact ⟨A, c, rfl, hA, hR, fun ad e => Nat.le_trans hB (hx ad e)⟩
theorem Lies.nil (w : World) (B : Nat) : Lies w B (.slice none 0 0) [] := ⟨none, 0, rfl, fun _ => rfl, RI.nothing _ _ _, fun ad e => by cases e⟩
theorem lies_of_own {w : World} {base : Nat} {v : Value} {xs : List Int} (h : w.ownsRow base 21 1 v xs.length (NV .i32 xs)) : Lies w base v xs := by
  obtain ⟨A, c, rfl, _, _, hA⟩ := own_slice h
  have hge := ownBlock_le h
  refine ⟨A, c, rfl, hA, fun hp => ?_, fun ad e => ?_⟩
  · obtain ⟨g, e, _, hg, hc⟩ := own_cells h rfl hp
    subst e
    exact ⟨g, 0, rfl, hg, fun i hi => by rw [Nat.zero_add]; exact hc i hi⟩
  · subst e
    rcases h.2 with ⟨h0, _⟩ | ⟨g, cap, cur, h1, h2, h3⟩
    · cases h0
    · injection h1 with e _ _
      injection e with e
      rw [e]; exact h2
theorem OwnX.lies {g : Nat} {w W : World} {v : Value} {xs : List Int} (h : OwnX g w v xs W) : Lies W w.heap.size v xs := lies_of_own h.own
theorem Own32.lies {w W : World} {v : Value} {xs : List Int} (h : Own32 w v xs W) : Lies W w.heap.size v xs := lies_of_own h.own
theorem Lies.one (w : World) (B : Nat) (hB : B ≤ w.heap.size) (x : Int) : Lies (w.alloc (.cells #[.int .i32 x] 21)) B (.slice (some ⟨w.heap.size, 0, none⟩) 1 1) [x] :=
  ⟨⟨_, _, rfl, fun e => (by cases e), RI.one .i32 w x 21, fun ad e => (by injection e with e; subst e; exact hB)⟩⟩
/-- A row of this call's own, longer by what is read. -/
theorem app_lies {W : World} {base B : Nat} {v u : Value} {xs ys : List Int} (hown : W.ownsRow base 21 1 v xs.length (NV .i32 xs)) (hL : Lies W B u ys) (hn : xs.length + ys.length ≤ 100000) (hb : base ≤ W.heap.size) :
    ∃ v' w', (Builtin.append_ #[23, 23] 23 #[v, u]).run Try.prog W = .ok v' w' ∧ w'.ownsRow base 21 1 v' (xs ++ ys).length (NV .i32 (xs ++ ys)) ∧ W.grownBy w' v.ownBlock := by
  obtain ⟨A, c, rfl, hA, hR, _⟩ := hL.at_
  obtain ⟨v', w', h1, h2, h3⟩ := app_i32 (ys := ys) rfl c hR hA hown hn hb
  exact ⟨v', w', h1, own_cast h2 (by simp) rfl, h3⟩
theorem end_rd {w : World} {g : Nat} {W N P L H : Int} {us : List Int} (h : Rd w g W N P L H) (hs : St us W N P L H) :
    Calls Try.prog 17 #[.pointer (some ⟨g, 0, none⟩)] w fun e w' => ∃ v, e = .returned (.tuple #[v, .int .i64 0]) ∧ Lies w' w.heap.size v (if 0 < us.length then [65533] else []) ∧ Only g w w' ∧ Rd w' g 0 0 0 0 0 := by
  have hl := hs.len
  have c0 := h.c0
  have c1 := h.c1
  have HH := Lib.hid h
  clear h
  rcases hs.kinds with ⟨rfl, rfl, rfl, rfl, rfl, rfl⟩ | ⟨⟨hW, _⟩, _⟩
  · clear hl hs
    go_enter Try.func17, Try.ntmps17
    go_wp2_with fail
    refine (none_at g true w c0).mono ?_
    rintro e wx ⟨rfl, rfl⟩
    go_wp2
    go_returns
    exact ⟨_, rfl, by simpa using Lies.nil _ _, Only.refl _ _, HH.out⟩
  · have e : 0 < us.length := by omega
    rw [if_pos e]
    have z : (W == 0) = false := by simp; omega
    clear hl hs e
    go_enter Try.func17, Try.ntmps17
    go_wp2_with fail
    refine (none_at g true w c0).mono ?_
    rintro e wx ⟨rfl, rfl⟩
    go_wp2_with fail
    refine (drop_rd g _ _ _ _ _ w HH.out).mono ?_
    rintro e w4 ⟨rfl, h4, o4⟩
    have H4 := Lib.hid h4
    have O4 := Lib.hid o4
    clear h4 o4
    go_wp2
    go_returns
    have hb := (Below.refl w4.heap.size w4).alloc (Nat.le_refl _) (.cells #[.int .i32 65533] 21)
    exact ⟨_, rfl, Lies.one w4 _ O4.out.size 65533, O4.out.trans (Only.of_below hb), H4.out.keep hb H4.out.lt⟩
/-- Points of any bytes. -/
theorem points_any {w : World} {A : Option Addr} {n c : Nat} {bs : List Int} (hR : RI .u8 w A bs) (hl : bs.length = n) (hn : n ≤ 10000) (hb : ∀ j, j < n → 0 ≤ bs.getD j 0 ∧ bs.getD j 0 < 256) :
    Calls Try.prog 18 #[.slice A n c] w fun e w' => ∃ v, e = .returned v ∧ Own32 w v (pointsS bs) w' := by
  have HR := Lib.hid hR
  have HL := Lib.hid hl
  have HB := Lib.hid hb
  clear hR hl hb
  go_enter Try.func18, Try.ntmps18
  go_wp2_with fail
  refine (new_any w).mono ?_
  rintro e w1 ⟨rfl, hw1⟩
  have b1 : Below w.heap.size w w1 := by rw [hw1]; exact (Below.refl _ _).alloc (Nat.le_refl _) _
  have s1 : w1.heap.size = w.heap.size + 1 := by rw [hw1]; simp
  have r1 : Rd w1 w.heap.size 0 0 0 0 0 := by unfold Rd; rw [hw1]; exact heap_alloc_new _ _
  have HB1 := Lib.hid b1
  have HRD := Lib.hid (read_any (c := c) r1 St.empty (HR.out.below b1) HL.out hn (fun hp ad e => by
    obtain ⟨b, off, e2, hlt, _⟩ := HR.out (by rw [HL.out]; exact hp)
    rw [e2] at e
    injection e with e
    subst e
    exact Nat.ne_of_lt hlt) HB.out)
  have HS1 := Lib.hid s1
  clear hw1 b1 s1 r1
  go_wp2_with fail
  refine HRD.out.mono ?_
  rintro e w2 ⟨v2, W2, N2, P2, L2, H2, rfl, o2, r2, s2⟩
  have hend := end_rd r2 s2
  have hlen := (readS_wait bs).1
  have hlen1 := (read_len bs).1
  rw [List.nil_append] at o2 hend
  rw [waitS_len] at hend
  have HO2 := Lib.hid o2
  have HEN := Lib.hid hend
  have HLE := Lib.hid hlen1
  clear HRD o2 r2 s2 hend hlen hlen1
  go_wp2_with fail
  refine HEN.out.mono ?_
  rintro e w3 ⟨v3, rfl, l3, o3, _⟩
  have hsz : w.heap.size < w1.heap.size := by rw [HS1.out]; omega
  have HO3 := HO2.out.go o3 hsz
  have hle3 : ((readS bs).1).length + (if 0 < (readS bs).2 then [65533] else [] : List Int).length ≤ 100000 := by
    have := HLE.out
    rw [HL.out] at this
    split <;> simp <;> omega
  obtain ⟨v4, w4, hrun, hown, hgr⟩ := app_lies HO3.own l3 hle3 HO3.only.size
  have b3 : Below w.heap.size w w3 := HO3.only.below HB1.out (Nat.le_refl _) (by omega)
  have HX : Hid (Own32 w v4 (pointsS bs) w4) := Lib.hid ⟨own_mono (by unfold pointsS; exact hown) (by omega), b3.grown hgr b3.size (fun k hk => Nat.le_trans (by omega) (ownBlock_le HO3.own k hk))⟩
  have HRUN := Lib.hid hrun
  clear HEN HO3 hle3 hrun hown hgr b3 l3 o3
  go_wp2_with (first | (at_builtin; refine wpList_app rfl (.tmp 20) (.tmp 21) _ rfl _ _ rfl rfl HRUN.out ?_))
  go_ret
  exact ⟨_, rfl, HX.out⟩
end Go.Proofs.Ytidjcbnjadlbaaa
