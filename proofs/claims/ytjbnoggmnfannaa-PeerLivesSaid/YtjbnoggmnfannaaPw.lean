/-
  Proved here: what is known of a slice of nonces and addresses that comes in as an argument: it reads as a list; the peer's calls, where what was there stays as it was; layer 11's fixed calls.
-/
import Derived.Test.YtjbnoggmnfannaaPm
import Derived.ProofKit
import Derived.OpenShut
import Derived.ChangeOld
import Derived.Deep.Slices
import Derived.Deep.Fields
namespace Go.Proofs.Ytjbnoggmnfannaa
open Go.ChangeShapes Go.WideShapes Go.ChangeAt Go.RowKit
theorem laidOutOk : laidOutB Try.prog = true := by kernel_rfl
theorem cellsU64 : Try.prog.cellsOf 23 = 1 := by kernel_rfl
theorem cellsU32 : Try.prog.cellsOf 34 = 1 := by kernel_rfl
theorem cellsWord : Try.prog.cellsOf 36 = 2 := by kernel_rfl
def wAt (zs : List (Nat × Int)) (i : Nat) : Nat × Int := zs.getD i (0, 0)
theorem exists_wlist {P : Nat → Nat × Int → Prop} : ∀ (n : Nat), (∀ i, i < n → ∃ f, P i f) → ∃ fs : List (Nat × Int), fs.length = n ∧ ∀ i, i < n → P i (wAt fs i)
  | 0, _ => ⟨[], rfl, fun i h => absurd h (by omega)⟩
  | n + 1, h => by
    obtain ⟨fs, hl, hP⟩ := exists_wlist n (fun i hi => h i (by omega))
    obtain ⟨f, hf⟩ := h n (by omega)
    refine ⟨fs ++ [f], by simp [hl], fun i hi => ?_⟩
    rcases Nat.lt_or_ge i n with h' | h'
    · have : wAt (fs ++ [f]) i = wAt fs i := by simp [wAt, List.getD, List.getElem?_append_left (show i < fs.length by omega)]
      rw [this]; exact hP i h'
    · obtain rfl : i = n := by omega
      have : wAt (fs ++ [f]) i = f := by subst hl; simp [wAt, List.getD]
      rw [this]; exact hf
/-- What is known of a slice of nonces and addresses. -/
structure SlW (w : World) (A : Option Addr) (len cap : Nat) (zs : List (Nat × Int)) : Prop where
  len_eq : zs.length = len
  reads : 0 < len → ∃ b off, A = some ⟨b, off, none⟩ ∧ b < w.heap.size ∧ ∀ i, i < len → w.cell? ⟨b, off + i * 2, none⟩ = some (.int .u64 (wAt zs i).1) ∧ w.cell? ⟨b, off + i * 2 + 1, none⟩ = some (.int .u32 (wAt zs i).2)
  ok : ∀ i, i < len → (wAt zs i).1 < 18446744073709551616
  le : len ≤ cap
  max : cap ≤ maxLen
theorem open_words {H : Type} {enc : TypeId × Value → H} {W : World} {base : Nat} {sp : Nat → Bool} {held : Bool} {fuel : Nat} {A : Option Addr} {len cap : Nat} {x : DataW H × List MemPlace}
    (h : DataW.trod enc Try.prog W base sp held fuel 22 [.slice A len cap] = some x) : ∃ zs, SlW W A len cap zs := by
  rcases Go.Deep.open_slice Try.underlying22 h with ⟨hcs, _⟩ | ⟨a, l, c, m, n, D, Pl, hcs, _, hl, hm, hmm, _, hi⟩
  · simp at hcs
    obtain ⟨rfl, rfl, rfl⟩ := hcs
    exact ⟨[], rfl, fun h => absurd h (by simp), fun i h => absurd h (by simp), Nat.le_refl _, by unfold maxLen; omega⟩
  · simp at hcs
    obtain ⟨rfl, rfl, rfl⟩ := hcs
    have hlm : len ≤ m := by rw [hmm]; split <;> omega
    have key : ∀ i, i < len → ∃ p : Nat × Int, p.1 < 18446744073709551616 ∧ W.cell? (a.add (i * 2)) = some (.int .u64 p.1) ∧ W.cell? ((a.add (i * 2)).add 1) = some (.int .u32 p.2) := by
      intro i hil
      obtain ⟨cs', hc, ht⟩ := hi i (by omega)
      rw [cellsWord] at hc
      obtain ⟨ys, n', _, _, _, hyl, hf⟩ := DataW.trod_struct Try.underlying36 ht
      obtain ⟨_, hcl, hat⟩ := World.cells?_some hc
      match cs', hcl with
      | [u, v], _ =>
        have f0 := hf 0 _ rfl
        have f1 := hf 1 _ rfl
        match ys, hyl with
        | [y0, y1], _ =>
          simp [cellsU64, cellsU32] at f0 f1
          obtain ⟨t0, hu, _, w0⟩ := DataW.trod_int Try.underlying23 (by simpa [cellsU64, cellsU32] using f0)
          obtain ⟨t1, hv, _, w1⟩ := DataW.trod_int Try.underlying34 (by simpa [cellsU64, cellsU32] using f1)
          have hu' : u = .int .u64 t0 := by simpa using hu
          have hv' : v = .int .u32 t1 := by simpa using hv
          subst hu' hv'
          have c0 := hat 0 (by omega)
          have c1 := hat 1 (by omega)
          have hb := bounds_u64 w0
          obtain ⟨n0, rfl⟩ : ∃ n0 : Nat, t0 = n0 := ⟨t0.toNat, by omega⟩
          exact ⟨(n0, t1), by show n0 < _; omega, c0, c1⟩
    obtain ⟨zs, hzl, hP⟩ := exists_wlist len key
    refine ⟨zs, hzl, fun hp => ?_, fun i hi => (hP i hi).1, hl, hm⟩
    obtain ⟨b, off, spot⟩ := a
    have h0 := (hP 0 (by omega)).2.1
    have hs : spot = none := by simpa [Addr.add] using World.cell?_spot h0
    subst hs
    have hb : b < W.heap.size := by
      have := World.block_lt_of_cell? W _ h0
      rw [add_plain] at this
      exact this
    refine ⟨b, off, rfl, hb, fun i hi => ?_⟩
    obtain ⟨_, h0, h1⟩ := hP i hi
    rw [add_plain] at h0 h1
    rw [add_plain] at h1
    exact ⟨h0, h1⟩

/-- A peer of this call's own, and what was there is as it was. -/
structure Pw (w : World) (g : Nat) (p : PV) (W : World) : Prop where
  pr : PrV W g p
  below : Below w.heap.size w W
  own : w.heap.size ≤ g
theorem Pw.size {w : World} {g : Nat} {p : PV} {W : World} (h : Pw w g p W) : w.heap.size ≤ W.heap.size := h.below.size
theorem Pw.only {w : World} {g : Nat} {p p' : PV} {W W' : World} (h : Pw w g p W) (hp : PrV W' g p') (ho : Only g W W') : Pw w g p' W' := ⟨hp, ho.below h.below h.own h.below.size, h.own⟩
theorem Pw.to {w : World} {g : Nat} {p : PV} {W W' : World} (h : Pw w g p W) (hb : Below W.heap.size W W') : Pw w g p W' := ⟨Pr.below h.pr hb, h.below.trans (hb.mono h.size), h.own⟩
theorem Pw.drew {w : World} {g : Nat} {p : PV} {W : World} (h : Pw w g p W) : Pw w g p W.drew := ⟨h.pr, ⟨h.below.os, h.below.tape, h.below.output, h.below.size, h.below.block⟩, h.own⟩
theorem Pw.drewN {w : World} {g : Nat} {p : PV} {W : World} (h : Pw w g p W) (n : Nat) : Pw w g p (W.drewN n) := ⟨h.pr, ⟨h.below.os, h.below.tape, h.below.output, h.below.size, h.below.block⟩, h.own⟩
theorem new_pw (w : World) : Calls Try.prog 7 #[] w fun e w' => e = .returned (.pointer (some ⟨w.heap.size, 0, none⟩)) ∧ Hid (Pw w w.heap.size ⟨0, 0, 0, 0⟩ w') :=
  (new_any w).mono fun _ _ ⟨h1, h2⟩ => ⟨h1, Lib.hid (h2 ▸ ⟨new_block _ _ _ rfl, (Below.refl _ _).alloc (Nat.le_refl _) _, Nat.le_refl _⟩)⟩
theorem hear_pw (w : World) (g : Nat) (p : PV) (L : List (Nat × Int)) (hL : Hd L p) (hl : L.length ≤ 1000) (n : Nat) (f : Int) (W : World) (h : Pw w g p W) (hn : n < 18446744073709551616) :
    Calls Try.prog 8 #[.pointer (some ⟨g, 0, none⟩), .int .u64 n, .int .u32 f] W fun e w' => e = .returned (.tuple #[.bool (hearS p n f).2.1, .int .i64 (hearS p n f).2.2]) ∧ Hid (Pw w g (hearS p n f).1 w') :=
  (hear_any g p n f W h.pr (by have := hL.max; omega) hL.small hn hL.m0 (by have := hL.m1; omega)).mono fun _ _ ⟨h1, h2, h3⟩ => ⟨h1, Lib.hid (h.only h2 h3)⟩
theorem heard_pw (w : World) (g : Nat) (p : PV) (L : List (Nat × Int)) (hL : Hd L p) (n : Nat) (b : Bool) (W : World) (h : Pw w g p W) (hn : n < 18446744073709551616) (hb : heardS p.N p.H n = b) :
    Calls Try.prog 13 #[.pointer (some ⟨g, 0, none⟩), .int .u64 n] W fun e w' => e = .returned (.bool b) ∧ W = w' := by
  subst hb
  exact heard_pr g p.N p.H p.F p.M n W h.pr (by have := hL.max; omega) hn
theorem newest_pw (w : World) (g : Nat) (p : PV) (W : World) (h : Pw w g p W) : Calls Try.prog 12 #[.pointer (some ⟨g, 0, none⟩)] W fun e w' => e = .returned (.int .u64 p.N) ∧ W = w' := newest_pr g p.N p.H p.F p.M W h.pr
theorem moves_pw (w : World) (g : Nat) (p : PV) (W : World) (h : Pw w g p W) : Calls Try.prog 15 #[.pointer (some ⟨g, 0, none⟩)] W fun e w' => e = .returned (.int .i64 p.M) ∧ W = w' := moves_pr g p.N p.H p.F p.M W h.pr
theorem from_pw (w : World) (g : Nat) (p : PV) (L : List (Nat × Int)) (hL : Hd L p) (b : Bool) (W : World) (h : Pw w g p W) (hb : decide (p.N ≠ 0) = b) : Calls Try.prog 11 #[.pointer (some ⟨g, 0, none⟩)] W fun e w' => e = .returned (.tuple #[.int .u32 p.F, .bool b]) ∧ W = w' := by
  subst hb
  refine (from_pr g p.N p.H p.F p.M W h.pr).mono fun _ _ ⟨h1, h2⟩ => ⟨h1.trans ?_, h2⟩
  unfold fromS
  by_cases hz : p.N = 0
  · rw [if_pos (by omega), (hL.zero hz).2, hz]; rfl
  · rw [if_neg (by omega)]; simp [hz]
set_option maxHeartbeats 1000000 in
theorem alive_any (w : World) : Calls Try.prog 16 #[] w fun e w' => e = .returned (.bool true) ∧ Below w.heap.size w w' := by
  have d1 := ((Hd.new.hear 5 1).resolve_left (by simp [hearS, heardS])).2.2.2.1
  have e1 : hearS ⟨0, 0, 0, 0⟩ 5 1 = (⟨5, 1, 1, 0⟩, true, 0) := by decide +kernel
  have e2 : hearS ⟨5, 1, 1, 0⟩ 3 2 = (⟨5, 5, 1, 0⟩, false, 0) := by decide +kernel
  have e3 : hearS ⟨5, 5, 1, 0⟩ 5 3 = (⟨5, 5, 1, 0⟩, false, 23) := by decide +kernel
  rw [e1] at d1
  have d2 := ((d1.hear 3 2).resolve_left (by rw [e2]; simp)).2.2.2.1
  rw [e2] at d2
  have D1 := Lib.hid d1
  have D2 := Lib.hid d2
  have E1 := Lib.hid e1
  have E2 := Lib.hid e2
  have E3 := Lib.hid e3
  clear d1 d2 e1 e2 e3
  go_enter Try.func16, Try.ntmps16
  go_wp2_with fail
  refine (new_pw w).mono ?_
  rintro e w1 ⟨rfl, h1⟩
  go_wp2_with fail
  refine (hear_pw w _ _ _ Hd.new (by simp) 5 1 w1 h1.out (by omega)).mono ?_
  rw [E1.out]
  rintro e w2 ⟨rfl, h2⟩
  go_wp2_with fail
  refine (hear_pw w _ _ _ D1.out (by simp) 3 2 w2 h2.out (by omega)).mono ?_
  rw [E2.out]
  rintro e w3 ⟨rfl, h3⟩
  go_wp2_with fail
  refine (hear_pw w _ _ _ D2.out (by simp) 5 3 w3 h3.out (by omega)).mono ?_
  rw [E3.out]
  rintro e w4 ⟨rfl, h4⟩
  clear h1 h2 h3
  go_wp2_with fail
  refine (from_pw w _ _ _ D2.out true _ h4.out (by decide)).mono ?_
  rintro e w' ⟨rfl, rfl⟩
  go_wp2_with fail
  refine (newest_pw w _ _ _ h4.out).mono ?_
  rintro e w' ⟨rfl, rfl⟩
  go_wp2_with fail
  refine (heard_pw w _ _ _ D2.out 3 true _ h4.out (by omega) (by decide +kernel)).mono ?_
  rintro e w' ⟨rfl, rfl⟩
  go_wp2_with fail
  refine (heard_pw w _ _ _ D2.out 4 false _ h4.out (by omega) (by decide +kernel)).mono ?_
  rintro e w' ⟨rfl, rfl⟩
  go_wp2
  go_ret
  exact ⟨rfl, h4.out.below⟩
end Go.Proofs.Ytjbnoggmnfannaa
