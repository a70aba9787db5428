/-
  Proved here: for every slice that reads as fields, PutFields answers what 'putFS' says: the fields' bytes in memory of its own, or nothing and an error.
-/
import Derived.Test.YtdhnhpcmfbiieaaDoorVGreat
import Derived.Deep.QuietTactic
import Derived.BigQuiet
import Derived.Laws.AppendOwnNone
namespace Go.Proofs.YtdhnhpcmfbiieaaDoor
open Go.RowKit

theorem quietL {P : Program} {f : FuncId} {args : Array Value} {w : World} {n : Nat} {v : Value} (h : Calls P f args (w.drewN n) fun e w' => e = .returned v ∧ w.drewN n = w') : Calls P f args (w.drewN n) fun e w' => e = .returned v ∧ ∃ m, w' = w.drewN m :=
  h.mono fun _ _ ⟨he, hw⟩ => ⟨he, n, hw.symm⟩
theorem Tab.alloc {w : World} (hT : Tab w) (o : Obj) : Tab (w.alloc o) := hT.below ((Below.refl _ _).alloc (Nat.le_refl _) o) hT.big
theorem Tab.drewN {w : World} (hT : Tab w) (n : Nat) : Tab (w.drewN n) := ⟨hT.c0, hT.c1, hT.c2, hT.c3, hT.big⟩
theorem belowN {B : Nat} {a w : World} (h : Below B a w) (n : Nat) : Below B a (w.drewN n) := ⟨h.os, h.tape, h.output, h.size, h.block⟩

/-- A field's bytes. -/
def fldB (f : Fld) : List Int := f.1 :: (numB (f.2.length : Int) ++ f.2)
/-- Fields' bytes. -/
def fldsB : List Fld → List Int
  | [] => []
  | f :: r => fldB f ++ fldsB r
/-- Are all data short enough? -/
def shortB (fs : List Fld) : Bool := fs.all fun f => decide (f.2.length ≤ 16384)
def putFS (fs : List Fld) : List Int × Int := if 128 < fs.length then ([], 5) else if shortB fs = true then (fldsB fs, 0) else ([], 2)

theorem fldsB_append (a b : List Fld) : fldsB (a ++ b) = fldsB a ++ fldsB b := by
  induction a with
  | nil => rfl
  | cons f r ih => simp [fldsB, ih]
theorem take_snoc {fs : List Fld} {k : Nat} (h : k < fs.length) : fs.take (k + 1) = fs.take k ++ [fAt fs k] := by
  rw [List.take_succ_eq_append_getElem h]
  simp [fAt, List.getD, h]
theorem shortB_no {fs : List Fld} {k : Nat} (hk : k < fs.length) (h : 16384 < (fAt fs k).2.length) : shortB fs = false := by
  rw [shortB, List.all_eq_false]
  refine ⟨fAt fs k, ?_, by simpa using h⟩
  simp [fAt, List.getD, hk]
theorem shortB_yes {fs : List Fld} (h : ∀ i, i < fs.length → (fAt fs i).2.length ≤ 16384) : shortB fs = true := by
  rw [shortB, List.all_eq_true]
  intro f hf
  obtain ⟨i, hi, rfl⟩ := List.getElem_of_mem hf
  have := h i hi
  simp only [fAt, List.getD, List.getElem?_eq_getElem hi, Option.getD_some] at this
  simpa using this

theorem fldB_length (f : Fld) : (fldB f).length ≤ f.2.length + 9 := by
  have := (szN_le (f.2.length : Int)).2
  simp [fldB, numB_length]
  omega
theorem fldsB_length : ∀ (fs : List Fld), (∀ f ∈ fs, f.2.length ≤ 17000) → (fldsB fs).length ≤ fs.length * 17010
  | [], _ => by simp [fldsB]
  | f :: r, h => by
    have h1 := fldB_length f
    have h2 := h f (by simp)
    have h3 := fldsB_length r (fun g hg => h g (by simp [hg]))
    simp [fldsB]
    omega
theorem fldsB_take_length {fs : List Fld} {k : Nat} (hk : k ≤ fs.length) (h : ∀ i, i < fs.length → (fAt fs i).2.length ≤ 16384) : (fldsB (fs.take k)).length ≤ k * 17010 := by
  have := fldsB_length (fs.take k) (fun f hf => by
    obtain ⟨i, hi, rfl⟩ := List.getElem_of_mem (List.mem_of_mem_take hf)
    have := h i hi
    simp only [fAt, List.getD, List.getElem?_eq_getElem hi, Option.getD_some] at this
    omega)
  rw [List.length_take, Nat.min_eq_left hk] at this
  exact this
theorem fldsB_next {fs : List Fld} {k : Nat} (h : k < fs.length) : fldsB (fs.take (k + 1)) = fldsB (fs.take k) ++ fldB (fAt fs k) := by
  rw [take_snoc h, fldsB_append]
  simp [fldsB]

theorem putFS_ok {fs : List Fld} (h : fs.length ≤ 128) (hs : ∀ i, i < fs.length → (fAt fs i).2.length ≤ 16384) : putFS fs = (fldsB fs, 0) := by
  rw [putFS, if_neg (by omega), if_pos (shortB_yes hs)]
/-- A local variable's cell, behind an append to a row that is elder. -/
theorem local_kept {wr w1 : World} {o1 o2 : Obj} {b : Value} {a : Addr} {u : Value} (hg : ((wr.alloc o1).alloc o2).grownBy w1 b.ownBlock) (hb : ∀ k, b.ownBlock = some k → k < wr.heap.size) (ha : a.block = wr.heap.size) (hc : (wr.alloc o1).cell? a = some u) : w1.cell? a = some u := by
  have h1 : ((wr.alloc o1).alloc o2).cell? a = some u := by
    rw [← hc]
    exact World.cell?_of_block (Below.heap_alloc _ _ _ (by rw [ha]; simp))
  refine hg.cell h1 (fun e => ?_)
  have := hb _ e.symm
  omega

theorem own_cast {w : World} {base : Nat} {e : TypeId} {v : Value} {n m : Nat} {xs ys : List Value} (h : w.ownsRow base e 1 v n xs) (hn : n = m) (hx : xs = ys) : w.ownsRow base e 1 v m ys := by
  subst hn; subst hx; exact h

def PutFPost (R : List Int × Int) (w : World) (e : Ending) (w' : World) : Prop :=
  ∃ v, e = .returned (.tuple #[v, .int .i64 R.2]) ∧ w'.ownsRow w.heap.size 5 1 v R.1.length (B8 R.1) ∧ Below w.heap.size w w'

theorem putF_full (fs : List Fld) (A : Option Addr) (cap : Nat) (w : World) (h : 128 < fs.length) : Calls Tryd.prog 18 #[.slice A fs.length cap] w (PutFPost (putFS fs) w) := by
  have HP : Hid (PutFPost (putFS fs) w (.returned (.tuple #[.slice none 0 0, .int .i64 5])) w) := by
    rw [putFS, if_pos h]
    exact ⟨_, rfl, World.ownsRow_nil _ _ _ _, Below.refl _ _⟩
  go_enter Tryd.func18, Tryd.ntmps18
  go_wp2
  go_ret2
  exact HP.out

set_option maxHeartbeats 2000000 in
theorem putF_fits (fs : List Fld) (A : Option Addr) (cap : Nat) (w : World) (hF : FS w w.heap.size A fs) (h : fs.length ≤ 128) (hT : Tab w) : Calls Tryd.prog 18 #[.slice A fs.length cap] w (PutFPost (putFS fs) w) := by
  obtain ⟨i0, hi, hz0, hz1, hz2⟩ := info_parts infoByte
  have d128 : decide ((128 : Int) < (fs.length : Int)) = false := by simp; omega
  have HF := Lib.hid hF
  clear hF
  go_enter Tryd.func18, Tryd.ntmps18
  go_wp2
  go_loopw [4, 6, 15] (fun room _ i wr => ∃ (k : Nat) (s : Int), k ≤ fs.length ∧ 0 ≤ s ∧ s ≤ (k : Int) * 16400 ∧ i = .int .i64 k ∧ room = .int .i64 s ∧ Below w.heap.size w wr ∧ ∀ j, j < k → (fAt fs j).2.length ≤ 16384) (fun _ _ i _ => fs.length - (intOf i).toNat)
  case atStart => exact ⟨0, 0, by omega, by omega, by omega, rfl, rfl, Below.refl _ _, fun j h => absurd h (by omega)⟩
  case round =>
    obtain ⟨k, s, hk, hs0, hs1, rfl, rfl, hbel, hj⟩ := hrel
    have HJ := Lib.hid hj
    clear hj
    have hbs := hbel.size
    by_cases hlt : k < fs.length
    · obtain ⟨b, off, hA, hb, hc⟩ := (HF.out.below hbel) (by omega)
      subst hA
      obtain ⟨ct, A', c', hcell, hRB, hcl, hcm, _⟩ := hc k hlt
      clear hc
      unfold maxLen at hcm
      obtain ⟨t, ht⟩ : ∃ t, (fAt fs k).1 = t := ⟨_, rfl⟩
      rw [ht] at ct
      clear ht
      obtain ⟨n, hn⟩ : ∃ n, (fAt fs k).2.length = n := ⟨_, rfl⟩
      rw [hn] at hcell hcl
      have HN := Lib.hid hn
      clear hn
      by_cases hbig : 16384 < n
      · have HP : Hid (PutFPost (putFS fs) w (.returned (.tuple #[.slice none 0 0, .int .i64 2])) (wr.alloc (.cells #[.int .u8 t, .slice A' n c'] 54))) := by
          rw [putFS, if_neg (by omega), shortB_no hlt (by rw [HN.out]; exact hbig)]
          exact ⟨_, rfl, World.ownsRow_nil _ _ _ _, hbel.alloc hbs _⟩
        go_wp2
        go_ret2
        exact HP.out
      · have d16 : decide ((16384 : Int) < (n : Int)) = false := by simp; omega
        have hTr := (hT.below hbel hT.big).alloc (.cells #[.int .u8 t, .slice A' n c'] 54)
        have HSZ := Lib.hid (fun (W : World) (hTW : Tab W) => size_any (n : Int) W (by omega) (by omega) hTW)
        have hz8 : 0 ≤ szOf (n : Int) ∧ szOf (n : Int) ≤ 8 := by
          have := szOf_szN (v := (n : Int)) (by omega)
          have := szN_le (n : Int)
          omega
        obtain ⟨z, hz⟩ : ∃ z, szOf (n : Int) = z := ⟨_, rfl⟩
        rw [hz] at HSZ hz8
        clear hz
        obtain ⟨z0, z8⟩ := hz8
        have q1 : IntKind.i64.wrap (1 + z) = 1 + z := IntWalk.i64_in _ (by omega)
        have q2 : IntKind.i64.wrap (1 + z + (n : Int)) = 1 + z + (n : Int) := IntWalk.i64_in _ (by omega)
        have q3 : IntKind.i64.wrap (s + (1 + z + (n : Int))) = s + (1 + z + (n : Int)) := IntWalk.i64_in _ (by omega)
        have q4 : IntKind.u64.wrap (n : Int) = (n : Int) := IntWalk.u64_in _ (by omega)
        go_wp2
        go_quiet ((go_at_call 15; exact quietL (HSZ.out _ (hTr.drewN _))))
        clear q1 q2 q3 q4
        go_wp2
        go_roundw
        case rel =>
          refine ⟨k + 1, s + (1 + z + (n : Int)), by omega, by omega, by omega, by go_num, rfl, belowN (hbel.alloc hbs _) _, fun j hj => ?_⟩
          rcases Nat.lt_or_ge j k with h' | h'
          · exact HJ.out j h'
          · obtain rfl : j = k := by omega
            rw [HN.out]; omega
        case measure => simp [intOf]; omega
    · obtain rfl : k = fs.length := by omega
      have hall := HJ.out
      have HA := Lib.hid hall
      have HPS := Lib.hid (putFS_ok h hall)
      clear hall HJ
      obtain ⟨N, hN⟩ : ∃ N : Nat, s = (N : Int) := ⟨s.toNat, by omega⟩
      subst hN
      go_wp2_with (refine wpList_make_own wr rfl (.const (.int .i64 0)) (.tmp 36) 23 rfl w.heap.size 5 i0 (.int .u8 0) 1 Tryd.underlying23 hi hz0 hz1 .i64 .i64 (N : Int) N rfl rfl rfl (by rw [hz2]; omega) (by unfold maxLen; omega) hbs ?_; intro w1 hown1 hg1)
      have hb1 : Below w.heap.size w w1 := hbel.grown hg1 hbs (by intro k h; cases h)
      clear hg1 hbel hbs
      go_loopw [7, 9, 40] (fun b _ i wr => ∃ k : Nat, k ≤ fs.length ∧ i = .int .i64 k ∧ wr.ownsRow w.heap.size 5 1 b (fldsB (fs.take k)).length (B8 (fldsB (fs.take k))) ∧ Below w.heap.size w wr) (fun _ _ i _ => fs.length - (intOf i).toNat)
      case atStart => exact ⟨0, by omega, rfl, by simpa [fldsB] using hown1, hb1⟩
      case round =>
        clear hown1 hb1
        obtain ⟨k, hk, rfl, hown, hbel⟩ := hrel
        have hbs := hbel.size
        have hlb := fldsB_take_length hk HA.out
        by_cases hlt : k < fs.length
        · have HX := Lib.hid (fldsB_next hlt)
          obtain ⟨xs, hxs⟩ : ∃ xs, fldsB (fs.take k) = xs := ⟨_, rfl⟩
          rw [hxs] at hown HX hlb
          clear hxs
          obtain ⟨b, off, hA, hb, hc⟩ := (HF.out.below hbel) (by omega)
          subst hA
          obtain ⟨ct, A', c', hcell, hRB, hcl, hcm, hcn⟩ := hc k hlt
          have hd16 := HA.out k hlt
          clear hc
          unfold maxLen at hcm
          have HFB : Hid (fldB (fAt fs k) = (fAt fs k).1 :: (numB ((fAt fs k).2.length : Int) ++ (fAt fs k).2)) := rfl
          obtain ⟨t, ht⟩ : ∃ t, (fAt fs k).1 = t := ⟨_, rfl⟩
          obtain ⟨d, hd⟩ : ∃ d, (fAt fs k).2 = d := ⟨_, rfl⟩
          rw [ht, hd] at HFB
          rw [ht] at ct
          rw [hd] at hcell hRB hcl hd16
          clear ht hd
          obtain ⟨AB, cB, rfl, _⟩ := own_slice hown
          have hTr := hT.below hbel hT.big
          go_wp2_with (first | (at_builtin; refine wpList_append_own_at _ rfl (.tmp 44) (.tmp 47) 23 rfl w.heap.size 5 i0 (.int .u8 0) 1 1 Tryd.underlying23 hi hz0 hz1 hz2 rfl (by decide) _ _ _ rfl ((hown.alloc _).alloc _) ⟨wr.heap.size + 1, 0, none⟩ 1 1 [.int .u8 t] rfl rfl ?c1 ?c2 ?c3 ?c4 ?c5 ?_))
          case c1 =>
            intro q u hq
            match q, hq with
            | 0, hq => simp at hq; subst hq; simp [Addr.add]
          case c2 => intro u hu; simp at hu; subst hu; rfl
          case c3 => unfold maxLen; omega
          case c4 => omega
          case c5 => simp; omega
          · intro v1 w1 hown1 hgrow1 _ hat1
            have hlt0 : ∀ k, (Value.slice AB xs.length cB).ownBlock = some k → k < wr.heap.size := fun k hk => (hown.lt k hk).2
            have f1 : w1.cell? ⟨wr.heap.size, 1, none⟩ = some (.slice A' d.length c') := local_kept hgrow1 hlt0 rfl (by simp)
            have hs1 : wr.heap.size + 2 ≤ w1.heap.size := by have := hgrow1.size; simpa using this
            have hb1 : Below w.heap.size wr w1 := (((Below.refl _ _).alloc hbs _).alloc (by simp; omega) _).grown hgrow1 (by simp; omega) (ownBlock_le hown)
            have hlt1 : ∀ k, v1.ownBlock = some k → k ≠ wr.heap.size := by
              intro k hk
              rcases hat1 with h' | h'
              · have := hlt0 k (h'.symm.trans hk); omega
              · rw [hk] at h'; injection h' with h'; omega
            have hT1 := hTr.below hb1 hT.big
            clear hgrow1 hat1 hown hlt0
            go_wp2_with fail
            refine (appendNumber_any w.heap.size v1 _ _ (d.length : Int) w1 hown1 (by omega) (by omega) (by omega) (by omega) hT1).mono ?_
            rintro e w2 ⟨v2, rfl, hown2, hb2, hg2, _⟩
            have f2 : w2.cell? ⟨wr.heap.size, 1, none⟩ = some (.slice A' d.length c') := hg2.cell f1 (fun e => hlt1 _ e.symm rfl)
            have hb12 : Below w.heap.size wr w2 := hb1.trans hb2
            have hnl := (szN_le (d.length : Int)).2
            rw [← numB_length] at hnl
            clear hown1 hb1 hb2 hg2 f1 hlt1
            rcases A' with _ | ad
            · have hd0 : d.length = 0 := by
                rcases Nat.eq_zero_or_pos d.length with h' | h'
                · exact h'
                · obtain ⟨_, _, h', _⟩ := hRB h'
                  cases h'
              obtain rfl : d = [] := List.eq_nil_of_length_eq_zero hd0
              obtain rfl := hcn rfl
              go_wp2_with (at_builtin; refine wpList_append_own_none rfl _ _ 23 rfl w.heap.size 5 i0 1 Tryd.underlying23 hi _ _ _ rfl hown2 rfl ?_)
              go_wp2
              go_roundw
              case rel => exact ⟨k + 1, by omega, by go_num, by rw [HX.out, HFB.out]; exact own_cast hown2 (by simp; omega) (by simp [B8]), hbel.trans (hb12.mono (Nat.le_refl _))⟩
              case measure => simp [intOf]; omega
            · go_wp2_with (at_builtin; refine wpList_append_own _ rfl _ _ 23 rfl w.heap.size 5 i0 (.int .u8 0) 1 1 Tryd.underlying23 hi hz0 hz1 hz2 rfl (by decide) _ _ _ rfl hown2 ad d.length c' (B8 d) rfl (by simp) ?k1 (oneCell_B8 d) ?k3 ?k4 ?k5 ?_)
              case k1 => exact (hRB.below hb12).cells
              case k3 => unfold maxLen; omega
              case k4 => omega
              case k5 => have := hb12.size; omega
              · intro v3 w3 hown3 hgrow3 _
                have hb3 : Below w.heap.size w w3 := (hbel.trans hb12).grown hgrow3 (hbel.trans hb12).size (ownBlock_le hown2)
                clear hown2 hgrow3 f2
                go_wp2
                go_roundw
                case rel => exact ⟨k + 1, by omega, by go_num, by rw [HX.out, HFB.out]; exact own_cast hown3 (by simp; omega) (by simp [B8]), hb3⟩
                case measure => simp [intOf]; omega
        · go_wp2
          go_ret2
          obtain rfl : k = fs.length := by omega
          rw [List.take_length] at hown
          rw [HPS.out]
          exact ⟨_, rfl, hown, hbel⟩
end Go.Proofs.YtdhnhpcmfbiieaaDoor
