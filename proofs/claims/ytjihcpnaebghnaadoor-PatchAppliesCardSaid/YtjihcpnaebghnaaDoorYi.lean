/-
  Proved here: of the document's styles: Read.
-/
import Derived.Test.YtjihcpnaebghnaaDoorYh
import Derived.Laws.CopyOwn
set_option linter.unusedSimpArgs false
set_option linter.unusedVariables false
namespace Go.Proofs.YtjihcpnaebghnaaDoor
open Go.RowKit
set_option maxRecDepth 100000 in
theorem results_cell_two {P : Program} {fn : Func} {p q r : Tmp} {ty : TypeId} (h : fn.results = #[.cell p ty, .tmp q, .tmp r]) (tmps : Array Value) (w : World) (g : Nat) (t : TypeId) (cs : Array Value) (fr : Nat × Nat) (d : TypeDesc) (u x : Value)
    (hp : tmps.getD p undef = .pointer (some ⟨g, 0, none⟩)) (hq : tmps.getD q undef = u) (hr : tmps.getD r undef = x) (hg : w.heap[g]? = some (.cells cs t fr))
    (hu : P.underlying ty = some d) (hd : (match d with | .struct _ | .array _ _ => true | _ => false) = true) (hi : (P.info? ty).map (·.size) = some cs.size) :
    (results fn tmps).run P w = .ok (.tuple #[.agg cs, u, x]) w := by
  have hp' : tmps[p]?.getD undef = .pointer (some ⟨g, 0, none⟩) := by simpa using hp
  have hq' : tmps[q]?.getD undef = u := by simpa using hq
  have hr' : tmps[r]?.getD undef = x := by simpa using hr
  simp [results, h, hp', hq', hr', asAddr, run_loadVar_row w g t ty cs fr d hg hu hd hi]
set_option maxRecDepth 100000 in
theorem info_zeroY : (Tryd.prog.info? 78).map (·.size) = some (styL zeroY).toArray.size := by kernel_rfl
/-- What is read at a place of bytes: a style, the next place, and why not. -/
def readY (bs : List Int) (p : Int) : Sty × Int × Int :=
  if p < 0 ∨ (bs.length : Int) < p then (zeroY, 0, 1)
  else if p = bs.length then (zeroY, 0, 10)
  else if (getS bs (p + 1)).2.2 ≠ 0 then (zeroY, 0, (getS bs (p + 1)).2.2)
  else if (getS bs (getS bs (p + 1)).2.1).2.2 ≠ 0 then (zeroY, 0, (getS bs (getS bs (p + 1)).2.1).2.2)
  else if 50331647 < (getS bs (p + 1)).1 ∨ 50331647 < (getS bs (getS bs (p + 1)).2.1).1 then (zeroY, 0, 3)
  else if rightS ⟨ofF 8 (bs.getD p.toNat 0), (getS bs (p + 1)).1, (getS bs (getS bs (p + 1)).2.1).1⟩ = true then (⟨ofF 8 (bs.getD p.toNat 0), (getS bs (p + 1)).1, (getS bs (getS bs (p + 1)).2.1).1⟩, (getS bs (getS bs (p + 1)).2.1).2.1, 0)
  else (zeroY, 0, 3)
def ReadY (r : Sty × Int × Int) (w : World) (e : Ending) (w' : World) : Prop := e = .returned (.tuple #[styV r.1, .int .i64 r.2.1, .int .i64 r.2.2]) ∧ Below w.heap.size w w'
set_option maxRecDepth 100000 in
set_option maxHeartbeats 1000000 in
theorem yr_out (A : Option Addr) (len cap : Nat) (p : Int) (w : World) (h : p < 0 ∨ (len : Int) < p) : Calls Tryd.prog 62 #[.slice A len cap, .int .i64 p] w (ReadY (zeroY, 0, 1) w) := by
  rcases h with h | h
  · have d1 : decide (p < 0) = true := by simpa using h
    clear h
    go_enter Tryd.func62, Tryd.ntmps62
    go_wp2
    exact bodyPost_ret (results_cell_two Tryd.results62 _ _ w.heap.size 78 (styL zeroY).toArray (0, 0) _ (.int .i64 0) (.int .i64 1) rfl rfl rfl (heap_alloc_new w _) Tryd.underlying78 rfl info_zeroY) rfl ⟨rfl, ((Below.refl _ _).alloc (Nat.le_refl _) _)⟩
  · have d1 : decide (p < 0) = false := by simp; omega
    have d2 : decide ((len : Int) < p) = true := by simpa using h
    clear h
    go_enter Tryd.func62, Tryd.ntmps62
    go_wp2
    exact bodyPost_ret (results_cell_two Tryd.results62 _ _ w.heap.size 78 (styL zeroY).toArray (0, 0) _ (.int .i64 0) (.int .i64 1) rfl rfl rfl (heap_alloc_new w _) Tryd.underlying78 rfl info_zeroY) rfl ⟨rfl, ((Below.refl _ _).alloc (Nat.le_refl _) _)⟩
set_option maxRecDepth 100000 in
set_option maxHeartbeats 1000000 in
theorem yr_end (A : Option Addr) (len cap : Nat) (w : World) : Calls Tryd.prog 62 #[.slice A len cap, .int .i64 len] w (ReadY (zeroY, 0, 10) w) := by
  have d1 : decide ((len : Int) < 0) = false := by simp
  have d2 : ((len : Int) == (len : Int)) = true := by simp
  have d3 : decide ((len : Int) < (len : Int)) = false := by simp
  go_enter Tryd.func62, Tryd.ntmps62
  go_wp2
  exact bodyPost_ret (results_cell_two Tryd.results62 _ _ w.heap.size 78 (styL zeroY).toArray (0, 0) _ (.int .i64 0) (.int .i64 10) rfl rfl rfl (heap_alloc_new w _) Tryd.underlying78 rfl info_zeroY) rfl ⟨rfl, ((Below.refl _ _).alloc (Nat.le_refl _) _)⟩
set_option maxRecDepth 100000 in
/-- Get, of bytes that came in, in whatever world that grew. -/
theorem rget_in {w W : World} {A : Option Addr} {bs : List Int} {n : Nat} (hR : RB w w.heap.size A bs) (hl : bs.length = n) (hm : n ≤ 100000) (hB : Bytes bs) (hb : Below w.heap.size w W) (cap : Nat) (p : Int) :
    Calls Tryd.prog 32 #[.slice A n cap, .int .i64 p] W (GetPost (getS bs p) W) := by
  subst hl
  exact rget_any bs A cap w.heap.size p W (hR.below hb) (by unfold maxLen; omega) hB
set_option maxRecDepth 100000 in
set_option maxHeartbeats 1000000 in
theorem yr_bad {w : World} {A : Option Addr} {bs : List Int} {n cap k : Nat} {c : Int} (hR : RB w w.heap.size A bs) (hl : bs.length = n) (hm : n ≤ 100000) (hB : Bytes bs) (hk : k < n)
    (h : (getS bs ((k : Int) + 1)).2.2 = c ∧ c ≠ 0 ∨ (getS bs ((k : Int) + 1)).2.2 = 0 ∧ ((getS bs (getS bs ((k : Int) + 1)).2.1).2.2 = c ∧ c ≠ 0 ∨ (getS bs (getS bs ((k : Int) + 1)).2.1).2.2 = 0 ∧ (50331647 < (getS bs ((k : Int) + 1)).1 ∨ 50331647 < (getS bs (getS bs ((k : Int) + 1)).2.1).1) ∧ c = 3)) :
    Calls Tryd.prog 62 #[.slice A n cap, .int .i64 k] w (ReadY (zeroY, 0, c) w) := by
  have HG := Lib.hid (fun W (hb : Below w.heap.size w W) p => rget_in hR hl hm hB hb cap p)
  have d1 : decide ((k : Int) < 0) = false := by simp
  have d2 : decide ((n : Int) < (k : Int)) = false := by simp; omega
  have d3 : ((k : Int) == (n : Int)) = false := by simp; omega
  have e1 : IntKind.i64.wrap ((k : Int) + 1) = (k : Int) + 1 := IntWalk.i64_in _ (by omega)
  have HB0 : Hid (∀ o, Below w.heap.size w (w.alloc o)) := Lib.hid (fun o => (Below.refl _ _).alloc (Nat.le_refl _) _)
  obtain ⟨⟨f, n1, x1⟩, hr1⟩ : ∃ r, getS bs ((k : Int) + 1) = r := ⟨_, rfl⟩
  rw [hr1] at h
  obtain ⟨⟨g, n2, x2⟩, hr2⟩ : ∃ r, getS bs n1 = r := ⟨_, rfl⟩
  dsimp only at h
  rw [hr2] at h
  dsimp only at h
  have HR1 := Lib.hid (fun (_ : Unit) => hr1)
  have HR2 := Lib.hid (fun (_ : Unit) => hr2)
  clear hr1 hr2 hR hl hB
  rcases h with ⟨rfl, h⟩ | ⟨rfl, h⟩
  · have d4 : (x1 != 0) = true := by simpa using h
    clear h
    go_enter Tryd.func62, Tryd.ntmps62
    go_wp2_with (go_at_call 32; refine (HG.out _ (HB0.out _) _).mono ?_; rintro e w' ⟨rfl, rfl⟩; (first | rw [HR1.out ()] | rw [HR2.out ()]))
    exact bodyPost_ret (results_cell_two Tryd.results62 _ _ w.heap.size 78 (styL zeroY).toArray (0, 0) _ (.int .i64 0) (.int .i64 x1) rfl rfl rfl (heap_alloc_new w _) Tryd.underlying78 rfl info_zeroY) rfl ⟨rfl, ((Below.refl _ _).alloc (Nat.le_refl _) _)⟩
  · rcases h with ⟨rfl, h⟩ | ⟨rfl, h, rfl⟩
    · have d4 : (x2 != 0) = true := by simpa using h
      clear h
      go_enter Tryd.func62, Tryd.ntmps62
      go_wp2_with (go_at_call 32; refine (HG.out _ (HB0.out _) _).mono ?_; rintro e w' ⟨rfl, rfl⟩; (first | rw [HR1.out ()] | rw [HR2.out ()]))
      exact bodyPost_ret (results_cell_two Tryd.results62 _ _ w.heap.size 78 (styL zeroY).toArray (0, 0) _ (.int .i64 0) (.int .i64 x2) rfl rfl rfl (heap_alloc_new w _) Tryd.underlying78 rfl info_zeroY) rfl ⟨rfl, ((Below.refl _ _).alloc (Nat.le_refl _) _)⟩
    · by_cases hf : 50331647 < f
      · have d4 : decide (50331647 < f) = true := by simpa using hf
        clear h
        go_enter Tryd.func62, Tryd.ntmps62
        go_wp2_with (go_at_call 32; refine (HG.out _ (HB0.out _) _).mono ?_; rintro e w' ⟨rfl, rfl⟩; (first | rw [HR1.out ()] | rw [HR2.out ()]))
        exact bodyPost_ret (results_cell_two Tryd.results62 _ _ w.heap.size 78 (styL zeroY).toArray (0, 0) _ (.int .i64 0) (.int .i64 3) rfl rfl rfl (heap_alloc_new w _) Tryd.underlying78 rfl info_zeroY) rfl ⟨rfl, ((Below.refl _ _).alloc (Nat.le_refl _) _)⟩
      · have d4 : decide (50331647 < f) = false := by simp; omega
        have d5 : decide (50331647 < g) = true := by simp; omega
        clear h
        go_enter Tryd.func62, Tryd.ntmps62
        go_wp2_with (go_at_call 32; refine (HG.out _ (HB0.out _) _).mono ?_; rintro e w' ⟨rfl, rfl⟩; (first | rw [HR1.out ()] | rw [HR2.out ()]))
        exact bodyPost_ret (results_cell_two Tryd.results62 _ _ w.heap.size 78 (styL zeroY).toArray (0, 0) _ (.int .i64 0) (.int .i64 3) rfl rfl rfl (heap_alloc_new w _) Tryd.underlying78 rfl info_zeroY) rfl ⟨rfl, ((Below.refl _ _).alloc (Nat.le_refl _) _)⟩
set_option maxRecDepth 100000 in
set_option maxHeartbeats 1000000 in
theorem yr_good {w : World} {A : Option Addr} {bs : List Int} {n cap k : Nat} (hR : RB w w.heap.size A bs) (hl : bs.length = n) (hm : n ≤ 100000) (hB : Bytes bs) (hk : k < n)
    (h1 : (getS bs ((k : Int) + 1)).2.2 = 0) (h2 : (getS bs (getS bs ((k : Int) + 1)).2.1).2.2 = 0) (hf0 : 0 ≤ (getS bs ((k : Int) + 1)).1) (hg0 : 0 ≤ (getS bs (getS bs ((k : Int) + 1)).2.1).1)
    (hf : (getS bs ((k : Int) + 1)).1 ≤ 50331647) (hg : (getS bs (getS bs ((k : Int) + 1)).2.1).1 ≤ 50331647) :
    Calls Tryd.prog 62 #[.slice A n cap, .int .i64 k] w (ReadY (if rightS ⟨ofF 8 (bs.getD k 0), (getS bs ((k : Int) + 1)).1, (getS bs (getS bs ((k : Int) + 1)).2.1).1⟩ = true then (⟨ofF 8 (bs.getD k 0), (getS bs ((k : Int) + 1)).1, (getS bs (getS bs ((k : Int) + 1)).2.1).1⟩, (getS bs (getS bs ((k : Int) + 1)).2.1).2.1, 0) else (zeroY, 0, 3)) w) := by
  have HG := Lib.hid (fun W (hb : Below w.heap.size w W) p => rget_in hR hl hm hB hb cap p)
  have d1 : decide ((k : Int) < 0) = false := by simp
  have d2 : decide ((n : Int) < (k : Int)) = false := by simp; omega
  have d3 : ((k : Int) == (n : Int)) = false := by simp; omega
  have e1 : IntKind.i64.wrap ((k : Int) + 1) = (k : Int) + 1 := IntWalk.i64_in _ (by omega)
  have e2 : (k : Int) < (n : Int) := by omega
  have e3 : (0 : Int) ≤ (k : Int) := by omega
  have HB0 : Hid (∀ o, Below w.heap.size w (w.alloc o)) := Lib.hid (fun o => (Below.refl _ _).alloc (Nat.le_refl _) _)
  obtain ⟨⟨f, n1, x1⟩, hr1⟩ : ∃ r, getS bs ((k : Int) + 1) = r := ⟨_, rfl⟩
  rw [hr1] at h1 h2 hf0 hg0 hf hg ⊢
  obtain ⟨⟨g, n2, x2⟩, hr2⟩ : ∃ r, getS bs n1 = r := ⟨_, rfl⟩
  dsimp only at h1 h2 hf0 hg0 hf hg ⊢
  rw [hr2] at h2 hg0 hg ⊢
  dsimp only at h2 hg0 hg ⊢
  subst h1 h2
  have HR1 := Lib.hid (fun (_ : Unit) => hr1)
  have HR2 := Lib.hid (fun (_ : Unit) => hr2)
  have d4 : decide (50331647 < f) = false := by simp; omega
  have d5 : decide (50331647 < g) = false := by simp; omega
  have u1 : IntKind.u32.wrap f = f := IntWalk.u32_in _ (by omega)
  have u2 : IntKind.u32.wrap g = g := IntWalk.u32_in _ (by omega)
  obtain ⟨b, off, rfl, hb, hc⟩ := hR (by omega)
  have hx := hB k
  have ck : (w.alloc (.cells #[.bool false, .bool false, .bool false, .bool false, .bool false, .bool false, .bool false, .bool false, .int .u32 0, .int .u32 0] 78)).cell? ⟨b, off + k, none⟩ = some (.int .u8 (bs.getD k 0)) := (World.cell?_of_block (Below.heap_alloc _ _ b hb)).trans (hc k (by omega))
  obtain ⟨x, hxe⟩ : ∃ x, bs.getD k 0 = x := ⟨_, rfl⟩
  rw [hxe] at hx ck ⊢
  have hof := fun W => ry_of x f g W hx.1 hx.2
  have hrt := fun W => ry_right ⟨ofF 8 x, f, g⟩ W ⟨ofF_len 8 x, ⟨hf0, by dsimp only; omega⟩, ⟨hg0, by dsimp only; omega⟩⟩
  obtain ⟨rt, hrte⟩ : ∃ rt, rightS ⟨ofF 8 x, f, g⟩ = rt := ⟨_, rfl⟩
  rw [hrte] at hrt ⊢
  obtain ⟨f0, f1, f2, f3, f4, f5, f6, f7, hfs⟩ := eight (ofF_len 8 x)
  rw [hfs] at hof hrt ⊢
  have HOF : Hid (∀ W : World, Calls Tryd.prog 86 #[.int .u8 x, .int .u32 f, .int .u32 g] W fun e w' => e = .returned (.agg #[.bool f0, .bool f1, .bool f2, .bool f3, .bool f4, .bool f5, .bool f6, .bool f7, .int .u32 f, .int .u32 g]) ∧ Below W.heap.size W w') := Lib.hid hof
  have HRT : Hid (∀ W : World, Calls Tryd.prog 85 #[.agg #[.bool f0, .bool f1, .bool f2, .bool f3, .bool f4, .bool f5, .bool f6, .bool f7, .int .u32 f, .int .u32 g]] W fun e w' => e = .returned (.bool rt) ∧ Below W.heap.size W w') := Lib.hid hrt
  have HZ := Lib.hid (heap_alloc_new w (.cells #[.bool false, .bool false, .bool false, .bool false, .bool false, .bool false, .bool false, .bool false, .int .u32 0, .int .u32 0] 78))
  obtain ⟨Rr, hRr⟩ : ∃ Rr : Sty × Int × Int, (if rt = true then (⟨[f0, f1, f2, f3, f4, f5, f6, f7], f, g⟩, n2, 0) else (zeroY, 0, 3)) = Rr := ⟨_, rfl⟩
  rw [hRr]
  have HRR := Lib.hid (fun (_ : Unit) => hRr)
  clear hR hl hB hr1 hr2 hof hrt hrte hfs hc hxe hRr
  go_enter Tryd.func62, Tryd.ntmps62
  go_wp2_with (first | (go_at_call 32; refine (HG.out _ (HB0.out _) _).mono ?_; rintro e w' ⟨rfl, rfl⟩; (first | rw [HR1.out ()] | rw [HR2.out ()])) | (go_at_call 86; fail))
  refine (HOF.out _).mono ?_
  rintro e w1 ⟨rfl, b1⟩
  have hz1 := (b1.block w.heap.size (by simp)).trans HZ.out
  have HB1 := Lib.hid ((HB0.out _).trans (b1.mono (by simp)))
  have hs1 : w.heap.size < w1.heap.size := by have := b1.size; simp at this; omega
  clear b1 ck
  go_wp2_with fail
  refine (HRT.out _).mono ?_
  rintro e w2 ⟨rfl, b2⟩
  have hn1 := heap_alloc_new w1 (.cells #[.bool f0, .bool f1, .bool f2, .bool f3, .bool f4, .bool f5, .bool f6, .bool f7, .int .u32 f, .int .u32 g] 78)
  have hn2 := (b2.block w1.heap.size (by simp)).trans hn1
  have hz2 := (b2.block w.heap.size (by simp; omega)).trans ((Below.heap_alloc w1 _ w.heap.size hs1).trans hz1)
  have HB2 := Lib.hid ((HB1.out.alloc (by omega) _).trans (b2.mono (by simp; omega)))
  have HN2 := Lib.hid hn2
  have HZ2 := Lib.hid hz2
  have HIC : Hid ((Tryd.prog.info? 78).map (·.size) = some (#[.bool f0, .bool f1, .bool f2, .bool f3, .bool f4, .bool f5, .bool f6, .bool f7, .int .u32 f, .int .u32 g] : Array Value).size) := Lib.hid (by show _ = some 10; kernel_rfl)
  have HIZ : Hid ((Tryd.prog.info? 78).map (·.size) = some (#[.bool false, .bool false, .bool false, .bool false, .bool false, .bool false, .bool false, .bool false, .int .u32 0, .int .u32 0] : Array Value).size) := Lib.hid (by show _ = some 10; kernel_rfl)
  clear hn1 hn2 hz2 hz1 b2
  cases rt
  · go_wp2_with (refine wpList_store_row rfl 78 _ _ rfl w.heap.size _ rfl rfl 78 #[.bool false, .bool false, .bool false, .bool false, .bool false, .bool false, .bool false, .bool false, .int .u32 0, .int .u32 0] HZ2.out HIZ.out ?c1 ?c2 ?_)
    case c1 => rfl
    case c2 => simp [Value.oneCell']
    refine bodyPost_ret (results_cell_two Tryd.results62 _ _ w.heap.size 78 #[.bool false, .bool false, .bool false, .bool false, .bool false, .bool false, .bool false, .bool false, .int .u32 0, .int .u32 0] (0, 0) _ (.int .i64 0) (.int .i64 3) rfl rfl rfl (setRow_heap _ _ _ _ _ _ HZ2.out) Tryd.underlying78 rfl HIZ.out) rfl ?_
    rw [← HRR.out ()]
    exact ⟨rfl, below_setRow HB2.out (Nat.le_refl _) _⟩
  · go_wp2_with (first | refine wpList_load_row rfl 78 _ rfl w1.heap.size rfl 78 #[.bool f0, .bool f1, .bool f2, .bool f3, .bool f4, .bool f5, .bool f6, .bool f7, .int .u32 f, .int .u32 g] (0,0) _ HN2.out Tryd.underlying78 rfl HIC.out ?_ | refine wpList_store_row rfl 78 _ _ rfl w.heap.size _ rfl rfl 78 #[.bool false, .bool false, .bool false, .bool false, .bool false, .bool false, .bool false, .bool false, .int .u32 0, .int .u32 0] HZ2.out HIZ.out ?c1 ?c2 ?_)
    case c1 => rfl
    case c2 => simp [Value.oneCell']
    refine bodyPost_ret (results_cell_two Tryd.results62 _ _ w.heap.size 78 #[.bool f0, .bool f1, .bool f2, .bool f3, .bool f4, .bool f5, .bool f6, .bool f7, .int .u32 f, .int .u32 g] (0, 0) _ (.int .i64 n2) (.int .i64 0) rfl rfl rfl (setRow_heap _ _ _ _ _ _ HZ2.out) Tryd.underlying78 rfl HIC.out) rfl ?_
    rw [← HRR.out ()]
    exact ⟨rfl, below_setRow HB2.out (Nat.le_refl _) _⟩
set_option maxRecDepth 100000 in
theorem getS_nonneg {bs : List Int} (hB : Bytes bs) {p : Nat} (h : (getS bs (p : Int)).2.2 = 0) : 0 ≤ (getS bs (p : Int)).1 := (getS_ok hB h).1
set_option maxRecDepth 100000 in
/-- Read, whole. -/
theorem ry_read {w : World} {A : Option Addr} {bs : List Int} {n cap : Nat} (hR : RB w w.heap.size A bs) (hl : bs.length = n) (hm : n ≤ 100000) (hB : Bytes bs) (p : Int) :
    Calls Tryd.prog 62 #[.slice A n cap, .int .i64 p] w (ReadY (readY bs p) w) := by
  unfold readY
  rw [hl]
  by_cases h1 : p < 0 ∨ (n : Int) < p
  · rw [if_pos h1]; exact yr_out A n cap p w h1
  rw [if_neg h1]
  by_cases h2 : p = n
  · rw [if_pos h2]; subst h2; exact yr_end A n cap w
  rw [if_neg h2]
  obtain ⟨k, rfl⟩ : ∃ k : Nat, p = (k : Int) := ⟨p.toNat, by omega⟩
  have hk : k < n := by omega
  by_cases h3 : (getS bs ((k : Int) + 1)).2.2 ≠ 0
  · rw [if_pos h3]; exact yr_bad hR hl hm hB hk (.inl ⟨rfl, h3⟩)
  have h3' : (getS bs ((k : Int) + 1)).2.2 = 0 := by simpa using h3
  rw [if_neg h3]
  by_cases h4 : (getS bs (getS bs ((k : Int) + 1)).2.1).2.2 ≠ 0
  · rw [if_pos h4]; exact yr_bad hR hl hm hB hk (.inr ⟨h3', .inl ⟨rfl, h4⟩⟩)
  have h4' : (getS bs (getS bs ((k : Int) + 1)).2.1).2.2 = 0 := by simpa using h4
  rw [if_neg h4]
  by_cases h5 : 50331647 < (getS bs ((k : Int) + 1)).1 ∨ 50331647 < (getS bs (getS bs ((k : Int) + 1)).2.1).1
  · rw [if_pos h5]; exact yr_bad hR hl hm hB hk (.inr ⟨h3', .inr ⟨h4', h5, rfl⟩⟩)
  rw [if_neg h5, Int.toNat_natCast]
  have r1 := getS_ok1 hB h3'
  obtain ⟨j, hj⟩ : ∃ j : Nat, (getS bs ((k : Int) + 1)).2.1 = (j : Int) := ⟨(getS bs ((k : Int) + 1)).2.1.toNat, by omega⟩
  have r2 : 0 ≤ (getS bs (getS bs ((k : Int) + 1)).2.1).1 := by rw [hj] at h4' ⊢; exact (getS_ok hB h4').1
  exact yr_good hR hl hm hB hk h3' h4' r1.1 r2 (by omega) (by omega)
end Go.Proofs.YtjihcpnaebghnaaDoor
