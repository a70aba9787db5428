/-
  Proved here, for every Sha that holds some bytes, and every slice that reads as bytes and lies elsewhere, where the table of constants is as the program lays it: behind take the Sha holds both, and of what there was nothing but the Sha's own block is changed.
-/
import Derived.Test.YtdlhpmbgpjjkoaaDoorSHold
import Derived.Deep.RegionLaw
import Derived.Deep.RegionHeld
namespace Go.Proofs.YtdlhpmbgpjjkoaaDoor
open Go.RowKit
/-- Of the blocks that there were, g alone may be another one. -/
structure Only (g : Nat) (w w' : World) : Prop where
  os : w'.os = w.os
  tape : w'.tape = w.tape
  output : w'.output = w.output
  size : w.heap.size ≤ w'.heap.size
  block : ∀ k, k < w.heap.size → k ≠ g → w'.heap[k]? = w.heap[k]?
theorem Only.refl (g : Nat) (w : World) : Only g w w := ⟨rfl, rfl, rfl, Nat.le_refl _, fun _ _ _ => rfl⟩
theorem Only.trans {g : Nat} {a b c : World} (h : Only g a b) (k : Only g b c) : Only g a c :=
  ⟨k.os.trans h.os, k.tape.trans h.tape, k.output.trans h.output, Nat.le_trans h.size k.size, fun i hi hg => (k.block i (Nat.lt_of_lt_of_le hi h.size) hg).trans (h.block i hi hg)⟩
theorem Only.ofBelow {g : Nat} {w w' : World} (h : Below w.heap.size w w') : Only g w w' := ⟨h.os, h.tape, h.output, h.size, fun k hk _ => h.block k hk⟩
theorem Only.setRow {g : Nat} {a w : World} (h : Only g a w) (cs : Array Value) : Only g a (w.setRow g cs) :=
  h.trans ⟨rfl, rfl, rfl, by simp [World.setRow], fun k _ hk => setRow_other w g k cs hk⟩
theorem Only.setCell {g : Nat} {a w : World} (h : Only g a w) (i : Nat) (v : Value) : Only g a (w.setCell ⟨g, i, none⟩ v) :=
  h.trans ⟨rfl, rfl, rfl, by simp, fun k _ hk => heap_setCell_other w ⟨g, i, none⟩ k v hk⟩
theorem Only.drew {g : Nat} {a w : World} (h : Only g a w) : Only g a w.drew := ⟨h.os, h.tape, h.output, h.size, h.block⟩
theorem Only.drewN {g : Nat} {a w : World} (h : Only g a w) (n : Nat) : Only g a (w.drewN n) := ⟨h.os, h.tape, h.output, h.size, h.block⟩
theorem Only.below {B g : Nat} {a w w' : World} (h : Only g w w') (hb : Below B a w) (hg : B ≤ g) (hB : B ≤ w.heap.size) : Below B a w' :=
  ⟨h.os.trans hb.os, h.tape.trans hb.tape, h.output.trans hb.output, Nat.le_trans hb.size h.size, fun k hk => (h.block k (by omega) (by omega)).trans (hb.block k hk)⟩
theorem Only.cell {g : Nat} {w w' : World} (h : Only g w w') {p : Addr} (hp : p.block < w.heap.size) (hg : p.block ≠ g) : w'.cell? p = w.cell? p := World.cell?_of_block (w := w) (h.block p.block hp hg)
theorem Tab.only {g : Nat} {w w' : World} (h : Tab w) (ho : Only g w w') (hg : 0 < g) : Tab w' :=
  ⟨fun i hi => (ho.cell (p := ⟨0, i, none⟩) h.big (by simp only [ne_eq]; omega)).trans (h.cell i hi), Nat.lt_of_lt_of_le h.big ho.size⟩

/-- A slice that reads as cs, not in block g. -/
def Rd (w : World) (g : Nat) (A : Option Addr) (cs : List Nat) : Prop :=
  0 < cs.length → ∃ b off, A = some ⟨b, off, none⟩ ∧ b < w.heap.size ∧ b ≠ g ∧ ∀ i, i < cs.length → w.cell? ⟨b, off + i, none⟩ = some (.int .u8 (cs.getD i 0 : Nat))
theorem Rd.only {w w' : World} {g : Nat} {A : Option Addr} {cs : List Nat} (h : Rd w g A cs) (ho : Only g w w') : Rd w' g A cs := fun hl => by
  obtain ⟨b, off, e, hb, hg, hc⟩ := h hl
  exact ⟨b, off, e, Nat.lt_of_lt_of_le hb ho.size, hg, fun i hi => (ho.cell (p := ⟨b, off + i, none⟩) hb hg).trans (hc i hi)⟩

theorem step_copy_at {P : Program} {ops : Array Oper} {o : Oper} {a : Act} {w : World} {K : Act → World → Prop} {Q : Exit → Act → World → Prop} {E : Prop} (hgd : o.guard = none) (d s : Operand) (dT sT : TypeId)
    (ho : o.op = .call { callee := .builtin .copy, args := #[d, s], argTypes := #[dT, sT] }) (elem : TypeId) (hu : P.underlying dT = some (.slice elem)) (hsz : (P.info? elem).map (·.size) = some 1)
    (dLen dCap sLen sCap : Nat) (g off : Nat) (ad : Addr) (hd : a.eval d = .slice (some ⟨g, off, none⟩) dLen dCap) (hs : a.eval s = .slice (some ad) sLen sCap)
    (cur : List Value) (t : TypeId) (hg : w.heap[g]? = some (.cells cur.toArray t (0, 0))) (cs : List Value) (hn : cs.length = Nat.min sLen dLen)
    (hsrc : ∀ j v, cs[j]? = some v → w.cell? (ad.add j) = some v) (hfit : off + cs.length ≤ cur.length) (h1 : ∀ v ∈ cs, v.oneCell' = true) (new : List Value) (hnew : cur.take off ++ cs ++ cur.drop (off + cs.length) = new)
    (h : K (a.put o.dst (.int .i64 cs.length)) (w.setRow g new.toArray)) :
    if Region.wanted o (yielded ops a.tmps) = true then Oper.wp P o a w K Q else E := by
  have hw : Region.wanted o (yielded ops a.tmps) = true := by simp [Region.wanted, hgd]
  rw [if_pos hw]
  have hrun := run_copy_row (P := P) w dT sT o.type elem g off dLen dCap ad sLen sCap cur.toArray t cs hu hsz hg hn hsrc (by simpa using hfit) h1
  simp only [hnew] at hrun
  unfold Oper.wp
  simp [execOp, ho, resolve, invoke, builtin, hd, hs, hrun, Result.andThen]
  exact h

theorem slice_rest (g k : Nat) (hk : k < 64) (W : World) : (Instr.sliceAt 83 (.pointer (some ⟨g, 9, none⟩)) (some (.int .u64 (k : Int))) none none).run Tryd.prog W = .ok (.slice (some ⟨g, 9 + k, none⟩) (64 - k) (64 - k)) W := by
  have h1 : (k : Int) ≤ 64 := by omega
  have h2 : ¬ 64 = k := by omega
  have ha : (⟨g, 9, none⟩ : Addr).add k = ⟨g, 9 + k, none⟩ := by unfold Addr.add; split <;> simp_all
  simp [Instr.sliceAt, Instr.sureAddr, run_underlying Tryd.underlying83, Instr.sliceBounds, run_sliceBound, h1, h2, ha]
theorem step_load_at {P : Program} {ops : Array Oper} {o : Oper} {a : Act} {w : World} {K : Act → World → Prop} {Q : Exit → Act → World → Prop} {E : Prop} (hgd : o.guard = none) (ty : TypeId) (x : Operand) (ho : o.op = .load ty x)
    (g off : Nat) (hx : a.eval x = .pointer (some ⟨g, off, none⟩)) (cs : List Value) (d : TypeDesc) (hc : ∀ j v, cs[j]? = some v → w.cell? ⟨g, off + j, none⟩ = some v)
    (hu : P.underlying ty = some d) (hd : (match d with | .struct _ | .array _ _ => true | _ => false) = true) (hi : (P.info? ty).map (·.size) = some cs.length)
    (h : K (a.put o.dst (.agg cs.toArray)) w) : if Region.wanted o (yielded ops a.tmps) = true then Oper.wp P o a w K Q else E := by
  have hw : Region.wanted o (yielded ops a.tmps) = true := by simp [Region.wanted, hgd]
  rw [if_pos hw]
  unfold Oper.wp execOp
  simp only [ho, hx, Instr.loadAt, Instr.sureAddr, Sem.run_bind, Sem.run_pure, Result.andThen_ok, run_loadVar_at w g off ty cs d hc hu hd hi]
  exact h
theorem step_store_at {P : Program} {ops : Array Oper} {o : Oper} {a : Act} {w : World} {K : Act → World → Prop} {Q : Exit → Act → World → Prop} {E : Prop} (hgd : o.guard = none) (ty : TypeId) (x y : Operand) (ho : o.op = .store ty x y)
    (g off : Nat) (cells : List Value) (hx : a.eval x = .pointer (some ⟨g, off, none⟩)) (hy : a.eval y = .agg cells.toArray)
    (t : TypeId) (cur : List Value) (hg : w.heap[g]? = some (.cells cur.toArray t (0, 0))) (hi : (P.info? ty).map (·.size) = some cells.length)
    (hf : off + cells.length ≤ cur.length) (h1 : ∀ v ∈ cells, v.oneCell' = true) (new : List Value) (hnew : cur.take off ++ cells ++ cur.drop (off + cells.length) = new)
    (h : K (a.put o.dst undef) (w.setRow g new.toArray)) : if Region.wanted o (yielded ops a.tmps) = true then Oper.wp P o a w K Q else E := by
  have hw : Region.wanted o (yielded ops a.tmps) = true := by simp [Region.wanted, hgd]
  rw [if_pos hw]
  have hrun := run_storeVar_at (P := P) w g off t ty cur.toArray cells hg hi (by simpa using hf) h1
  simp only [hnew] at hrun
  unfold Oper.wp execOp
  simp only [ho, hx, hy, Instr.storeAt, Instr.sureAddr, Sem.run_bind, Sem.run_pure, Result.andThen_ok, hrun]
  exact h
theorem info34l (s : S8) : (Tryd.prog.info? 82).map (·.size) = some (V32 s.list).length := info34
/-- How long a slice is. -/
def lenOf : Value → Nat
  | .slice _ l _ => l
  | _ => 0
structure TK (w : World) (g : Nat) (bs cs : List Nat) (i : Nat) (A : Option Addr) (c : Nat) (wr : World) : Prop where
  sha : IsSha wr g (bs ++ cs.take i)
  only : Only g w wr
  rd : Rd w g A (cs.drop i)
  le : cs.length - i ≤ c
  max : c ≤ maxLen
theorem slice_on {w : World} {g b off l c m : Nat} {cs : List Nat} (hcs : cs.length = l) (hb : b < w.heap.size) (hbg : b ≠ g) (hc : ∀ i, i < cs.length → w.cell? ⟨b, off + i, none⟩ = some (.int .u8 (cs.getD i 0 : Nat))) (hl : l ≤ c) (hm : m ≤ l) :
    ∃ A, Rd w g A (cs.drop m) ∧ ∀ W : World, (Instr.slice 23 (.slice (some ⟨b, off, none⟩) l c) (some (.int .i64 (m : Int))) none none).run Tryd.prog W = .ok (.slice A (l - m) (c - m)) W := by
  have ha : (⟨b, off, none⟩ : Addr).add m = ⟨b, off + m, none⟩ := by unfold Addr.add; split <;> simp_all
  have h1 : (m : Int) ≤ (l : Int) := by omega
  have hrun : ∀ W : World, (Instr.slice 23 (.slice (some ⟨b, off, none⟩) l c) (some (.int .i64 (m : Int))) none none).run Tryd.prog W = .ok (.slice (some (if c = m then ⟨b, off, none⟩ else ⟨b, off + m, none⟩)) (l - m) (c - m)) W := by
    intro W
    simp [Instr.slice, run_underlying Tryd.underlying23, Instr.sliceBounds, run_sliceBound, h1, ha]
    split <;> rfl
  refine ⟨_, fun hp => ?_, hrun⟩
  have hp' : m < l := by simp at hp; omega
  rw [if_neg (by omega)]
  refine ⟨b, off + m, rfl, hb, hbg, fun i hi => ?_⟩
  rw [List.length_drop] at hi
  have := hc (m + i) (by omega)
  rw [show off + m + i = off + (m + i) by omega, this]
  simp [List.getD_eq_getElem?_getD]
theorem sizeByte : (Tryd.prog.info? 5).map (·.size) = some 1 := by kernel_rfl

set_option maxRecDepth 100000 in
set_option maxHeartbeats 1000000 in
theorem take_any (bs cs : List Nat) (g : Nat) (A : Option Addr) (cap : Nat) (w : World) (hS : IsSha w g bs) (hR : Rd w g A cs) (hcap : cs.length ≤ cap) (hm : cap ≤ maxLen) (hT : Tab w) (hg : 0 < g) (hn : bs.length + cs.length < 1152921504606846976) :
    Calls Tryd.prog 42 #[.pointer (some ⟨g, 0, none⟩), .slice A cs.length cap] w fun e w' => e = .returned (.tuple #[]) ∧ IsSha w' g (bs ++ cs) ∧ Only g w w' := by
  have H0 := Lib.hid (TK.mk (w := w) (i := 0) (wr := w) (by simpa using hS) (Only.refl g w) (by simpa using hR) (by simpa using hcap) hm)
  have HT := Lib.hid hT
  clear hS hR hcap hm hT
  go_enter Tryd.func42, Tryd.ntmps42
  go_wp2
  go_loopw [1, 4] (fun b _ wr => ∃ (i : Nat) (A' : Option Addr) (c' : Nat), i ≤ cs.length ∧ b = .slice A' (cs.length - i) c' ∧ Hid (TK w g bs cs i A' c' wr)) (fun b _ _ => lenOf b)
  case atStart => exact ⟨0, A, cap, by omega, rfl, H0⟩
  case round =>
    obtain ⟨i, A', c', hi, rfl, HK⟩ := hrel
    by_cases hlt : i < cs.length
    · have hl0 : 0 < (cs.drop i).length := by simp; omega
      obtain ⟨s, rest, n, hH, hO⟩ := HK.out.sha
      obtain ⟨b, off, rfl, hb, hbg, hc⟩ := HK.out.rd hl0
      obtain ⟨k, hk⟩ : ∃ k, n % 64 = k := ⟨_, rfl⟩
      have hk64 : k < 64 := by omega
      have hki : (n : Int).tmod 64 = (k : Int) := by rw [Int.tmod_eq_emod_of_nonneg (by omega)]; omega
      have hsl := slice_rest g k hk64
      obtain ⟨l, hl⟩ : ∃ l, cs.length - i = l := ⟨_, rfl⟩
      rw [hl]
      have c73 := hH.size
      have f73 := hH.free 73
      have hlpos : decide (0 < l) = true := by simp; omega
      obtain ⟨ds, hds⟩ : ∃ ds, (cs.drop i).take (min l (64 - k)) = ds := ⟨_, rfl⟩
      have hdl : ds.length = min l (64 - k) := by rw [← hds]; simp; omega
      have H1 := Lib.hid (show (V8 ds).length = Nat.min l (64 - k) by rw [length_V8]; exact hdl)
      have hrl := hH.len
      have H2 := Lib.hid (show 9 + k + (V8 ds).length ≤ (shaL true s rest n).length by rw [length_V8, length_shaL]; omega)
      have H3 := Lib.hid (shaL_laid s rest n k ds hrl (by omega))
      have HS := Lib.hid (show ∀ j v, (V8 ds)[j]? = some v → wr.cell? ((⟨b, off, none⟩ : Addr).add j) = some v from by
        intro j v hv
        have hj : j < ds.length := by simpa using (List.getElem?_eq_some_iff.1 hv).1
        rw [V8_get hj] at hv
        have hadd : (⟨b, off, none⟩ : Addr).add j = ⟨b, off + j, none⟩ := by unfold Addr.add; split <;> simp_all
        rw [hadd, HK.out.only.cell (p := ⟨b, off + j, none⟩) hb hbg, hc j (by simp; omega), ← hv, ← hds]
        have hj2 : j < min l (64 - k) := by omega
        simp only [List.getD_eq_getElem?_getD, List.getElem?_take, if_pos hj2])
      have HH := Lib.hid hH
      have HO := Lib.hid hO
      have HL := Lib.hid (And.intro hl (And.intro hk (And.intro hds hdl)))
      clear hH hO hl hk hds hdl hc hl0 hrl
      go_wp2
      go_region_law (refine step_copy_at rfl (.tmp 16) (.tmp 17) 23 23 rfl 5 Tryd.underlying23 sizeByte (64 - k) (64 - k) l c' g (9 + k) ⟨b, off, none⟩ (by simp [Act.eval, Act.put]) (by simp [Act.eval, Act.put]) (shaL true s rest n) 85 HH.out.blk (V8 ds) H1.out HS.out H2.out (one_V8 _) (shaL true s (laid rest k ds) n) H3.out ?_)
      have HH1 := Lib.hid (show Holds (wr.drew.setRow g (shaL true s (laid rest k ds) n).toArray) g s (laid rest k ds) n from ⟨(length_laid (by have := HH.out.len; have := HL.out.2.2.2; omega)).trans HH.out.len, setRow_heap _ _ _ _ _ _ HH.out.blk⟩)
      have HO1 := Lib.hid (show Only g w (wr.drew.setRow g (shaL true s (laid rest k ds) n).toArray) from HK.out.only.drew.setRow _)
      clear H1 H2 H3 HS c73 f73 hsl hki
      generalize wr.drew.setRow g (shaL true s (laid rest k ds) n).toArray = W1 at HH1 HO1 ⊢
      obtain ⟨m, hm⟩ : ∃ m, ds.length = m := ⟨_, rfl⟩
      have hmm : m = min l (64 - k) := by rw [← hm]; exact HL.out.2.2.2
      have hml : m ≤ l := by omega
      obtain ⟨A2, hA2, hsl⟩ : ∃ A, Rd w g A (cs.drop (i + m)) ∧ ∀ W : World, (Instr.slice 23 (.slice (some ⟨b, off, none⟩) l c') (some (.int .i64 (m : Int))) none none).run Tryd.prog W = .ok (.slice A (l - m) (c' - m)) W := by
        have hl := HL.out.1
        obtain ⟨b', off', e, _, _, hc⟩ := HK.out.rd (by simp; omega)
        injection e with e
        injection e with e1 e2
        subst e1 e2
        have := slice_on (cs := cs.drop i) (l := l) (c := c') (m := m) (by simp; omega) hb hbg hc (by rw [← hl]; exact HK.out.le) hml
        simpa [List.drop_drop] using this
      have HA2 := Lib.hid hA2
      clear hA2
      have HM := Lib.hid (And.intro hm hmm)
      rw [hm]
      clear hm hmm
      have c73 := HH1.out.size
      have f73 := HH1.out.free 73
      have hnb : n + m < 1152921504606846976 := by
        have h1 := HO.out.size
        have h2 := HL.out.1
        simp at h1
        omega
      obtain ⟨N, hN⟩ : ∃ N, n + m = N := ⟨_, rfl⟩
      have hNi : (n : Int) + (m : Int) = (N : Int) := by omega
      have HN := Lib.hid hN
      have hNb : N < 1152921504606846976 := by omega
      clear hN
      by_cases hfull : N % 64 = 0
      · have h64 : ((N : Int) % 64 == 0) = true := by simp; omega
        go_wp2
        have HH2 := Lib.hid (show Holds (W1.setCell ⟨g, 73, none⟩ (.int .u64 (N : Int))) g s (laid rest k ds) N from ⟨HH1.out.len, by rw [heap_setCell_same W1 g 73 _ _ _ HH1.out.blk]; simp [← shaL_size s (laid rest k ds) n N HH1.out.len]⟩)
        have HO2 := Lib.hid (show Only g w (W1.setCell ⟨g, 73, none⟩ (.int .u64 (N : Int))) from HO1.out.setCell 73 _)
        clear HH1 HO1 c73 f73 hsl
        generalize W1.setCell ⟨g, 73, none⟩ (.int .u64 (N : Int)) = W2 at HH2 HO2 ⊢
        obtain ⟨blk, hblk⟩ : ∃ blk, laid rest k ds = blk := ⟨_, rfl⟩
        rw [hblk] at HH2
        have HB := Lib.hid hblk
        clear hblk
        have i35 := Lib.hid (show (Tryd.prog.info? 83).map (·.size) = some (V8 blk).length by rw [length_V8, HH2.out.len]; exact info35)
        refine wp_region_held_drew (S := fun _ => True) (by kernel_rfl) trivial (fun hHeld => ?_)
        refine wpAnyH_take (i := 0) (v := ?_) (by simp; rfl) (by kernel_rfl) (by kernel_rfl) (by kernel_rfl) (by exact fun _ _ _ h => h) (Or.inl ⟨by rfl, fun wx hSx => ?_⟩) hHeld ?_
        rotate_left
        · clear hSx; go_simp; (try with_reducible rfl)
        simp only [Act.put, List.setIfInBounds_toArray, List.set_cons_zero, List.set_cons_succ]
        refine wpAnyH_take (i := 1) (v := ?_) (by simp; rfl) (by kernel_rfl) (by kernel_rfl) (by kernel_rfl) (by exact fun _ _ _ h => h) (Or.inl ⟨by rfl, fun wx hSx => ?_⟩) hHeld ?_
        rotate_left
        · clear hSx; go_simp; (try with_reducible rfl)
        simp only [Act.put, List.setIfInBounds_toArray, List.set_cons_zero, List.set_cons_succ]
        refine wpAnyH_take (i := 2) (v := ?_) (by simp; rfl) (by kernel_rfl) (by kernel_rfl) (by kernel_rfl) (by exact fun _ _ _ h => h) (Or.inl ⟨by rfl, fun wx hSx => ?_⟩) hHeld ?_
        rotate_left
        · clear hSx; go_simp; (try with_reducible rfl)
        simp only [Act.put, List.setIfInBounds_toArray, List.set_cons_zero, List.set_cons_succ]
        refine wpAnyH_take (i := 3) (v := ?_) (by simp; rfl) (by kernel_rfl) (by kernel_rfl) (by kernel_rfl) (by exact fun _ _ _ h => h) (Or.inl ⟨by rfl, fun wx hSx => ?_⟩) hHeld ?_
        rotate_left
        · clear hSx; go_simp; (try with_reducible rfl)
        simp only [Act.put, List.setIfInBounds_toArray, List.set_cons_zero, List.set_cons_succ]
        refine wpAnyH_take (i := 5) (v := ?_) (by simp; rfl) (by kernel_rfl) (by kernel_rfl) (by kernel_rfl) (by exact fun _ _ _ h => h) (Or.inl ⟨by rfl, fun wx hSx => ?_⟩) hHeld ?_
        rotate_left
        · clear hSx; go_simp; (try with_reducible rfl)
        simp only [Act.put, List.setIfInBounds_toArray, List.set_cons_zero, List.set_cons_succ]
        refine wpAnyH_take (i := 6) (v := ?_) (by simp; rfl) (by kernel_rfl) (by kernel_rfl) (by kernel_rfl) (by exact fun _ _ _ h => h) (Or.inl ⟨by rfl, fun wx hSx => ?_⟩) hHeld ?_
        rotate_left
        · clear hSx; go_simp; (try with_reducible rfl)
        simp only [Act.put, List.setIfInBounds_toArray, List.set_cons_zero, List.set_cons_succ]
        refine wpAnyH_take (i := 7) (v := ?_) (by simp; rfl) (by kernel_rfl) (by kernel_rfl) (by kernel_rfl) (by exact fun _ _ _ h => h) (Or.inl ⟨by rfl, fun wx hSx => ?_⟩) hHeld ?_
        rotate_left
        · clear hSx; go_simp; (try with_reducible rfl)
        simp only [Act.put, List.setIfInBounds_toArray, List.set_cons_zero, List.set_cons_succ]
        refine wpAnyH_ready (rs := [4, 8]) (by kernel_rfl) (by simp) ?_
        refine AllReadyH.cons (by simp; rfl) (fun K hK => ?first) (AllReadyH.cons (by simp; rfl) (fun K hK => ?second) AllReadyH.nil)
        case' first =>
          refine step_load_at rfl 82 (.tmp 40) rfl g 1 rfl (V32 s.list) _ HH2.out.stCell Tryd.underlying82 rfl (info34l s) ?_
          refine hK.out _ _ trivial (fun _ => ?_)
          clear hK K
          simp only [Act.put, List.setIfInBounds_toArray, List.set_cons_zero, List.set_cons_succ]
          refine wpAnyH_ready (rs := [8]) (by kernel_rfl) (by simp) ?_
          refine AllReadyH.cons (by simp; rfl) (fun K hK => ?_) AllReadyH.nil
          refine step_load_at rfl 83 (.tmp 44) rfl g 9 rfl (V8 blk) _ HH2.out.restCell Tryd.underlying83 rfl i35.out ?_
          refine hK.out _ _ trivial (fun _ => ?_)
          clear hK K
          simp only [Act.put, List.setIfInBounds_toArray, List.set_cons_zero, List.set_cons_succ]
        case' second =>
          refine step_load_at rfl 83 (.tmp 44) rfl g 9 rfl (V8 blk) _ HH2.out.restCell Tryd.underlying83 rfl i35.out ?_
          refine hK.out _ _ trivial (fun _ => ?_)
          clear hK K
          simp only [Act.put, List.setIfInBounds_toArray, List.set_cons_zero, List.set_cons_succ]
          refine wpAnyH_ready (rs := [4]) (by kernel_rfl) (by simp) ?_
          refine AllReadyH.cons (by simp; rfl) (fun K hK => ?_) AllReadyH.nil
          refine step_load_at rfl 82 (.tmp 40) rfl g 1 rfl (V32 s.list) _ HH2.out.stCell Tryd.underlying82 rfl (info34l s) ?_
          refine hK.out _ _ trivial (fun _ => ?_)
          clear hK K
          simp only [Act.put, List.setIfInBounds_toArray, List.set_cons_zero, List.set_cons_succ]
        all_goals (
          refine wpAnyH_ready (rs := [9]) (by kernel_rfl) (by simp) ?_
          refine AllReadyH.cons (by simp; rfl) (fun K hK => ?_) AllReadyH.nil
          go_simp
          refine (goInto_any s blk _ HH2.out.len (HT.out.only HO2.out.drew hg)).mono ?_
          rintro e W3 ⟨rfl, hb3⟩
          refine hK.out _ _ trivial (fun _ => ?_)
          clear hK K
          refine wpAnyH_take (i := 10) (v := ?_) (by simp; rfl) (by kernel_rfl) (by kernel_rfl) (by kernel_rfl) (by exact fun _ _ _ h => h) (Or.inl ⟨by rfl, fun wx hSx => ?_⟩) trivial ?_
          rotate_left
          · clear hSx; go_simp; (try with_reducible rfl)
          simp only [Act.put, List.setIfInBounds_toArray, List.set_cons_zero, List.set_cons_succ]
          refine wpAnyH_take (i := 11) (v := ?_) (by simp; rfl) (by kernel_rfl) (by kernel_rfl) (by kernel_rfl) (by exact fun _ _ _ h => h) (Or.inl ⟨by rfl, fun wx hSx => ?_⟩) trivial ?_
          rotate_left
          · clear hSx; go_simp; (try with_reducible rfl)
          simp only [Act.put, List.setIfInBounds_toArray, List.set_cons_zero, List.set_cons_succ]
          refine wpAnyH_ready (rs := [12]) (by kernel_rfl) (by simp) ?_
          refine AllReadyH.cons (by simp; rfl) (fun K hK => ?_) AllReadyH.nil
          have hgl : g < W2.drew.heap.size := (Array.getElem?_eq_some_iff.1 HH2.out.blk).1
          have hg3 : W3.heap[g]? = some (.cells (shaL true s blk N).toArray 85 (0, 0)) := (hb3.block g hgl).trans HH2.out.blk
          refine step_store_at rfl 82 (.tmp 48) (.tmp 46) rfl g 1 (V32 (goIntoS s blk).list) rfl rfl 85 (shaL true s blk N) hg3 (info34l _) (by simp [length_shaL, HH2.out.len, S8.list]) (one_V32 _) (shaL true (goIntoS s blk) blk N) (shaL_state _ _ _ _) ?_
          refine hK.out _ _ trivial (fun _ => ?_)
          clear hK K
          have HH4 := Lib.hid (show Holds (W3.setRow g (shaL true (goIntoS s blk) blk N).toArray) g (goIntoS s blk) blk N from ⟨HH2.out.len, setRow_heap _ _ _ _ _ _ hg3⟩)
          have HO4 := Lib.hid (show Only g w (W3.setRow g (shaL true (goIntoS s blk) blk N).toArray) from (HO2.out.trans ((Only.refl g W2).drew.trans (Only.ofBelow hb3))).setRow _)
          clear hb3 hgl hg3 HH2 HO2
          generalize W3.setRow g (shaL true (goIntoS s blk) blk N).toArray = W4 at HH4 HO4 ⊢
          refine wpAnyH_done (by kernel_rfl) ?_ _
          simp only [Act.put]
          go_wp2
          go_roundw
          case rel =>
            have hl := HL.out.1
            have hk := HL.out.2.1
            have hds := HL.out.2.2.1
            obtain ⟨hm1, hm2⟩ := HM.out
            have hN := HN.out
            have hsz := HO.out.size
            have htk : cs.take (i + m) = cs.take i ++ ds := by rw [← hds, ← hm2, List.take_add]
            refine ⟨i + m, A2, c' - m, by omega, by congr 1; omega, Lib.hid ⟨⟨_, _, _, HH4.out, ?_⟩, HO4.out, HA2.out, by have := HK.out.le; omega, by have := HK.out.max; omega⟩⟩
            have hk2 : k = (bs ++ cs.take i).length % 64 := by rw [← hsz]; exact hk.symm
            rw [htk, ← List.append_assoc, ← HB.out, ← hN, ← hm1, hk2]
            refine HO.out.full HH.out.len ds ?_
            rw [hsz] at hk hN
            omega
          case measure => have h0 := of_decide_eq_true hlpos; simp [lenOf]; have := HM.out.2; omega)
      · have h64 : ((N : Int) % 64 == 0) = false := by simp; omega
        go_wp2
        go_roundw
        case rel =>
          have hl := HL.out.1
          have hk := HL.out.2.1
          have hds := HL.out.2.2.1
          obtain ⟨hm1, hm2⟩ := HM.out
          have hN := HN.out
          have hsz := HO.out.size
          have htk : cs.take (i + m) = cs.take i ++ ds := by rw [← hds, ← hm2, List.take_add]
          refine ⟨i + m, A2, c' - m, by omega, by congr 1; omega, Lib.hid ⟨⟨s, laid rest k ds, N, ⟨HH1.out.len, ?_⟩, ?_⟩, HO1.out.setCell 73 _, HA2.out, by have := HK.out.le; omega, by have := HK.out.max; omega⟩⟩
          · rw [heap_setCell_same W1 g 73 _ _ _ HH1.out.blk]
            simp [← shaL_size s (laid rest k ds) n N HH1.out.len]
          · have hk2 : k = (bs ++ cs.take i).length % 64 := by rw [← hsz]; exact hk.symm
            rw [htk, ← List.append_assoc, ← hN, ← hm1, hk2]
            refine HO.out.part HH.out.len ds ?_
            rw [hsz] at hk hN
            omega
        case measure => have h0 := of_decide_eq_true hlpos; simp [lenOf]; have := HM.out.2; omega
    · obtain rfl : i = cs.length := by omega
      rw [Nat.sub_self]
      go_wp2
      go_end0
      exact ⟨rfl, by simpa using HK.out.sha, HK.out.only⟩
end Go.Proofs.YtdlhpmbgpjjkoaaDoor
