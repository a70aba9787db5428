/-
  Proved here: what isCount, whole, Right, hasChunk and Has answer of any map; New, With and Or.
-/
import Derived.Test.YtdlhpmbgpjjkoaaDoorMa
import Derived.Laws.Rows
set_option linter.unusedSimpArgs false
set_option linter.unusedVariables false
namespace Go.Proofs.YtdlhpmbgpjjkoaaDoor
open Go.RowKit
theorem count_any (n : Int) (w : World) : Calls Tryd.prog 44 #[.int .i64 n] w fun e w' => e = .returned (.bool (decide (0 ≤ n ∧ n ≤ 64))) ∧ w = w' := by
  by_cases h0 : 0 ≤ n
  · by_cases h1 : n ≤ 64
    · go_enter Tryd.func44, Tryd.ntmps44
      go_wp2
      go_ret
      exact ⟨by simp [h0, h1], rfl⟩
    · go_enter Tryd.func44, Tryd.ntmps44
      go_wp2
      go_ret
      exact ⟨by simp [h0, h1], rfl⟩
  · go_enter Tryd.func44, Tryd.ntmps44
    go_wp2
    go_ret
    exact ⟨by simp [h0]; omega, rfl⟩
theorem count_yes {n : Int} (h : 0 ≤ n ∧ n ≤ 64) (w : World) : Calls Tryd.prog 44 #[.int .i64 n] w fun e w' => e = .returned (.bool true) ∧ w = w' := by
  have := count_any n w
  rwa [decide_eq_true h] at this
theorem count_no {n : Int} (h : ¬ (0 ≤ n ∧ n ≤ 64)) (w : World) : Calls Tryd.prog 44 #[.int .i64 n] w fun e w' => e = .returned (.bool false) ∧ w = w' := by
  have := count_any n w
  rwa [decide_eq_false h] at this
/-- A map in a block of its own. -/
def MB (w : World) (g : Nat) (n b : Int) : Prop := w.heap[g]? = some (.cells #[.int .i64 n, .int .u64 b] 38 (0, 0))
section
variable {w : World} {g : Nat} {n b : Int}
theorem MB.c0 (h : MB w g n b) : w.cell? ⟨g, 0, none⟩ = some (.int .i64 n) := by unfold MB at h; simp [World.cell?, h]
theorem MB.c1 (h : MB w g n b) : w.cell? ⟨g, 1, none⟩ = some (.int .u64 b) := by unfold MB at h; simp [World.cell?, h]
theorem MB.free (h : MB w g n b) (i : Nat) : w.frozen? ⟨g, i, none⟩ = false := frozen_of_row w g i _ _ h
theorem MB.lt (h : MB w g n b) : g < w.heap.size := lt_of_block h
theorem MB.drew (h : MB w g n b) : MB w.drew g n b := h
theorem MB.drewN (h : MB w g n b) (k : Nat) : MB (w.drewN k) g n b := h
theorem MB.below {w' : World} (h : MB w g n b) (hb : Below w.heap.size w w') : MB w' g n b := (hb.block g h.lt).trans h
theorem MB.new (w : World) (n b : Int) : MB (w.alloc (.cells #[.int .i64 n, .int .u64 b] 38)) w.heap.size n b := heap_alloc_new w _
theorem MB.alloc (h : MB w g n b) (o : Obj) : MB (w.alloc o) g n b := (Below.heap_alloc w o g h.lt).trans h
end
abbrev SB (U : World) (g : Nat) (n b : Int) (W : World) : Prop := W.cell? ⟨g, 0, none⟩ = some (.int .i64 n) ∧ W.cell? ⟨g, 1, none⟩ = some (.int .u64 b) ∧ Hid (Below U.heap.size U W)
theorem SB.of {U : World} {g : Nat} {n b : Int} {W : World} (hc : Hid (MB U g n b)) (h : Hid (Below U.heap.size U W)) : SB U g n b W := ⟨(hc.out.below h.out).c0, (hc.out.below h.out).c1, h⟩
theorem SB.last {U : World} {g : Nat} {n b : Int} {W : World} (h : SB U g n b W) : Below U.heap.size U W := h.2.2.out
theorem SB.to {U : World} {g : Nat} {n b : Int} {W W' : World} (hc : Hid (MB U g n b)) (hb : Below W.heap.size W W') (h : SB U g n b W) : SB U g n b W' := SB.of hc (Lib.hid (h.last.trans (hb.mono h.last.size)))
theorem rc_tmp {P : Program} {fn : Func} {p q : Tmp} {ty : TypeId} (h : fn.results = #[.cell p ty, .tmp q]) (tmps : Array Value) (w : World) (g : Nat) (t : TypeId) (cs : Array Value) (fr : Nat × Nat) (d : TypeDesc) (u : Value)
    (hp : tmps.getD p undef = .pointer (some ⟨g, 0, none⟩)) (hq : tmps.getD q undef = u) (hg : w.heap[g]? = some (.cells cs t fr))
    (hu : P.underlying ty = some d) (hd : (match d with | .struct _ | .array _ _ => true | _ => false) = true) (hi : (P.info? ty).map (·.size) = some cs.size) :
    (results fn tmps).run P w = .ok (.tuple #[.agg cs, u]) w := by
  have hp' : tmps[p]?.getD undef = .pointer (some ⟨g, 0, none⟩) := by simpa using hp
  have hq' : tmps[q]?.getD undef = u := by simpa using hq
  simp [results, h, hp', hq', asAddr, run_loadVar_row w g t ty cs fr d hg hu hd hi]
theorem info_map : (Tryd.prog.info? 38).map (·.size) = some 2 := by kernel_rfl
theorem whole_any {n : Nat} (hn : n ≤ 64) (w : World) : Calls Tryd.prog 49 #[.int .i64 n] w fun e w' => e = .returned (mV n ((2 ^ n - 1 : Nat) : Int)) ∧ Below w.heap.size w w' := by
  have HW := Lib.hid (whole_bits hn)
  go_enter Tryd.func49, Tryd.ntmps49
  go_wp2
  rw [HW.out]
  exact bodyPost_ret (results_cell_row Tryd.results49 _ _ w.heap.size 38 _ (0, 0) _ rfl (MB.new w n ((2 ^ n - 1 : Nat) : Int)) Tryd.underlying38 rfl info_map) rfl ⟨rfl, (Below.refl _ _).alloc (Nat.le_refl _) _⟩
theorem quietL {P : Program} {f : FuncId} {args : Array Value} {w : World} {n : Nat} {v : Value} (h : Calls P f args (w.drewN n) fun e w' => e = .returned v ∧ w.drewN n = w') : Calls P f args (w.drewN n) fun e w' => e = .returned v ∧ ∃ m, w' = w.drewN m :=
  h.mono fun _ _ ⟨he, hw⟩ => ⟨he, n, hw.symm⟩
theorem field1 (n : Int) (y : Int) (W : World) : (Instr.field 38 (.agg #[.int .i64 n, .int .u64 y]) 1).run Tryd.prog W = .ok (.int .u64 y) W := by
  have hu := Tryd.underlying38
  have hz := Tryd.underlying22
  simp [Instr.field, hu, hz, asAgg, go_sem]
theorem right_no {n : Int} (h : ¬ (0 ≤ n ∧ n ≤ 64)) (b : Nat) (w : World) : Calls Tryd.prog 45 #[mV n b] w fun e w' => e = .returned (.bool false) ∧ Below w.heap.size w w' := by
  have HC := Lib.hid (fun W => count_no h W)
  have HU := Lib.hid (MB.new w n b)
  have HB := Lib.hid ((Below.refl _ w).alloc (Nat.le_refl _) (.cells #[.int .i64 n, .int .u64 b] 38))
  clear h
  unfold mV
  go_enter Tryd.func45, Tryd.ntmps45
  go_upto_region 1 with fail
  obtain ⟨U, hU⟩ : ∃ U, w.alloc (.cells #[.int .i64 n, .int .u64 b] 38) = U := ⟨_, rfl⟩
  rw [hU] at HU HB ⊢
  clear hU
  have c0 := HU.out.c0
  have c1 := HU.out.c1
  have HD := Lib.hid (belowN (Below.refl U.heap.size U) 1)
  go_quiet ((go_at_call 44; exact quietL (HC.out _)))
  go_wp2
  go_ret
  exact ⟨rfl, belowN HB.out _⟩
theorem right_in {n : Nat} (h : n ≤ 64) {b : Nat} (hb : b < 18446744073709551616) (w : World) : Calls Tryd.prog 45 #[mV n b] w fun e w' => e = .returned (.bool (decide (b < 2 ^ n))) ∧ Below w.heap.size w w' := by
  have HC := Lib.hid (fun W => count_yes (n := n) ⟨by omega, by omega⟩ W)
  have HW := Lib.hid (fun W => whole_any h W)
  have HN := Lib.hid (behind_none h hb)
  have HU := Lib.hid (MB.new w n b)
  have HB := Lib.hid ((Below.refl _ w).alloc (Nat.le_refl _) (.cells #[.int .i64 n, .int .u64 b] 38))
  clear h hb
  unfold mV at HW ⊢
  obtain ⟨y, hy⟩ : ∃ y, 2 ^ n - 1 = y := ⟨_, rfl⟩
  rw [hy] at HW HN
  go_enter Tryd.func45, Tryd.ntmps45
  go_upto_region 1 with fail
  obtain ⟨U, hU⟩ : ∃ U, w.alloc (.cells #[.int .i64 n, .int .u64 b] 38) = U := ⟨_, rfl⟩
  rw [hU] at HU HB ⊢
  clear hU
  have c0 := HU.out.c0
  have c1 := HU.out.c1
  have HD := Lib.hid (belowN (Below.refl U.heap.size U) 1)
  have hfd := field1 n y
  go_region_held3 (SB U w.heap.size n b)
    (first | exact SB.of HU HD | assumption | exact SB.to HU (by assumption) (by assumption))
    (first | (go_at_call 44; refine (HC.out _).mono ?_; rintro e wy ⟨rfl, rfl⟩) | (go_at_call 49; refine (HW.out _).mono ?_; rintro e wy ⟨rfl, hby⟩))
  have HX := Lib.hid (SB.last (W := wy) (by assumption))
  clear hfd hby
  go_wp2
  rw [HN.out]
  go_ret
  exact ⟨rfl, HB.out.trans (HX.out.mono HB.out.size)⟩
theorem rB_no {n : Int} (h : ¬ (0 ≤ n ∧ n ≤ 64)) (b : Nat) : rB n b = false := by unfold rB; exact decide_eq_false fun ⟨h1, h2, _⟩ => h ⟨h1, h2⟩
theorem rB_in {n : Nat} (h : n ≤ 64) (b : Nat) : rB n b = decide (b < 2 ^ n) := by
  unfold rB
  rw [decide_eq_decide]
  exact ⟨fun ⟨_, _, h3⟩ => by simpa using h3, fun h3 => ⟨by omega, by omega, by simpa using h3⟩⟩
theorem rB_yes {n : Int} {b : Nat} (h : rB n b = true) : ∃ k : Nat, n = k ∧ k ≤ 64 ∧ b < 2 ^ k := by
  obtain ⟨h1, h2, h3⟩ := of_decide_eq_true h
  exact ⟨n.toNat, by omega, by omega, h3⟩
theorem right_any (n : Int) {b : Nat} (hb : b < 18446744073709551616) (w : World) : Calls Tryd.prog 45 #[mV n b] w fun e w' => e = .returned (.bool (rB n b)) ∧ Below w.heap.size w w' := by
  by_cases h : 0 ≤ n ∧ n ≤ 64
  · obtain ⟨k, rfl⟩ : ∃ k : Nat, n = k := ⟨n.toNat, by omega⟩
    rw [rB_in (by omega)]
    exact right_in (by omega) hb w
  · rw [rB_no h]
    exact right_no h b w
theorem chunk_any (n : Int) (b : Nat) (i : Int) (w : World) : Calls Tryd.prog 46 #[mV n b, .int .i64 i] w fun e w' => e = .returned (.bool (decide (0 ≤ i ∧ i < n))) ∧ Below w.heap.size w w' := by
  unfold mV
  have HB := Lib.hid ((Below.refl _ w).alloc (Nat.le_refl _) (.cells #[.int .i64 n, .int .u64 b] 38))
  by_cases h0 : 0 ≤ i
  · by_cases h1 : i < n
    · go_enter Tryd.func46, Tryd.ntmps46
      go_wp2
      go_ret
      exact ⟨by simp [h0, h1], HB.out⟩
    · go_enter Tryd.func46, Tryd.ntmps46
      go_wp2
      go_ret
      exact ⟨by simp [h0, h1], HB.out⟩
  · go_enter Tryd.func46, Tryd.ntmps46
    go_wp2
    go_ret
    exact ⟨by simp [h0]; omega, HB.out⟩
theorem hB_in {n b i : Nat} (h : rB n b = true) (hi : i < n) : hB n b i = b.testBit i := by
  unfold hB
  rw [h, decide_eq_true (show (0 : Int) ≤ (i : Int) ∧ (i : Int) < (n : Int) by omega)]
  simp
theorem hB_out {n : Int} {b : Nat} {i : Int} (h : ¬ (0 ≤ i ∧ i < n)) : hB n b i = false := by
  unfold hB
  rw [decide_eq_false h]
  simp
theorem hB_bad {n : Int} {b : Nat} {i : Int} (h : rB n b = false) : hB n b i = false := by
  unfold hB
  rw [h]
  simp
theorem has_any (n : Int) {b : Nat} (hb : b < 18446744073709551616) (i : Int) (w : World) : Calls Tryd.prog 47 #[mV n b, .int .i64 i] w fun e w' => e = .returned (.bool (hB n b i)) ∧ Below w.heap.size w w' := by
  have HU := Lib.hid (MB.new w n b)
  have HB := Lib.hid ((Below.refl _ w).alloc (Nat.le_refl _) (.cells #[.int .i64 n, .int .u64 b] 38))
  have HR := Lib.hid (fun W => right_any n hb W)
  have HC := Lib.hid (fun W => chunk_any n b i W)
  have HI := Lib.hid (fun (h : rB n b = false) => hB_bad (i := i) h)
  have HO := Lib.hid (fun (h : ¬ (0 ≤ i ∧ i < n)) => hB_out (b := b) h)
  have HY := Lib.hid (fun (h : rB n b = true) (h2 : 0 ≤ i ∧ i < n) => show hB n b i = b.testBit i.toNat from by
    unfold hB; rw [h, decide_eq_true h2]; simp)
  have HK := Lib.hid (fun (h : rB n b = true) (h2 : 0 ≤ i ∧ i < n) => show i < 64 from by
    obtain ⟨k, rfl, h3, _⟩ := rB_yes h
    omega)
  obtain ⟨x, hx⟩ : ∃ x, hB n b i = x := ⟨_, rfl⟩
  rw [hx] at HI HO HY ⊢
  obtain ⟨r, hr⟩ : ∃ r, rB n b = r := ⟨_, rfl⟩
  obtain ⟨c, hc⟩ : ∃ c, decide (0 ≤ i ∧ i < n) = c := ⟨_, rfl⟩
  have HC2 := Lib.hid (fun (_ : Unit) => hc)
  rw [hr] at HR HI HY HK
  rw [hc] at HC
  clear hb hx hr
  unfold mV at HR HC ⊢
  go_enter Tryd.func47, Tryd.ntmps47
  go_upto_region 1 with fail
  obtain ⟨U, hU⟩ : ∃ U, w.alloc (.cells #[.int .i64 n, .int .u64 b] 38) = U := ⟨_, rfl⟩
  rw [hU] at HU HB ⊢
  clear hU hc
  have c0 := HU.out.c0
  have c1 := HU.out.c1
  have HL := Lib.hid (fun (W : World) (h : Below U.heap.size U W) => HB.out.trans (h.mono HB.out.size))
  cases r
  · obtain rfl := HI.out rfl
    clear HY HO HI HK HC HC2
    go_wp2_with fail
    refine (HR.out _).mono ?_
    rintro e wx ⟨rfl, hx⟩
    have HX := Lib.hid hx
    clear hx c0 c1 HU
    go_wp2
    go_ret
    exact ⟨rfl, HL.out _ HX.out⟩
  · cases c
    · obtain rfl := HO.out (of_decide_eq_false (HC2.out ()))
      clear HY HO HI HK HC2
      go_wp2_with fail
      refine (HR.out _).mono ?_
      rintro e wx ⟨rfl, hx⟩
      have c0 := (HU.out.below hx).c0
      have c1 := (HU.out.below hx).c1
      have HX := Lib.hid hx
      clear hx HU
      go_wp2_with fail
      refine (HC.out _).mono ?_
      rintro e wy ⟨rfl, hy⟩
      have HX := Lib.hid (HX.out.trans (hy.mono HX.out.size))
      clear hy c0 c1
      go_wp2
      go_ret
      exact ⟨rfl, HL.out _ HX.out⟩
    · obtain ⟨h1, h2⟩ := of_decide_eq_true (HC2.out ())
      obtain ⟨k, rfl⟩ : ∃ k : Nat, i = k := ⟨i.toNat, by omega⟩
      have HE := HY.out rfl ⟨h1, h2⟩
      have hk64 := HK.out rfl ⟨h1, h2⟩
      rw [show ((k : Int)).toNat = k from rfl, ← and1 b k] at HE
      have HE := Lib.hid HE
      clear HY HO HI HK HC2
      go_wp2_with fail
      refine (HR.out _).mono ?_
      rintro e wx ⟨rfl, hx⟩
      have c0 := (HU.out.below hx).c0
      have c1 := (HU.out.below hx).c1
      have HX := Lib.hid hx
      go_wp2_with fail
      refine (HC.out _).mono ?_
      rintro e wy ⟨rfl, hy⟩
      have c0 := ((HU.out.below hx).below hy).c0
      have c1 := ((HU.out.below hx).below hy).c1
      have HX := Lib.hid (HX.out.trans (hy.mono HX.out.size))
      clear hy hx HU
      have g0 : (0 : Int) ≤ (k : Int) := by omega
      go_wp2
      rw [← HE.out]
      go_ret
      exact ⟨rfl, HL.out _ HX.out⟩
end Go.Proofs.YtdlhpmbgpjjkoaaDoor
