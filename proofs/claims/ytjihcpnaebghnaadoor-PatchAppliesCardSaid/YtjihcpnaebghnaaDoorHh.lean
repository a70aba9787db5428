/-
  Proved here: cells of the document are compared; Same.
-/
import Derived.Test.YtjihcpnaebghnaaDoorHc
import Derived.ChangeKeysEq
import Derived.BigRegion
set_option linter.unusedSimpArgs false
set_option linter.unusedVariables false
namespace Go.Proofs.YtjihcpnaebghnaaDoor
open Go.RowKit
theorem all_rangeB : ∀ (xs ys : List Bool), xs.length = ys.length → ((List.range xs.length).all fun i => xs.getD i false == ys.getD i false) = (xs == ys)
  | [], [], _ => rfl
  | x :: xs, y :: ys, h => by
    have ih := all_rangeB xs ys (by simpa using h)
    rw [List.length_cons, List.range_succ_eq_map, List.all_cons, List.all_map]
    simp only [List.getD_cons_zero, Function.comp_def, List.getD_cons_succ, ih]
    simp [List.cons_beq_cons]
  | [], _ :: _, h => by simp at h
  | _ :: _, [], h => by simp at h
theorem aggB : ∀ w, (isAgg 4).run Tryd.prog w = .ok false w := fun _ => by kernel_rfl
theorem infoBo : (Tryd.prog.info? 4).isSome = true := by kernel_rfl
theorem cellsBo : Tryd.prog.cellsOf 4 = 1 := by kernel_rfl
theorem run_itemsB (w : World) (d : Nat) (xs ys : List Bool) (n : Nat) (hx : xs.length = n) (hy : ys.length = n) :
    ∀ is : List Nat, (∀ i ∈ is, i < n) → (Op.eqItems (d + 1) 4 1 (xs.map Value.bool).toArray (ys.map Value.bool).toArray is).run Tryd.prog w = .ok (is.all fun i => xs.getD i false == ys.getD i false) w
  | [], _ => by simp [Op.eqItems]
  | i :: is, h => by
    have hi : i < n := h i (by simp)
    have ih := run_itemsB w d xs ys n hx hy is fun j hj => h j (by simp [hj])
    have hgx : (xs.map Value.bool)[i]? = some (.bool (xs.getD i false)) := by simp [List.getD, show i < xs.length by omega]
    have hgy : (ys.map Value.bool)[i]? = some (.bool (ys.getD i false)) := by simp [List.getD, show i < ys.length by omega]
    have px : (part 4 (xs.map Value.bool).toArray (i * 1)).run Tryd.prog w = .ok (.bool (xs.getD i false)) w := by
      simp only [part, Sem.run_bind, aggB, Result.andThen_ok, Nat.mul_one, List.getElem?_toArray, hgx]
      simp
    have py : (part 4 (ys.map Value.bool).toArray (i * 1)).run Tryd.prog w = .ok (.bool (ys.getD i false)) w := by
      simp only [part, Sem.run_bind, aggB, Result.andThen_ok, Nat.mul_one, List.getElem?_toArray, hgy]
      simp
    have pe := run_equalIn_bool w d 4 (xs.getD i false) (ys.getD i false) Tryd.underlying4
    simp only [Op.eqItems, Sem.run_bind, px, py, pe, Result.andThen_ok, List.all_cons]
    cases hb : (xs.getD i false == ys.getD i false)
    · simp
    · simpa using ih
theorem eqB8 (w : World) (d : Nat) (x0 x1 x2 x3 x4 x5 x6 x7 y0 y1 y2 y3 y4 y5 y6 y7 : Bool) : (Op.equalIn (d + 2) 75 (.agg #[.bool x0, .bool x1, .bool x2, .bool x3, .bool x4, .bool x5, .bool x6, .bool x7]) (.agg #[.bool y0, .bool y1, .bool y2, .bool y3, .bool y4, .bool y5, .bool y6, .bool y7])).run Tryd.prog w = .ok ([x0, x1, x2, x3, x4, x5, x6, x7] == [y0, y1, y2, y3, y4, y5, y6, y7]) w := by
  obtain ⟨i, hi⟩ := Option.isSome_iff_exists.1 infoBo
  have h := run_equalIn_array w (d + 1) ([x0, x1, x2, x3, x4, x5, x6, x7].map Value.bool).toArray ([y0, y1, y2, y3, y4, y5, y6, y7].map Value.bool).toArray Tryd.underlying75 hi
  rw [cellsBo, run_itemsB w d _ _ 8 rfl rfl (List.range 8) (by simp)] at h
  have e := all_rangeB [x0, x1, x2, x3, x4, x5, x6, x7] [y0, y1, y2, y3, y4, y5, y6, y7] rfl
  rw [show [x0, x1, x2, x3, x4, x5, x6, x7].length = 8 from rfl] at e
  rw [e] at h
  exact h
/-- Its flags are a byte's. -/
def OkC (c : Ce) : Prop := 0 ≤ c.f ∧ c.f < 256
def OkL (L : List Ce) : Prop := ∀ c ∈ L, OkC c
theorem ofF_inj {f g : Int} (h0 : 0 ≤ f ∧ f < 256) (h1 : 0 ≤ g ∧ g < 256) (h : ofF 8 f = ofF 8 g) : f = g := by
  rw [← flagsF_ofF 8 f h0.1 h0.2, ← flagsF_ofF 8 g h1.1 h1.2, h]
set_option maxRecDepth 100000 in
theorem eq_yc {c d : Ce} (hc : OkC c) (hd : OkC d) (w : World) : (Op.equalIn 10000 80 (yV c) (yV d)).run Tryd.prog w = .ok (decide (c = d)) w := by
  obtain ⟨p, f, g, b⟩ := c
  obtain ⟨p', f', g', b'⟩ := d
  obtain ⟨x0, x1, x2, x3, x4, x5, x6, x7, hf⟩ := eight (ofF_len 8 f)
  obtain ⟨y0, y1, y2, y3, y4, y5, y6, y7, hf'⟩ := eight (ofF_len 8 f')
  have e1 : yV ⟨p, f, g, b⟩ = .agg #[.int .i32 p, .bool x0, .bool x1, .bool x2, .bool x3, .bool x4, .bool x5, .bool x6, .bool x7, .int .u32 g, .int .u32 b] := by unfold yV yC; dsimp only; rw [hf]; rfl
  have e2 : yV ⟨p', f', g', b'⟩ = .agg #[.int .i32 p', .bool y0, .bool y1, .bool y2, .bool y3, .bool y4, .bool y5, .bool y6, .bool y7, .int .u32 g', .int .u32 b'] := by unfold yV yC; dsimp only; rw [hf']; rfl
  rw [e1, e2]
  have hb := eqB8 w 9996 x0 x1 x2 x3 x4 x5 x6 x7 y0 y1 y2 y3 y4 y5 y6 y7
  have hff : ([x0, x1, x2, x3, x4, x5, x6, x7] == [y0, y1, y2, y3, y4, y5, y6, y7]) = decide (f = f') := by
    rw [← hf, ← hf', Bool.eq_iff_iff]
    simp only [beq_iff_eq, decide_eq_true_eq]
    exact ⟨ofF_inj hc hd, fun e => by rw [e]⟩
  rw [hff] at hb
  obtain ⟨F, hF0⟩ : ∃ F, decide (f = f') = F := ⟨_, rfl⟩
  rw [hF0] at hb
  have hF : F = decide (f = f') := hF0.symm
  clear hff hF0 e1 e2 hf hf'
  go_simp
  subst hF
  by_cases h1 : p = p' <;> by_cases h2 : f = f' <;> by_cases h3 : g = g' <;> by_cases h4 : b = b' <;> simp [h1, h2, h3, h4]
theorem take_succ_ce {L M : List Ce} {i : Nat} (hL : i < L.length) (hM : i < M.length) (h : L.take i = M.take i) (e : ceAt L i = ceAt M i) : L.take (i + 1) = M.take (i + 1) := by
  rw [List.take_succ_eq_append_getElem hL, List.take_succ_eq_append_getElem hM, h, ceAt_get hL, ceAt_get hM, e]
theorem okL_at {L : List Ce} (h : OkL L) {i : Nat} (hi : i < L.length) : OkC (ceAt L i) := by
  rw [← ceAt_get hi]; exact h _ (List.getElem_mem hi)
set_option maxRecDepth 100000 in
set_option maxHeartbeats 8000000 in
theorem rsame_any {R C b1 n1 c1 R2 C2 b2 n2 c2 : Nat} {L M : List Ce} {w : World} (h : YR w b1 L) (k : YR w b2 M) (hL : L.length = n1) (hM : M.length = n2) (hm1 : n1 ≤ 1000) (hm2 : n2 ≤ 1000) (oL : OkL L) (oM : OkL M) :
    Calls Tryd.prog 37 #[XV R C b1 n1 c1, XV R2 C2 b2 n2 c2] w fun e w' => e = .returned (.bool (decide (R = R2 ∧ C = C2 ∧ L = M))) ∧ Below w.heap.size w w' := by
  have HB : Hid (Below w.heap.size w ((w.alloc (.cells #[.int .i64 R, .int .i64 C, .slice (some ⟨b1, 0, none⟩) n1 c1] 32)).alloc (.cells #[.int .i64 R2, .int .i64 C2, .slice (some ⟨b2, 0, none⟩) n2 c2] 32))) := Lib.hid (((Below.refl _ _).alloc (Nat.le_refl _) _).alloc (by simp) _)
  obtain ⟨D, hD⟩ : ∃ D, decide (R = R2 ∧ C = C2 ∧ L = M) = D := ⟨_, rfl⟩
  rw [hD]
  by_cases hR : R = R2
  case neg =>
    obtain rfl : false = D := by rw [← hD]; simp [hR]
    have p1 : ((R : Int) != (R2 : Int)) = true := by simp; omega
    have p2 : ((R : Int) == (R2 : Int)) = false := by simp; omega
    have p3 : (R != R2) = true := by simp; omega
    have p4 : (R == R2) = false := by simp; omega
    clear hR hD h k hL hM oL oM
    skip
    go_enter Tryd.func37, Tryd.ntmps37
    go_wp2
    go_ret
    exact ⟨rfl, HB.out⟩
  subst hR
  have eR1 : ((R : Int) != (R : Int)) = false := by simp
  have eR2 : (R != R) = false := by simp
  by_cases hC : C = C2
  case neg =>
    obtain rfl : false = D := by rw [← hD]; simp [hC]
    have p1 : ((C : Int) != (C2 : Int)) = true := by simp; omega
    have p2 : ((C : Int) == (C2 : Int)) = false := by simp; omega
    have p3 : (C != C2) = true := by simp; omega
    have p4 : (C == C2) = false := by simp; omega
    clear hC hD h k hL hM oL oM
    skip
    go_enter Tryd.func37, Tryd.ntmps37
    go_wp2
    go_ret
    exact ⟨rfl, HB.out⟩
  subst hC
  have eC1 : ((C : Int) != (C : Int)) = false := by simp
  have eC2 : (C != C) = false := by simp
  by_cases hn : n1 = n2
  case neg =>
    obtain rfl : false = D := by
      rw [← hD]; simp
      intro e; exact hn (by rw [← hL, ← hM, e])
    have p1 : ((n1 : Int) != (n2 : Int)) = true := by simp; omega
    have p2 : ((n1 : Int) == (n2 : Int)) = false := by simp; omega
    have p3 : (n1 != n2) = true := by simp; omega
    have p4 : (n1 == n2) = false := by simp; omega
    clear hn hD h k hL hM oL oM
    skip
    go_enter Tryd.func37, Tryd.ntmps37
    go_wp2
    go_ret
    exact ⟨rfl, HB.out⟩
  subst hn
  have en11 : ((n1 : Int) != (n1 : Int)) = false := by simp
  have en12 : (n1 != n1) = false := by simp
  have HD1 := Lib.hid (fun (e : L = M) => show true = D by rw [← hD]; simp [e])
  have HD2 := Lib.hid (fun (e : L ≠ M) => show false = D by rw [← hD]; simp [e])
  have HYL := Lib.hid (h.below HB.out)
  have HYM := Lib.hid (k.below HB.out)
  have HL := Lib.hid hL
  have HM := Lib.hid hM
  have HOL := Lib.hid oL
  have HOM := Lib.hid oM
  have HX0 : Hid (((w.alloc (.cells #[.int .i64 R, .int .i64 C, .slice (some ⟨b1, 0, none⟩) n1 c1] 32)).alloc (.cells #[.int .i64 R, .int .i64 C, .slice (some ⟨b2, 0, none⟩) n1 c2] 32)).heap[w.heap.size]? = some (.cells #[.int .i64 R, .int .i64 C, .slice (some ⟨b1, 0, none⟩) n1 c1] 32 (0, 0)) ∧ ((w.alloc (.cells #[.int .i64 R, .int .i64 C, .slice (some ⟨b1, 0, none⟩) n1 c1] 32)).alloc (.cells #[.int .i64 R, .int .i64 C, .slice (some ⟨b2, 0, none⟩) n1 c2] 32)).heap[w.heap.size + 1]? = some (.cells #[.int .i64 R, .int .i64 C, .slice (some ⟨b2, 0, none⟩) n1 c2] 32 (0, 0))) := Lib.hid
    ⟨(((Below.refl (w.alloc (.cells #[.int .i64 R, .int .i64 C, .slice (some ⟨b1, 0, none⟩) n1 c1] 32)).heap.size (w.alloc (.cells #[.int .i64 R, .int .i64 C, .slice (some ⟨b1, 0, none⟩) n1 c1] 32))).alloc (Nat.le_refl _) (.cells #[.int .i64 R, .int .i64 C, .slice (some ⟨b2, 0, none⟩) n1 c2] 32)).block w.heap.size (by simp)).trans (heap_alloc_new w _), by
      have := heap_alloc_new (w.alloc (.cells #[.int .i64 R, .int .i64 C, .slice (some ⟨b1, 0, none⟩) n1 c1] 32)) (.cells #[.int .i64 R, .int .i64 C, .slice (some ⟨b2, 0, none⟩) n1 c2] 32)
      simpa using this⟩
  clear hD h k hL hM oL oM
  go_enter Tryd.func37, Tryd.ntmps37
  go_wp2
  generalize (((w.alloc (.cells #[.int .i64 R, .int .i64 C, .slice (some ⟨b1, 0, none⟩) n1 c1] 32)).alloc (.cells #[.int .i64 R, .int .i64 C, .slice (some ⟨b2, 0, none⟩) n1 c2] 32))) = U at HB HYL HYM HX0 ⊢
  have HZ := Lib.hid (And.intro (Below.refl U.heap.size U) (show L.take 0 = M.take 0 from rfl))
  go_loopw [5] (fun kv wr => ∃ i : Nat, kv = .int .i64 i ∧ i ≤ n1 ∧ Hid (Below U.heap.size U wr ∧ L.take i = M.take i)) (fun kv _ => n1 - (intOf kv).toNat)
  case atStart => exact ⟨0, rfl, by omega, HZ⟩
  case round =>
    obtain ⟨i, rfl, hi, HS⟩ := hrel
    clear HZ
    have hx1 := (HS.out.1.block _ (lt_of_block HX0.out.1)).trans HX0.out.1
    have hx2 := (HS.out.1.block _ (lt_of_block HX0.out.2)).trans HX0.out.2
    have a2 : wr.cell? ⟨w.heap.size, 2, none⟩ = some (.slice (some ⟨b1, 0, none⟩) n1 c1) := by unfold World.cell?; simp only [hx1]; rfl
    have a3 : wr.cell? ⟨w.heap.size + 1, 2, none⟩ = some (.slice (some ⟨b2, 0, none⟩) n1 c2) := by unfold World.cell?; simp only [hx2]; rfl
    have a4 : wr.drew.cell? ⟨w.heap.size, 2, none⟩ = some (.slice (some ⟨b1, 0, none⟩) n1 c1) := a2
    have a5 : wr.drew.cell? ⟨w.heap.size + 1, 2, none⟩ = some (.slice (some ⟨b2, 0, none⟩) n1 c2) := a3
    clear hx1 hx2
    by_cases hin : i < n1
    · have d1 : decide ((i : Int) < (n1 : Int)) = true := by simp; omega
      have d1' : decide (i < n1) = true := by simp; omega
      have g3 : (0 : Int) ≤ (i : Int) := by omega
      have g4 : (i : Int) < (n1 : Int) := by omega
      have w1 : IntKind.i64.wrap ((i : Int) + 1) = (i : Int) + 1 := IntWalk.i64_in _ (by omega)
      have hiL : i < L.length := by rw [HL.out]; exact hin
      have hiM : i < M.length := by rw [HM.out]; exact hin
      obtain ⟨xp, x0, x1, x2, x3, x4, x5, x6, x7, xg, xb, hx⟩ := yC_form (ceAt L i)
      obtain ⟨yp, y0, y1, y2, y3, y4, y5, y6, y7, yg, yb, hy⟩ := yC_form (ceAt M i)
      obtain ⟨k0, k1, k2, k3, k4, k5, k6, k7, k8, k9, k10⟩ := ((HYL.out.below HS.out.1).below (Below.refl wr.heap.size wr).drew).eleven hiL hx
      obtain ⟨l0, l1, l2, l3, l4, l5, l6, l7, l8, l9, l10⟩ := ((HYM.out.below HS.out.1).below (Below.refl wr.heap.size wr).drew).eleven hiM hy
      have HTK := Lib.hid (fun (e : ceAt L i = ceAt M i) => take_succ_ce hiL hiM HS.out.2 e)
      have HNE := Lib.hid (fun (e : ceAt L i ≠ ceAt M i) => HD2.out (fun h => e (by subst h; rfl)))
      have HBD := Lib.hid (HS.out.1.drew)
      have HEC : ∀ W, (Op.equalIn 10000 80 (.agg #[.int .i32 xp, .bool x0, .bool x1, .bool x2, .bool x3, .bool x4, .bool x5, .bool x6, .bool x7, .int .u32 xg, .int .u32 xb]) (.agg #[.int .i32 yp, .bool y0, .bool y1, .bool y2, .bool y3, .bool y4, .bool y5, .bool y6, .bool y7, .int .u32 yg, .int .u32 yb])).run Tryd.prog W = .ok (decide (ceAt L i = ceAt M i)) W := fun W => by
        have hz := eq_yc (okL_at HOL.out hiL) (okL_at HOM.out hiM) W
        unfold yV at hz
        rw [hx, hy] at hz
        exact hz
      clear hx hy hiL hiM HD2 HYL HYM HL HM HOL HOM HS HX0
      by_cases he : ceAt L i = ceAt M i
      · have HS2 := Lib.hid (And.intro HBD.out (HTK.out he))
        simp only [decide_eq_true he] at HEC
        clear HTK HNE HBD he
        go_wp2
        go_big_region
        clear HEC k0 k1 k2 k3 k4 k5 k6 k7 k8 k9 k10 l0 l1 l2 l3 l4 l5 l6 l7 l8 l9 l10
        go_wp2
        go_roundw
        case rel => exact ⟨i + 1, by go_num, by omega, HS2⟩
        case measure => simp [intOf]; omega
      · have HDD := Lib.hid (fun (_ : Unit) => HNE.out he)
        simp only [decide_eq_false he] at HEC
        clear HTK HNE he
        go_wp2
        go_big_region
        clear HEC k0 k1 k2 k3 k4 k5 k6 k7 k8 k9 k10 l0 l1 l2 l3 l4 l5 l6 l7 l8 l9 l10
        go_wp2
        go_ret
        have hD := HDD.out ()
        exact ⟨by first | rfl | (subst hD; rfl), HB.out.trans (HBD.out.mono HB.out.size)⟩
    · have d1 : decide ((i : Int) < (n1 : Int)) = false := by simp; omega
      have d1' : decide (i < n1) = false := by simp; omega
      have hD : true = D := HD1.out (by
        have h := HS.out.2
        rw [List.take_of_length_le (by rw [HL.out]; omega), List.take_of_length_le (by rw [HM.out]; omega)] at h
        exact h)
      have HBZ := Lib.hid HS.out.1
      clear HD1 HD2 HL HM HS HYL HYM HOL HOM HX0 a4 a5 hi hin
      have HDD := Lib.hid (fun (_ : Unit) => hD)
      clear hD
      go_wp2
      go_ret
      have hD := HDD.out ()
      exact ⟨by first | rfl | (subst hD; rfl), HB.out.trans (HBZ.out.mono HB.out.size)⟩
end Go.Proofs.YtjihcpnaebghnaaDoor
