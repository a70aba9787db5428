/-
  Proved here: a new grid of the document's.
-/
import Derived.Test.YtahmnipcdkcpiaaGv
set_option linter.unusedSimpArgs false
set_option linter.unusedVariables false
namespace Go.Proofs.Ytahmnipcdkcpiaa
open Go.RowKit
theorem wpList_appY {P : Program} {ops : Array Oper} {rest : List Oper} {o : Oper} {a : Act} {W w' : World} {Q : Exit → Act → World → Prop} {v' : Value} (hgd : o.guard = none) (s x : Operand) (t : TypeId)
    (ho : o.op = .call { callee := .builtin .append, args := #[s, x], argTypes := #[t, t] }) (v sx : Value) (hs : a.eval s = v) (hx : a.eval x = sx) (hrun : (Builtin.append_ #[t, t] o.type #[v, sx]).run P W = .ok v' w') (h : wpList P ops Q rest (a.put o.dst v') w') :
    wpList P ops Q (o :: rest) a W := by
  refine wpList_plain hgd fun K hK => ?_
  unfold Oper.wp execOp
  simp only [ho, resolve, invoke, builtin, Sem.run_bind, Sem.run_pure, Result.andThen_ok, List.map_toArray, List.map_cons, List.map_nil, hs, hx, hrun]
  exact hK _ _ h

theorem yC_bl : yC blC = [.int .i32 32, .bool false, .bool false, .bool false, .bool false, .bool false, .bool false, .bool false, .bool false, .int .u32 0, .int .u32 0] := rfl
theorem rep_more (n : Nat) (c : Ce) : rep n c ++ [c] = rep (n + 1) c := by unfold rep; rw [List.replicate_succ']
theorem gy_info : (Try.prog.info? 29).map (·.size) = some 3 := by kernel_rfl
theorem gy_one (R C : Int) {v : Value} (hv : v.oneCell' = true) : (#[.int .i64 R, .int .i64 C, v] : Array Value).all (·.oneCell') = true := by rw [← Array.all_toList]; simp only [List.all_cons, List.all_nil, hv, Bool.and_true]; rfl
theorem own_form {W : World} {B : Nat} {e : TypeId} {size n : Nat} {v : Value} {xs : List Value} (h : W.ownsRow B e size v n xs) : ∃ A m c, v = .slice A m c := by
  obtain ⟨_, h⟩ := h
  rcases h with ⟨rfl, _⟩ | ⟨g, c, cur, rfl, _⟩ <;> exact ⟨_, _, _, rfl⟩
theorem own_one {W : World} {B : Nat} {e : TypeId} {size n : Nat} {v : Value} {xs : List Value} (h : W.ownsRow B e size v n xs) : v.oneCell' = true := by
  obtain ⟨_, h⟩ := h
  rcases h with ⟨rfl, _⟩ | ⟨g, c, cur, rfl, _⟩ <;> rfl
set_option maxRecDepth 100000 in
set_option maxHeartbeats 8000000 in
theorem rnew_yes {R C n : Nat} (hn : R * C = n) (hp : 1 ≤ R ∧ R ≤ 12 ∧ 1 ≤ C ∧ C ≤ 40) (w : World) : Calls Try.prog 8 #[.int .i64 R, .int .i64 C] w fun e w' => ∃ v, e = .returned (.tuple #[.agg #[.int .i64 R, .int .i64 C, v], .int .i64 0]) ∧ w'.ownsRow w.heap.size 49 11 v n (flatY (rep n blC)) ∧ Below w.heap.size w w' := by
  have h2 : n ≤ 480 := by rw [← hn]; exact Nat.mul_le_mul hp.2.1 hp.2.2.2
  have m1 : IntKind.i64.wrap ((R : Int) * (C : Int)) = (n : Int) := by rw [← Int.natCast_mul, hn]; exact IntWalk.i64_in _ (by omega)
  have d1 : decide ((R : Int) < 1) = false := by simp; omega
  have d2 : decide ((12 : Int) < (R : Int)) = false := by simp; omega
  have d3 : decide ((C : Int) < 1) = false := by simp; omega
  have d4 : decide ((40 : Int) < (C : Int)) = false := by simp; omega
  have e1 : decide (R < 1) = false := by simp; omega
  have e2 : decide (12 < R) = false := by simp; omega
  have e3 : decide (C < 1) = false := by simp; omega
  have e4 : decide (40 < C) = false := by simp; omega
  have HZ0 : Hid (GY w w.heap.size (w.heap.size + 1) R C (.slice none 0 0) (rep 0 blC) ((w.alloc (.cells #[.int .i64 0, .int .i64 0, .slice none 0 0] 29)).alloc (.cells #[.int .i64 R, .int .i64 C, .slice none 0 0] 29))) := Lib.hid
    ⟨(((Below.refl (w.alloc (.cells #[.int .i64 0, .int .i64 0, .slice none 0 0] 29)).heap.size (w.alloc (.cells #[.int .i64 0, .int .i64 0, .slice none 0 0] 29))).alloc (Nat.le_refl _) (.cells #[.int .i64 R, .int .i64 C, .slice none 0 0] 29)).block w.heap.size (by simp)).trans (heap_alloc_new w _),
     by have := heap_alloc_new (w.alloc (.cells #[.int .i64 0, .int .i64 0, .slice none 0 0] 29)) (.cells #[.int .i64 R, .int .i64 C, .slice none 0 0] 29); simpa using this,
     World.ownsRow_nil _ _ _ _, by simp [Value.ownBlock], by simp [Value.ownBlock], Nat.le_refl _, Nat.le_succ _, by omega, ((Below.refl _ _).alloc (Nat.le_refl _) _).alloc (by simp) _⟩
  clear hn hp
  go_enter Try.func8, Try.ntmps8
  go_wp2
  generalize ((w.alloc (.cells #[.int .i64 0, .int .i64 0, .slice none 0 0] 29)).alloc (.cells #[.int .i64 R, .int .i64 C, .slice none 0 0] 29)) = U at HZ0 ⊢
  go_loopw [7] (fun kv wr => ∃ i : Nat, kv = .int .i64 i ∧ i ≤ n ∧ ∃ v, Hid (GY w w.heap.size (w.heap.size + 1) R C v (rep i blC) wr)) (fun kv _ => n - (intOf kv).toNat)
  case atStart => exact ⟨0, rfl, by omega, _, HZ0⟩
  case round =>
    obtain ⟨i, rfl, hi, v, HS⟩ := hrel
    clear HZ0
    by_cases hin : i < n
    · have d5 : decide ((i : Int) < (n : Int)) = true := by simp; omega
      have e5 : decide (i < n) = true := by simp; omega
      have w1 : IntKind.i64.wrap ((i : Int) + 1) = (i : Int) + 1 := IntWalk.i64_in _ (by omega)
      have k2 := HS.out.cells.2.2
      have hb : Below wr.heap.size wr (wr.alloc (.cells #[.int .i32 32, .bool false, .bool false, .bool false, .bool false, .bool false, .bool false, .bool false, .bool false, .int .u32 0, .int .u32 0] 49)) := (Below.refl _ _).alloc (Nat.le_refl _) _
      obtain ⟨v', W2, hr, k3, fz, H2⟩ := (HS.out.next hb).app (by rw [rep_len]; omega) (fb := wr.heap.size) (c := blC) (by rw [yC_bl]; exact heap_alloc_new _ _)
      rw [rep_more] at H2
      obtain ⟨A', n', c', rfl⟩ := own_form H2.own
      have HS2 := Lib.hid H2
      clear H2 HS hb
      go_wp2_with (at_builtin; refine wpList_appY rfl (.tmp 34) (.tmp 36) _ rfl v _ rfl rfl hr ?_)
      go_roundw
      case rel => exact ⟨i + 1, by go_num, by omega, _, HS2⟩
      case measure => simp [intOf]; omega
    · have d5 : decide ((i : Int) < (n : Int)) = false := by simp; omega
      have e5 : decide (i < n) = false := by simp; omega
      have hiK : i = n := by omega
      obtain ⟨k0, k1, k2⟩ := HS.out.cells
      have HROW := Lib.hid HS.out.zero
      have HON := Lib.hid (gy_one R C (own_one HS.out.own))
      have HEND := Lib.hid (show (wr.setRow w.heap.size #[.int .i64 R, .int .i64 C, v]).ownsRow w.heap.size 49 11 v n (flatY (rep n blC)) ∧ Below w.heap.size w (wr.setRow w.heap.size #[.int .i64 R, .int .i64 C, v]) from by
        have hx := HS.out
        rw [hiK] at hx
        have ho := hx.own
        rw [rep_len] at ho
        exact ⟨ho.kept (grown_setRow wr w.heap.size _) (.inr hx.n2), below_setRow hx.below hx.lh _⟩)
      clear HS hiK hi
      go_wp2_with (refine wpList_store_row rfl 29 (.tmp 4) (.tmp 39) rfl w.heap.size #[.int .i64 R, .int .i64 C, v] rfl rfl 29 _ HROW.out gy_info rfl HON.out ?_)
      exact bodyPost_ret (results_cell_tmp Try.results8 _ _ w.heap.size 29 _ (0, 0) _ (.int .i64 0) rfl rfl (setRow_heap _ _ _ _ _ _ HROW.out) Try.underlying29 rfl gy_info) rfl ⟨v, rfl, HEND.out⟩
end Go.Proofs.Ytahmnipcdkcpiaa
