/-
  Proved here: what the law on Find needs of lists and of memory: the first field with a tag, and two appends (fields onto an empty row, one field more).
-/
import Derived.Test.YtdhnhpcmfbiieaaDoorVBack
import Derived.Test.YtdhnhpcmfbiieaaDoorVFind
namespace Go.Proofs.YtdhnhpcmfbiieaaDoor
open Go.RowKit

/-- The place of the first of the first k fields with the tag; -1 if there is none. -/
def firstTo (t : Int) (fs : List Fld) : Nat → Int
  | 0 => -1
  | k + 1 => if firstTo t fs k < 0 ∧ (fAt fs k).1 = t then (k : Int) else firstTo t fs k
theorem firstTo_bd (t : Int) (fs : List Fld) : ∀ k, -1 ≤ firstTo t fs k ∧ firstTo t fs k < (k : Int)
  | 0 => by simp [firstTo]
  | k + 1 => by
    have := firstTo_bd t fs k
    rw [firstTo]
    split <;> omega
theorem firstTo_spec (t : Int) (fs : List Fld) : ∀ k, (firstTo t fs k < 0 → ∀ j, j < k → (fAt fs j).1 ≠ t) ∧ (0 ≤ firstTo t fs k → (fAt fs (firstTo t fs k).toNat).1 = t ∧ ∀ j, j < (firstTo t fs k).toNat → (fAt fs j).1 ≠ t)
  | 0 => ⟨fun _ j h => absurd h (by omega), fun h => absurd h (by simp [firstTo])⟩
  | k + 1 => by
    obtain ⟨ih1, ih2⟩ := firstTo_spec t fs k
    have hb := firstTo_bd t fs k
    rw [firstTo]
    split
    · rename_i h
      refine ⟨fun h' => absurd h' (by omega), fun _ => ?_⟩
      rw [Int.toNat_natCast]
      exact ⟨h.2, ih1 h.1⟩
    · rename_i h
      refine ⟨fun h' j hj => ?_, ih2⟩
      rcases Nat.lt_or_ge j k with hlt | hge
      · exact ih1 h' j hlt
      · obtain rfl : j = k := by omega
        exact fun e => h ⟨h', e⟩
theorem find_first {t : Int} {fs : List Fld} (h : firstTo t fs fs.length < 0) : findS t fs = ([], false) := findS_no ((firstTo_spec t fs fs.length).1 h)
theorem find_at {t : Int} {fs : List Fld} (h : 0 ≤ firstTo t fs fs.length) : findS t fs = ((fAt fs (firstTo t fs fs.length).toNat).2, true) := by
  have hb := (firstTo_bd t fs fs.length).2
  obtain ⟨h1, h2⟩ := (firstTo_spec t fs fs.length).2 h
  exact findS_yes (by omega) h2 h1
theorem find_append {t : Int} {f : Fld} (hf : f.1 = t) : ∀ (fs : List Fld), findS t (fs ++ [f]) = if (findS t fs).2 = true then findS t fs else (f.2, true)
  | [] => by simp [findS, hf]
  | g :: r => by
    have ih := find_append hf r
    by_cases h : g.1 = t
    · simp [findS, h]
    · simp [findS, h, ih]

theorem firstTo_yes {t : Int} {fs : List Fld} {k : Nat} (h : firstTo t fs k < 0) (he : (fAt fs k).1 = t) : firstTo t fs (k + 1) = (k : Int) := by rw [firstTo, if_pos ⟨h, he⟩]
theorem firstTo_no {t : Int} {fs : List Fld} {k : Nat} (he : ¬ (fAt fs k).1 = t) : firstTo t fs (k + 1) = firstTo t fs k := by rw [firstTo, if_neg (fun h => he h.2)]
theorem firstTo_had {t : Int} {fs : List Fld} {k : Nat} (h : ¬ firstTo t fs k < 0) : firstTo t fs (k + 1) = firstTo t fs k := by rw [firstTo, if_neg (fun h' => h h'.1)]

/-- The cells of a slice that reads as fields. -/
theorem FS.cells {w : World} {B : Nat} {ad : Addr} {fs : List Fld} (h : FS w B (some ad) fs) : ∃ lc, FC w B lc fs ∧ (∀ j u, lc[j]? = some u → w.cell? (ad.add j) = some u) ∧ ∀ u ∈ lc, u.oneCell' = true := by
  have key : ∀ k, k ≤ fs.length → ∃ lc, FC w B lc (fs.take k) ∧ lc.length = k * 2 ∧ (∀ j u, lc[j]? = some u → w.cell? (ad.add j) = some u) ∧ ∀ u ∈ lc, u.oneCell' = true := by
    intro k
    induction k with
    | zero => exact fun _ => ⟨[], by simp [FC], rfl, fun j u hu => by simp at hu, fun u hu => by simp at hu⟩
    | succ k ih =>
      intro hk
      obtain ⟨lc, h1, h2, h3, h4⟩ := ih (by omega)
      obtain ⟨b, off, e, hb, hc⟩ := h (by omega)
      injection e with e
      subst e
      obtain ⟨ct, A, c, hcd, hd⟩ := hc k (by omega)
      refine ⟨lc ++ [.int .u8 (fAt fs k).1, .slice A (fAt fs k).2.length c], ?_, by simp [h2]; omega, fun j u hu => ?_, fun u hu => ?_⟩
      · rw [take_snoc (by omega)]
        exact h1.snoc (f := fAt fs k) ⟨A, c, rfl, hd⟩
      · rw [Go.WideShapes.add_plain]
        by_cases hj : j < lc.length
        · rw [List.getElem?_append_left hj] at hu
          have := h3 j u hu
          rwa [Go.WideShapes.add_plain] at this
        · rw [List.getElem?_append_right (by omega), h2] at hu
          obtain ⟨m, hm⟩ : ∃ m, j = k * 2 + m := ⟨j - k * 2, by omega⟩
          subst hm
          rw [Nat.add_sub_cancel_left] at hu
          match m, hu with
          | 0, hu => simp at hu; subst hu; rw [Nat.add_zero]; exact ct
          | 1, hu => simp at hu; subst hu; rw [← Nat.add_assoc]; exact hcd
          | m + 2, hu => simp at hu
      · rcases List.mem_append.1 hu with hu | hu
        · exact h4 u hu
        · simp at hu
          rcases hu with rfl | rfl <;> rfl
  obtain ⟨lc, h1, _, h3, h4⟩ := key fs.length (Nat.le_refl _)
  rw [List.take_length] at h1
  exact ⟨lc, h1, h3, h4⟩
theorem FC.length {w : World} {B : Nat} : ∀ {cs : List Value} {fs : List Fld}, FC w B cs fs → cs.length = fs.length * 2
  | [], [], _ => rfl
  | [], _ :: _, h => h.elim
  | [_], [], h => h.elim
  | [_], _ :: _, h => h.elim
  | _ :: _ :: _, [], h => h.elim
  | _ :: _ :: r, _ :: fs, ⟨_, _, h3⟩ => by have := FC.length h3; simp; omega

theorem own_cast2 {w : World} {base : Nat} {e : TypeId} {sz : Nat} {v : Value} {n m : Nat} {xs ys : List Value} (h : w.ownsRow base e sz v n xs) (hn : n = m) (hx : xs = ys) : w.ownsRow base e sz v m ys := by
  subst hn; subst hx; exact h
/-- append(row, l...): l reads as fields; the row is empty. -/
theorem app_fields {W : World} {B base g : Nat} {A : Option Addr} {fs : List Fld} (c : Nat) (hF : FS W B A fs) (hA : A = none → c = 0) (hl : fs.length ≤ 140) (hown : W.ownsRow base 54 2 (.slice (some ⟨g, 0, none⟩) 0 0) 0 []) (hb : base ≤ W.heap.size) :
    ∃ v' w' lc, (Builtin.append_ #[36, 36] 36 #[.slice (some ⟨g, 0, none⟩) 0 0, .slice A fs.length c]).run Tryd.prog W = .ok v' w' ∧ FC W B lc fs ∧ w'.ownsRow base 54 2 v' fs.length lc ∧ W.grownBy w' (some g) ∧ (v'.ownBlock = some g ∨ v'.ownBlock = some W.heap.size) := by
  obtain ⟨i0, hi, hz0, hz1, hz2⟩ := info_parts infoFld
  rcases A with _ | ad
  · have hn : fs.length = 0 := by
      rcases Nat.eq_zero_or_pos fs.length with h | h
      · exact h
      · obtain ⟨_, _, h, _⟩ := hF h
        cases h
    obtain rfl : fs = [] := List.eq_nil_of_length_eq_zero hn
    obtain rfl := hA rfl
    exact ⟨_, W, [], run_append_owned_none (P := Tryd.prog) (w := W) base 36 36 54 i0 2 Tryd.underlying36 hi _ 0 [] hown, trivial, hown, World.grownBy.refl _ _, .inl rfl⟩
  · obtain ⟨lc, h1, h2, h3⟩ := hF.cells
    obtain ⟨v', w', hr, ho, hg, _, hat⟩ := run_append_own_at (P := Tryd.prog) W base 36 36 54 i0 _ 2 32 Tryd.underlying36 hi hz0 hz1 hz2 rfl (by decide) _ 0 [] hown ad fs.length c lc h1.length h2 h3 (by unfold maxLen; omega) (by omega) hb
    exact ⟨v', w', lc, hr, h1, own_cast2 ho (by simp) (by simp), hg, hat⟩

/-- append(row, f): f lies in a block of its own. -/
theorem app_one {W : World} {base fb : Nat} {v : Value} {n : Nat} {lc : List Value} {t : Int} {A : Option Addr} {l c : Nat} (hown : W.ownsRow base 54 2 v n lc) (h0 : W.cell? ⟨fb, 0, none⟩ = some (.int .u8 t)) (h1 : W.cell? ⟨fb, 1, none⟩ = some (.slice A l c)) (hn : n ≤ 140) (hb : base ≤ W.heap.size) :
    ∃ v' w', (Builtin.append_ #[36, 36] 36 #[v, .slice (some ⟨fb, 0, none⟩) 1 1]).run Tryd.prog W = .ok v' w' ∧ w'.ownsRow base 54 2 v' (n + 1) (lc ++ [.int .u8 t, .slice A l c]) ∧ W.grownBy w' v.ownBlock := by
  obtain ⟨i0, hi, hz0, hz1, hz2⟩ := info_parts infoFld
  obtain ⟨v', w', hr, ho, hg, _⟩ := run_append_own_at (P := Tryd.prog) W base 36 36 54 i0 _ 2 32 Tryd.underlying36 hi hz0 hz1 hz2 rfl (by decide) v n lc hown ⟨fb, 0, none⟩ 1 1 [.int .u8 t, .slice A l c] rfl
    (fun j u hu => by
      rw [Go.WideShapes.add_plain]
      match j, hu with
      | 0, hu => simp at hu; subst hu; exact h0
      | 1, hu => simp at hu; subst hu; exact h1
      | j + 2, hu => simp at hu)
    (fun u hu => by
      simp at hu
      rcases hu with rfl | rfl <;> rfl) (by unfold maxLen; omega) (by omega) hb
  exact ⟨v', w', hr, ho, hg⟩

theorem FC.keep {w w' : World} {B : Nat} (hk : ∀ p : Addr, p.block < B → w'.cell? p = w.cell? p) : ∀ {cs : List Value} {fs : List Fld}, FC w B cs fs → FC w' B cs fs
  | [], [], _ => trivial
  | [], _ :: _, h => h.elim
  | [_], [], h => h.elim
  | [_], _ :: _, h => h.elim
  | _ :: _ :: _, [], h => h.elim
  | _ :: _ :: _, _ :: _, ⟨h1, ⟨A, c, e, h2, h4⟩, h3⟩ => ⟨h1, ⟨A, c, e, h2.keep hk, h4⟩, FC.keep hk h3⟩
/-- Behind both appends: the row reads as the fields and the one more. -/
theorem finds_rows {Va V : World} {B base : Nat} {fs : List Fld} {lc : List Value} {v : Value} {t : Int} {A : Option Addr} {c : Nat} {d : List Int} (hc : FC Va B lc fs) (hb : ∀ p : Addr, p.block < B → V.cell? p = Va.cell? p) (ho : V.ownsRow base 54 2 v (fs.length + 1) (lc ++ [.int .u8 t, .slice A d.length c])) (hd : DVal V B (.slice A d.length c) d) (hB : B ≤ V.heap.size) :
    ∃ A' c', v = .slice A' (fs.length + 1) c' ∧ FS V V.heap.size A' (fs ++ [(t, d)]) := by
  obtain ⟨A', c', rfl, _⟩ := own_slice ho
  have hl : (fs ++ [(t, d)]).length = fs.length + 1 := by simp
  refine ⟨A', c', rfl, ?_⟩
  rw [← hl] at ho
  exact FS.of_rows ho ((hc.keep hb).snoc (f := (t, d)) hd) hB
theorem find_n (fs : List Fld) (n : Nat) (hn : fs.length = n) (t : Int) (A : Option Addr) (cap : Nat) (w : World) (hF : FS w w.heap.size A fs) (hl : fs.length ≤ maxLen) (hd : ∀ i, i < fs.length → (fAt fs i).2.length ≤ 140737488351232) :
    Calls Tryd.prog 23 #[.slice A n cap, .int .u8 t] w (FindPost (findS t fs) w) := by
  subst hn
  exact find_any fs t A cap w hF hl hd
theorem fAt_short {fs : List Fld} {t : Int} {d : List Int} (h : Fit fs) (hd : d.length ≤ 17000) : ∀ i, i < (fs ++ [(t, d)]).length → (fAt (fs ++ [(t, d)]) i).2.length ≤ 140737488351232 := by
  intro i hi
  simp at hi
  by_cases h1 : i < fs.length
  · have : fAt (fs ++ [(t, d)]) i = fAt fs i := by simp [fAt, List.getD, List.getElem?_append_left h1]
    rw [this]
    have := h.2 i h1
    omega
  · obtain rfl : i = fs.length := by omega
    have : fAt (fs ++ [(t, d)]) fs.length = (t, d) := by simp [fAt, List.getD]
    rw [this]
    show d.length ≤ _
    omega

/-- append(row, b...): b reads as bytes. -/
theorem app_bytes {W : World} {B base : Nat} {v : Value} {n : Nat} {xs : List Int} {A : Option Addr} {bs : List Int} (c : Nat) (hR : RB W B A bs) (hA : A = none → c = 0) (hown : W.ownsRow base 5 1 v n (B8 xs)) (hn : n + bs.length ≤ 100000) (hb : base ≤ W.heap.size) :
    ∃ v' w', (Builtin.append_ #[23, 23] 23 #[v, .slice A bs.length c]).run Tryd.prog W = .ok v' w' ∧ w'.ownsRow base 5 1 v' (n + bs.length) (B8 (xs ++ bs)) ∧ W.grownBy w' v.ownBlock := by
  obtain ⟨i0, hi, hz0, hz1, hz2⟩ := info_parts infoByte
  rcases A with _ | ad
  · have h0 : bs.length = 0 := by
      rcases Nat.eq_zero_or_pos bs.length with h | h
      · exact h
      · obtain ⟨_, _, h, _⟩ := hR h
        cases h
    obtain rfl : bs = [] := List.eq_nil_of_length_eq_zero h0
    obtain rfl := hA rfl
    exact ⟨_, W, run_append_owned_none (P := Tryd.prog) (w := W) base 23 23 5 i0 1 Tryd.underlying23 hi _ n _ hown, by simpa using hown, World.grownBy.refl _ _⟩
  · obtain ⟨v', w', hr, ho, hg, _⟩ := run_append_own_at (P := Tryd.prog) W base 23 23 5 i0 _ 1 1 Tryd.underlying23 hi hz0 hz1 hz2 rfl (by decide) v n (B8 xs) hown ad bs.length c (B8 bs) (by simp) hR.cells (oneCell_B8 bs) (by unfold maxLen; omega) (by omega) hb
    exact ⟨v', w', hr, own_cast ho rfl (by simp [B8]), hg⟩
theorem wpList_app {P : Program} {ops : Array Oper} {rest : List Oper} {o : Oper} {a : Act} {W w' : World} {Q : Exit → Act → World → Prop} {v' : Value} (hgd : o.guard = none) (s x : Operand) (t : TypeId)
    (ho : o.op = .call { callee := .builtin .append, args := #[s, x], argTypes := #[t, t] }) (v sx : Value) (hs : a.eval s = v) (hx : a.eval x = sx) (hrun : (Builtin.append_ #[t, t] o.type #[v, sx]).run P W = .ok v' w') (h : wpList P ops Q rest (a.put o.dst v') w') :
    wpList P ops Q (o :: rest) a W := by
  refine wpList_plain hgd fun K hK => ?_
  unfold Oper.wp execOp
  simp only [ho, resolve, invoke, builtin, Sem.run_bind, Sem.run_pure, Result.andThen_ok, List.map_toArray, List.map_cons, List.map_nil, hs, hx, hrun]
  exact hK _ _ h
theorem nums_n (bs : List Int) (n : Nat) (hn : bs.length = n) (A : Option Addr) (cap : Nat) (w : World) (hR : RB w w.heap.size A bs) (hcap : bs.length ≤ cap) (hm : cap ≤ maxLen) (hl : bs.length ≤ 17592186040320) (hB : Bytes bs) (hT : Tab w) :
    Calls Tryd.prog 12 #[.slice A n cap] w (NumsPost (numsS bs) w) := by
  subst hn
  exact nums_any bs A cap w hR hcap hm hl hB hT
theorem new_le {B h x n c : Nat} (hb : B ≤ h) (hx : (Value.slice (some ⟨h, 0, none⟩) n c).ownBlock = some x) : B ≤ x := by
  have : h = x := by simpa [Value.ownBlock] using hx
  omega
theorem encs_ge : ∀ (l : List Int), l.length ≤ (encs l).length
  | [] => by simp
  | v :: r => by
    have := encs_ge r
    have := (szN_le v).1
    simp [encs, numB_length]
    omega
theorem nums_short {bs ns : List Int} (hB : Bytes bs) (h : numsS bs = (ns, 0)) : ns.length ≤ bs.length := by
  obtain ⟨e, _⟩ := nums_inv hB h
  rw [← e]
  exact encs_ge ns
theorem bytes_append {a b : List Int} (ha : Bytes a) (hb : Bytes b) : Bytes (a ++ b) := bytes_of_mem (fun x hx => by
  rcases List.mem_append.1 hx with h | h
  · exact mem_of_bytes ha x h
  · exact mem_of_bytes hb x h)
theorem getD_left {p q : List Int} {k : Nat} (h : k < p.length) : (p ++ q).getD k 0 = p.getD k 0 := by simp [List.getD, List.getElem?_append_left h]
theorem getD_right {p q : List Int} {k : Nat} (h : p.length ≤ k) : (p ++ q).getD k 0 = q.getD (k - p.length) 0 := by simp [List.getD, List.getElem?_append_right h]

/-- A step of a region: a builtin append whose run is known. -/
theorem step_app {P : Program} {ops : Array Oper} {o : Oper} {a : Act} {W w' : World} {K : Act → World → Prop} {Q : Exit → Act → World → Prop} {E : Prop} {v' : Value} (hgd : o.guard = none) (s x : Operand) (t : TypeId)
    (ho : o.op = .call { callee := .builtin .append, args := #[s, x], argTypes := #[t, t] }) (v sx : Value) (hs : a.eval s = v) (hx : a.eval x = sx) (hrun : (Builtin.append_ #[t, t] o.type #[v, sx]).run P W = .ok v' w') (h : K (a.put o.dst v') w') :
    if Region.wanted o (yielded ops a.tmps) = true then Oper.wp P o a W K Q else E := by
  have hw : Region.wanted o (yielded ops a.tmps) = true := by simp [Region.wanted, hgd]
  rw [if_pos hw]
  unfold Oper.wp execOp
  simp only [ho, resolve, invoke, builtin, Sem.run_bind, Sem.run_pure, Result.andThen_ok, List.map_toArray, List.map_cons, List.map_nil, hs, hx, hrun]
  exact h
end Go.Proofs.YtdhnhpcmfbiieaaDoor
