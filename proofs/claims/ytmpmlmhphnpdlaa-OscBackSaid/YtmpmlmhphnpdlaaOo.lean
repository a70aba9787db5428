/-
  Proved here: what a text asks for, as the program reads it.
-/
import Derived.Test.YtmpmlmhphnpdlaaOn
set_option linter.unusedSimpArgs false
set_option linter.unusedVariables false
namespace Go.Proofs.Ytmpmlmhphnpdlaa
open Go.RowKit
def AV (a : An) : Value := .agg #[.int .i64 a.kind, .string (strOfNums a.data)]
/-- An answer of what is asked, and what was there is as it was. -/
def AnPost (a : An) (w : World) (e : Ending) (w' : World) : Prop := e = .returned (.tuple #[AV a, .int .i64 a.err]) ∧ Below w.heap.size w w'
theorem info_ask (k : Value) (s : Value) : (Try.prog.info? 72).map (·.size) = some (#[k, s] : Array Value).size := by
  have h : (Try.prog.info? 72).map (·.size) = some 2 := by kernel_rfl
  exact h
theorem ask_one (k : Int) (s : ByteArray) : (#[.int .i64 k, .string s] : Array Value).all (·.oneCell') = true := by simp [Value.oneCell']
/-- The row for the answer stands as it was laid, whatever was made since. -/
theorem an_row {w W : World} {cs : Array Value} {t : TypeId} (hb : Below (w.alloc (.cells cs t)).heap.size (w.alloc (.cells cs t)) W) : W.heap[w.heap.size]? = some (.cells cs t (0, 0)) ∧ ∀ ds, Below w.heap.size w (W.setRow w.heap.size ds) := by
  have h0 : (w.alloc (.cells cs t)).heap[w.heap.size]? = some (.cells cs t (0, 0)) := heap_alloc_new w _
  have h1 : w.heap.size < (w.alloc (.cells cs t)).heap.size := by simp
  have hb0 : Below w.heap.size w W := ((Below.refl _ _).alloc (Nat.le_refl _) _).trans (hb.mono (Nat.le_of_lt h1))
  exact ⟨(hb.block _ h1).trans h0, fun ds => below_setRow hb0 (Nat.le_refl _) ds⟩
theorem fault_good {t : List Int} (h : goodB t = true) : faultS t = -1 := by unfold faultS; rw [h, if_pos rfl]
theorem fault_bad {t : List Int} (h : goodB t = false) : (faultS t != -1) = true := by
  unfold faultS
  rw [h, if_neg (by decide)]
  have := faultF_nn t t.length 0
  simp; omega
set_option maxRecDepth 100000 in
set_option maxHeartbeats 4000000 in
theorem clipping_any {w : World} {t : List Int} (ht : IsBytes t) (hl : t.length ≤ 90000) :
    Calls Try.prog 72 #[.string (strOfNums t)] w (AnPost (clipS t) w) := by
  have HBH := Lib.hid (fun (W : World) => behind_any (w := W) ht (by omega))
  rw [clip_beh]
  obtain ⟨hsub, hlen⟩ := beh_sub t
  have hbd : IsBytes (behS t).1 := fun x hx => ht x (hsub x hx)
  obtain ⟨bb, hbb⟩ : ∃ R, (behS t).2 = R := ⟨_, rfl⟩
  obtain ⟨d, hd⟩ : ∃ R, (behS t).1 = R := ⟨_, rfl⟩
  rw [hbb, hd] at HBH
  rw [hbb, hd]
  rw [hd] at hbd hlen
  have hdl : d.length ≤ 90000 := by omega
  have HBD := Lib.hid hbd
  have HIZ := info_ask
  have HIO := ask_one
  clear ht hsub hlen hbb hd hbd hl
  generalize strOfNums t = s at HBH ⊢
  cases bb with
  | false =>
    rw [if_neg (by decide)]
    go_enter Try.func72, Try.ntmps72
    go_wp2_with fail
    refine (HBH.out _).mono ?_
    rintro e w1 ⟨rfl, hb1⟩
    have HROW := Lib.hid (an_row hb1)
    clear hb1 HBH
    go_wp2_with (refine wpList_store_row rfl 72 _ _ rfl w.heap.size #[.int .i64 0, .string ⟨#[]⟩] rfl rfl 72 _ HROW.out.1 (HIZ _ _) rfl (HIO _ _) ?_)
    exact bodyPost_ret (results_cell_tmp Try.results72 _ _ w.heap.size 72 _ (0, 0) _ (.int .i64 3) rfl rfl (setRow_heap _ _ _ _ _ _ HROW.out.1) Try.underlying72 rfl (HIZ _ _)) rfl ⟨rfl, HROW.out.2 _⟩
  | true =>
    rw [if_pos rfl]
    have HFA := Lib.hid (fun (W : World) => fault_any (w := W) HBD.out (by omega))
    cases hg : goodB d with
    | false =>
      have hfb := fault_bad hg
      have e9 : decA d = noneA 3 := by unfold decA; rw [hg]; rfl
      rw [e9]
      obtain ⟨F, hF⟩ : ∃ F, faultS d = F := ⟨_, rfl⟩
      rw [hF] at hfb HFA
      clear hF hg e9
      go_enter Try.func72, Try.ntmps72
      go_wp2_with fail
      refine (HBH.out _).mono ?_
      rintro e w1 ⟨rfl, hb1⟩
      have HB1 := Lib.hid hb1
      clear hb1 HBH
      go_wp2_with fail
      refine (HFA.out _).mono ?_
      rintro e w2 ⟨rfl, hb2⟩
      have HROW := Lib.hid (an_row (HB1.out.trans (hb2.mono HB1.out.size)))
      clear hb2 HFA HB1
      go_wp2_with (refine wpList_store_row rfl 72 _ _ rfl w.heap.size #[.int .i64 0, .string ⟨#[]⟩] rfl rfl 72 _ HROW.out.1 (HIZ _ _) rfl (HIO _ _) ?_)
      exact bodyPost_ret (results_cell_tmp Try.results72 _ _ w.heap.size 72 _ (0, 0) _ (.int .i64 3) rfl rfl (setRow_heap _ _ _ _ _ _ HROW.out.1) Try.underlying72 rfl (HIZ _ _)) rfl ⟨rfl, HROW.out.2 _⟩
    | true =>
      rw [fault_good hg] at HFA
      have HRD := Lib.hid (fun (W : World) => read_ok (w := W) HBD.out hdl hg)
      have HDA := Lib.hid (fun (_ : Unit) => show decA d = if 256 < (decB d).length then noneA 2 else ⟨2, decB d, 0⟩ from by unfold decA; rw [hg, if_pos rfl])
      rw [HDA.out ()]
      by_cases h256 : 256 < (decB d).length
      · rw [if_pos h256]
        go_enter Try.func72, Try.ntmps72
        go_wp2_with fail
        refine (HBH.out _).mono ?_
        rintro e w1 ⟨rfl, hb1⟩
        have HB1 := Lib.hid hb1
        clear hb1 HBH
        go_wp2_with fail
        refine (HFA.out _).mono ?_
        rintro e w2 ⟨rfl, hb2⟩
        have HB2 := Lib.hid (HB1.out.trans (hb2.mono HB1.out.size))
        clear hb2 HFA HB1
        go_wp2_with fail
        refine (HRD.out _).mono ?_
        rintro e w3 ⟨A, k, rfl, hR, hk, hb3⟩
        have d1 : decide ((256 : Int) < (k : Int)) = true := by simp; omega
        have d1' : decide (256 < k) = true := by simp; omega
        have HROW := Lib.hid (an_row (HB2.out.trans (hb3.mono HB2.out.size)))
        clear hb3 HRD HB2 hR hk
        go_wp2_with (refine wpList_store_row rfl 72 _ _ rfl w.heap.size #[.int .i64 0, .string ⟨#[]⟩] rfl rfl 72 _ HROW.out.1 (HIZ _ _) rfl (HIO _ _) ?_)
        exact bodyPost_ret (results_cell_tmp Try.results72 _ _ w.heap.size 72 _ (0, 0) _ (.int .i64 2) rfl rfl (setRow_heap _ _ _ _ _ _ HROW.out.1) Try.underlying72 rfl (HIZ _ _)) rfl ⟨rfl, HROW.out.2 _⟩
      · rw [if_neg h256]
        go_enter Try.func72, Try.ntmps72
        go_wp2_with fail
        refine (HBH.out _).mono ?_
        rintro e w1 ⟨rfl, hb1⟩
        have HB1 := Lib.hid hb1
        clear hb1 HBH
        go_wp2_with fail
        refine (HFA.out _).mono ?_
        rintro e w2 ⟨rfl, hb2⟩
        have HB2 := Lib.hid (HB1.out.trans (hb2.mono HB1.out.size))
        clear hb2 HFA HB1
        go_wp2_with fail
        refine (HRD.out _).mono ?_
        rintro e w3 ⟨A, k, rfl, hR, hk, hb3⟩
        have d1 : decide ((256 : Int) < (k : Int)) = false := by simp; omega
        have d1' : decide (256 < k) = false := by simp; omega
        have hcv := conv_nums (w := w3) hk k hR
        have HROW := Lib.hid (an_row (HB2.out.trans (hb3.mono HB2.out.size)))
        clear hb3 HRD HB2 hR hk
        go_wp2_with (refine wpList_store_row rfl 72 _ _ rfl w.heap.size #[.int .i64 2, .string (strOfNums (decB d))] rfl rfl 72 _ HROW.out.1 (HIZ _ _) rfl (HIO _ _) ?_)
        exact bodyPost_ret (results_cell_tmp Try.results72 _ _ w.heap.size 72 _ (0, 0) _ (.int .i64 0) rfl rfl (setRow_heap _ _ _ _ _ _ HROW.out.1) Try.underlying72 rfl (HIZ _ _)) rfl ⟨rfl, HROW.out.2 _⟩
/-- The program's own answer: of what asks for nothing it is empty. -/
def askS (t : List Int) : An := if (readS t).err = 4 then noneA 0 else readS t
theorem decA_4 (d : List Int) : (decA d).err ≠ 4 := by
  unfold decA
  split
  · split
    · decide
    · exact (by decide : (0 : Int) ≠ 4)
  · decide
theorem clipS_4 (t : List Int) : (clipS t).err ≠ 4 := by
  unfold clipS
  split
  · exact decA_4 _
  · decide
set_option maxRecDepth 100000 in
set_option maxHeartbeats 4000000 in
theorem asked_any {w : World} {t : List Int} (ht : IsBytes t) (hl : t.length ≤ 90000) :
    Calls Try.prog 62 #[.string (strOfNums t)] w (AnPost (askS t) w) := by
  have HIZ := info_ask
  have HIO := ask_one
  by_cases h59 : (59 : Int) ∈ t
  · obtain ⟨n, r, rfl, hn⟩ := List.eq_append_cons_of_mem h59
    have HC := Lib.hid (fun (W : World) => cut_hit ht hn (by omega) W)
    have hnb : IsBytes n := fun x hx => ht x (List.mem_append_left _ hx)
    have hrb : IsBytes r := fun x hx => ht x (by simp [hx])
    have hrl : r.length ≤ 90000 := by simp at hl; omega
    have q48 := str_eq hnb (show IsBytes [48] from fun x hx => by simp at hx; omega)
    have q50 := str_eq hnb (show IsBytes [50] from fun x hx => by simp at hx; omega)
    have q52 := str_eq hnb (show IsBytes [53, 50] from fun x hx => by simp at hx; omega)
    rw [show (strOfNums [48]).toList = [48] from by rw [ByteArray.toList_eq, strOfNums_data]; rfl] at q48
    rw [show (strOfNums [50]).toList = [50] from by rw [ByteArray.toList_eq, strOfNums_data]; rfl] at q50
    rw [show (strOfNums [53, 50]).toList = [53, 50] from by rw [ByteArray.toList_eq, strOfNums_data]; rfl] at q52
    have hrd := read_cut (r := r) hn
    have HRB := Lib.hid hrb
    generalize strOfNums (n ++ 59 :: r) = s at HC ⊢
    by_cases hT : n = [48] ∨ n = [50]
    · have e9 : askS (n ++ 59 :: r) = ⟨1, cutS r 64, 0⟩ := by unfold askS; rw [hrd, if_pos hT]; rfl
      rw [e9]
      have HO := Lib.hid (fun (W : World) => ocut_any (w := W) HRB.out (by omega) 64 (by omega))
      have hqq : (((strOfNums n).toList == [48]) = true) ∨ (((strOfNums n).toList == [48]) = false ∧ ((strOfNums n).toList == [50]) = true) := by
        rcases hT with h | h
        · exact .inl (by rw [q48]; simpa using h)
        · exact .inr ⟨by rw [q48]; subst h; decide, by rw [q50]; simpa using h⟩
      clear q48 q50 q52 hrd hnb hrb hn ht h59 hT e9
      generalize strOfNums n = N at hqq HC
      rcases hqq with hqq | ⟨hq1, hq2⟩
      all_goals
        go_enter Try.func62, Try.ntmps62
        go_wp2_with fail
        refine (HC.out _).mono ?_
        rintro e w1 ⟨rfl, hb1⟩
        have HROW := Lib.hid (an_row hb1)
        clear hb1 HC
        go_wp2_with fail
        refine (HO.out _).mono ?_
        rintro e wx ⟨rfl, rfl⟩
        go_wp2_with (refine wpList_store_row rfl 72 _ _ rfl w.heap.size #[.int .i64 1, .string (strOfNums (cutS r 64))] rfl rfl 72 _ HROW.out.1 (HIZ _ _) rfl (HIO _ _) ?_)
        exact bodyPost_ret (results_cell_tmp Try.results62 _ _ w.heap.size 72 _ (0, 0) _ (.int .i64 0) rfl rfl (setRow_heap _ _ _ _ _ _ HROW.out.1) Try.underlying72 rfl (HIZ _ _)) rfl ⟨rfl, HROW.out.2 _⟩
    · have p48 : ((strOfNums n).toList == [48]) = false := by rw [q48]; simp; exact fun e => hT (.inl e)
      have p50 : ((strOfNums n).toList == [50]) = false := by rw [q50]; simp; exact fun e => hT (.inr e)
      rw [if_neg hT] at hrd
      by_cases h5 : n = [53, 50]
      · have p52 : ((strOfNums n).toList == [53, 50]) = true := by rw [q52]; simpa using h5
        have e9 : askS (n ++ 59 :: r) = clipS r := by
          unfold askS
          rw [hrd, if_pos h5, if_neg (clipS_4 r)]
        rw [e9]
        have HCL := Lib.hid (fun (W : World) => clipping_any (w := W) HRB.out hrl)
        clear q48 q50 q52 hrd hnb hrb hn ht h59 hT e9 h5
        generalize strOfNums n = N at p48 p50 p52 HC
        generalize clipS r = R at HCL ⊢
        go_enter Try.func62, Try.ntmps62
        go_wp2_with fail
        refine (HC.out _).mono ?_
        rintro e w1 ⟨rfl, hb1⟩
        have HB1 := Lib.hid hb1
        clear hb1 HC
        go_wp2_with fail
        refine (HCL.out _).mono ?_
        rintro e w2 ⟨rfl, hb2⟩
        have HROW := Lib.hid (an_row (HB1.out.trans (hb2.mono HB1.out.size)))
        clear hb2 HCL HB1
        unfold AV
        go_wp2_with (refine wpList_store_row rfl 72 _ _ rfl w.heap.size #[.int .i64 R.kind, .string (strOfNums R.data)] rfl rfl 72 _ HROW.out.1 (HIZ _ _) rfl (HIO _ _) ?_)
        exact bodyPost_ret (results_cell_tmp Try.results62 _ _ w.heap.size 72 _ (0, 0) _ (.int .i64 R.err) rfl rfl (setRow_heap _ _ _ _ _ _ HROW.out.1) Try.underlying72 rfl (HIZ _ _)) rfl ⟨rfl, HROW.out.2 _⟩
      · have p52 : ((strOfNums n).toList == [53, 50]) = false := by rw [q52]; simpa using h5
        have e9 : askS (n ++ 59 :: r) = noneA 0 := by
          unfold askS
          rw [hrd, if_neg h5]; rfl
        rw [e9]
        clear q48 q50 q52 hrd hnb hrb hn ht h59 hT e9 h5
        generalize strOfNums n = N at p48 p50 p52 HC
        go_enter Try.func62, Try.ntmps62
        go_wp2_with fail
        refine (HC.out _).mono ?_
        rintro e w1 ⟨rfl, hb1⟩
        have HROW := Lib.hid (an_row hb1)
        clear hb1 HC
        go_wp2_with (refine wpList_store_row rfl 72 _ _ rfl w.heap.size #[.int .i64 0, .string ⟨#[]⟩] rfl rfl 72 _ HROW.out.1 (HIZ _ _) rfl (HIO _ _) ?_)
        exact bodyPost_ret (results_cell_tmp Try.results62 _ _ w.heap.size 72 _ (0, 0) _ (.int .i64 0) rfl rfl (setRow_heap _ _ _ _ _ _ HROW.out.1) Try.underlying72 rfl (HIZ _ _)) rfl ⟨rfl, HROW.out.2 _⟩
  · have e9 : askS t = noneA 0 := by
      unfold askS
      rw [read_miss h59]; rfl
    rw [e9]
    have HC := Lib.hid (fun (W : World) => cut_miss ht h59 W)
    clear ht hl h59 e9
    generalize strOfNums t = s at HC ⊢
    go_enter Try.func62, Try.ntmps62
    go_wp2_with fail
    refine (HC.out _).mono ?_
    rintro e w1 ⟨rfl, hb1⟩
    have HROW := Lib.hid (an_row hb1)
    clear hb1 HC
    go_wp2_with (refine wpList_store_row rfl 72 _ _ rfl w.heap.size #[.int .i64 0, .string ⟨#[]⟩] rfl rfl 72 _ HROW.out.1 (HIZ _ _) rfl (HIO _ _) ?_)
    exact bodyPost_ret (results_cell_tmp Try.results62 _ _ w.heap.size 72 _ (0, 0) _ (.int .i64 0) rfl rfl (setRow_heap _ _ _ _ _ _ HROW.out.1) Try.underlying72 rfl (HIZ _ _)) rfl ⟨rfl, HROW.out.2 _⟩
theorem read_ask (t : List Int) : readS t = if (askS t).err = 0 ∧ (askS t).kind = 0 ∧ (askS t).data = [] then noneA 4 else askS t := by
  unfold askS
  by_cases h4 : (readS t).err = 4
  · rw [if_pos h4, if_pos ⟨rfl, rfl, rfl⟩]
    unfold readS at h4 ⊢
    split at h4
    · exact absurd (show (0 : Int) = 4 from h4) (by decide)
    · rename_i h1
      split at h4
      · exact absurd h4 (clipS_4 _)
      · rename_i h2
        rw [if_neg h1, if_neg h2]
  · rw [if_neg h4, if_neg]
    rcases read_kinds t with h | h | h
    · exact fun e => absurd (h.2.1.symm.trans e.2.1) (by decide)
    · exact fun e => absurd (h.2.1.symm.trans e.2.1) (by decide)
    · exact fun e => h.1 e.1
theorem ask_kind (t : List Int) : (askS t).err ≠ 0 ∨ ((askS t).kind = 0 ∧ (askS t).data = []) ∨ (askS t).kind = 1 ∨ (askS t).kind = 2 := by
  unfold askS
  split
  · exact .inr (.inl ⟨rfl, rfl⟩)
  · rcases read_kinds t with h | h | h
    · exact .inr (.inr (.inl h.2.1))
    · exact .inr (.inr (.inr h.2.1))
    · exact .inl h.1
set_option maxRecDepth 100000 in
set_option maxHeartbeats 4000000 in
theorem oread_any {w : World} {t : List Int} (ht : IsBytes t) (hl : t.length ≤ 90000) :
    Calls Try.prog 36 #[.string (strOfNums t)] w (AnPost (readS t) w) := by
  have HIZ := info_ask
  have HIO := ask_one
  have HA := Lib.hid (fun (W : World) => asked_any (w := W) ht hl)
  rw [read_ask]
  have hk := ask_kind t
  generalize askS t = a at hk HA ⊢
  obtain ⟨k, d, er⟩ := a
  dsimp only at hk ⊢
  generalize strOfNums t = s at HA ⊢
  clear ht hl
  by_cases he : er = 0
  · subst he
    rcases hk with h | ⟨rfl, rfl⟩ | h
    · exact absurd rfl h
    · rw [if_pos ⟨rfl, rfl, rfl⟩]
      go_enter Try.func36, Try.ntmps36
      go_wp2_with fail
      refine (HA.out _).mono ?_
      rintro e w1 ⟨rfl, hb1⟩
      have HROW := Lib.hid (fun (o : Obj) => an_row (hb1.alloc hb1.size o))
      clear hb1 HA
      unfold AV
      dsimp only
      rw [show strOfNums [] = ⟨#[]⟩ from rfl]
      go_wp2_with (refine wpList_store_row rfl 72 _ _ rfl w.heap.size #[.int .i64 0, .string ⟨#[]⟩] rfl rfl 72 _ (HROW.out _).1 (HIZ _ _) rfl (HIO _ _) ?_)
      exact bodyPost_ret (results_cell_tmp Try.results36 _ _ w.heap.size 72 _ (0, 0) _ (.int .i64 4) rfl rfl (setRow_heap _ _ _ _ _ _ (HROW.out _).1) Try.underlying72 rfl (HIZ _ _)) rfl ⟨rfl, (HROW.out _).2 _⟩
    · rcases h with rfl | rfl
      · rw [if_neg (fun e => absurd e.2.1 (by decide))]
        go_enter Try.func36, Try.ntmps36
        go_wp2_with fail
        refine (HA.out _).mono ?_
        rintro e w1 ⟨rfl, hb1⟩
        have HROW := Lib.hid (fun (o : Obj) => an_row (hb1.alloc hb1.size o))
        clear hb1 HA
        unfold AV
        dsimp only
        go_wp2_with (refine wpList_store_row rfl 72 _ _ rfl w.heap.size #[.int .i64 1, .string (strOfNums d)] rfl rfl 72 _ (HROW.out _).1 (HIZ _ _) rfl (HIO _ _) ?_)
        exact bodyPost_ret (results_cell_tmp Try.results36 _ _ w.heap.size 72 _ (0, 0) _ (.int .i64 0) rfl rfl (setRow_heap _ _ _ _ _ _ (HROW.out _).1) Try.underlying72 rfl (HIZ _ _)) rfl ⟨rfl, (HROW.out _).2 _⟩
      · rw [if_neg (fun e => absurd e.2.1 (by decide))]
        go_enter Try.func36, Try.ntmps36
        go_wp2_with fail
        refine (HA.out _).mono ?_
        rintro e w1 ⟨rfl, hb1⟩
        have HROW := Lib.hid (fun (o : Obj) => an_row (hb1.alloc hb1.size o))
        clear hb1 HA
        unfold AV
        dsimp only
        go_wp2_with (refine wpList_store_row rfl 72 _ _ rfl w.heap.size #[.int .i64 2, .string (strOfNums d)] rfl rfl 72 _ (HROW.out _).1 (HIZ _ _) rfl (HIO _ _) ?_)
        exact bodyPost_ret (results_cell_tmp Try.results36 _ _ w.heap.size 72 _ (0, 0) _ (.int .i64 0) rfl rfl (setRow_heap _ _ _ _ _ _ (HROW.out _).1) Try.underlying72 rfl (HIZ _ _)) rfl ⟨rfl, (HROW.out _).2 _⟩
  · rw [if_neg (fun e => he e.1)]
    have z0 : (er == 0) = false := by simpa using he
    go_enter Try.func36, Try.ntmps36
    go_wp2_with fail
    refine (HA.out _).mono ?_
    rintro e w1 ⟨rfl, hb1⟩
    have HROW := Lib.hid (fun (o : Obj) => an_row (hb1.alloc hb1.size o))
    clear hb1 HA
    unfold AV
    dsimp only
    go_wp2_with (refine wpList_store_row rfl 72 _ _ rfl w.heap.size #[.int .i64 k, .string (strOfNums d)] rfl rfl 72 _ (HROW.out _).1 (HIZ _ _) rfl (HIO _ _) ?_)
    exact bodyPost_ret (results_cell_tmp Try.results36 _ _ w.heap.size 72 _ (0, 0) _ (.int .i64 er) rfl rfl (setRow_heap _ _ _ _ _ _ (HROW.out _).1) Try.underlying72 rfl (HIZ _ _)) rfl ⟨rfl, (HROW.out _).2 _⟩
end Go.Proofs.Ytmpmlmhphnpdlaa
