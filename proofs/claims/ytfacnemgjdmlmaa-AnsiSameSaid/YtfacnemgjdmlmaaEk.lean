/-
  Proved here: of the program's parser: Feed.
-/
import Derived.Test.YtfacnemgjdmlmaaEj
import Derived.LoopTactic
set_option linter.unusedSimpArgs false
set_option linter.unusedVariables false
namespace Go.Proofs.Ytfacnemgjdmlmaa
open Go.RowKit
theorem infoEvA : (Try.prog.info? 40).map (fun i => (i.zero, i.size, i.bytes)) = some (some (.agg #[.int .i64 0, .int .i32 0, .int .u8 0, .int .u8 0, .int .u8 0, .slice none 0 0, .string ⟨#[]⟩]), 7, 56) := by kernel_rfl
/-- Append to a row of events. -/
theorem app_evs {W : World} {base : Nat} {v : Value} {n : Nat} {xs news : List Value} {A : Option Addr} {m : Nat} (c : Nat) (hl : news.length = m * 7) (hsrc : 0 < m → ∃ ad, A = some ad ∧ ∀ j u, news[j]? = some u → W.cell? (ad.add j) = some u) (hA : A = none → c = 0)
    (h1 : ∀ u ∈ news, u.oneCell' = true) (hown : W.ownsRow base 40 7 v n xs) (hn : n + m ≤ 100000) (hb : base ≤ W.heap.size) :
    ∃ v' w', (Builtin.append_ #[29, 29] 29 #[v, .slice A m c]).run Try.prog W = .ok v' w' ∧ w'.ownsRow base 40 7 v' (n + m) (xs ++ news) ∧ W.grownBy w' v.ownBlock ∧ SubO v' v W := by
  obtain ⟨i0, hi, hz0, hz1, hz2⟩ := info_parts infoEvA
  rcases A with _ | ad
  · have h0 : m = 0 := by
      rcases Nat.eq_zero_or_pos m with h | h
      · exact h
      · obtain ⟨_, e, _⟩ := hsrc h
        cases e
    subst h0
    obtain rfl : news = [] := List.eq_nil_of_length_eq_zero (by omega)
    obtain rfl := hA rfl
    exact ⟨_, W, run_append_owned_none (P := Try.prog) (w := W) base 29 29 40 i0 7 Try.underlying29 hi _ n _ hown, by simpa using hown, World.grownBy.refl _ _, SubO.refl _ _⟩
  · have hs : ∀ j u, news[j]? = some u → W.cell? (ad.add j) = some u := fun j u hu => by
      rcases Nat.eq_zero_or_pos m with h | h
      · subst h
        obtain rfl : news = [] := List.eq_nil_of_length_eq_zero (by omega)
        simp at hu
      · obtain ⟨ad', e, hc⟩ := hsrc h
        injection e with e
        subst e
        exact hc j u hu
    obtain ⟨v', w', hr, ho, hg, _, hob⟩ := run_append_own_at (P := Try.prog) W base 29 29 40 i0 _ 7 56 Try.underlying29 hi hz0 hz1 hz2 rfl (by decide) v n xs hown ad m c news hl hs h1 (by unfold maxLen; omega) (by omega) hb
    refine ⟨v', w', hr, ho, hg, fun k hk => ?_⟩
    rcases hob with e | e
    · exact .inl (e ▸ hk)
    · right
      rw [e] at hk
      injection hk with hk
      omega
theorem evL_cells {w : World} {B : Nat} {e : Ev} {pv : Value} (h : w.ownsRow B 3 1 pv e.params.length (NV .i64 e.params)) : ∀ u ∈ evL e pv, u.oneCell' = true := by
  obtain ⟨A, c, rfl, _⟩ := own_slice h
  intro u hu
  have := evL_one (e := e) (A := A) (n := e.params.length) (c := c)
  rw [List.all_toArray] at this
  exact List.all_eq_true.1 this u hu
/-- A parser, and the events that came of it since w. -/
structure FI (B g : Nat) (vp vt : Value) (w : World) (vp' vt' : Value) (s' : PP) (v : Value) (es : List (Ev × Value)) (W : World) : Prop where
  q : Qs B g vp' vt' s' W
  f : Fr2 g vp vt w W
  sp : SubO vp' vp w
  st : SubO vt' vt w
  own : W.ownsRow w.heap.size 40 7 v es.length (evsL es)
  par : ∀ p ∈ es, W.ownsRow B 3 1 p.2 p.1.params.length (NV .i64 p.1.params) ∧ SubO p.2 vp w ∧ (p.2.ownBlock = none ∨ p.2.ownBlock ≠ vp'.ownBlock)
theorem FI.start {B g : Nat} {vp vt : Value} {s : PP} {w : World} (h : Qs B g vp vt s w) : FI B g vp vt w vp vt s (.slice none 0 0) [] w :=
  ⟨h, Fr2.refl _ _ _ _, SubO.refl _ _, SubO.refl _ _, World.ownsRow_nil _ _ _ _, fun p hp => by simp at hp⟩
theorem FI.below {B g : Nat} {vp vt vp' vt' v : Value} {w W W' : World} {s' : PP} {es : List (Ev × Value)} (h : FI B g vp vt w vp' vt' s' v es W) (hb : Below W.heap.size W W') : FI B g vp vt w vp' vt' s' v es W' :=
  ⟨h.q.below hb, h.f.more (hb.mono h.f.size), h.sp, h.st, own_below h.own hb, fun p hp => ⟨own_below (h.par p hp).1 hb, (h.par p hp).2⟩⟩
/-- The parser's own call leaves the events as they were. -/
theorem FI.step {B g : Nat} {vp vt vp' vt' vp2 vt2 v : Value} {w W W' : World} {s' s2 : PP} {es : List (Ev × Value)} (h : FI B g vp vt w vp' vt' s' v es W) (hgw : g < w.heap.size) (hq : Qs B g vp2 vt2 s2 W') (hf : Fr2 g vp' vt' W W') (hp : SubO vp2 vp' W) (ht : SubO vt2 vt' W) : FI B g vp vt w vp2 vt2 s2 v es W' := by
  refine ⟨hq, h.f.trans hf h.sp h.st, h.sp.trans hp h.f.size, h.st.trans ht h.f.size, own_keep h.own (fun k hk => ?_), fun p hp' => ?_⟩
  · have h1 := ownBlock_le h.own k hk
    refine hf.block k (own_lt h.own hk) (by omega) (fun e => ?_) (fun e => ?_)
    · rcases own_ne h.own h.q.op (by decide) with x | x
      · rw [x] at hk; cases hk
      · exact x (hk.trans e)
    · rcases own_ne h.own h.q.ot (by decide) with x | x
      · rw [x] at hk; cases hk
      · exact x (hk.trans e)
  · obtain ⟨ho, hs, hd⟩ := h.par p hp'
    refine ⟨own_keep ho (fun k hk => ?_), hs, ?_⟩
    · have h1 := ownBlock_le ho k hk
      have := h.q.low
      refine hf.block k (own_lt ho hk) (by omega) (fun e => ?_) (fun e => ?_)
      · rcases hd with x | x
        · rw [x] at hk; cases hk
        · exact x (hk.trans e)
      · rcases own_ne ho h.q.ot (by decide) with x | x
        · rw [x] at hk; cases hk
        · exact x (hk.trans e)
    · cases hk : p.2.ownBlock with
      | none => exact .inl rfl
      | some k =>
        right
        intro e
        rcases hp k e.symm with x | x
        · rcases hd with y | y
          · rw [y] at hk; cases hk
          · exact y (hk.trans x.symm)
        · have := own_lt ho hk; omega
/-- One more event. -/
theorem FI.app {B g fb : Nat} {vp vt vp' vt' v : Value} {w W : World} {s' : PP} {es : List (Ev × Value)} (h : FI B g vp vt w vp' vt' s' v es W) (hgw : g < w.heap.size) {e : Ev} {pv : Value} (hb : W.heap[fb]? = some (.cells (evL e pv).toArray 40 (0, 0)))
    (ho : W.ownsRow B 3 1 pv e.params.length (NV .i64 e.params)) (hs : SubO pv vp w) (hd : pv.ownBlock = none ∨ pv.ownBlock ≠ vp'.ownBlock) (hn : es.length < 5000) :
    ∃ A c W', (Builtin.append_ #[29, 29] 29 #[v, .slice (some ⟨fb, 0, none⟩) 1 1]).run Try.prog W = .ok (.slice A (es.length + 1) c) W' ∧ FI B g vp vt w vp' vt' s' (.slice A (es.length + 1) c) (es ++ [(e, pv)]) W' := by
  obtain ⟨v1, W1, hr, ho1, hg, hsub⟩ := app_evs (news := evL e pv) (A := some ⟨fb, 0, none⟩) (m := 1) 1 rfl (fun _ => ⟨_, rfl, fun j u hu => by
    rw [Go.WideShapes.add_plain]
    unfold World.cell?
    simp only [hb]
    simpa using hu⟩) (fun e => by cases e) (evL_cells ho) h.own (by omega) h.f.size
  obtain ⟨A, c, rfl, _⟩ := own_slice ho1
  have hgb : ∀ k, k < W.heap.size → some k ≠ v.ownBlock → W1.heap[k]? = W.heap[k]? := fun k h1 h2 => hg.block k h1 h2
  have hgv : some g ≠ v.ownBlock := ownBlock_ge h.own hgw
  have keepI : ∀ {pv' : Value} {n : Nat} {xs : List Value}, W.ownsRow B 3 1 pv' n xs → W1.ownsRow B 3 1 pv' n xs := fun {pv' n xs} hh => own_keep hh (fun k hk => hgb k (own_lt hh hk) (fun e => by
    rcases own_ne hh h.own (by decide) with x | x
    · rw [x] at hk; cases hk
    · exact x (hk.trans e)))
  refine ⟨A, c, W1, hr, ⟨⟨(hgb g h.q.lt hgv).trans h.q.blk, keepI h.q.op, own_keep h.q.ot (fun k hk => hgb k (own_lt h.q.ot hk) (fun e => by
    rcases own_ne h.q.ot h.own (by decide) with x | x
    · rw [x] at hk; cases hk
    · exact x (hk.trans e))), h.q.low, Nat.le_trans h.q.big hg.size⟩, ⟨hg.os.trans h.f.os, hg.tape.trans h.f.tape, hg.output.trans h.f.output, Nat.le_trans h.f.size hg.size, fun k h1 h2 h3 h4 => ?_⟩, h.sp, h.st, ?_, fun p hp => ?_⟩⟩
  · exact (hgb k (Nat.lt_of_lt_of_le h1 h.f.size) (fun e => by have := ownBlock_le h.own k e.symm; omega)).trans (h.f.block k h1 h2 h3 h4)
  · rw [List.length_append, evsL_snoc]
    exact ho1
  · rcases List.mem_append.1 hp with x | x
    · exact ⟨keepI (h.par p x).1, (h.par p x).2⟩
    · rw [List.mem_singleton.1 x]
      exact ⟨keepI ho, hs, hd⟩
def FeedPost (B g : Nat) (vp vt : Value) (w : World) (R : PP × List Ev) (x : Ending) (w' : World) : Prop :=
  ∃ vp' vt' v es, x = .returned (.tuple #[v, .int .i64 0]) ∧ FI B g vp vt w vp' vt' R.1 v es w' ∧ es.map Prod.fst = R.2
theorem stopS_def (r : Int) : stopS r = ((r == 24) || (r == 26)) := by
  unfold stopS
  by_cases a : r = 24
  · subst a; rfl
  by_cases b : r = 26
  · subst b; rfl
  simp [a, b]
theorem SubO.trans2 {a b c : Value} {w w1 : World} (h2 : SubO a b w1) (h : SubO b c w) (hs : w.heap.size ≤ w1.heap.size) : SubO a c w := h.trans h2 hs
theorem evZ_params : evZ.params = [] := rfl
set_option maxRecDepth 100000 in
set_option maxHeartbeats 8000000 in
theorem p_feed {B g : Nat} {vp vt : Value} {s : PP} {w : World} (h : Qs B g vp vt s w) (hG : PGood s) {A : Option Addr} {n cp : Nat} {l : List Int} (hR : RI .i32 w A l) (hl : l.length = n) (hn : n ≤ 2000) (hcp : n ≤ cp)
    (hA : 0 < n → ∀ b o q, A = some ⟨b, o, q⟩ → b ≠ g ∧ some b ≠ vp.ownBlock ∧ some b ≠ vt.ownBlock) :
    Calls Try.prog 10 #[.pointer (some ⟨g, 0, none⟩), .slice A n cp] w (FeedPost B g vp vt w (feedsP s l)) := by
  have HN := Lib.hid (p_none h)
  have HF0 := Lib.hid (FI.start h)
  have HGW := Lib.hid h.lt
  have HRL := Lib.hid hR
  have HLL := Lib.hid (fun (_ : Unit) => hl)
  have HAA := Lib.hid hA
  have HGD := Lib.hid (fun k => good_feeds (l.take k) hG)
  clear h hR hl hA hG
  go_enter Try.func10, Try.ntmps10
  go_wp2
  go_step3
  go_wp2_with fail
  refine HN.out.mono ?_
  rintro x wx ⟨rfl, rfl⟩
  go_wp2
  go_step3
  go_wp2
  go_loopw [6, 15] (fun ov iv wr => ∃ (v : Value) (i : Nat), v = ov ∧ iv = .int .i64 i ∧ i ≤ n ∧ ∃ es vp' vt', Hid (FI B g vp vt w vp' vt' (feedsP s (l.take i)).1 v es wr) ∧ Hid (es.map Prod.fst = (feedsP s (l.take i)).2)) (fun _ iv _ => n - (intOf iv).toNat)
  case atStart => exact ⟨_, 0, rfl, rfl, by omega, [], vp, vt, by rw [List.take_zero]; exact HF0, by rw [List.take_zero]; exact Lib.hid rfl⟩
  case round =>
    obtain ⟨v, i, rfl, rfl, hi, es, vp', vt', HF, HM⟩ := hrel
    clear HF0
    by_cases hin : i < n
    · have d1 : decide ((i : Int) < (n : Int)) = true := by simp; omega
      have d2 : decide (i < n) = true := by simp; omega
      have g3 : (0 : Int) ≤ (i : Int) := by omega
      have g4 : (i : Int) < (n : Int) := by omega
      obtain ⟨bl, off, rfl, hbl, hc⟩ := HRL.out (by rw [HLL.out ()]; omega)
      have hab := HAA.out (by omega) bl off none rfl
      have hblk := HF.out.f.block bl hbl hab.1 hab.2.1 hab.2.2
      have e0 : wr.cell? ⟨bl, off + i, none⟩ = some (.int .i32 (l.getD i 0)) := (World.cell?_of_block hblk).trans (hc i (by rw [HLL.out ()]; exact hin))
      obtain ⟨r, hr⟩ : ∃ x, l.getD i 0 = x := ⟨_, rfl⟩
      rw [hr] at e0
      have htk : l.take (i + 1) = l.take i ++ [r] := by
        rw [List.take_succ_eq_append_getElem (by rw [HLL.out ()]; exact hin)]
        rw [← hr]
        simp [List.getD, show i < l.length by rw [HLL.out ()]; exact hin]
      have hsn := feedsP_snoc (l.take i) s r
      rw [← htk] at hsn
      have hGi := HGD.out i
      obtain ⟨⟨s1, M1⟩, hfs⟩ : ∃ q, feedsP s (l.take i) = q := ⟨_, rfl⟩
      rw [hfs] at hsn HF HM hGi
      dsimp only at hsn HF HM hGi
      have hes : es.length ≤ i := by
        have h1 := feedsP_len (l.take i) s
        rw [hfs] at h1
        have h2 : es.length = M1.length := by rw [← HM.out, List.length_map]
        have h3 : (l.take i).length ≤ i := by rw [List.length_take]; omega
        dsimp only at h1
        omega
      have HSN := Lib.hid (fun (_ : Unit) => hsn)
      clear hc hblk hab htk hsn hfs hbl hr
      by_cases r127 : r = 127
      · have z127 : (r == 127) = true := by simpa using r127
        have hfp : feedP s1 r = (s1, none) := by unfold feedP; rw [if_pos (by subst r127; decide)]
        have HF2 : Hid (FI B g vp vt w vp' vt' (feedsP s (l.take (i + 1))).1 v es wr) := Lib.hid (by rw [HSN.out (), hfp]; exact HF.out)
        have HM2 : Hid (es.map Prod.fst = (feedsP s (l.take (i + 1))).2) := Lib.hid (by rw [HSN.out (), hfp]; simpa using HM.out)
        clear r127 hfp hGi
        go_wp2
        go_roundw
        case rel => exact ⟨_, i + 1, rfl, by go_num, by omega, es, vp', vt', HF2, HM2⟩
        case measure => simp [intOf]; omega
      have z127 : (r == 127) = false := by simpa using r127
      cases hisp : isP r
      · have hfp : feedP s1 r = (s1, none) := by unfold feedP; rw [if_pos (by unfold noneS; rw [hisp]; rfl)]
        have HF2 : Hid (FI B g vp vt w vp' vt' (feedsP s (l.take (i + 1))).1 v es wr) := Lib.hid (by rw [HSN.out (), hfp]; exact HF.out)
        have HM2 : Hid (es.map Prod.fst = (feedsP s (l.take (i + 1))).2) := Lib.hid (by rw [HSN.out (), hfp]; simpa using HM.out)
        have HIS := Lib.hid (fun W => hisp ▸ p_is r W)
        clear r127 hfp hGi hisp
        go_wp2_with fail
        refine (HIS.out _).mono ?_
        rintro x wx ⟨rfl, rfl⟩
        go_wp2
        go_roundw
        case rel => exact ⟨_, i + 1, rfl, by go_num, by omega, es, vp', vt', HF2, HM2⟩
        case measure => simp [intOf]; omega
      have hns : noneS r = false := by unfold noneS; rw [hisp]; simp [r127]
      have HIS := Lib.hid (fun W => hisp ▸ p_is r W)
      by_cases hst : stopS r = true
      · have hfp : feedP s1 r = (beginP 0, none) := by unfold feedP; rw [if_neg (by rw [hns]; decide), if_pos hst]
        have hbeg := HF.out.q.begin 0
        have HF2 : Hid (FI B g vp vt w (.slice none 0 0) (.slice none 0 0) (feedsP s (l.take (i + 1))).1 v es (wr.setRow g (qC (beginP 0) (.slice none 0 0) (.slice none 0 0)))) := Lib.hid (by
          rw [HSN.out (), hfp]
          exact HF.out.step HGW.out hbeg ((Fr2.refl _ _ _ _).setRow _) (SubO.nil _ _) (SubO.nil _ _))
        have HM2 : Hid (es.map Prod.fst = (feedsP s (l.take (i + 1))).2) := Lib.hid (by rw [HSN.out (), hfp]; simpa using HM.out)
        have HBG := Lib.hid (p_begin HF.out.q 0)
        rw [stopS_def] at hst
        by_cases r24 : r = 24
        · have z24 : (r == 24) = true := by simpa using r24
          clear r127 hfp hGi hisp hns hst hbeg r24
          go_wp2_with fail
          refine (HIS.out _).mono ?_
          rintro x wx ⟨rfl, rfl⟩
          go_wp2_with fail
          refine HBG.out.mono ?_
          rintro x wx ⟨rfl, rfl⟩
          go_wp2
          go_roundw
          case rel => exact ⟨_, i + 1, rfl, by go_num, by omega, es, _, _, HF2, HM2⟩
          case measure => simp [intOf]; omega
        · have z24 : (r == 24) = false := by simpa using r24
          have z26 : (r == 26) = true := by rw [z24] at hst; simpa using hst
          clear r127 hfp hGi hisp hns hst hbeg r24
          go_wp2_with fail
          refine (HIS.out _).mono ?_
          rintro x wx ⟨rfl, rfl⟩
          go_wp2_with fail
          refine HBG.out.mono ?_
          rintro x wx ⟨rfl, rfl⟩
          go_wp2
          go_roundw
          case rel => exact ⟨_, i + 1, rfl, by go_num, by omega, es, _, _, HF2, HM2⟩
          case measure => simp [intOf]; omega
      have hfp : feedP s1 r = takeP s1 r := by unfold feedP; rw [if_neg (by rw [hns]; decide), if_neg hst]
      have HT := Lib.hid (p_take HF.out.q hGi r (none_range hns).1)
      rw [hfp] at HSN
      obtain ⟨⟨s2, oe⟩, htp⟩ : ∃ q, takeP s1 r = q := ⟨_, rfl⟩
      rw [htp] at HT HSN
      have z24 : (r == 24) = false := by rw [stopS_def] at hst; simp at hst; simpa using hst.1
      have z26 : (r == 26) = false := by rw [stopS_def] at hst; simp at hst; simpa using hst.2
      clear r127 hfp hGi hisp hns hst htp
      cases oe with
      | none =>
        go_wp2_with fail
        refine (HIS.out _).mono ?_
        rintro x wx ⟨rfl, rfl⟩
        go_wp2_with fail
        refine HT.out.mono ?_
        rintro x w1 ⟨vp2, vt2, pv, rfl, hq, hf, hp, ht, ho, hs, hd⟩
        obtain ⟨Ap, cpv, rfl, _⟩ := own_slice ho
        have hF1 := HF.out.step HGW.out hq hf hp ht
        obtain ⟨c0, c1, c2, c3, c4, np, S, hev⟩ : ∃ c0 c1 c2 c3 c4 np S, (evL evZ (.slice Ap ([] : List Int).length cpv)).toArray = #[.int .i64 c0, .int .i32 c1, .int .u8 c2, .int .u8 c3, .int .u8 c4, .slice Ap np cpv, .string S] := ⟨_, _, _, _, _, _, _, rfl⟩
        have HF2 : Hid (FI B g vp vt w vp2 vt2 (feedsP s (l.take (i + 1))).1 v es (w1.alloc (.cells #[.int .i64 c0, .int .i32 c1, .int .u8 c2, .int .u8 c3, .int .u8 c4, .slice Ap np cpv, .string S] 40))) := Lib.hid (by
          rw [HSN.out ()]
          exact hF1.below ((Below.refl _ _).alloc (Nat.le_refl _) _))
        have HM2 : Hid (es.map Prod.fst = (feedsP s (l.take (i + 1))).2) := Lib.hid (by rw [HSN.out ()]; simpa using HM.out)
        simp only [Option.getD_none, Option.isSome_none, evZ_params, hev]
        clear hq hf hp ht ho hs hd hF1 hev
        go_wp2
        go_roundw
        case rel => exact ⟨_, i + 1, rfl, by go_num, by omega, es, _, _, HF2, HM2⟩
        case measure => simp [intOf]; omega
      | some e =>
        go_wp2_with fail
        refine (HIS.out _).mono ?_
        rintro x wx ⟨rfl, rfl⟩
        go_wp2_with fail
        refine HT.out.mono ?_
        rintro x w1 ⟨vp2, vt2, pv, rfl, hq, hf, hp, ht, ho, hs, hd⟩
        have hF1 := HF.out.step HGW.out hq hf hp ht
        simp only [Option.getD_some] at ho
        obtain ⟨Ap, cpv, rfl, _⟩ := own_slice ho
        obtain ⟨c0, c1, c2, c3, c4, np, S, hev⟩ : ∃ c0 c1 c2 c3 c4 np S, (evL e (.slice Ap e.params.length cpv)).toArray = #[.int .i64 c0, .int .i32 c1, .int .u8 c2, .int .u8 c3, .int .u8 c4, .slice Ap np cpv, .string S] := ⟨_, _, _, _, _, _, _, rfl⟩
        have hbb : Below w1.heap.size w1 ((w1.alloc (.cells (evL e (.slice Ap e.params.length cpv)).toArray 40)).alloc (.cells (evL e (.slice Ap e.params.length cpv)).toArray 40)) := ((Below.refl _ _).alloc (Nat.le_refl _) _).alloc (by simp) _
        obtain ⟨A9, c9, W9, hrun, hF9⟩ := (hF1.below hbb).app HGW.out (fb := w1.heap.size + 1) (heap_alloc2_new _ _ _) (own_below ho hbb) (hs.trans2 HF.out.sp HF.out.f.size) hd (by omega)
        have HF2 : Hid (FI B g vp vt w vp2 vt2 (feedsP s (l.take (i + 1))).1 (.slice A9 (es.length + 1) c9) (es ++ [(e, .slice Ap e.params.length cpv)]) W9) := Lib.hid (by
          rw [HSN.out ()]
          exact hF9)
        have HM2 : Hid ((es ++ [(e, Value.slice Ap e.params.length cpv)]).map Prod.fst = (feedsP s (l.take (i + 1))).2) := Lib.hid (by
          rw [HSN.out (), List.map_append, HM.out]
          rfl)
        rw [hev] at hrun
        have HRUN := Lib.hid hrun
        simp only [Option.getD_some, Option.isSome_some, hev]
        clear hq hf hp ht ho hs hd hF1 hev hbb hrun hF9
        go_wp2_with (first | (at_builtin; refine wpList_app rfl (.tmp 39) (.tmp 41) _ rfl _ _ rfl rfl HRUN.out ?_))
        go_roundw
        case rel => exact ⟨_, i + 1, rfl, by go_num, by omega, _, _, _, HF2, HM2⟩
        case measure => simp [intOf]; omega
    · obtain rfl : i = n := by omega
      have d1 : decide ((i : Int) < (i : Int)) = false := by simp
      have d2 : decide (i < i) = false := by simp
      have htk : l.take i = l := List.take_of_length_le (by rw [HLL.out ()]; exact Nat.le_refl _)
      rw [htk] at HF HM
      clear htk hin
      go_wp2
      first | rw [Exit.noGoto_ret] | skip
      go_ret2
      exact ⟨_, _, _, _, rfl, HF.out, HM.out⟩
end Go.Proofs.Ytfacnemgjdmlmaa
