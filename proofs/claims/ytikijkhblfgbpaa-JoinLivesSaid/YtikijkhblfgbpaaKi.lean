/-
  Kept here, for JoinLives: what the two Tables keep of each other, and Tables that are none.
-/
import Derived.Test.YtikijkhblfgbpaaKh
import Derived.Test.YtikijkhblfgbpaaJw
namespace Go.Proofs.Ytikijkhblfgbpaa
open Go.RowKit Go.Maps Go.Sort

theorem own_stays {w w' : World} {base : Nat} {e : TypeId} {sz : Nat} {v : Value} {n : Nat} {xs : List Value} (h : w.ownsRow base e sz v n xs) (hs : Stays w w') (h1 : e ≠ 47) (h2 : e ≠ 59) : w'.ownsRow base e sz v n xs := by
  refine ⟨h.1, ?_⟩
  rcases h.2 with e | ⟨g, cap, cur, e, hb, hg, hr⟩
  · exact .inl e
  · exact .inr ⟨g, cap, cur, e, hb, hs _ _ _ _ hg h1 h2, hr⟩
theorem own_staysD {w w' : World} {base : Nat} {v : Value} {n : Nat} {xs : List Value} (h : w.ownsRow base 5 1 v n xs) (hs : StaysD w w') : w'.ownsRow base 5 1 v n xs := by
  refine ⟨h.1, ?_⟩
  rcases h.2 with e | ⟨g, cap, cur, e, hb, hg, hr⟩
  · exact .inl e
  · exact .inr ⟨g, cap, cur, e, hb, hs _ _ hg (fun c fr e => by injection e with _ e2; exact absurd e2 (by decide)) (fun c fr e => by injection e with _ e2; exact absurd e2 (by decide)), hr⟩
theorem RT.stays {w w' : World} {base x : Nat} {fl : Int} {L : List Prt} (h : RT w base x fl L) (hs : Stays w w') : RT w' base x fl L := by
  obtain ⟨h1, ⟨v, hr, hn, cs, ho, hp⟩, h3, h4⟩ := h
  exact ⟨h1, ⟨v, hs _ _ _ _ hr (by decide) (by decide), hn, cs, own_stays ho hs (by decide) (by decide), hp.imp fun _ _ h => own_stays h hs (by decide) (by decide)⟩, h3, h4⟩
theorem raiseD_len (fl : Int) (L : List Prt) : (raiseD fl L).length ≤ L.length := List.length_filter_le _ _
theorem roomD_len (fl : Int) (L : List Prt) (p : Prt) : (roomD fl L p).2.length ≤ L.length := by
  unfold roomD
  split
  · exact raiseD_len _ _
  · exact Nat.le_refl _
theorem laterD_len (fl : Int) (L : List Prt) (p : Prt) : (laterD fl L p).length ≤ L.length + 1 := by
  have := roomD_len fl L p
  unfold laterD
  rw [List.length_append]
  simp
  omega
theorem putD_len (fl : Int) (L : List Prt) (p : Prt) : (putD fl L p).L.length ≤ L.length + 1 := by
  have h := laterD_len fl L p
  unfold putD
  generalize laterD fl L p = l2 at h ⊢
  generalize eD fl L p = E0
  generalize partsD l2 p.id = l3
  generalize (roomD fl L p).1 = f1
  split
  · exact Nat.le_succ L.length
  · split
    · exact h
    · exact Nat.le_trans (raiseD_len _ _) h

theorem waits_nil (w : World) : Calls Try.prog 12 #[.pointer none] w fun e w' => e = .returned (.slice none 0 0) ∧ w = w' := by
  go_enter Try.func12, Try.ntmps12
  go_wp2_with (go_at_call 28; refine (isNone_nil _).mono ?_; rintro e w' ⟨rfl, rfl⟩)
  go_ret
  exact ⟨rfl, rfl⟩
theorem waits_zero (t : Nat) (w : World) (hc : w.cell? ⟨t, 0, none⟩ = some (.int .u64 0)) : Calls Try.prog 12 #[.pointer (some ⟨t, 0, none⟩)] w fun e w' => e = .returned (.slice none 0 0) ∧ w = w' := by
  have HN := Lib.hid (isNone_zero t w hc)
  clear hc
  go_enter Try.func12, Try.ntmps12
  go_wp2_with (go_at_call 28; refine HN.out.mono ?_; rintro e w' ⟨rfl, rfl⟩)
  go_ret
  exact ⟨rfl, rfl⟩
theorem put_nil (w : World) : Calls Try.prog 9 #[.pointer none, PV 1 0 1 none 0 0] w fun e w' => e = .returned (.tuple #[.slice none 0 0, .bool false, .int .i64 6]) ∧ Below w.heap.size w w' :=
  put_bad none 1 0 1 none 0 0 6 (by decide) w (fun W _ _ => refusal_nil 1 0 1 none 0 0 W)
theorem put_zero (t : Nat) (w : World) (ht : t < w.heap.size) (hc : w.cell? ⟨t, 0, none⟩ = some (.int .u64 0)) : Calls Try.prog 9 #[.pointer (some ⟨t, 0, none⟩), PV 1 0 1 none 0 0] w fun e w' => e = .returned (.tuple #[.slice none 0 0, .bool false, .int .i64 6]) ∧ Below w.heap.size w w' :=
  put_bad (some ⟨t, 0, none⟩) 1 0 1 none 0 0 6 (by decide) w (fun W hb _ => refusal_zero t 1 0 1 none 0 0 W (Nat.lt_of_lt_of_le ht hb.size) ((hb.cell (p := ⟨t, 0, none⟩) ht).trans hc))

/-- What JoinLives holds from round to round. -/
structure LK (w : World) (t x i : Nat) (T : TV) (L : List Prt) (W : World) : Prop where
  tab : TabAt W w.heap.size t T
  good : GoodT T
  rt : RT W w.heap.size x T.fl L
  tied : Tied T L
  len : L.length ≤ i
  below : Below w.heap.size w W
theorem LK.keep {w : World} {t x i : Nat} {T : TV} {L : List Prt} {W W' : World} (h : LK w t x i T L W) (hb : Below W.heap.size W W') : LK w t x i T L W' := ⟨h.tab.keep hb, h.good, h.rt.keep hb, h.tied, h.len, h.below.trans (hb.mono h.below.size)⟩
theorem LK.waits {w : World} {t x i : Nat} {T : TV} {L : List Prt} {W : World} (h : LK w t x i T L W) : waitsD L = ids T := h.tied.waits h.good h.tab.sorted
theorem LK.miss {w : World} {t x i : Nat} {T : TV} {L : List Prt} {W : World} (h : LK w t x i T L W) (id : Int) : missD L id = (missO (getF T.fs id) : Nat) := h.tied.miss h.good (fun f hf => (h.tab.frames f hf).ct1) id
/-- What the two Puts leave. -/
theorem LK.put {w : World} {t x i : Nat} {T T' : TV} {L : List Prt} {W W2 W4 : World} {p : Prt} {b : Bool} {E : Int} {d : List Int} (h : LK w t x i T L W) (hS : PutS T p T' b E d) (hT : TabAt W2 w.heap.size t T') (hG : GoodT T') (hb2 : Below w.heap.size W W2) (hb4 : Below w.heap.size W2 W4) (hs4 : StaysD W2 W4) (hR : RT W4 w.heap.size x (putD T.fl L p).fl (putD T.fl L p).L) :
    (putD T.fl L p).b = b ∧ (putD T.fl L p).E = E ∧ (putD T.fl L p).d = d ∧ ∃ L', LK w t x (i + 1) T' L' W4 := by
  obtain ⟨h1, h2, h3, h4, h5⟩ := put_same h.tied h.good (fun y hy => (h.tab.frames y hy).n64) (fun f hf => (h.tab.frames f hf).ct1) h.tab.sorted h.tab.few hS
  refine ⟨h3, h4, h5, _, hT.staysD hs4, hG, ?_, h2, Nat.le_trans (putD_len _ _ _) (by have := h.len; omega), (h.below.trans hb2).trans hb4⟩
  rw [← h1]; exact hR
end Go.Proofs.Ytikijkhblfgbpaa
