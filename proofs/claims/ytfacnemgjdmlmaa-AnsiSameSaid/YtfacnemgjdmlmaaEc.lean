/-
  Proved here: of the program's parser: end.
-/
import Derived.Test.YtfacnemgjdmlmaaEb
set_option linter.unusedSimpArgs false
set_option linter.unusedVariables false
namespace Go.Proofs.Ytfacnemgjdmlmaa
open Go.RowKit
theorem own_keep {w w' : World} {B e size n : Nat} {v : Value} {xs : List Value} (h : w.ownsRow B e size v n xs) (hk : ∀ k, v.ownBlock = some k → w'.heap[k]? = w.heap[k]?) : w'.ownsRow B e size v n xs := by
  refine ⟨h.1, ?_⟩
  rcases h.2 with h0 | ⟨g, cap, cur, rfl, h1, h2, h3⟩
  · exact .inl h0
  · exact .inr ⟨g, cap, cur, rfl, h1, (hk g rfl).trans h2, h3⟩
theorem own_lt {w : World} {B e size n : Nat} {v : Value} {xs : List Value} (h : w.ownsRow B e size v n xs) {k : Nat} (hk : v.ownBlock = some k) : k < w.heap.size := by
  rcases h.2 with ⟨rfl, _⟩ | ⟨g, cap, cur, rfl, _, h2, _⟩
  · simp [Value.ownBlock] at hk
  · simp only [Value.ownBlock, Option.some.injEq] at hk
    subst hk
    exact lt_of_block h2
theorem info_evP (e : Ev) (pv : Value) : (Try.prog.info? 40).map (·.size) = some (evL e pv).toArray.size := by
  rw [show (evL e pv).toArray.size = 7 from rfl]; kernel_rfl
theorem evL_Z : (evL evZ (.slice none 0 0)).toArray = #[.int .i64 0, .int .i32 0, .int .u8 0, .int .u8 0, .int .u8 0, .slice none 0 0, .string ⟨#[]⟩] := by kernel_rfl
theorem info_evZ : (Try.prog.info? 40).map (·.size) = some (#[.int .i64 0, .int .i32 0, .int .u8 0, .int .u8 0, .int .u8 0, .slice none 0 0, .string ⟨#[]⟩] : Array Value).size := by kernel_rfl
theorem ev_one : (#[.int .i64 0, .int .i32 0, .int .u8 0, .int .u8 0, .int .u8 0, .slice none 0 0, .string ⟨#[]⟩] : Array Value).all (·.oneCell') = true := by simp [Value.oneCell']
/-- What stands when the parser began anew and the answer is laid. -/
theorem tpost_begin {B g : Nat} {vp vt : Value} {s : PP} {w U : World} (h : Qs B g vp vt s w) (hb : Below w.heap.size w U) (pl : Int) (ev : Option Ev) (pv : Value) (r : Nat) (hr : w.heap.size ≤ r) (hrb : r < U.heap.size)
    (hown : w.ownsRow B 3 1 pv (ev.getD evZ).params.length (NV .i64 (ev.getD evZ).params)) (hsub : SubO pv vp w) (cs : Array Value) :
    TPost B g vp vt w (beginP pl, ev) (.returned (.tuple #[.agg (evL (ev.getD evZ) pv).toArray, .bool ev.isSome])) ((U.setRow g (qC (beginP pl) (.slice none 0 0) (.slice none 0 0))).setRow r cs) := by
  have hq := (h.below hb).begin pl
  have hgr : g ≠ r := by have := h.lt; omega
  have hfr : Fr2 g vp vt w (U.setRow g (qC (beginP pl) (.slice none 0 0) (.slice none 0 0))) := (Fr2.of_below hb).setRow _
  have hbs : Below w.heap.size (U.setRow g (qC (beginP pl) (.slice none 0 0) (.slice none 0 0))) ((U.setRow g (qC (beginP pl) (.slice none 0 0) (.slice none 0 0))).setRow r cs) := below_setRow (Below.refl _ _) hr cs
  refine ⟨.slice none 0 0, .slice none 0 0, pv, rfl, ⟨(setRow_other _ _ _ _ hgr).trans hq.blk, World.ownsRow_nil _ _ _ _, World.ownsRow_nil _ _ _ _, h.low, by have := hq.big; simpa using this⟩, hfr.more hbs, SubO.nil _ _, SubO.nil _ _, own_keep hown (fun k hk => ?_), hsub, ?_⟩
  · have h1 := ownBlock_le hown k hk
    have h2 := own_lt hown hk
    have := h.low
    exact (setRow_other _ _ _ _ (by omega)).trans ((setRow_other _ _ _ _ (by omega)).trans (hb.block k h2))
  · by_cases hk : pv.ownBlock = none
    · exact .inl hk
    · exact .inr (by intro e; rw [e] at hk; exact hk rfl)
set_option maxRecDepth 100000 in
set_option maxHeartbeats 2000000 in
theorem p_end {B g : Nat} {vp vt : Value} {s : PP} {w : World} (h : Qs B g vp vt s w) (e : Ev) (pv : Value) (hown : w.ownsRow B 3 1 pv e.params.length (NV .i64 e.params)) (hsub : SubO pv vp w) :
    Calls Try.prog 32 #[.pointer (some ⟨g, 0, none⟩), .agg (evL e pv).toArray] w (TPost B g vp vt w (beginP 0, if s.sp = true then none else some e)) := by
  have hlt := h.lt
  obtain ⟨A, c, rfl, _⟩ := own_slice hown
  have hev : ∃ k p a b f S, (evL e (.slice A e.params.length c)).toArray = #[.int .i64 k, .int .i32 p, .int .u8 a, .int .u8 b, .int .u8 f, .slice A e.params.length c, .string S] := ⟨_, _, _, _, _, _, rfl⟩
  obtain ⟨k, p, a, b, f, S, hev⟩ := hev
  have hbU : Below w.heap.size w ((w.alloc (.cells (evL e (.slice A e.params.length c)).toArray 40)).alloc (.cells #[.int .i64 0, .int .i32 0, .int .u8 0, .int .u8 0, .int .u8 0, .slice none 0 0, .string ⟨#[]⟩] 40)) := ((Below.refl _ _).alloc (Nat.le_refl _) _).alloc (by simp) _
  have hszU : w.heap.size + 1 < ((w.alloc (.cells (evL e (.slice A e.params.length c)).toArray 40)).alloc (.cells #[.int .i64 0, .int .i32 0, .int .u8 0, .int .u8 0, .int .u8 0, .slice none 0 0, .string ⟨#[]⟩] 40)).heap.size := by simp
  have HTN := Lib.hid (fun cs => tpost_begin h hbU 0 none (.slice none 0 0) (w.heap.size + 1) (by omega) hszU (World.ownsRow_nil _ _ _ _) (SubO.nil _ _) cs)
  have HTS := Lib.hid (fun cs => tpost_begin h hbU 0 (some e) (.slice A e.params.length c) (w.heap.size + 1) (by omega) hszU hown hsub cs)
  have HQU := Lib.hid (h.below hbU)
  have HRB := Lib.hid ((heap_alloc_old (w.alloc (.cells (evL e (.slice A e.params.length c)).toArray 40)) (.cells #[.int .i64 0, .int .i32 0, .int .u8 0, .int .u8 0, .int .u8 0, .slice none 0 0, .string ⟨#[]⟩] 40) (by simp)).trans (heap_alloc_new w (.cells (evL e (.slice A e.params.length c)).toArray 40)))
  have HRR := Lib.hid (heap_alloc2_new w (.cells (evL e (.slice A e.params.length c)).toArray 40) (.cells #[.int .i64 0, .int .i32 0, .int .u8 0, .int .u8 0, .int .u8 0, .slice none 0 0, .string ⟨#[]⟩] 40))
  have HIS := Lib.hid (info_evP e (.slice A e.params.length c))
  have HIE : Hid ((evL e (.slice A e.params.length c)).toArray.all (·.oneCell') = true) := Lib.hid evL_one
  have HEV := Lib.hid (fun (_ : Unit) => hev)
  have HGW := Lib.hid hlt
  dsimp only [Option.getD_none, Option.getD_some, Option.isSome_none, Option.isSome_some] at HTN HTS
  obtain ⟨sp, hsp⟩ : ∃ b, s.sp = b := ⟨_, rfl⟩
  obtain ⟨k0, k1, k2, k3, k4, k5, k6, k7⟩ := h.cells
  rw [hev] at HTN HTS HQU HRB HRR HIS HIE ⊢
  rw [hsp] at k2 ⊢
  clear hev hbU hszU h hown hsub hsp
  cases sp
  · rw [if_neg (by decide)]
    go_enter Try.func32, Try.ntmps32
    go_wp2_with fail
    generalize ((w.alloc (.cells #[.int .i64 k, .int .i32 p, .int .u8 a, .int .u8 b, .int .u8 f, .slice A e.params.length c, .string S] 40)).alloc (.cells #[.int .i64 0, .int .i32 0, .int .u8 0, .int .u8 0, .int .u8 0, .slice none 0 0, .string ⟨#[]⟩] 40)) = U at HTS HQU HRB HRR ⊢
    refine (p_begin HQU.out 0).mono ?_
    rintro x w1 ⟨rfl, rfl⟩
    have hb3 : (U.setRow g (qC (beginP 0) (.slice none 0 0) (.slice none 0 0))).heap[w.heap.size]? = _ := (setRow_other U g w.heap.size _ (by have := HGW.out; omega)).trans HRB.out
    have hb4 : (U.setRow g (qC (beginP 0) (.slice none 0 0) (.slice none 0 0))).heap[w.heap.size + 1]? = _ := (setRow_other U g (w.heap.size + 1) _ (by have := HGW.out; omega)).trans HRR.out
    have HB3 := Lib.hid hb3
    have HB4 := Lib.hid hb4
    clear hb3 hb4 k0 k1 k2 k3 k4 k5 k6 k7
    generalize (U.setRow g (qC (beginP 0) (.slice none 0 0) (.slice none 0 0))) = V at HTS HB3 HB4 ⊢
    go_wp2_with (first | refine wpList_load_row rfl 40 _ rfl w.heap.size rfl 40 _ (0, 0) _ HB3.out Try.underlying40 rfl HIS.out ?_ | refine wpList_store_row rfl 40 _ _ rfl (w.heap.size + 1) _ rfl rfl 40 _ HB4.out HIS.out rfl HIE.out ?_)
    exact bodyPost_ret (results_cell_tmp Try.results32 _ _ (w.heap.size + 1) 40 _ (0, 0) _ (.bool true) rfl rfl (setRow_heap _ _ _ _ _ _ HB4.out) Try.underlying40 rfl HIS.out) rfl (HTS.out _)
  · rw [if_pos rfl]
    go_enter Try.func32, Try.ntmps32
    go_wp2_with fail
    generalize ((w.alloc (.cells #[.int .i64 k, .int .i32 p, .int .u8 a, .int .u8 b, .int .u8 f, .slice A e.params.length c, .string S] 40)).alloc (.cells #[.int .i64 0, .int .i32 0, .int .u8 0, .int .u8 0, .int .u8 0, .slice none 0 0, .string ⟨#[]⟩] 40)) = U at HTN HQU HRB HRR ⊢
    refine (p_begin HQU.out 0).mono ?_
    rintro x w1 ⟨rfl, rfl⟩
    have hb3 : (U.setRow g (qC (beginP 0) (.slice none 0 0) (.slice none 0 0))).heap[w.heap.size]? = _ := (setRow_other U g w.heap.size _ (by have := HGW.out; omega)).trans HRB.out
    have hb4 : (U.setRow g (qC (beginP 0) (.slice none 0 0) (.slice none 0 0))).heap[w.heap.size + 1]? = _ := (setRow_other U g (w.heap.size + 1) _ (by have := HGW.out; omega)).trans HRR.out
    have HB3 := Lib.hid hb3
    have HB4 := Lib.hid hb4
    clear hb3 hb4 k0 k1 k2 k3 k4 k5 k6 k7
    generalize (U.setRow g (qC (beginP 0) (.slice none 0 0) (.slice none 0 0))) = V at HTN HB3 HB4 ⊢
    have HIZ := info_evZ
    have HIO := ev_one
    go_wp2_with (first | refine wpList_store_row rfl 40 _ _ rfl (w.heap.size + 1) #[.int .i64 0, .int .i32 0, .int .u8 0, .int .u8 0, .int .u8 0, .slice none 0 0, .string ⟨#[]⟩] rfl rfl 40 _ HB4.out HIZ rfl HIO ?_)
    exact bodyPost_ret (results_cell_tmp Try.results32 _ _ (w.heap.size + 1) 40 _ (0, 0) _ (.bool false) rfl rfl (setRow_heap _ _ _ _ _ _ HB4.out) Try.underlying40 rfl HIZ) rfl (by have h := HTN.out #[.int .i64 0, .int .i32 0, .int .u8 0, .int .u8 0, .int .u8 0, .slice none 0 0, .string ⟨#[]⟩]; rw [evL_Z] at h; exact h)
end Go.Proofs.Ytfacnemgjdmlmaa
