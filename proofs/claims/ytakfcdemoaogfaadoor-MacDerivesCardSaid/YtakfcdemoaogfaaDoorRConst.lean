/-
  Proved here: the document's own 'Constants' answers the 64 constants and the state of nothing (each root is reckoned by the kernel), in memory of its own.
-/
import Derived.Test.YtakfcdemoaogfaaDoorRRoot
import Derived.Test.YtakfcdemoaogfaaDoorSHold
namespace Go.Proofs.YtakfcdemoaogfaaDoor
open Go.RowKit
/-- What there is behind the numbers 2, 3 and so on: n of them. -/
def consS : Nat → List Nat × List Nat
  | 0 => ([], [])
  | n + 1 => if primeS (n + 2) then ((consS n).1 ++ [rootS (n + 2) true], if (consS n).2.length < 8 then (consS n).2 ++ [rootS (n + 2) false] else (consS n).2) else consS n
/-- How many primes. -/
def cntS : Nat → Nat
  | 0 => 0
  | n + 1 => if primeS (n + 2) then cntS n + 1 else cntS n
theorem cnt_len : ∀ n, (consS n).1.length = cntS n
  | 0 => rfl
  | n + 1 => by
    rw [consS, cntS]
    split <;> simp [cnt_len n]
theorem cnt_mono : ∀ n k, cntS n ≤ cntS (n + k)
  | n, 0 => Nat.le_refl _
  | n, k + 1 => by
    have := cnt_mono n k
    rw [← Nat.add_assoc, cntS]
    split <;> omega
theorem cnt_309 : cntS 309 = 63 := by decide +kernel
theorem cnt_310 : cntS 310 = 64 := by decide +kernel
theorem cons_310 : consS 310 = (kk, iv.list) := by decide +kernel
theorem cons_few (n : Nat) (h : n ≤ 309) : (consS n).1.length < 64 := by
  rw [cnt_len]
  have := cnt_mono n (309 - n)
  rw [show n + (309 - n) = 309 by omega, cnt_309] at this
  omega
theorem cons_le (n : Nat) : (consS n).2.length ≤ 8 := by
  induction n with
  | zero => simp [consS]
  | succ n ih =>
    rw [consS]
    split
    · split
      · simp; omega
      · exact ih
    · exact ih
theorem infoU32 : (Tryd.prog.info? 33).map (fun i => (i.zero, i.size, i.bytes)) = some (some (.int .u32 0), 1, 4) := by kernel_rfl
theorem V32_append (a b : List Nat) : V32 (a ++ b) = V32 a ++ V32 b := by simp [V32]
/-- Both rows, while they are made. -/
structure CK (w : World) (ks ss : List Nat) (vk vs : Value) (W : World) : Prop where
  k : W.ownsRow w.heap.size 33 1 vk ks.length (V32 ks)
  s : W.ownsRow w.heap.size 33 1 vs ss.length (V32 ss)
  apart : ∀ a b, vk.ownBlock = some a → vs.ownBlock = some b → a ≠ b
  below : Below w.heap.size w W
theorem CK.to {w : World} {ks ss : List Nat} {vk vs : Value} {W W' : World} (h : CK w ks ss vk vs W) (hb : Below W.heap.size W W') : CK w ks ss vk vs W' :=
  ⟨own_below' h.k hb, own_below' h.s hb, h.apart, h.below.trans (hb.mono h.below.size)⟩
theorem CK.swap {w : World} {ks ss : List Nat} {vk vs : Value} {W : World} (h : CK w ks ss vk vs W) : CK w ss ks vs vk W :=
  ⟨h.s, h.k, fun a b ha hb => (h.apart b a hb ha).symm, h.below⟩
theorem CK.next {w : World} {ks ss : List Nat} {vk vs : Value} {W W1 : World} {o : Obj} {g cap x : Nat} (h : CK w ks ss vk vs W)
    (hown : W1.ownsRow w.heap.size 33 1 (.slice (some ⟨g, 0, none⟩) (ks.length + 1) cap) (ks.length + 1) (V32 ks ++ [.int .u32 (x : Int)])) (hgrow : (W.alloc o).grownBy W1 vk.ownBlock) (hat : vk.ownBlock = some g ∨ g = W.heap.size + 1) :
    CK w (ks ++ [x]) ss (.slice (some ⟨g, 0, none⟩) (ks.length + 1) cap) vs W1 := by
  refine ⟨by rw [List.length_append, V32_append]; exact hown, (h.s.alloc o).kept hgrow ?_, fun a b ha hb => ?_, (h.below.alloc h.below.size o).grown hgrow (by have := h.below.size; simp; omega) (own_le h.k)⟩
  · cases hb : vs.ownBlock with
    | none => exact .inl rfl
    | some b =>
      refine .inr fun e => ?_
      exact h.apart b b e.symm hb rfl
  · obtain rfl : g = a := by simpa [Value.ownBlock] using ha
    rcases hat with e | e
    · exact h.apart g b e hb
    · have := (h.s.lt b hb).2
      omega
def ConsPost (w : World) (e : Ending) (w' : World) : Prop :=
  ∃ A B ca cb, e = .returned (.tuple #[.slice A 64 ca, .slice B 8 cb]) ∧ RN .u32 w' A kk ∧ RN .u32 w' B iv.list ∧ Below w.heap.size w w'
set_option maxRecDepth 100000 in
set_option maxHeartbeats 2000000 in
theorem constants_any (w : World) : Calls Tryd.prog 28 #[] w (ConsPost w) := by
  obtain ⟨i0, hi, hz0, hz1, hz2⟩ := info_parts infoU32
  go_enter Tryd.func28, Tryd.ntmps28
  go_wp2
  go_loopw [2, 3, 4] (fun vk vs p wr => ∃ q : Nat, 2 ≤ q ∧ q ≤ 312 ∧ p = .int .u64 (q : Int) ∧ Hid (CK w (consS (q - 2)).1 (consS (q - 2)).2 vk vs wr)) (fun _ _ p _ => 312 - (intOf p).toNat)
  case atStart => exact ⟨2, by omega, by omega, rfl, Lib.hid ⟨World.ownsRow_nil _ _ _ _, World.ownsRow_nil _ _ _ _, fun a b h => by simp [Value.ownBlock] at h, Below.refl _ _⟩⟩
  case round =>
    obtain ⟨q, hq2, hq, rfl, HK⟩ := hrel
    obtain ⟨n, rfl⟩ : ∃ n, q = n + 2 := ⟨q - 2, by omega⟩
    rw [Nat.add_sub_cancel] at HK
    obtain ⟨Ak, ck, rfl, k1, k2, k3⟩ := own_rn HK.out.k
    obtain ⟨As, cs, rfl, s1, s2, s3⟩ := own_rn HK.out.s
    by_cases hn : n < 310
    · have hks := cons_few n (by omega)
      have hss := cons_le n
      have hstep : consS (n + 1) = if primeS (n + 2) then ((consS n).1 ++ [rootS (n + 2) true], if (consS n).2.length < 8 then (consS n).2 ++ [rootS (n + 2) false] else (consS n).2) else consS n := rfl
      have HP := Lib.hid (prime_any (n + 2) wr (by omega))
      have HR := Lib.hid (fun b W => root_any (n + 2) b W (by omega))
      obtain ⟨q, hqn⟩ : ∃ q, n + 2 = q := ⟨_, rfl⟩
      have hq1 : q < 312 := by omega
      rw [hqn] at HP HR hstep ⊢
      obtain ⟨st, hst⟩ : ∃ st, consS n = st := ⟨_, rfl⟩
      rw [hst] at HK hstep hks hss ⊢
      obtain ⟨x, hx⟩ : ∃ x, rootS q true = x := ⟨_, rfl⟩
      obtain ⟨y, hy⟩ : ∃ y, rootS q false = y := ⟨_, rfl⟩
      have HRT := Lib.hid (HR.out true)
      have HRF := Lib.hid (HR.out false)
      rw [hx] at HRT hstep
      rw [hy] at HRF hstep
      have HQ := Lib.hid hqn
      have hr1 : (q : Int) + 1 = ((q + 1 : Nat) : Int) := by omega
      clear k1 k2 k3 s1 s2 s3 HR hqn hst hx hy hr1
      cases hp : primeS q with
      | false =>
        rw [hp, if_neg (by simp)] at hstep
        rw [hp] at HP
        have HS := Lib.hid hstep
        clear hstep hp
        go_wp2_with fail
        refine HP.out.mono ?_
        rintro e w' ⟨rfl, rfl⟩
        go_wp2
        go_roundw
        case rel => exact ⟨q + 1, by have := HQ.out; omega, by omega, by go_num, by rw [show q + 1 - 2 = n + 1 by have := HQ.out; omega, HS.out]; exact HK⟩
        case measure => simp [intOf]; omega
      | true =>
        rw [hp, if_pos rfl] at hstep
        rw [hp] at HP
        have hbs : w.heap.size ≤ wr.heap.size := HK.out.below.size
        clear hp
        go_wp2_with fail
        refine HP.out.mono ?_
        rintro e w' ⟨rfl, rfl⟩
        go_wp2_with fail
        refine (HRT.out _).mono ?_
        rintro e w2 ⟨rfl, hb⟩
        have HK2 := Lib.hid (HK.out.to hb)
        have hbs : w.heap.size ≤ w2.heap.size := HK2.out.below.size
        clear hb HK HRT HP
        by_cases h8 : st.2.length < 8
        · rw [if_pos h8] at hstep
          have HS := Lib.hid hstep
          clear hstep
          go_wp2_with (at_builtin; refine wpList_append_lies _ rfl _ _ 61 rfl w.heap.size 33 i0 (.int .u32 0) 1 4 Tryd.underlying61 hi hz0 hz1 hz2 rfl (by decide) _ _ _ rfl (HK2.out.k.alloc _) ⟨w2.heap.size, 0, none⟩ 1 1 [.int .u32 (x : Nat)] rfl rfl ?c1 ?c2 (by decide) ?c3 ?c4 ?c5 (w2.heap.size + 1) (by simp) ?_)
          case c1 =>
            intro q u hq
            match q, hq with
            | 0, hq => simp at hq; subst hq; simp [Addr.add]
          case c2 => intro u hu; simp at hu; subst hu; rfl
          case c3 => unfold maxLen; omega
          case c4 => omega
          case c5 => have := hbs; simp; omega
          · intro g cap w3 hown hgrow hat _
            have HK3 := Lib.hid (HK2.out.next hown hgrow hat)
            clear hown hgrow hat HK2 hbs
            go_wp2_with fail
            refine (HRF.out _).mono ?_
            rintro e w4 ⟨rfl, hb⟩
            have HK4 := Lib.hid (HK3.out.to hb).swap
            have hbs : w.heap.size ≤ w4.heap.size := HK4.out.below.size
            clear hb HK3 HRF
            go_wp2_with (at_builtin; refine wpList_append_lies _ rfl _ _ 61 rfl w.heap.size 33 i0 (.int .u32 0) 1 4 Tryd.underlying61 hi hz0 hz1 hz2 rfl (by decide) _ _ _ rfl (HK4.out.k.alloc _) ⟨w4.heap.size, 0, none⟩ 1 1 [.int .u32 (y : Nat)] rfl rfl ?c1 ?c2 (by decide) ?c3 ?c4 ?c5 (w4.heap.size + 1) (by simp) ?_)
            case c1 =>
              intro q u hq
              match q, hq with
              | 0, hq => simp at hq; subst hq; simp [Addr.add]
            case c2 => intro u hu; simp at hu; subst hu; rfl
            case c3 => unfold maxLen; omega
            case c4 => omega
            case c5 => have := hbs; simp; omega
            · intro g2 cap2 w5 hown hgrow hat _
              have HK5 := Lib.hid (HK4.out.next hown hgrow hat).swap
              clear hown hgrow hat HK4
              go_wp2
              go_roundw
              case rel => exact ⟨q + 1, by have := HQ.out; omega, by omega, by go_num, by rw [show q + 1 - 2 = n + 1 by have := HQ.out; omega, HS.out]; exact HK5⟩
              case measure => simp [intOf]; omega
        · rw [if_neg h8] at hstep
          have HS := Lib.hid hstep
          clear hstep
          go_wp2_with (at_builtin; refine wpList_append_lies _ rfl _ _ 61 rfl w.heap.size 33 i0 (.int .u32 0) 1 4 Tryd.underlying61 hi hz0 hz1 hz2 rfl (by decide) _ _ _ rfl (HK2.out.k.alloc _) ⟨w2.heap.size, 0, none⟩ 1 1 [.int .u32 (x : Nat)] rfl rfl ?c1 ?c2 (by decide) ?c3 ?c4 ?c5 (w2.heap.size + 1) (by simp) ?_)
          case c1 =>
            intro q u hq
            match q, hq with
            | 0, hq => simp at hq; subst hq; simp [Addr.add]
          case c2 => intro u hu; simp at hu; subst hu; rfl
          case c3 => unfold maxLen; omega
          case c4 => omega
          case c5 => have := hbs; simp; omega
          · intro g cap w3 hown hgrow hat _
            have HK3 := Lib.hid (HK2.out.next hown hgrow hat)
            clear hown hgrow hat HK2
            go_wp2
            go_roundw
            case rel => exact ⟨q + 1, by have := HQ.out; omega, by omega, by go_num, by rw [show q + 1 - 2 = n + 1 by have := HQ.out; omega, HS.out]; exact HK3⟩
            case measure => simp [intOf]; omega
    · obtain rfl : n = 310 := by omega
      rw [cons_310] at k1 s1 k2 s2 HK ⊢
      have hlk : kk.length = 64 := rfl
      have hls : iv.list.length = 8 := rfl
      rw [hlk, hls]
      have HE : Hid (ConsPost w (.returned (.tuple #[.slice Ak 64 ck, .slice As 8 cs])) wr) := Lib.hid ⟨Ak, As, ck, cs, rfl, k1, s1, HK.out.below⟩
      clear k1 k2 k3 s1 s2 s3 HK hlk hls
      go_wp2
      go_ret2
      exact HE.out
end Go.Proofs.YtakfcdemoaogfaaDoor
