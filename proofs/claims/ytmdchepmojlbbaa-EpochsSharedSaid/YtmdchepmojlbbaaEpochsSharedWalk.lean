/-
  The walk of the law EpochsShared.
-/
import Derived.Test.YtmdchepmojlbbaaRows
import Derived.Test.YtmdchepmojlbbaaEWorks
import Derived.Test.YtmdchepmojlbbaaEArr
namespace Go.Proofs.Ytmdchepmojlbbaa.epochsSharedW
open Go.RowKit
/-- Two lists of one length, of which so many hold that they meet. -/
theorem meet (p q : Int → Bool) : ∀ (l l' : List Int), l.length = l'.length → l.length < l.countP p + l'.countP q → ∃ i, i < l.length ∧ p (l.getD i 0) = true ∧ q (l'.getD i 0) = true
  | [], [], _, h => by simp at h
  | [], _ :: _, h, _ => by simp at h
  | _ :: _, [], h, _ => by simp at h
  | x :: l, y :: l', h, h2 => by
    by_cases hx : p x = true ∧ q y = true
    · exact ⟨0, by simp, hx.1, hx.2⟩
    · simp only [List.countP_cons, List.length_cons] at h2 h
      have h3 : (if p x = true then 1 else 0) + (if q y = true then 1 else 0) ≤ 1 := by
        by_cases h4 : p x = true
        · have : ¬ q y = true := fun e => hx ⟨h4, e⟩
          simp [h4, this]
        · simp [h4]; split <;> omega
      obtain ⟨i, hi, h4, h5⟩ := meet p q l l' (by omega) (by omega)
      exact ⟨i + 1, by simpa using hi, by simpa using h4, by simpa using h5⟩
theorem both {l l' : List Int} {n : Int} (h1 : 2 ≤ n) (h2 : n ≤ 7) (hl : (l.length : Int) = n) (hl' : (l'.length : Int) = n) :
    ∃ m m', mostV l n = .tuple #[.int .i64 m, .bool true] ∧ mostV l' n = .tuple #[.int .i64 m', .bool true] ∧ ∃ i, i < l.length ∧ m ≤ l.getD i 0 ∧ m' ≤ l'.getD i 0 := by
  have a1 := Epo.place_at (l := l) (k := (n / 2 + 1).toNat) (by omega) (by omega)
  have a2 := Epo.place_at (l := l') (k := (n / 2 + 1).toNat) (by omega) (by omega)
  have e1 := Epo.most_is (l := l) h1 h2 (by omega) (by omega) a1
  have e2 := Epo.most_is (l := l') h1 h2 (by omega) (by omega) a2
  have c1 := a1.many
  have c2 := a2.many
  generalize Epo.place l (n / 2 + 1).toNat = m at *
  generalize Epo.place l' (n / 2 + 1).toNat = m' at *
  obtain ⟨i, hi, h3, h4⟩ := meet (fun x => decide (m ≤ x)) (fun x => decide (m' ≤ x)) l l' (by omega) (by omega)
  exact ⟨m, m', by unfold mostV; rw [e1], by unfold mostV; rw [e2], i, hi, by simpa using h3, by simpa using h4⟩
def arr (x0 x1 x2 x3 x4 x5 x6 : Int) : Value := .agg #[.int .i64 x0, .int .i64 x1, .int .i64 x2, .int .i64 x3, .int .i64 x4, .int .i64 x5, .int .i64 x6]
theorem ints7 {w : World} {B N : Nat} {t : TypeId} (L : List Int) (hL : L.length = 7) (hN : N ≤ 7) (h : w.heap[B]? = some (.cells (L.map (Value.int .i64)).toArray t (0, 0))) : Ints w (.slice (some ⟨B, 0, none⟩) N 7) (L.take N) := by
  have hl : (L.take N).length = N := by rw [List.length_take]; omega
  refine ⟨_, 7, by rw [hl], by omega, by decide, fun e => (by cases e), fun _ => ⟨B, 0, rfl, (Array.getElem?_eq_some_iff.1 h).1, fun j hj => ?_⟩⟩
  have hj' : j < L.length := by omega
  have e : (L.take N).getD j 0 = L.getD j 0 := by
    simp only [List.getD]
    rw [List.getElem?_take_of_lt (by omega)]
  rw [e]
  simp only [World.cell?, h, Nat.zero_add]
  simp [hj', List.getD]
theorem len7 : Try.prog.arrayLen 39 = 7 := by kernel_rfl
theorem elem7 : Try.prog.elem 39 = 3 := by kernel_rfl
theorem cut7 (N : Nat) (h : N ≤ 7) (w : World) (b : Nat) : (Instr.sliceAt 39 (.pointer (some ⟨b, 0, none⟩)) none (some (.int .i64 (N : Int))) none).run Try.prog w = .ok (.slice (some ⟨b, 0, none⟩) N 7) w := by
  rw [run_sliceAt_array_h (P := Try.prog) w 39 ⟨b, 0, none⟩ (by kernel_rfl) .i64 (N : Int) (by omega) (by rw [len7]; omega), elem7, Try.sizeOf3]
  simp [Result.andThen, slicedAt, len7, Addr.add]
set_option maxRecDepth 100000 in
set_option maxHeartbeats 2000000 in
theorem walk (x0 x1 x2 x3 x4 x5 x6 y0 y1 y2 y3 y4 y5 y6 n : Int) (W : World) (_ : (Lit.int .i64 n).wf = true) :
    Calls Try.prog 8 #[.agg #[.int .i64 x0, .int .i64 x1, .int .i64 x2, .int .i64 x3, .int .i64 x4, .int .i64 x5, .int .i64 x6], .agg #[.int .i64 y0, .int .i64 y1, .int .i64 y2, .int .i64 y3, .int .i64 y4, .int .i64 y5, .int .i64 y6], .int .i64 n] W fun x W' => x = .returned (.bool true) ∧ Below W.heap.size W W' := by
  by_cases h1 : 2 ≤ n
  · by_cases h2 : n ≤ 7
    · obtain ⟨N, rfl⟩ : ∃ N : Nat, n = (N : Int) := ⟨n.toNat, by omega⟩
      have hcut := cut7 N (by omega)
      go_enter Try.func8, Try.ntmps8
      go_wp2_with fail
      obtain ⟨w2, hw2⟩ : ∃ w2, (W.alloc (.cells #[.int .i64 x0, .int .i64 x1, .int .i64 x2, .int .i64 x3, .int .i64 x4, .int .i64 x5, .int .i64 x6] 39)).alloc (.cells #[.int .i64 y0, .int .i64 y1, .int .i64 y2, .int .i64 y3, .int .i64 y4, .int .i64 y5, .int .i64 y6] 39) = w2 := ⟨_, rfl⟩
      rw [hw2]
      have hb2 : Below W.heap.size W w2 := by rw [← hw2]; exact ((Below.refl _ W).alloc (Nat.le_refl _) _).alloc (by simp) _
      have I1 := Lib.hid (show Ints w2 (.slice (some ⟨W.heap.size, 0, none⟩) N 7) ([x0, x1, x2, x3, x4, x5, x6].take N) from ints7 (t := 39) [x0, x1, x2, x3, x4, x5, x6] rfl (by omega) (by rw [← hw2]; exact (Below.heap_alloc _ _ _ (by simp)).trans (World.alloc_heap_new W _)))
      have I2 := Lib.hid (show Ints w2 (.slice (some ⟨W.heap.size + 1, 0, none⟩) N 7) ([y0, y1, y2, y3, y4, y5, y6].take N) from ints7 (t := 39) [y0, y1, y2, y3, y4, y5, y6] rfl (by omega) (by rw [← hw2]; have := World.alloc_heap_new (W.alloc (.cells #[.int .i64 x0, .int .i64 x1, .int .i64 x2, .int .i64 x3, .int .i64 x4, .int .i64 x5, .int .i64 x6] 39)) (.cells #[.int .i64 y0, .int .i64 y1, .int .i64 y2, .int .i64 y3, .int .i64 y4, .int .i64 y5, .int .i64 y6] 39); rwa [World.size_alloc] at this))
      have hl1 : (([x0, x1, x2, x3, x4, x5, x6].take N).length : Int) = N := by rw [List.length_take]; simp; omega
      have hl2 : (([y0, y1, y2, y3, y4, y5, y6].take N).length : Int) = N := by rw [List.length_take]; simp; omega
      generalize [x0, x1, x2, x3, x4, x5, x6].take N = L at *
      generalize [y0, y1, y2, y3, y4, y5, y6].take N = L' at *
      clear hw2
      obtain ⟨m, m', M1, M2, i0, hi0, hm, hm'⟩ := both h1 h2 hl1 hl2
      have HL := Lib.hid hl1
      have HL' := Lib.hid hl2
      have hi : i0 < N := by omega
      have HM := Lib.hid hm
      have HM' := Lib.hid hm'
      clear hl1 hl2 hi0 hm hm'
      refine (most_any _ L N _ I1.out).mono ?_
      rintro e w3 ⟨rfl, hb3⟩
      rw [M1]
      clear M1
      go_wp2_with fail
      refine (most_any _ L' N _ (I2.out.below hb3)).mono ?_
      rintro e w4 ⟨rfl, hb4⟩
      rw [M2]
      clear M2
      have hb24 := hb3.trans (hb4.mono hb3.size)
      clear hb3 hb4
      go_wp2_with fail
      go_loopw [11] (fun i wr => ∃ k : Nat, k ≤ i0 ∧ i = .int .i64 k ∧ Below w2.heap.size w2 wr) (fun i _ => i0 - (intOf i).toNat)
      case atStart => exact ⟨0, Nat.zero_le _, rfl, hb24⟩
      case round =>
        obtain ⟨k, hk, rfl, hb⟩ := hrel
        have hbw := hb2.trans (hb.mono hb2.size)
        obtain ⟨A, c, e1, _, _, _, hc1⟩ := I1.out
        obtain ⟨B, d, e2, _, _, _, hc2⟩ := I2.out
        have HL1 := HL.out
        have HL2 := HL'.out
        obtain ⟨b1, o1, e3, hbb1, hc1⟩ := hc1 (by omega)
        obtain ⟨b2, o2, e4, hbb2, hc2⟩ := hc2 (by omega)
        have g1 := hc1 k (by omega)
        have g2 := hc2 k (by omega)
        rw [e3] at e1
        rw [e4] at e2
        injection e1 with e1 _ _
        injection e2 with e2 _ _
        injection e1 with e1
        injection e2 with e2
        injection e1 with e1 e5
        injection e2 with e2 e6
        subst e1 e5 e2 e6
        rw [Nat.zero_add] at g1 g2
        have q1 := (hb.cell (p := ⟨W.heap.size, k, none⟩) hbb1).trans g1
        have q2 := (hb.cell (p := ⟨W.heap.size + 1, k, none⟩) hbb2).trans g2
        have hstep : ¬ (m ≤ L.getD k 0 ∧ m' ≤ L'.getD k 0) → k + 1 ≤ i0 := by
          intro h
          rcases Nat.lt_or_ge k i0 with h' | h'
          · omega
          · exfalso
            obtain rfl : k = i0 := by omega
            exact h ⟨HM.out, HM'.out⟩
        have HS := Lib.hid hstep
        clear hstep g1 g2 hc1 hc2 e3 e4 HL1 HL2 hbb1 hbb2
        have hkN : k < N := by omega
        generalize L.getD k 0 = p at *
        generalize L'.getD k 0 = q at *
        by_cases hp : m ≤ p
        · by_cases hq : m' ≤ q
          · go_wp2_with fail
            refine (works_any _).mono ?_
            rintro x w7 ⟨rfl, hb7⟩
            go_wp2_with fail
            go_ret
            exact ⟨rfl, hbw.trans (hb7.mono hbw.size)⟩
          · have hk2 := HS.out (fun h => hq h.2)
            go_wp2_with fail
            go_roundw
            case rel => exact ⟨k + 1, hk2, by go_num, hb⟩
            case measure => simp [intOf]; omega
        · have hk2 := HS.out (fun h => hp h.1)
          go_wp2_with fail
          go_roundw
          case rel => exact ⟨k + 1, hk2, by go_num, hb⟩
          case measure => simp [intOf]; omega
    · go_enter Try.func8, Try.ntmps8
      go_wp2_with fail
      refine (works_any _).mono ?_
      rintro x w7 ⟨rfl, hb7⟩
      go_wp2_with fail
      go_ret
      exact ⟨rfl, (((Below.refl _ W).alloc (Nat.le_refl _) _).alloc (by simp) _).trans (hb7.mono (by simp; omega))⟩
  · go_enter Try.func8, Try.ntmps8
    go_wp2_with fail
    refine (works_any _).mono ?_
    rintro x w7 ⟨rfl, hb7⟩
    go_wp2_with fail
    go_ret
    exact ⟨rfl, (((Below.refl _ W).alloc (Nat.le_refl _) _).alloc (by simp) _).trans (hb7.mono (by simp; omega))⟩
end Go.Proofs.Ytmdchepmojlbbaa.epochsSharedW
