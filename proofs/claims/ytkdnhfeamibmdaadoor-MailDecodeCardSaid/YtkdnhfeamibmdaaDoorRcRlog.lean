/-
  The document's reader of marks: Log.
-/
import Derived.Test.YtkdnhfeamibmdaaDoorRcRord
import Derived.Test.YtkdnhfeamibmdaaDoorRcDec
namespace Go.Proofs.YtkdnhfeamibmdaaDoor
open Go.RowKit
theorem ri_bd {l : List UInt8} {a : Nat} {f : Bool} (ha : a ≤ l.length) : a ≤ (ri l a f).2.1 ∧ (ri l a f).2.1 ≤ l.length ∧ ((ri l a f).2.2 = false → a + 1 ≤ (ri l a f).2.1 ∧ f = false) := by
  unfold ri
  cases f
  · rcases hg : got l (a : Int) with _ | ⟨n, b⟩
    · simp [ha]
    · have h := got_rds.1 hg
      obtain ⟨hi, x, y, hl, hx, hb⟩ := h
      have h1 := (markL_len hi).1
      simp only [List.length_cons, List.length_nil] at h1
      have h2 := (got_rds.1 hg).bd
      simp
      omega
  · simp [ha]
theorem ris_bd {l : List UInt8} : ∀ {k a : Nat} {f : Bool}, a ≤ l.length → a ≤ (ris l k a f).2.1 ∧ (ris l k a f).2.1 ≤ l.length ∧ ((ris l k a f).2.2 = false → a + k ≤ (ris l k a f).2.1)
  | 0, a, f, h => by simp [ris, h]
  | k + 1, a, f, h => by
    obtain ⟨h1, h2, h3⟩ := ri_bd (f := f) h
    obtain ⟨h4, h5, h6⟩ := ris_bd (k := k) (f := (ri l a f).2.2) h2
    simp only [ris]
    refine ⟨by omega, h5, fun hf => ?_⟩
    have h7 := h6 hf
    have h8 : (ri l a f).2.2 = false := by
      rcases hb : (ri l a f).2.2 with _ | _
      · rfl
      · rw [hb] at hf
        have : ∀ (k a : Nat), (ris l k a true).2.2 = true := by
          intro k
          induction k with
          | zero => intro a; rfl
          | succ k ih => intro a; simp only [ris, ri, if_true]; exact ih a
        rw [this] at hf; cases hf
    have h9 := (h3 h8).1
    omega
/-- How far the list has come. -/
def RrCome (l : List UInt8) (per c a : Nat) (f : Bool) (rows : List (List Int)) (b : Nat) (g : Bool) : Prop :=
  rrows l per c a f = (rows ++ (rrows l per (c - rows.length) b g).1, (rrows l per (c - rows.length) b g).2.1, (rrows l per (c - rows.length) b g).2.2)
theorem RrCome.start (l : List UInt8) (per c a : Nat) (f : Bool) : RrCome l per c a f [] a f := by unfold RrCome; simp
theorem RrCome.next {l : List UInt8} {per c a b b' : Nat} {f g' : Bool} {rows : List (List Int)} {row : List Int} (h : RrCome l per c a f rows b false) (hlt : rows.length < c) (hr : ris l per b false = (row, b', g')) : RrCome l per c a f (rows ++ [row]) b' g' := by
  unfold RrCome at h ⊢
  obtain ⟨d, hd⟩ : ∃ d, c - rows.length = d + 1 := ⟨c - rows.length - 1, by omega⟩
  rw [h, hd, show c - (rows ++ [row]).length = d by simp; omega]
  simp only [rrows, hr, Bool.false_eq_true, if_false, List.append_assoc, List.cons_append, List.nil_append]
theorem RrCome.bad {l : List UInt8} {per c a b : Nat} {f : Bool} {rows : List (List Int)} (h : RrCome l per c a f rows b true) : rrows l per c a f = (rows, b, true) := by
  unfold RrCome at h
  rw [h]
  cases hd : c - rows.length with
  | zero => simp [rrows]
  | succ d => simp [rrows]
theorem RrCome.done {l : List UInt8} {per c a b : Nat} {f g : Bool} {rows : List (List Int)} (h : RrCome l per c a f rows b g) (he : c ≤ rows.length) : rrows l per c a f = (rows, b, g) := by
  unfold RrCome at h
  rw [h, show c - rows.length = 0 by omega]
  simp [rrows]
theorem app_entry_big {w : World} {base n : Nat} {v : Value} {xs : List Value} (x0 x1 x2 x3 x4 x5 : Int) (ho : w.ownsRow base 30 6 v n xs) (hb : base ≤ w.heap.size) (hn : n ≤ 2000000) :
    ∃ A c w', (Builtin.append_ #[22, 22] 22 #[v, .slice (some ⟨w.heap.size, 0, none⟩) 1 1]).run Tryd.prog (w.alloc (.cells #[.int .i64 x0, .int .i64 x1, .int .i64 x2, .int .i64 x3, .int .i64 x4, .int .i64 x5] 30)) = .ok (.slice A (n + 1) c) w' ∧ w'.ownsRow base 30 6 (.slice A (n + 1) c) (n + 1) (xs ++ [.int .i64 x0, .int .i64 x1, .int .i64 x2, .int .i64 x3, .int .i64 x4, .int .i64 x5]) ∧ (w.alloc (.cells #[.int .i64 x0, .int .i64 x1, .int .i64 x2, .int .i64 x3, .int .i64 x4, .int .i64 x5] 30)).grownBy w' v.ownBlock := by
  obtain ⟨i0, hi0, hz0, hz1, hz2⟩ := info_parts Tryd.info_en
  have hB : (w.alloc (.cells #[.int .i64 x0, .int .i64 x1, .int .i64 x2, .int .i64 x3, .int .i64 x4, .int .i64 x5] 30)).heap[w.heap.size]? = some (.cells #[.int .i64 x0, .int .i64 x1, .int .i64 x2, .int .i64 x3, .int .i64 x4, .int .i64 x5] 30 (0, 0)) := heap_alloc_new _ _
  obtain ⟨v', w', hr, ho', hg, _⟩ := run_append_own (P := Tryd.prog) (w.alloc (.cells #[.int .i64 x0, .int .i64 x1, .int .i64 x2, .int .i64 x3, .int .i64 x4, .int .i64 x5] 30)) base 22 22 30 i0 _ 6 48 Tryd.underlying22 hi0 hz0 hz1 hz2 rfl (by decide) v n xs (World.ownsRow.alloc ho _) ⟨w.heap.size, 0, none⟩ 1 1 [.int .i64 x0, .int .i64 x1, .int .i64 x2, .int .i64 x3, .int .i64 x4, .int .i64 x5] rfl
    (fun j u hu => by
      rw [Addr.add_lit, Nat.zero_add, Lib.cell_of_heap hB]
      simpa using hu)
    (by intro u hu; simp only [List.mem_cons, List.not_mem_nil, or_false] at hu; rcases hu with rfl | rfl | rfl | rfl | rfl | rfl <;> rfl) (by unfold maxLen; omega) (by omega) (by simp; omega)
  rcases ho'.2 with ⟨rfl, h0⟩ | ⟨g, cap, cur, rfl, _⟩
  · omega
  · exact ⟨_, cap, w', hr, ho', hg⟩
def LogPost (s : ByteArray) (m a : Nat) (f : Bool) (w : World) (e : Ending) (w' : World) : Prop :=
  ∃ v, e = .returned v ∧ w'.ownsRow w.heap.size 30 6 v (rlst (bytesOf s) 6 a f).1.length ((rlst (bytesOf s) 6 a f).1.flatten.map (Value.int .i64)) ∧ RrAt w' m s (rlst (bytesOf s) 6 a f).2.1 (rlst (bytesOf s) 6 a f).2.2 ∧ Foot (fun j => j = m) w w'
set_option maxRecDepth 100000 in
set_option maxHeartbeats 4000000 in
theorem rlog_any {s : ByteArray} (hs : s.size ≤ 1000000) {m a : Nat} {f : Bool} {w : World} (h : RrAt w m s a f) (ha : a ≤ s.size) :
    Calls Tryd.prog 42 #[.pointer (some ⟨m, 0, none⟩)] w (LogPost s m a f w) := by
  have hmlt := h.lt
  have G := Lib.hid (rint_any hs h)
  have hbd := ri_bd (l := bytesOf s) (f := f) (by rw [bytes_len]; exact ha)
  have HL0 : Hid (rlst (bytesOf s) 6 a f = rrows (bytesOf s) 6 (ri (bytesOf s) a f).1.toNat (ri (bytesOf s) a f).2.1 (ri (bytesOf s) a f).2.2) := rfl
  obtain ⟨⟨n, a1, f1⟩, hN⟩ : ∃ N, ri (bytesOf s) a f = N := ⟨_, rfl⟩
  have HN := Lib.hid hN
  rw [hN] at hbd HL0
  dsimp only at hbd HL0
  rw [bytes_len] at hbd
  have ha1 := hbd.2.1
  clear h hN hbd
  go_enter Tryd.func42, Tryd.ntmps42
  go_wp2_with fail
  refine (G.out).mono ?_
  rintro e w1 hp
  unfold IntPost at hp
  rw [HN.out] at hp
  obtain ⟨rfl, hr, hf⟩ := hp
  dsimp only at hr ⊢
  have HR := Lib.hid hr
  have HF := Lib.hid hf
  clear hr hf G
  go_wp2_with fail
  go_loopw [3, 5] (fun l i wr => ∃ (rows : List (List Int)) (b : Nat) (g : Bool), i = .int .i64 (rows.length : Nat) ∧ rows.length ≤ n.toNat ∧ b ≤ s.size ∧ rows.length ≤ b + 1 ∧ (g = false → rows.length ≤ b) ∧ RrCome (bytesOf s) 6 n.toNat a1 f1 rows b g ∧ wr.ownsRow w.heap.size 30 6 l rows.length (rows.flatten.map (Value.int .i64)) ∧ RrAt wr m s b g ∧ Foot (fun j => j = m) w wr) (fun _ i _ => n.toNat - (intOf i).toNat)
  case atStart => exact ⟨[], a1, f1, rfl, Nat.zero_le _, ha1, Nat.zero_le _, fun _ => Nat.zero_le _, RrCome.start _ _ _ _ _, World.ownsRow_nil _ _ _ _, HR.out, HF.out⟩
  case round =>
    obtain ⟨rows, b, g, rfl, hk, hb, hk1, hk2, hcome, hown, hrd, hft⟩ := hrel
    obtain ⟨v, hv⟩ : ∃ v, v = u3 := ⟨_, rfl⟩
    subst hv
    have hfin : ∀ (_ : rlst (bytesOf s) 6 a f = (rows, b, g)), LogPost s m a f w (.returned v) wr := fun hx => ⟨v, rfl, by rw [hx]; exact hown, by rw [hx]; exact hrd, hft⟩
    have HFIN := Lib.hid hfin
    clear hfin
    by_cases hlt : (rows.length : Int) < n
    · have t1 : decide ((rows.length : Int) < n) = true := decide_eq_true hlt
      obtain ⟨-, -, c2, -, -⟩ := hrd.cells
      have hlt' : rows.length < n.toNat := by omega
      cases g
      · have hkb := hk2 rfl
        obtain ⟨⟨row, b', g'⟩, hris⟩ : ∃ N, ris (bytesOf s) 6 b false = N := ⟨_, rfl⟩
        have hbd := ris_bd (l := bytesOf s) (k := 6) (f := false) (a := b) (by rw [bytes_len]; exact hb)
        rw [hris, bytes_len] at hbd
        dsimp only at hbd
        have HC := Lib.hid (hcome.next hlt' hris)
        obtain ⟨⟨y0, b1, g1⟩, hri⟩ : ∃ N, ri (bytesOf s) b false = N := ⟨_, rfl⟩
        have HSPLIT : Hid (row = y0 :: (ris (bytesOf s) 5 b1 g1).1 ∧ b' = (ris (bytesOf s) 5 b1 g1).2.1 ∧ g' = (ris (bytesOf s) 5 b1 g1).2.2) := by
          have h1 : ris (bytesOf s) 6 b false = ((ri (bytesOf s) b false).1 :: (ris (bytesOf s) 5 (ri (bytesOf s) b false).2.1 (ri (bytesOf s) b false).2.2).1, (ris (bytesOf s) 5 (ri (bytesOf s) b false).2.1 (ri (bytesOf s) b false).2.2).2) := rfl
          rw [hri, hris] at h1
          dsimp only at h1
          injection h1 with h2 h3
          injection h3 with h4 h5
          exact ⟨h2, h4, h5⟩
        have GI := Lib.hid (rint_any hs hrd)
        have HRI := Lib.hid hri
        have GO := Lib.hid (fun (W : World) (hW : RrAt W m s b1 g1) => rorder_any hs hW)
        have HOWN := Lib.hid hown
        have HFT := Lib.hid hft
        have hszr := hft.size
        have HB6 := Lib.hid hbd
        clear hcome hris hri hown hrd hft hbd hk2 HFIN
        go_wp2_with fail
        refine (GI.out).mono ?_
        rintro e w2 hp
        unfold IntPost at hp
        rw [HRI.out] at hp
        obtain ⟨rfl, hr2, hf2⟩ := hp
        dsimp only at hr2 ⊢
        have HF2 := Lib.hid hf2
        clear hf2 c2
        go_wp2_with fail
        refine (GO.out _ hr2).mono ?_
        rintro e w3 ⟨y1, y2, y3, y4, y5, hy, rfl, hr3, hf3⟩
        obtain ⟨hs1, hs2, hs3⟩ := HSPLIT.out
        rw [← hs2, ← hs3] at hr3
        rw [hy] at hs1
        have HS1 := Lib.hid hs1
        clear hy hs1 hs2 hs3 hr2
        have hsz2 := HF2.out.size
        have hsz3 := hf3.size
        have hown3 : w3.ownsRow w.heap.size 30 6 v rows.length (rows.flatten.map (Value.int .i64)) := owns_foot (owns_foot HOWN.out HF2.out (fun j hj e => by have := (World.ownsRow.lt HOWN.out j hj).1; omega)) hf3 (fun j hj e => by have := (World.ownsRow.lt HOWN.out j hj).1; omega)
        have hownA := World.ownsRow.alloc hown3 (.cells #[.int .i64 y1, .int .i64 y2, .int .i64 y3, .int .i64 y4, .int .i64 y5] 28)
        obtain ⟨A4, c4, w4, hr4, ho4, hg4⟩ := app_entry_big y0 y1 y2 y3 y4 y5 hownA (by simp; omega) (by omega)
        have HAP := Lib.hid hr4
        have HB4 : Hid (Below w.heap.size w3 w4) := ((((Below.refl _ _).alloc (by omega) _).alloc (by simp; omega) _).grown hg4 (by simp; omega) (fun j hj => (World.ownsRow.lt hownA j hj).1))
        have HO4 := Lib.hid ho4
        have HRD4 := Lib.hid (RrAt.bel hr3 HB4.out hmlt)
        have HFT4 := Lib.hid (foot_below ((HFT.out.trans HF2.out (fun _ _ h => h)).trans hf3 (fun _ _ h => h)) HB4.out)
        clear hown3 hownA hr4 ho4 hg4 hr3 hf3
        rw [World.size_alloc] at HAP
        go_wp2_with (at_builtin; refine wpList_append_run _ rfl _ _ _ _ rfl _ _ rfl rfl HAP.out ?_)
        go_roundw
        case rel =>
          have hB6 := HB6.out
          refine ⟨rows ++ [row], b', g', by simp, by simp; omega, by omega, by simp; omega, fun hg => by have := hB6.2.2 hg; simp; omega, HC.out, ?_, HRD4.out, HFT4.out⟩
          have h5 := HO4.out
          rw [HS1.out]
          simpa using h5
        case measure => simp [intOf]; omega
      · have HD := Lib.hid (HL0.out.trans hcome.bad)
        clear hcome hown hrd hft hk2
        go_wp2_with fail
        go_ret
        exact HFIN.out HD.out
    · have t1 : decide ((rows.length : Int) < n) = false := decide_eq_false hlt
      have HD := Lib.hid (HL0.out.trans (hcome.done (by omega)))
      clear hcome hown hrd hft hk2
      go_wp2_with fail
      go_ret
      exact HFIN.out HD.out
end Go.Proofs.YtkdnhfeamibmdaaDoor
