/-
  The contract of did, and the document's disk beside another thing.
-/
import Derived.Test.YtceldekbkffhpaaQFail
import Derived.Test.YtceldekbkffhpaaQOps3
namespace Go.Proofs.Ytceldekbkffhpaa
open Go.RowKit
section
variable {w w' : World} {d : Nat} {D : Dsk.Dk} {S : Nat → Prop}
set_option maxRecDepth 100000 in
set_option maxHeartbeats 2000000 in
theorem did_any (x : ActV) (keep : List Int) (h : IsQ w d D S) (hst : D.starts ≤ 1000000) (hk0 : 0 ≤ x.k) (hn : x.n ≤ 9223372036854775807) (hk : Ints w (.slice x.ka x.kl x.kc) keep) (hkl : keep.length ≤ 1000000) (hko : ∀ k, 0 < keep.length → (Value.slice x.ka x.kl x.kc).ownBlock = some k → ¬ S k) :
    Calls Try.prog 9 #[.pointer (some ⟨d, 0, none⟩), x.val] w (AnyRet (DidQ w d S (Dsk.act D x keep))) := by
  obtain ⟨xk, nm, ot, dt, xn, ka, kl, kc⟩ := x
  unfold ActV.val
  dsimp only at hk0 hn hk hko ⊢
  have hb := below_alloc w (.cells #[.int .u8 xk, .string nm, .string ot, .string dt, .int .i64 xn, .slice ka kl kc] 34)
  have HI := Lib.hid (h.below hb)
  have HK := Lib.hid (hk.foot (below_foot hb : Foot (fun _ => False) w _) fun _ _ e => e)
  have HKO := Lib.hid hko
  have HB := Lib.hid hb
  have HST := Lib.hid hst
  have HN := Lib.hid hn
  have HKL := Lib.hid hkl
  clear h hb hk hko hst hn hkl
  have hm : xk % 12 = 0 ∨ xk % 12 = 1 ∨ xk % 12 = 2 ∨ xk % 12 = 3 ∨ xk % 12 = 4 ∨ xk % 12 = 5 ∨ xk % 12 = 6 ∨ xk % 12 = 7 ∨ xk % 12 = 8 ∨ xk % 12 = 9 ∨ xk % 12 = 10 ∨ xk % 12 = 11 := by omega
  rcases hm with e | e | e | e | e | e | e | e | e | e | e | e
  all_goals
    have HE := Lib.hid e
    rw [← Int.tmod_eq_emod_of_nonneg hk0] at e
    go_enter Try.func9, Try.ntmps9
    go_wp2_with fail
    clear e
    first
      | (refine (qsync_any nm HI.out).mono ?_; have HA : Hid (Dsk.act D ⟨xk, nm, ot, dt, xn, ka, kl, kc⟩ keep = Dsk.sync D nm) := (by unfold Hid Dsk.act; simp [HE.out]))
      | (refine (qtrunc_any nm xn HI.out).mono ?_; have HA : Hid (Dsk.act D ⟨xk, nm, ot, dt, xn, ka, kl, kc⟩ keep = Dsk.truncate D nm xn) := (by unfold Hid Dsk.act; simp [HE.out]))
      | (refine (qrename_any nm ot HI.out).mono ?_; have HA : Hid (Dsk.act D ⟨xk, nm, ot, dt, xn, ka, kl, kc⟩ keep = Dsk.rename D nm ot) := (by unfold Hid Dsk.act; simp [HE.out]))
      | (refine (qremove_any nm HI.out).mono ?_; have HA : Hid (Dsk.act D ⟨xk, nm, ot, dt, xn, ka, kl, kc⟩ keep = Dsk.remove D nm) := (by unfold Hid Dsk.act; simp [HE.out]))
      | (refine (qcrash_any _ keep HI.out HK.out HKO.out).mono ?_; have HA : Hid (Dsk.act D ⟨xk, nm, ot, dt, xn, ka, kl, kc⟩ keep = Dsk.crash D keep) := (by unfold Hid Dsk.act; simp [HE.out]))
      | (refine (qstart_any HI.out HST.out).mono ?_; have HA : Hid (Dsk.act D ⟨xk, nm, ot, dt, xn, ka, kl, kc⟩ keep = Dsk.start D) := (by unfold Hid Dsk.act; simp [HE.out]))
      | (refine (qfail_any _ keep xn HN.out HI.out HK.out HKO.out HKL.out).mono ?_; have HA : Hid (Dsk.act D ⟨xk, nm, ot, dt, xn, ka, kl, kc⟩ keep = Dsk.failSet D xn keep) := (by unfold Hid Dsk.act; simp [HE.out]))
      | (refine (qappend_any nm dt HI.out).mono ?_; have HA : Hid (Dsk.act D ⟨xk, nm, ot, dt, xn, ka, kl, kc⟩ keep = Dsk.append D nm dt) := (by unfold Hid Dsk.act; simp [HE.out]))
    rintro e w' ⟨r, rfl, hq⟩
    have HQ := Lib.hid hq
    clear hq
    go_wp2_with fail
    go_ret
    refine ⟨r, rfl, ?_⟩
    rw [HA.out]
    exact DidQ.from_ HB.out HQ.out
end
section
variable {ops : Array Oper} {o : Oper} {a : Act} {w : World} {K : Act → World → Prop} {Q : Exit → Act → World → Prop} {E : Prop}
/-- 'append' of a row of ints, as a step of a region that draws. -/
theorem step_ints (hg : o.guard = none) (d x : Operand) (hop : o.op = Op.call { callee := Callee.builtin Builtin.append, args := #[d, x], argTypes := #[32, 32] }) (hty : o.type = 32)
    {base n N : Nat} {v ka : Value} {xs : List Value} {l : List Int} (hN : n + l.length = N) (hd : a.eval d = v) (hx : a.eval x = ka) (ho : w.ownsRow base 3 1 v n xs) (hk : Ints w ka l) (hb : base ≤ w.heap.size) (hnl : N ≤ 1000000)
    (h : ∀ A c w', w'.ownsRow base 3 1 (.slice A N c) N (xs ++ l.map (Value.int .i64)) → w.grownBy w' v.ownBlock → K (a.put o.dst (.slice A N c)) w') :
    if Region.wanted o (yielded ops a.tmps) = true then Oper.wp Try.prog o a w K Q else E := by
  subst hN
  obtain ⟨A, c, w', hr, ho', hg'⟩ := run_append_ints ho hk hb hnl
  exact step_append_known hg d x 32 32 hop v ka hd hx (by rw [hty]; exact hr) (h A c w' ho' hg')
/-- What 'make([]int, 0, n)' lays. -/
def zs (n : Nat) : Array Value := madeCells (Value.int .i64 0).cells n
theorem made_run (X : World) (n : Nat) (hn : n ≤ 1000000) : (Instr.makeSlice 32 (.int .i64 0) (.int .i64 (n : Int))).run Try.prog X = .ok (.slice (some ⟨X.heap.size, 0, none⟩) 0 n) (X.alloc (.cells (zs n) 3)) := by
  obtain ⟨i0, hi0, hz0, hz1, hz2⟩ := info_parts Try.info_qint
  have h := run_makeSlice (P := Try.prog) X 32 3 i0 (.int .i64 0) Try.underlying32 hi0 hz0 .i64 .i64 0 (n : Int) (Int.le_refl _) (by omega) (by rw [hz1]; omega) (by rw [hz2]; omega) (by omega)
  rw [hz1, Nat.mul_one] at h
  exact h
theorem made_own (X : World) {base g n : Nat} (hn : n ≤ 1000000) (hg : X.heap.size = g) (hb : base ≤ g) : (X.alloc (.cells (zs n) 3)).ownsRow base 3 1 (.slice (some ⟨g, 0, none⟩) 0 n) 0 [] := by
  subst hg
  refine ⟨rfl, .inr ⟨X.heap.size, n, zs n, rfl, hb, heap_alloc_new X _, Nat.zero_le _, Nat.le_trans hn (by decide), ?_, rfl⟩⟩
  simp [zs, madeCells, Value.cells]
theorem own_shape1 {w : World} {base N c : Nat} {e : TypeId} {A : Option Addr} {xs : List Value} (h : w.ownsRow base e 1 (.slice A N c) N xs) (hn : 0 < N) : ∃ g, A = some ⟨g, 0, none⟩ ∧ base ≤ g ∧ g < w.heap.size ∧ N ≤ c ∧ c ≤ maxLen := by
  rcases h.2 with ⟨_, h0⟩ | ⟨g, cap, cur, hv, hb, hg, hnc, hcm, _⟩
  · omega
  · injection hv with h1 _ h3
    subst h1
    subst h3
    exact ⟨g, rfl, hb, lt_of_block hg, hnc, hcm⟩
theorem grown_bel {W X Y : World} {row : Option Nat} (h : Below W.heap.size W X) (hg : X.grownBy Y row) (hr : ∀ j, row = some j → W.heap.size ≤ j) : Below W.heap.size W Y := h.grown hg h.size hr
theorem ints_70 (X : World) {g : Nat} (hg : X.heap.size = g) : Ints (X.alloc (.cells #[.int .i64 (-70)] 3)) (.slice (some ⟨g, 0, none⟩) 1 1) [-70] := by
  subst hg
  exact lit_ints X [-70] (by decide) (by decide) 3
end
def AtQ (d : Nat) (D : Dsk.Dk) (w : World) (S : Nat → Prop) : Prop := IsQ w d D S
theorem fp_q (d : Nat) (D : Dsk.Dk) : Fp (AtQ d D) := ⟨fun h hf hn => IsQ.foot h hf hn, fun h => IsQ.lt h⟩
section
variable {w0 w w' : World} {P Q : World → (Nat → Prop) → Prop} {vs : List (Value × List Value)} {v : Value} {xs : List Value} {d : Nat} {D D' : Dsk.Dk} {R : Dsk.Dk × Int} {r : Int}
theorem Both.callq {f : FuncId} {args : Array Value} (h : Hid (Both w0 (AtQ d D) Q vs w)) (hR : R = (D', r)) (hc : ∀ S, IsQ w d D S → (∀ k, S k → w0.heap.size ≤ k) → Calls Try.prog f args w (AnyRet (DidQ w d S R))) :
    Calls Try.prog f args w fun e w' => e = .returned (.int .i64 r) ∧ Hid (Both w0 (AtQ d D') Q vs w') := by
  subst hR
  refine (Both.left (P' := AtQ d D') (E := fun e => e = .returned (.int .i64 r)) h.out (fp_q _ _) fun S h1 h2 => (hc S h1 h2).mono ?_).mono fun e w' h => h
  rintro e w' ⟨r', rfl, rfl, S', q⟩
  exact ⟨rfl, S', q⟩
theorem bothq_names (h : Hid (Both w0 (AtQ d D) Q vs w)) : Calls Try.prog 16 #[.pointer (some ⟨d, 0, none⟩)] w (Row w0 (AtQ d D) Q vs D.fs.length ((Dsk.names D.fs).map Value.string)) := by
  obtain ⟨_, _, S, T, h1, _⟩ := h.out
  exact (qnames_any h1).mono fun e w' hp => row_of h.out (by simp [Dsk.names]) hp
theorem bothq_unsync (h : Hid (Both w0 (AtQ d D) Q vs w)) : Calls Try.prog 17 #[.pointer (some ⟨d, 0, none⟩)] w (Row w0 (AtQ d D) Q vs D.fs.length ((Dsk.unsynced D.fs).map (Value.int .i64))) := by
  obtain ⟨_, _, S, T, h1, _⟩ := h.out
  exact (qunsync_any h1).mono fun e w' hp => row_of h.out (by simp [Dsk.unsynced]) hp
theorem bothq_size (h : Hid (Both w0 (AtQ d D) Q vs w)) : Calls Try.prog 19 #[.pointer (some ⟨d, 0, none⟩)] w fun e w' => e = .returned (.int .i64 (Dsk.total D.fs : Int)) ∧ w = w' := by
  obtain ⟨_, _, S, T, ⟨_, _, _, _, _, h1⟩, _⟩ := h.out
  exact qsize_at h1
theorem bothq_read (nm : ByteArray) (h : Hid (Both w0 (AtQ d D) Q vs w)) : Calls Try.prog 12 #[.pointer (some ⟨d, 0, none⟩), .string nm] w fun e w' => e = .returned (.tuple #[.string ⟨(Dsk.read D nm).1.toArray⟩, .int .i64 (Dsk.read D nm).2]) ∧ Hid (Both w0 (AtQ d D) Q vs w') := by
  obtain ⟨_, _, S, T, ⟨_, _, _, _, _, h1⟩, _⟩ := h.out
  exact (qread_at nm h1).mono fun e w' hp => ⟨hp.1, h.out.below hp.2⟩
theorem bothq_cells (h : Both w0 (AtQ d D) Q vs w) : w.cell? ⟨d, 1, none⟩ = some (.int .i64 (D.starts : Int)) ∧ w.cell? ⟨d, 2, none⟩ = some (.bool D.down) := by
  obtain ⟨_, _, S, T, ⟨_, _, _, _, _, h1⟩, _⟩ := h
  exact ⟨h1.head.cells.2.1, h1.head.cells.2.2.1⟩
theorem bothq_did (x : ActV) (keep : List Int) (h : Hid (Both w0 (AtQ d D) Q vs w)) (hx : ActIn w0 x keep) (hkl : keep.length ≤ 1000000) (hst : D.starts ≤ 1000000) (hR : Dsk.act D x keep = (D', r)) :
    Calls Try.prog 9 #[.pointer (some ⟨d, 0, none⟩), x.val] w fun e w' => e = .returned (.int .i64 r) ∧ Hid (Both w0 (AtQ d D') Q vs w') :=
  Both.callq h hR fun _ h1 h2 => did_any x keep h1 hst hx.k0 hx.n1 (hx.keep.old h.out.bel) hkl (hx.keep.off h2)
theorem Both.offrow {p : Value × List Value} (h : Both w0 P Q vs w) (hm : p ∈ vs) : Both w0 (fun w' S => P w' S ∧ ∀ k, 0 < p.2.length → p.1.ownBlock = some k → ¬ S k) Q vs w := by
  obtain ⟨f1, f2, S, T, h1, h2, h3, h4, h5, h6, h7⟩ := h
  exact ⟨⟨fun q hf hn => ⟨f1.foot q.1 hf hn, q.2⟩, fun q => f1.lt q.1⟩, f2, S, T, ⟨h1, fun k h0 e => ((h7 p hm).2 k h0 e).1⟩, h2, h3, h4, h5, h6, h7⟩
/-- The program's act, whose list is one of the rows that were read. -/
theorem both_does_row (x : ActV) (keep : List Int) (h : Hid (Both w0 (AtDisk d D) Q vs w)) (hk0 : 0 ≤ x.k) (hn : x.n ≤ 9223372036854775807) (hi : Ints w (.slice x.ka x.kl x.kc) keep) {ys : List Value} {kl' kc' : Nat} (hm : (.slice x.ka kl' kc', ys) ∈ vs) (hy : keep.length ≤ ys.length) (hst : D.starts ≤ 1000000) (hR : Dsk.act D x keep = (D', r)) :
    Calls Try.prog 8 #[.pointer (some ⟨d, 0, none⟩), x.val] w fun e w' => e = .returned (.int .i64 r) ∧ Hid (Both w0 (AtDisk d D') Q vs w') := by
  have ho : (Value.slice x.ka x.kl x.kc).ownBlock = (Value.slice x.ka kl' kc').ownBlock := by cases x.ka <;> rfl
  refine (Both.left (P' := AtDisk d D') (E := fun e => e = .returned (.int .i64 r)) (h.out.offrow hm) (fp_disk _ _) fun S h1 h2 => (does_any x keep h1.1 hst hk0 hn hi fun k h0 e => h1.2 k (Nat.lt_of_lt_of_le h0 hy) (ho.symm.trans e)).mono ?_).mono fun e w' h => h
  rintro e w' ⟨r', rfl, rfl, S', q⟩
  rw [hR] at q ⊢
  exact ⟨rfl, S', q⟩
/-- A row that was read is written; the others lie elsewhere. -/
theorem Both.write {g o i n c : Nat} {u : Value} (h : Both w0 P Q ((.slice (some ⟨g, o, none⟩) n c, xs) :: vs) w) (hi : i < xs.length) (hg : w0.heap.size ≤ g) (hv : ∀ p ∈ vs, 0 < p.2.length → p.1.ownBlock ≠ some g) :
    Both w0 P Q ((.slice (some ⟨g, o, none⟩) n c, xs.set i u) :: vs) (w.setCell ⟨g, o + i, none⟩ u) := by
  have hl : 0 < xs.length := by omega
  obtain ⟨f1, f2, S, T, h1, h2, h3, h4, h5, h6, h7⟩ := h
  have hr : Reads w (.slice (some ⟨g, o, none⟩) n c) xs := (h7 _ (List.mem_cons_self ..)).1
  have hoff := (h7 _ (List.mem_cons_self ..)).2 g hl rfl
  have hf : Foot (fun k => k = g) w (w.setCell ⟨g, o + i, none⟩ u) := Foot.set (fun k => k = g) w _ _ rfl
  obtain ⟨A, c', hv', e1, e2⟩ := hr
  injection hv' with e3 e4 e5
  subst e3
  subst e4
  subst e5
  obtain ⟨b, off, e6, hb, hc⟩ := e2 hl
  injection e6 with e6
  injection e6 with e6 e7 _
  subst e6 e7
  refine ⟨f1, f2, S, T, f1.foot h1 hf fun k hk e => hoff.1 (by rw [← e]; exact hk), f2.foot h2 hf fun k hk e => hoff.2 (by rw [← e]; exact hk), h3, h4, h5, h6.trans (hf.below fun k hk => ⟨Nat.lt_of_lt_of_le hk h6.size, fun e => by omega⟩), fun p hp => ?_⟩
  rcases List.mem_cons.1 hp with rfl | hp
  · refine ⟨⟨_, _, by rw [List.length_set], by rw [List.length_set]; exact e1, fun _ => ⟨g, o, rfl, by simpa [World.setCell] using hb, fun j hj => ?_⟩⟩, fun k _ e => ?_⟩
    · rw [List.length_set] at hj
      by_cases hij : i = j
      · subst hij
        rw [World.cell?_setCell_same _ _ _ (hc i hj)]
        simp [List.getD, hj]
      · rw [World.cell?_setCell_other _ _ _ _ (fun e => by injection e with _ e; omega), hc j hj]
        simp [List.getD, hij]
    · have : g = k := Option.some.inj e
      subst this
      exact hoff
  · exact ⟨(h7 p (List.mem_cons_of_mem _ hp)).1.foot hf fun k h0 e e' => hv p hp h0 (by rw [e, e']), (h7 p (List.mem_cons_of_mem _ hp)).2⟩
/-- Two that were made one behind the other. -/
theorem Both.joined {w1 : World} (h : Both w0 P AtNone vs w1) (h' : Both w1 Q AtNone [] w) : Both w0 P Q vs w := by
  obtain ⟨f1, _, S, T, h1, h2, h3, h4, h5, h6, h7⟩ := h
  obtain ⟨g1, _, S', T', k1, k2, k3, k4, k5, k6, k7⟩ := h'
  have hf : Foot (fun _ => False) w1 w := below_foot k6
  refine ⟨f1, g1, S, S', f1.foot h1 hf fun _ _ e => e, k1, fun k a b => ?_, h4, fun k a => Nat.le_trans h6.size (k4 k a), h6.trans (k6.mono h6.size), fun p hp => ⟨(h7 p hp).1.below k6, fun k h0 e => ⟨((h7 p hp).2 k h0 e).1, fun a => ?_⟩⟩⟩
  · have := f1.lt h1 k a; have := k4 k b; omega
  · have := (h7 p hp).1.lt h0 e; have := k4 k a; omega
end
section
variable {w W V w' : World} {P Q : World → (Nat → Prop) → Prop} {vs : List (Value × List Value)}
/-- A thing and a block beside it, whose cells are known. -/
def Plus (P : World → (Nat → Prop) → Prop) (g : Nat) (o : Obj) : World → (Nat → Prop) → Prop := fun w S => ∃ S1, P w S1 ∧ ¬ S1 g ∧ w.heap[g]? = some o ∧ ∀ k, S k ↔ S1 k ∨ k = g
theorem fp_plus {g : Nat} {o : Obj} (h : Fp P) : Fp (Plus P g o) :=
  ⟨fun ⟨S1, p, n, hg, e⟩ hf hn => ⟨S1, h.foot p hf (fun k hk => hn k ((e k).2 (.inl hk))), n, hf.kept hg (hn g ((e g).2 (.inr rfl))), e⟩, fun ⟨S1, p, n, hg, e⟩ k hk => ((e k).1 hk).elim (h.lt p k) fun e => by rw [e]; exact lt_of_block hg⟩
theorem Both.plus {g : Nat} {o : Obj} (h : Both w P Q vs W) (hb : Below W.heap.size W V) (ho : V.heap[g]? = some o) (hg : W.heap.size ≤ g) : Both w (Plus P g o) Q vs V := by
  obtain ⟨f1, f2, S, T, h1, h2, h3, h4, h5, h6, h7⟩ := h
  have hf : Foot (fun _ => False) W V := below_foot hb
  have hn : ¬ S g := fun e => by have := f1.lt h1 g e; omega
  have hn2 : ¬ T g := fun e => by have := f2.lt h2 g e; omega
  refine ⟨fp_plus f1, f2, fun k => S k ∨ k = g, T, ⟨S, f1.foot h1 hf fun _ _ e => e, hn, ho, fun k => Iff.rfl⟩, f2.foot h2 hf fun _ _ e => e, fun k a b => ?_, fun k a => ?_, h5, h6.trans (hb.mono h6.size), fun p hp => ⟨(h7 p hp).1.below hb, fun k h0 e => ⟨fun a => ?_, ((h7 p hp).2 k h0 e).2⟩⟩⟩
  · rcases a with a | rfl
    · exact h3 k a b
    · exact hn2 b
  · rcases a with a | rfl
    · exact h4 k a
    · exact Nat.le_trans h6.size hg
  · rcases a with a | rfl
    · exact ((h7 p hp).2 k h0 e).1 a
    · have := (h7 p hp).1.lt h0 e; omega
theorem Both.plus_left {g : Nat} {o : Obj} {P' : World → (Nat → Prop) → Prop} {f : FuncId} {args : Array Value} {E : Ending → Prop} (h : Both w (Plus P g o) Q vs W) (fp : Fp P')
    (hc : ∀ S, P W S → ¬ S g → (∀ k, S k → w.heap.size ≤ k) → Calls Try.prog f args W fun e w' => E e ∧ ∃ S', P' w' S' ∧ Foot S W w' ∧ ∀ k, S' k → S k ∨ W.heap.size ≤ k) :
    Calls Try.prog f args W fun e w' => E e ∧ Both w (Plus P' g o) Q vs w' := by
  refine Both.left h (fp_plus fp) fun S hS hb => ?_
  obtain ⟨S1, p, hn, hg, he⟩ := hS
  have hgl := lt_of_block hg
  refine (hc S1 p hn fun k hk => hb k ((he k).2 (.inl hk))).mono ?_
  rintro e w' ⟨e1, S', q1, q2, q3⟩
  refine ⟨e1, fun k => S' k ∨ k = g, ⟨S', q1, fun hs => ?_, q2.kept hg hn, fun k => Iff.rfl⟩, q2.mono fun k _ hk => (he k).2 (.inl hk), fun k hk => ?_⟩
  · rcases q3 g hs with e | e
    · exact hn e
    · omega
  · rcases hk with hk | hk
    · rcases q3 k hk with e | e
      · exact .inl ((he k).2 (.inl e))
      · exact .inr e
    · exact .inl ((he k).2 (.inr hk))
theorem Both.plus_block {g : Nat} {o : Obj} (h : Both w (Plus P g o) Q vs W) : W.heap[g]? = some o ∧ w.heap.size ≤ g := by
  obtain ⟨f1, f2, S, T, ⟨S1, p, hn, hg, he⟩, h2, h3, h4, h5, h6, h7⟩ := h
  exact ⟨hg, h4 g ((he g).2 (.inr rfl))⟩
theorem Both.plus_write {g i : Nat} {cur : Array Value} {t : TypeId} {u : Value} (h : Both w (Plus P g (.cells cur t (0, 0))) Q vs W) (hp : Fp P) : Both w (Plus P g (.cells (cur.setIfInBounds i u) t (0, 0))) Q vs (W.setCell ⟨g, i, none⟩ u) := by
  obtain ⟨f1, f2, S, T, ⟨S1, p, hn, hg, he⟩, h2, h3, h4, h5, h6, h7⟩ := h
  have hf : Foot (fun k => k = g) W (W.setCell ⟨g, i, none⟩ u) := Foot.set (fun k => k = g) W _ _ rfl
  have hSg : S g := (he g).2 (.inr rfl)
  exact ⟨fp_plus hp, f2, S, T, ⟨S1, hp.foot p hf fun k hk e => hn (by rw [← e]; exact hk), hn, heap_setCell_same W g i _ _ u hg, he⟩, f2.foot h2 hf fun k hk e => h3 g hSg (by rw [← e]; exact hk), h3, h4, h5, h6.trans (hf.below fun k hk => ⟨Nat.lt_of_lt_of_le hk h6.size, fun e => by have := h4 g hSg; omega⟩), fun q hq => ⟨(h7 q hq).1.foot hf fun k h0 e e' => ((h7 q hq).2 k h0 e).1 (by rw [e']; exact hSg), (h7 q hq).2⟩⟩
theorem Both.unplus {g : Nat} {o : Obj} (h : Both w (Plus P g o) Q vs W) (hp : Fp P) : Both w P Q vs W := by
  obtain ⟨f1, f2, S, T, ⟨S1, p, hn, hg, he⟩, h2, h3, h4, h5, h6, h7⟩ := h
  exact ⟨hp, f2, S1, T, p, h2, fun k a b => h3 k ((he k).2 (.inl a)) b, fun k a => h4 k ((he k).2 (.inl a)), h5, h6, fun q hq => ⟨(h7 q hq).1, fun k h0 e => ⟨fun a => ((h7 q hq).2 k h0 e).1 ((he k).2 (.inl a)), ((h7 q hq).2 k h0 e).2⟩⟩⟩
/-- The list's copy is laid, and the box's field tells of it. -/
theorem row_laid {bx g2 c2 : Nat} {xk xn : Int} {nm ot dt : ByteArray} {ka : Option Addr} {kl kc : Nat} {kp : List Int} (h : Both w P Q [(.slice (some ⟨bx, 0, none⟩) 6 6, (ActV.val ⟨xk, nm, ot, dt, xn, ka, kl, kc⟩).cells.toList)] W) (hw : w.heap.size ≤ bx) (hb : Below W.heap.size W V)
    (ho : V.ownsRow W.heap.size 3 1 (.slice (some ⟨g2, 0, none⟩) (kp.length + 1) c2) (kp.length + 1) ([] ++ kp.map (Value.int .i64) ++ [-70].map (Value.int .i64))) (hg : W.heap.size ≤ g2) :
    ∃ cur : Array Value, cur.size = c2 ∧ cur.toList.take (kp.length + 1) = (kp ++ [-70]).map (Value.int .i64) ∧ Both w (Plus P g2 (.cells cur 3 (0, 0))) Q [(.slice (some ⟨bx, 0, none⟩) 6 6, (ActV.val ⟨xk, nm, ot, dt, xn, some ⟨g2, 0, none⟩, kp.length, c2⟩).cells.toList)] (V.setCell ⟨bx, 5, none⟩ (.slice (some ⟨g2, 0, none⟩) kp.length c2)) := by
  have e : [] ++ kp.map (Value.int .i64) ++ [-70].map (Value.int .i64) = (kp ++ [-70]).map (Value.int .i64) := by simp
  rw [e] at ho
  rcases ho.2 with ⟨hv, h0⟩ | ⟨g, cap, cur, hv, hgb, hgg, hnc, hcm, hcs, htk⟩
  · omega
  · injection hv with e1 _ e3
    injection e1 with e1
    injection e1 with e1 _ _
    subst e1
    subst e3
    rw [Nat.mul_one] at hcs htk
    refine ⟨cur, hcs, htk, ?_⟩
    have h2 := h.plus hb hgg hg
    exact h2.write (i := 5) (u := .slice (some ⟨g2, 0, none⟩) kp.length c2) (show 5 < 6 by decide) hw fun p hp => by cases hp
theorem blk_at {g : Nat} {cur : Array Value} {t : TypeId} {n : Nat} {xs : List Value} (hg : W.heap[g]? = some (.cells cur t (0, 0))) (ht : cur.toList.take n = xs) {j : Nat} (hj : j < n) (hjs : j < xs.length) : W.cell? ⟨g, j, none⟩ = some xs[j] ∧ ∀ o, W.frozen? ⟨g, o, none⟩ = false := by
  subst ht
  refine ⟨?_, fun o => frozen_of_row W g o _ _ hg⟩
  rw [cell_of_row W g j _ _ _ hg]
  rw [List.length_take] at hjs
  have h1 : j < cur.toList.length := by omega
  rw [List.getElem_take, Array.getElem_toList]
  exact Array.getElem?_eq_getElem (by simpa using h1)
theorem ints_blk {g c2 : Nat} {cur : Array Value} {t : TypeId} {kp : List Int} (hg : W.heap[g]? = some (.cells cur t (0, 0))) (ht : cur.toList.take (kp.length + 1) = (kp ++ [-70]).map (Value.int .i64)) (hc : kp.length ≤ c2) (hm : c2 ≤ maxLen) : Ints W (.slice (some ⟨g, 0, none⟩) kp.length c2) kp := by
  refine ⟨_, _, rfl, hc, hm, (fun e => by cases e), fun h0 => ⟨g, 0, rfl, lt_of_block hg, fun j hj => ?_⟩⟩
  rw [Nat.zero_add, (blk_at hg ht (j := j) (by omega) (by simp; omega)).1]
  simp [List.getD, hj, List.getElem_append_left]
theorem ints_reads {A : Option Addr} {n c : Nat} {kp : List Int} (h : Ints w (.slice A n c) kp) : Reads w (.slice A n c) (kp.map (Value.int .i64)) := h.reads
theorem both_does_plus {g : Nat} {o : Obj} {d : Nat} {D D' : Dsk.Dk} {r : Int} (x : ActV) (keep : List Int) (h : Hid (Both w (Plus (AtDisk d D) g o) Q vs W)) (hk0 : 0 ≤ x.k) (hn : x.n ≤ 9223372036854775807) (hi : Ints W (.slice x.ka x.kl x.kc) keep) (hka : (Value.slice x.ka x.kl x.kc).ownBlock = some g) (hst : D.starts ≤ 1000000) (hR : Dsk.act D x keep = (D', r)) :
    Calls Try.prog 8 #[.pointer (some ⟨d, 0, none⟩), x.val] W fun e w' => e = .returned (.int .i64 r) ∧ Hid (Both w (Plus (AtDisk d D') g o) Q vs w') := by
  refine (Both.plus_left (P' := AtDisk d D') (E := fun e => e = .returned (.int .i64 r)) h.out (fp_disk _ _) fun S h1 hg _ => (does_any x keep h1 hst hk0 hn hi fun k _ e hs => hg (by have := hka.symm.trans e; injection this with this; rw [this]; exact hs)).mono ?_).mono fun e w' h => h
  rintro e w' ⟨r', rfl, rfl, S', q⟩
  rw [hR] at q ⊢
  exact ⟨rfl, S', q⟩
end
section
variable {w W V : World} {P Q : World → (Nat → Prop) → Prop} {vs : List (Value × List Value)} {d r : Nat} {D : Dsk.Dk}
/-- A row of one's own, made at a call that makes memory alone. -/
def OwnRow (W : World) (e : TypeId) (n : Nat) (xs : List Value) (en : Ending) (w' : World) : Prop := ∃ A c, en = .returned (.slice A n c) ∧ Hid (w'.ownsRow W.heap.size e 1 (.slice A n c) n xs) ∧ Hid (Below W.heap.size W w')
theorem own_of {e : TypeId} {n : Nat} {xs : List Value} (hn : xs.length = n) {en : Ending} {w' : World} (hp : EachPost e W xs en w') : OwnRow W e n xs en w' := by
  obtain ⟨v, rfl, ho, hb⟩ := hp
  rw [hn] at ho
  obtain ⟨A, c, rfl, _⟩ := own_is_slice ho
  exact ⟨A, c, rfl, ho, hb⟩
theorem own_names (h : Both w (AtDisk d D) Q vs W) : Calls Try.prog 13 #[.pointer (some ⟨d, 0, none⟩)] W (OwnRow W 9 D.fs.length ((Dsk.names D.fs).map Value.string)) := by
  obtain ⟨_, _, S, T, h1, _⟩ := h
  exact (names_any h1).mono fun e w' hp => own_of (by simp [Dsk.names]) hp
theorem own_unsync (h : Both w (AtDisk d D) Q vs W) : Calls Try.prog 14 #[.pointer (some ⟨d, 0, none⟩)] W (OwnRow W 3 D.fs.length ((Dsk.unsynced D.fs).map (Value.int .i64))) := by
  obtain ⟨_, _, S, T, h1, _⟩ := h
  exact (unsync_any h1).mono fun e w' hp => own_of (by simp [Dsk.unsynced]) hp
theorem own_qnames (h : Both w P (AtQ r D) vs W) : Calls Try.prog 16 #[.pointer (some ⟨r, 0, none⟩)] W (OwnRow W 9 D.fs.length ((Dsk.names D.fs).map Value.string)) := by
  obtain ⟨_, _, S, T, _, h1, _⟩ := h
  exact (qnames_any h1).mono fun e w' hp => own_of (by simp [Dsk.names]) hp
theorem own_qunsync (h : Both w P (AtQ r D) vs W) : Calls Try.prog 17 #[.pointer (some ⟨r, 0, none⟩)] W (OwnRow W 3 D.fs.length ((Dsk.unsynced D.fs).map (Value.int .i64))) := by
  obtain ⟨_, _, S, T, _, h1, _⟩ := h
  exact (qunsync_any h1).mono fun e w' hp => own_of (by simp [Dsk.unsynced]) hp
theorem own_cell {e : TypeId} {n g c j B : Nat} {xs : List Value} (h : V.ownsRow B e 1 (.slice (some ⟨g, 0, none⟩) n c) n xs) (hj : j < n) : (∃ u, V.cell? ⟨g, j, none⟩ = some u) ∧ V.frozen? ⟨g, j, none⟩ = false := by
  have hl := own_len h
  refine ⟨⟨xs[j], ?_⟩, World.ownsRow.frozenAt h j⟩
  rw [World.ownsRow.cellAt h j (by omega)]
  simp
theorem own_reads {e : TypeId} {n : Nat} {v : Value} {xs : List Value} {B : Nat} (h : V.ownsRow B e 1 v n xs) : Reads V v xs := Reads.own (base := B) (e := e) (by rw [own_len h]; exact h)
end
end Go.Proofs.Ytceldekbkffhpaa
