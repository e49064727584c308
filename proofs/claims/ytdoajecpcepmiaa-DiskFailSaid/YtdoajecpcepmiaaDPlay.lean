/-
  Contracts of the statements' helpers: played, up, bytes, old.
-/
import Derived.Test.YtdoajecpcepmiaaDSep
import Derived.Outline
namespace Go.Proofs.Ytdoajecpcepmiaa
open Go.RowKit
namespace Dsk
def plays (K : ActV → List Int) (D : Dk) (l : List ActV) : Dk := l.foldl (fun D x => (act D x (K x)).1) D
theorem plays_snoc (K : ActV → List Int) (D : Dk) (l : List ActV) (x : ActV) : plays K D (l ++ [x]) = (act (plays K D l) x (K x)).1 := by
  unfold plays; rw [List.foldl_append]; rfl
theorem plays_take (K : ActV → List Int) (D : Dk) (l : List ActV) {k : Nat} (h : k < l.length) : plays K D (l.take (k + 1)) = (act (plays K D (l.take k)) l[k] (K l[k])).1 := by
  rw [List.take_succ_eq_append_getElem h, plays_snoc]
theorem plays_mild (K : ActV → List Int) (D : Dk) (l : List ActV) : (plays K D l).cap = D.cap ∧ (plays K D l).starts ≤ D.starts + l.length := by
  induction l generalizing D with
  | nil => exact ⟨rfl, Nat.le_refl _⟩
  | cons x l ih =>
    obtain ⟨h1, h2, _⟩ := mild_act D x (K x)
    obtain ⟨i1, i2⟩ := ih (act D x (K x)).1
    exact ⟨i1.trans h1, by rw [List.length_cons]; show (plays K (act D x (K x)).1 l).starts ≤ _; omega⟩
/-- A disk that is up, whatever it was. -/
def upD (D : Dk) : Dk := (start (if D.down then D else goDown D (List.replicate 16 1048576))).1
/-- A file's bytes, among those of a list. -/
def look (fs : List Fl) (nm : ByteArray) : List UInt8 × Bool := if nm ∈ names fs then (((fs[place (names fs) nm]?).map Fl.data).getD [], true) else ([], false)
theorem read_up {D : Dk} (hd : D.down = false) (nm : ByteArray) : read D nm = ((look D.fs nm).1, if nm ∈ names D.fs then 0 else 4) := by
  unfold read look
  rw [hd]
  by_cases h : nm ∈ names D.fs
  · simp [h]
  · simp [h]
theorem place_name {fs : List Fl} (hr : Rise (names fs)) {i : Nat} (hi : i < fs.length) : fs[i].name ∈ names fs ∧ place (names fs) fs[i].name = i := by
  have hi' : i < (names fs).length := by rw [names_len]; exact hi
  have e : (names fs)[i] = fs[i].name := by simp [names]
  rw [← e]
  exact ⟨List.getElem_mem hi', place_at hr hi'⟩
theorem look_at {fs : List Fl} (hr : Rise (names fs)) {i : Nat} (hi : i < fs.length) : look fs fs[i].name = (fs[i].data, true) := by
  obtain ⟨h1, h2⟩ := place_name hr hi
  unfold look
  rw [if_pos h1, h2, List.getElem?_eq_getElem hi]; rfl
theorem look_not {fs : List Fl} {nm : ByteArray} (h : nm ∉ names fs) : look fs nm = ([], false) := by unfold look; rw [if_neg h]
end Dsk
section
variable {w0 w w' W : World} {P P' Q : World → (Nat → Prop) → Prop} {vs : List (Value × List Value)} {v : Value} {xs : List Value} {d : Nat} {D D' : Dsk.Dk} {S : Nat → Prop}
theorem fp_small {B : Nat} (h : Fp P) : Fp (fun w S => P w S ∧ ∀ k, S k → k < B) := ⟨fun p hf hn => ⟨h.foot p.1 hf hn, p.2⟩, fun p => h.lt p.1⟩
theorem Both.small (h : Both w0 P Q vs w) : Both w0 (fun w' S => P w' S ∧ ∀ k, S k → k < w.heap.size) Q vs w := by
  obtain ⟨f1, f2, S, T, h1, h2⟩ := h
  exact ⟨fp_small f1, f2, S, T, ⟨h1, f1.lt h1⟩, h2⟩
theorem both_crash_new (kv : Value) (keep : List Int) (h : Hid (Both w0 (AtDisk d D) Q vs w)) (hb : Below w.heap.size w W) (hk : Ints W kv keep) (hko : ∀ k, kv.ownBlock = some k → w.heap.size ≤ k) {r : Int} (hR : Dsk.crash D keep = (D', r)) :
    Calls Try.prog 30 #[.pointer (some ⟨d, 0, none⟩), kv] W fun e w' => e = .returned (.int .i64 r) ∧ Hid (Both w0 (AtDisk d D') Q vs w') := by
  refine (Both.left (P' := AtDisk d D') (E := fun e => e = .returned (.int .i64 r)) (h.out.small.below hb) (fp_disk _ _) fun S h1 h2 => (crash_any kv keep h1.1 hk fun k _ e hs => ?_).mono ?_).mono fun e w' h => h
  · have := hko k e; have := h1.2 k hs; omega
  · rintro e w' ⟨r', rfl, rfl, S', q⟩
    rw [hR] at q ⊢
    exact ⟨rfl, S', q⟩
theorem both_fail (kv : Value) (keep : List Int) (n : Int) (hn : n ≤ 9223372036854775807) (h : Hid (Both w0 (AtDisk d D) Q vs w)) (hk : Ints w0 kv keep) {r : Int} (hR : Dsk.failSet D n keep = (D', r)) :
    Calls Try.prog 32 #[.pointer (some ⟨d, 0, none⟩), .int .i64 n, kv] w fun e w' => e = .returned (.int .i64 r) ∧ Hid (Both w0 (AtDisk d D') Q vs w') :=
  Both.call h hR fun _ h1 _ => fail_any kv keep n hn h1 (hk.old h.out.bel)
/-- Two that were made one behind the other. -/
theorem Both.join {w1 : World} (h : Both w0 P AtNone vs w1) (h' : Both w1 Q AtNone [] w) : Both w0 P Q vs w := by
  obtain ⟨f1, _, S, T, h1, h2, h3, h4, h5, h6, h7⟩ := h
  obtain ⟨g1, _, S', T', k1, k2, k3, k4, k5, k6, k7⟩ := h'
  have hf : Foot (fun _ => False) w1 w := below_foot k6
  refine ⟨f1, g1, S, S', f1.foot h1 hf fun _ _ e => e, k1, fun k a b => ?_, h4, fun k a => Nat.le_trans h6.size (k4 k a), h6.trans (k6.mono h6.size), fun p hp => ⟨(h7 p hp).1.below k6, fun k h0 e => ⟨((h7 p hp).2 k h0 e).1, fun a => ?_⟩⟩⟩
  · have := f1.lt h1 k a; have := k4 k b; omega
  · have := (h7 p hp).1.lt h0 e; have := k4 k a; omega
end
theorem ints_lit (w : World) (l : List Int) (h0 : 0 < l.length) (hl : l.length ≤ 1000) (t : TypeId) (cs : Array Value) (hc : cs = (l.map (Value.int .i64)).toArray) : Ints (w.alloc (.cells cs t)) (.slice (some ⟨w.heap.size, 0, none⟩) l.length l.length) l := by
  subst hc; exact lit_ints w l h0 hl t
section
variable {w0 w w' : World} {Q : World → (Nat → Prop) → Prop} {vs : List (Value × List Value)} {d : Nat} {D : Dsk.Dk}
set_option maxRecDepth 100000 in
set_option maxHeartbeats 1000000 in
theorem both_make_up (h : Hid (Both w0 (AtDisk d D) Q vs w)) (hst : D.starts ≤ 999999) : Calls Try.prog 31 #[.pointer (some ⟨d, 0, none⟩)] w fun e w' => e = .returned (.tuple #[]) ∧ Hid (Both w0 (AtDisk d (Dsk.upD D)) Q vs w') := by
  have HS := Lib.hid hst
  clear hst
  cases hd : D.down
  · have HU : Hid (Dsk.upD D = (Dsk.start (Dsk.goDown D (List.replicate 16 1048576))).1) := by unfold Hid Dsk.upD; rw [hd]; rfl
    have HC : Hid (Dsk.crash D (List.replicate 16 1048576) = (Dsk.goDown D (List.replicate 16 1048576), 0)) := by unfold Hid Dsk.crash; rw [hd]; rfl
    have HV := fun W (h' : Hid (Both w0 (AtDisk d D) Q vs W)) => both_up h' hd
    clear hd
    go_enter Try.func31, Try.ntmps31
    go_wp2_with fail
    refine (HV _ h).mono ?_
    rintro e w1 ⟨rfl, rfl⟩
    clear HV
    go_wp2_with fail
    refine (both_crash_new _ (List.replicate 16 1048576) h (below_alloc _ _) (ints_lit w _ (by decide) (by decide) _ _ (by kernel_rfl)) (fun k e => Nat.le_of_eq (Option.some.inj e)) HC.out).mono ?_
    rintro e w2 ⟨rfl, H2⟩
    go_wp2_with fail
    refine (both_start H2 (by have := HS.out; show D.starts ≤ _; omega) rfl).mono ?_
    rintro e w3 ⟨rfl, H3⟩
    go_wp2_with fail
    go_end0
    rw [HU.out]
    exact ⟨rfl, H3⟩
  · have HU : Hid (Dsk.upD D = (Dsk.start D).1) := by unfold Hid Dsk.upD; rw [hd]; rfl
    have HV := fun W (h' : Hid (Both w0 (AtDisk d D) Q vs W)) => both_up h' hd
    clear hd
    go_enter Try.func31, Try.ntmps31
    go_wp2_with fail
    refine (HV _ h).mono ?_
    rintro e w1 ⟨rfl, rfl⟩
    clear HV
    go_wp2_with fail
    refine (both_start h (by have := HS.out; omega) rfl).mono ?_
    rintro e w3 ⟨rfl, H3⟩
    go_wp2_with fail
    go_end0
    rw [HU.out]
    exact ⟨rfl, H3⟩
end
def PlayedPost (w : World) (D : Dsk.Dk) (e : Ending) (w' : World) : Prop := ∃ d, e = .returned (.pointer (some ⟨d, 0, none⟩)) ∧ Hid (Both w (AtDisk d D) AtNone [] w')
set_option maxRecDepth 100000 in
set_option maxHeartbeats 1000000 in
theorem played_any (m : Nat) (hm : m < 65536) (v : Value) (l : List ActV) (w : World) (hl : Acts w v l) (K : ActV → List Int) (hx : ∀ x ∈ l, ActIn w x (K x)) (h150 : l.length ≤ 150) :
    Calls Try.prog 27 #[.int .u16 (m : Int), v] w (PlayedPost w (Dsk.plays K (Dsk.new (1 + m % 5000)) l)) := by
  obtain ⟨A, c, rfl, hc1, hc2, hA⟩ := hl
  have HA := Lib.hid hA
  have HX := Lib.hid hx
  clear hA hx
  unfold maxLen at hc2
  obtain ⟨M, HM, hM, hM1, hM2⟩ : ∃ M : Nat, Hid (1 + m % 5000 = M) ∧ (1 + (m : Int) % 5000) = (M : Int) ∧ 1 ≤ M ∧ M ≤ 5000 := ⟨1 + m % 5000, rfl, by omega, by omega, by omega⟩
  rw [HM.out]
  clear HM
  go_enter Try.func27, Try.ntmps27
  go_wp2_with fail
  clear hM hm
  refine (new_any _).mono ?_
  rintro e w2 (⟨hn, _⟩ | ⟨_, rfl, h2, hb2⟩)
  · exact absurd ⟨by omega, by omega⟩ hn
  have L2 : Hid (Both w (AtDisk w.heap.size (Dsk.new M)) AtNone [] w2) := ⟨fp_disk _ _, fp_none, _, fun _ => False, h2, fun k e => e, fun k _ e => e, fun k e => by rw [e]; exact Nat.le_refl _, fun k e => e.elim, hb2, fun p hp => (by cases hp)⟩
  clear h2 hb2
  obtain ⟨d, hd⟩ : ∃ d, d = w.heap.size := ⟨_, rfl⟩
  rw [← hd] at L2 ⊢
  clear hd
  go_wp2_with fail
  go_loopg [7] l.length (fun kx s7 wr => ∃ i : Nat, i ≤ l.length ∧ s7 = .int .i64 (i : Int) ∧ l.length - i ≤ kx ∧ Hid (Both w (AtDisk d (Dsk.plays K (Dsk.new M) (l.take i))) AtNone [] wr))
  case atStart => exact ⟨0, Nat.zero_le _, rfl, by omega, L2.out⟩
  case round =>
    obtain ⟨i, hi, rfl, hkx, HL⟩ := hrel
    clear L2
    by_cases hlt : i < l.length
    · obtain ⟨b, o, rfl, hbl, hcells⟩ := HA.out (by omega)
      have HP := Lib.hid (Dsk.plays_take K (Dsk.new M) l hlt)
      have HI := Lib.hid (HX.out l[i] (List.getElem_mem hlt))
      have HS := Lib.hid ((Dsk.plays_mild K (Dsk.new M) (l.take i)).2)
      have HW : Hid ((Dsk.new M).starts = 0 ∧ (l.take i).length ≤ 150) := ⟨rfl, by rw [List.length_take]; omega⟩
      obtain ⟨x0, x1, x2, x3, x4, x5⟩ := (hcells i hlt).below hbl HL.out.bel
      clear hcells
      have hlk : (i : Int) < (l.length : Int) := by omega
      generalize l[i] = x at *
      generalize Dsk.plays K (Dsk.new M) (l.take i) = D at *
      generalize K x = kp at *
      obtain ⟨xk, nm, ot, dt, xn, ka, kl, kc⟩ := x
      simp only at x0 x1 x2 x3 x4 x5
      go_wp2_with fail
      obtain ⟨⟨Dp, r⟩, HR⟩ : ∃ R, Hid (Dsk.act D ⟨xk, nm, ot, dt, xn, ka, kl, kc⟩ kp = R) := ⟨_, rfl⟩
      refine (both_does ⟨xk, nm, ot, dt, xn, ka, kl, kc⟩ kp HL HI.out (by have := HS.out; have := HW.out; omega) HR.out).mono ?_
      rintro e w5 ⟨rfl, H5⟩
      clear x0 x1 x2 x3 x4 x5
      go_wp2_with fail
      go_roundg (l.length - (i + 1))
      case measure => omega
      case rel => exact ⟨i + 1, by omega, by go_num, by omega, by rw [HP.out, HR.out]; exact H5.out⟩
    · obtain rfl : i = l.length := by omega
      have hlk : ¬ ((l.length : Int) < (l.length : Int)) := by omega
      rw [List.take_length] at HL
      go_wp2_with fail
      go_ret
      exact ⟨d, rfl, HL⟩
def flV (f : Dsk.Fl) : Value := .string ⟨f.data.toArray⟩
theorem take_text (l : List UInt8) (k : Nat) : (⟨(l.take k).toArray⟩ : ByteArray) = (⟨l.toArray⟩ : ByteArray).extract 0 k := by
  apply ByteArray.ext
  apply Array.toList_inj.1
  rw [Lib.extract_data]
  simp
theorem append_text (l : List UInt8) (s : ByteArray) : (⟨l.toArray⟩ : ByteArray) ++ s = ⟨(l ++ s.data.toList).toArray⟩ := by
  apply ByteArray.ext
  apply Array.toList_inj.1
  simp [ByteArray.data_append]
def BytesPost (w0 : World) (P Q : World → (Nat → Prop) → Prop) (vs : List (Value × List Value)) (fs : List Dsk.Fl) (e : Ending) (w' : World) : Prop :=
  ∃ A c, e = .returned (.tuple #[.slice A fs.length c, .bool true]) ∧ Hid (Both w0 P Q ((.slice A fs.length c, fs.map flV) :: vs) w')
section
variable {w0 w w' : World} {Q : World → (Nat → Prop) → Prop} {vs : List (Value × List Value)} {d : Nat} {D : Dsk.Dk}
set_option maxRecDepth 100000 in
set_option maxHeartbeats 1000000 in
theorem both_bytes (h : Hid (Both w0 (AtDisk d D) Q vs w)) (hdn : D.down = false) : Calls Try.prog 29 #[.pointer (some ⟨d, 0, none⟩)] w (BytesPost w0 (AtDisk d D) Q vs D.fs) := by
  obtain ⟨i0, hi, hz0, hz1, hz2⟩ := info_parts Try.info_str
  have HRD := Lib.hid (fun i (hi : i < D.fs.length) => (show Dsk.read D D.fs[i].name = (D.fs[i].data, 0) from by
    rw [Dsk.read_up hdn, Dsk.look_at h.out.good.rise hi, if_pos (Dsk.place_name h.out.good.rise hi).1]))
  have hfew := h.out.good.few
  clear hdn
  go_enter Try.func29, Try.ntmps29
  go_wp2_with fail
  refine (both_names h).mono ?_
  rintro e w1 ⟨A, c, rfl, H1⟩
  go_wp2_with fail
  go_loopw [4, 6, 7, 8] (fun out i s er wr => ∃ (k : Nat) (A : Option Addr) (c : Nat), k ≤ D.fs.length ∧ i = .int .i64 (k : Int) ∧ out = .slice A k c ∧ Hid (wr.ownsRow w1.heap.size 9 1 (.slice A k c) k ((D.fs.take k).map flV)) ∧ Below w1.heap.size w1 wr) (fun _ i _ _ _ => D.fs.length - (intOf i).toNat)
  case atStart => exact ⟨0, none, 0, Nat.zero_le _, rfl, rfl, by rw [List.take_zero]; exact World.ownsRow_nil _ _ _ _, Below.refl _ _⟩
  case round =>
    obtain ⟨k, A2, c2, hk, rfl, rfl, HO, hb⟩ := hrel
    by_cases hlt : k < D.fs.length
    · have HR := Lib.hid (HRD.out k hlt)
      obtain ⟨b, off, rfl, hcell⟩ := ((H1.out.below hb).reads (List.mem_cons_self ..)).at_ (i := k) (x := Value.string D.fs[k].name) (by simpa [Dsk.names] using hlt) (by simp [List.getD, hlt, Dsk.names])
      have HT : Hid ((D.fs.take (k + 1)).map flV = (D.fs.take k).map flV ++ [flV D.fs[k]]) := by unfold Hid; rw [List.take_succ_eq_append_getElem hlt, List.map_append]; rfl
      have hlk : (k : Int) < (D.fs.length : Int) := by omega
      have hlk2 : (k : Int) < 16 := by omega
      have hsz := hb.size
      have HB : Hid (∀ nm, Calls Try.prog 16 #[.pointer (some ⟨d, 0, none⟩), .string nm] wr (ReadPost wr (Dsk.read D nm))) := fun nm => by
        obtain ⟨_, _, S, T, h1, _⟩ := H1.out.below hb
        exact read_any nm h1
      generalize D.fs[k] = f at *
      obtain ⟨fn, fd, fsu⟩ := f
      simp only at hcell HR
      go_wp2_with fail
      refine (HB.out fn).mono ?_
      rintro e w4 ⟨rfl, hb4⟩
      rw [HR.out]
      have hb5 := hb.trans (hb4.mono hb.size)
      have hrow := owns_foot HO.out (below_foot hb4 : Foot (fun _ => False) wr w4) (fun _ _ e => e)
      have hsz5 := hb5.size
      clear HB HO HRD hb hb4 hcell
      go_wp2_with (at_builtin; (refine wpList_append_own _ rfl _ _ 40 rfl w1.heap.size 9 i0 (.string ⟨#[]⟩) 1 16 Try.underlying40 hi hz0 hz1 hz2 rfl (by decide) _ _ _ rfl (World.ownsRow.alloc hrow _) ⟨w4.heap.size, 0, none⟩ 1 1 [.string ⟨fd.toArray⟩] rfl rfl (cell_one_new _ _ _) (fun x hx => by simp at hx; subst hx; rfl) (by unfold maxLen; omega) (by omega) (by simp; omega) ?_); intro v' w3 hown' hgrow3 hnil3)
      have hb6 := (hb5.alloc hsz5 (.cells #[.string ⟨fd.toArray⟩] 9)).grown hgrow3 (by simp; omega) (fun q hq => (World.ownsRow.lt hrow q hq).1)
      have HR2 : Hid (∃ A c, v' = .slice A (k + 1) c ∧ w3.ownsRow w1.heap.size 9 1 (.slice A (k + 1) c) (k + 1) ((D.fs.take (k + 1)).map flV)) := by
        rw [HT.out]
        have e : ((D.fs.take k).map flV ++ [flV ⟨fn, fd, fsu⟩]).length = k + 1 := by simp; omega
        have ho : w3.ownsRow w1.heap.size 9 1 v' ((D.fs.take k).map flV ++ [flV ⟨fn, fd, fsu⟩]).length ((D.fs.take k).map flV ++ [flV ⟨fn, fd, fsu⟩]) := by rw [e]; exact hown'
        obtain ⟨A, c, rfl, _⟩ := Reads.own ho
        rw [e] at ho ⊢
        exact ⟨A, c, rfl, ho⟩
      clear hrow hown' hgrow3 hnil3
      obtain ⟨A3, c3, rfl, ho3⟩ := HR2.out
      have HO3 := Lib.hid ho3
      clear ho3 HR2
      go_roundw
      case rel => exact ⟨k + 1, A3, c3, by omega, by go_num, rfl, HO3.out, hb6⟩
      case measure => simp [intOf]; omega
    · obtain rfl : k = D.fs.length := by omega
      have hlk : ¬ ((D.fs.length : Int) < (D.fs.length : Int)) := by omega
      rw [List.take_length] at HO
      have HB : Hid (Both w0 (AtDisk d D) Q ((.slice A2 D.fs.length c2, D.fs.map flV) :: vs) wr) := by
        have ho : wr.ownsRow w1.heap.size 9 1 (.slice A2 D.fs.length c2) (D.fs.map flV).length (D.fs.map flV) := by rw [List.length_map]; exact HO.out
        have hr := Reads.own ho
        have := (H1.out.add hb hr (owns_fresh ho))
        exact this.fewer (fun p hp => by
          rcases List.mem_cons.1 hp with rfl | hp
          · exact List.mem_cons_self ..
          · exact List.mem_cons_of_mem _ (List.mem_cons_of_mem _ hp))
      clear HO
      go_wp2_with fail
      go_ret2
      exact ⟨A2, c2, rfl, HB.out⟩
end
section
variable {w : World} {va vb : Value}
def OldPost (w : World) (R : List UInt8 × Bool) (e : Ending) (w' : World) : Prop := e = .returned (.tuple #[.string ⟨R.1.toArray⟩, .bool R.2]) ∧ Still w w'
set_option maxRecDepth 100000 in
set_option maxHeartbeats 1000000 in
theorem old_any (fs : List Dsk.Fl) (hr : Dsk.Rise (Dsk.names fs)) (nm : ByteArray) (h1 : Reads w va ((Dsk.names fs).map Value.string)) (h2 : Reads w vb (fs.map flV)) (hl : fs.length ≤ 1000000) :
    Calls Try.prog 33 #[va, vb, .string nm] w (OldPost w (Dsk.look fs nm)) := by
  obtain ⟨A, ca, rfl, hca, hA⟩ := h1
  obtain ⟨A', cb, rfl, hcb, hA'⟩ := h2
  have hln : ((Dsk.names fs).map Value.string).length = fs.length := by simp [Dsk.names]
  have hln2 : (fs.map flV).length = fs.length := by simp
  rw [hln] at hA hca ⊢
  rw [hln2] at hA' hcb ⊢
  have HA := Lib.hid hA
  have HB := Lib.hid hA'
  have HR := Lib.hid hr
  clear hA hA' hln hln2 hr
  go_enter Try.func33, Try.ntmps33
  go_wp2
  go_loopw [8] (fun i wr => ∃ k : Nat, k ≤ fs.length ∧ i = .int .i64 k ∧ Hid (∀ j (hj : j < fs.length), j < k → fs[j].name ≠ nm) ∧ Still w wr) (fun i _ => fs.length - (intOf i).toNat)
  case atStart => exact ⟨0, Nat.zero_le _, rfl, fun j _ h => (Nat.not_lt_zero _ h).elim, Still.refl _⟩
  case round =>
    obtain ⟨k, hk, rfl, HN, hst⟩ := hrel
    by_cases hlt : k < fs.length
    · obtain ⟨b1, o1, rfl, _, c1⟩ := HA.out (by omega)
      obtain ⟨b2, o2, rfl, _, c2⟩ := HB.out (by omega)
      have d1 := (hst.cell ⟨b1, o1 + k, none⟩).trans (c1 k hlt)
      have d2 := (hst.cell ⟨b2, o2 + k, none⟩).trans (c2 k hlt)
      rw [show ((Dsk.names fs).map Value.string).getD k undef = Value.string fs[k].name from by simp [List.getD, hlt, Dsk.names]] at d1
      rw [show (fs.map flV).getD k undef = Value.string ⟨fs[k].data.toArray⟩ from by simp [List.getD, hlt, flV]] at d2
      have HL := Lib.hid (Dsk.look_at HR.out hlt)
      have HN2 : Hid (fs[k].name ≠ nm → ∀ j (hj : j < fs.length), j < k + 1 → fs[j].name ≠ nm) := fun h j hj hjk => by
        rcases Nat.lt_or_ge j k with h' | h'
        · exact HN.out j hj h'
        · obtain rfl : j = k := by omega
          exact h
      have hlk : (k : Int) < (fs.length : Int) := by omega
      clear c1 c2 HN
      generalize fs[k] = f at *
      obtain ⟨fn, fd, fsu⟩ := f
      simp only at d1 d2 HL HN2
      by_cases hn : fn = nm
      · subst hn
        go_wp2_with fail
        go_ret2
        refine ⟨?_, hst⟩
        rw [HL.out]
        rfl
      · have t1 : (fn.toList == nm.toList) = false := beq_eq_false_iff_ne.2 fun e => hn (Dsk.tl_inj e)
        have HNE := Lib.hid hn
        clear hn
        go_wp2_with fail
        go_roundw
        case rel => exact ⟨k + 1, by omega, by go_num, HN2.out HNE.out, hst⟩
        case measure => simp [intOf]; omega
    · obtain rfl : k = fs.length := by omega
      have hlk : ¬ ((fs.length : Int) < (fs.length : Int)) := by omega
      have HL : Hid (Dsk.look fs nm = ([], false)) := Dsk.look_not fun h => by
        obtain ⟨f, hf, e⟩ := List.mem_map.1 h
        obtain ⟨j, hj, rfl⟩ := List.getElem_of_mem hf
        exact HN.out j hj hj e
      go_wp2_with fail
      go_ret2
      refine ⟨?_, hst⟩
      rw [HL.out]
      rfl
end
section
variable {w0 w : World} {P Q : World → (Nat → Prop) → Prop} {vs : List (Value × List Value)} {va vb : Value} {xs ys : List Value}
theorem both_same_texts (h : Hid (Both w0 P Q vs w)) (l : List ByteArray) (ha : (va, xs) ∈ vs) (hb : (vb, ys) ∈ vs) (hx : xs = l.map Value.string) (hy : ys = l.map Value.string) (hl : l.length ≤ 1000000) :
    Calls Try.prog 20 #[va, vb] w fun e w' => e = .returned (.bool true) ∧ Hid (Both w0 P Q vs w') :=
  (sameTexts_any va vb l w (by rw [← hx]; exact h.out.reads ha) (by rw [← hy]; exact h.out.reads hb) hl).mono fun _ _ hp => ⟨hp.1, h.out.below hp.2⟩
theorem both_same_ints (h : Hid (Both w0 P Q vs w)) (l : List Int) (ha : (va, xs) ∈ vs) (hb : (vb, ys) ∈ vs) (hx : xs = l.map (Value.int .i64)) (hy : ys = l.map (Value.int .i64)) (hl : l.length ≤ 1000000) :
    Calls Try.prog 15 #[va, vb] w fun e w' => e = .returned (.bool true) ∧ Hid (Both w0 P Q vs w') :=
  (sameInts_any va vb l w (by rw [← hx]; exact h.out.reads ha) (by rw [← hy]; exact h.out.reads hb) hl).mono fun _ _ hp => ⟨hp.1, h.out.below hp.2⟩
theorem both_works (h : Hid (Both w0 P Q vs w)) : Calls Try.prog 12 #[] w fun e w' => e = .returned (.bool true) ∧ Hid (Both w0 P Q vs w') :=
  (works_any w).mono fun _ _ hp => ⟨hp.1, h.out.below hp.2⟩
theorem both_old (h : Hid (Both w0 P Q vs w)) (fs : List Dsk.Fl) (hr : Dsk.Rise (Dsk.names fs)) (nm : ByteArray) (ha : (va, (Dsk.names fs).map Value.string) ∈ vs) (hb : (vb, fs.map flV) ∈ vs) (hl : fs.length ≤ 1000000) {l : List UInt8} {b : Bool} (hk : Dsk.look fs nm = (l, b)) :
    Calls Try.prog 33 #[va, vb, .string nm] w fun e w' => e = .returned (.tuple #[.string ⟨l.toArray⟩, .bool b]) ∧ Hid (Both w0 P Q vs w') :=
  (old_any fs hr nm (h.out.reads ha) (h.out.reads hb) hl).mono fun _ _ hp => ⟨by rw [hp.1, hk], h.out.still hp.2⟩
theorem flV_map (fs : List Dsk.Fl) : fs.map flV = (fs.map fun f => (⟨f.data.toArray⟩ : ByteArray)).map Value.string := by rw [List.map_map]; rfl
end
end Go.Proofs.Ytdoajecpcepmiaa
