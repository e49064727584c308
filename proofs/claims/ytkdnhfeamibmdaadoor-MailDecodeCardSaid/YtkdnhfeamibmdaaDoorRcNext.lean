/-
  The reader of package records: so many numbers, 0 where none stands.
-/
import Derived.Test.YtkdnhfeamibmdaaDoorRcMem
import Derived.Test.YtkdnhfeamibmdaaDoorRcPut
import Derived.Test.YtkdnhfeamibmdaaDoorFoot
import Derived.Test.YtkdnhfeamibmdaaDoorOCheck
import Derived.Deep.QuietTactic
import Derived.Laws.Rows
namespace Go.Proofs.YtkdnhfeamibmdaaDoor
open Go.RowKit
/-- The reader lies in block m: the text, how far, did it fail? -/
def RdAt (w : World) (m : Nat) (s : ByteArray) (a : Nat) (f : Bool) : Prop := w.heap[m]? = some (.cells #[.string s, .int .i64 a, .bool f] 108 (0, 0))
theorem RdAt.lt {w : World} {m : Nat} {s : ByteArray} {a : Nat} {f : Bool} (h : RdAt w m s a f) : m < w.heap.size := (Array.getElem?_eq_some_iff.1 h).1
theorem heap_set {w : World} {b i : Nat} {cs : Array Value} {t : TypeId} {fz : Nat × Nat} (v : Value) (h : w.heap[b]? = some (.cells cs t fz)) : (w.setCell ⟨b, i, none⟩ v).heap[b]? = some (.cells (cs.set! i v) t fz) := by
  simp [World.setCell, Array.getElem?_modify, h]
theorem RdAt.foot {S : Nat → Prop} {w w' : World} {m : Nat} {s : ByteArray} {a : Nat} {f : Bool} (h : RdAt w m s a f) (hf : Foot S w w') (hn : ¬ S m) : RdAt w' m s a f := hf.kept h hn
theorem RdAt.below {w w' : World} {m : Nat} {s : ByteArray} {a : Nat} {f : Bool} (h : RdAt w m s a f) (hb : Below w.heap.size w w') : RdAt w' m s a f := (hb.block m h.lt).trans h
theorem RdAt.set1 {w : World} {m : Nat} {s : ByteArray} {a b : Nat} {f : Bool} (h : RdAt w m s a f) : RdAt (w.setCell ⟨m, 1, none⟩ (.int .i64 (b : Int))) m s b f := heap_set _ h
theorem RdAt.set2 {w : World} {m : Nat} {s : ByteArray} {a : Nat} {f g : Bool} (h : RdAt w m s a f) : RdAt (w.setCell ⟨m, 2, none⟩ (.bool g)) m s a g := heap_set _ h
theorem RdAt.other {w : World} {m : Nat} {s : ByteArray} {a : Nat} {f : Bool} (h : RdAt w m s a f) {p : Addr} (hp : m ≠ p.block) (v : Value) : RdAt (w.setCell p v) m s a f := (Below.heap_setCell _ _ _ _ hp).trans h
theorem RdAt.cells {w : World} {m : Nat} {s : ByteArray} {a : Nat} {f : Bool} (h : RdAt w m s a f) : w.cell? ⟨m, 0, none⟩ = some (.string s) ∧ w.cell? ⟨m, 1, none⟩ = some (.int .i64 a) ∧ w.cell? ⟨m, 2, none⟩ = some (.bool f) ∧ w.frozen? ⟨m, 1, none⟩ = false ∧ w.frozen? ⟨m, 2, none⟩ = false :=
  ⟨by rw [Lib.cell_of_heap h]; rfl, by rw [Lib.cell_of_heap h]; rfl, by rw [Lib.cell_of_heap h]; rfl, Lib.frozen_of_heap h 1, Lib.frozen_of_heap h 2⟩
theorem IntRow.set {w : World} {g i : Nat} {xs : List Int} (h : IntRow w g xs) (n : Int) : IntRow (w.setCell ⟨g, i, none⟩ (.int .i64 n)) g (xs.set i n) := by
  refine (heap_set _ h).trans ?_
  simp [List.map_set]
theorem IntRow.other {w : World} {g : Nat} {xs : List Int} (h : IntRow w g xs) {p : Addr} (hp : g ≠ p.block) (v : Value) : IntRow (w.setCell p v) g xs := (Below.heap_setCell _ _ _ _ hp).trans h
theorem IntRow.foot {S : Nat → Prop} {w w' : World} {g : Nat} {xs : List Int} (h : IntRow w g xs) (hf : Foot S w w') (hn : ¬ S g) : IntRow w' g xs := hf.kept h hn
theorem IntRow.below {w w' : World} {g : Nat} {xs : List Int} (h : IntRow w g xs) (hb : Below w.heap.size w w') : IntRow w' g xs := (hb.block g (Array.getElem?_eq_some_iff.1 h).1).trans h
theorem IntRow.lt {w : World} {g : Nat} {xs : List Int} (h : IntRow w g xs) : g < w.heap.size := (Array.getElem?_eq_some_iff.1 h).1
def NextPost (s : ByteArray) (m k a : Nat) (f : Bool) (w : World) (e : Ending) (w' : World) : Prop :=
  ∃ g, e = .returned (.slice (some ⟨g, 0, none⟩) k k) ∧ w.heap.size ≤ g ∧ IntRow w' g (nx (bytesOf s) k a).1 ∧ RdAt w' m s (nx (bytesOf s) k a).2.1 (f || (nx (bytesOf s) k a).2.2) ∧ Foot (fun j => j = m) w w'
/-- How far the reading has come. -/
def NxCome (l : List UInt8) (k a : Nat) (ns : List Int) (b : Nat) : Prop := nx l k a = (ns ++ (nx l (k - ns.length) b).1, (nx l (k - ns.length) b).2.1, (nx l (k - ns.length) b).2.2)
theorem NxCome.start (l : List UInt8) (k a : Nat) : NxCome l k a [] a := by unfold NxCome; simp
theorem NxCome.next {l : List UInt8} {k a b c : Nat} {ns : List Int} {n : Int} (h : NxCome l k a ns b) (hlt : ns.length < k) (hg : got l (b : Int) = some (n, c)) : NxCome l k a (ns ++ [n]) c := by
  unfold NxCome at h ⊢
  obtain ⟨d, hd⟩ : ∃ d, k - ns.length = d + 1 := ⟨k - ns.length - 1, by omega⟩
  rw [h, hd, show k - (ns ++ [n]).length = d by simp; omega]
  simp only [nx, hg]
  simp
theorem NxCome.stop {l : List UInt8} {k a b : Nat} {ns : List Int} (h : NxCome l k a ns b) (hlt : ns.length < k) (hg : got l (b : Int) = none) : nx l k a = (ns ++ List.replicate (k - ns.length) 0, b, true) := by
  unfold NxCome at h
  obtain ⟨d, hd⟩ : ∃ d, k - ns.length = d + 1 := ⟨k - ns.length - 1, by omega⟩
  rw [h, hd]
  simp only [nx, hg]
theorem NxCome.done {l : List UInt8} {k a b : Nat} {ns : List Int} (h : NxCome l k a ns b) (he : ns.length = k) : nx l k a = (ns, b, false) := by
  unfold NxCome at h
  rw [h, he, Nat.sub_self]
  simp [nx]
theorem pad_set {ns : List Int} {k : Nat} {n : Int} (h : ns.length < k) : (ns ++ List.replicate (k - ns.length) 0).set ns.length n = ns ++ [n] ++ List.replicate (k - (ns ++ [n]).length) 0 := by
  obtain ⟨d, hd⟩ : ∃ d, k - ns.length = d + 1 := ⟨k - ns.length - 1, by omega⟩
  rw [hd, show k - (ns ++ [n]).length = d by simp; omega]
  simp [List.replicate_succ]
theorem Tryd.info_intN : (Tryd.prog.info? 3).map (fun i => (i.zero, i.size, i.bytes)) = some (some (.int .i64 0), 1, 8) := by kernel_rfl
theorem own_introw {w : World} {base g c : Nat} {xs : List Int} (h : w.ownsRow base 3 1 (.slice (some ⟨g, 0, none⟩) c c) c (xs.map (Value.int .i64))) : IntRow w g xs := by
  rcases h.2 with ⟨e, _⟩ | ⟨g', cap, cur, hv, _, hg, _, _, hcs, ht⟩
  · cases e
  · injection hv with h1 _ h3
    injection h1 with h1
    injection h1 with h1 _ _
    subst h1 h3
    unfold IntRow
    rw [hg, ← ht, List.take_of_length_le (by simp [hcs])]
set_option maxRecDepth 100000 in
set_option maxHeartbeats 2000000 in
theorem next_any {s : ByteArray} (hs : s.size ≤ 1000000) {m a k : Nat} {f : Bool} {w : World} (h : RdAt w m s a f) (hk : k ≤ 6) (ha : a ≤ s.size) :
    Calls Tryd.prog 62 #[.pointer (some ⟨m, 0, none⟩), .int .i64 k] w (NextPost s m k a f w) := by
  have hs' : s.size ≤ maxLen := by unfold maxLen; omega
  have HS := Lib.hid hs'
  have hmlt := h.lt
  clear hs'
  obtain ⟨i0, hi, hz0, hz1, hz2⟩ := info_parts Tryd.info_intN
  have HBY : Hid (i0.bytes * k ≤ 281474976710656) := by show _ ≤ _; rw [hz2]; omega
  have HA := Lib.hid ha
  have HR := Lib.hid h
  clear h ha
  go_enter Tryd.func62, Tryd.ntmps62
  go_wp2_with (at_make; refine wpList_make_full _ rfl _ _ 57 rfl w.heap.size 3 i0 (.int .i64 0) 1 Tryd.underlying57 hi hz0 hz1 .i64 .i64 k k k rfl rfl rfl rfl HBY.out (by unfold maxLen; omega) (Nat.le_refl _) ?_; intro w1 hown hgrow)
  have hb1 : Below w.heap.size w w1 := (Below.refl _ _).grown hgrow (Nat.le_refl _) (fun k hk => by cases hk)
  have hown0 : w1.ownsRow w.heap.size 3 1 (.slice (some ⟨w.heap.size, 0, none⟩) k k) k ((([] : List Int) ++ List.replicate (k - ([] : List Int).length) (0 : Int)).map (Value.int .i64)) := by
    have e : (madeCells (Value.int .i64 0).cells (k * 1)).toList = ((([] : List Int) ++ List.replicate (k - ([] : List Int).length) (0 : Int)).map (Value.int .i64)) := by
      rw [show (Value.int .i64 0).cells = #[.int .i64 0] from rfl, toList_madeCells_one]
      simp
    rw [← e]; exact hown
  have HI := Lib.hid (own_introw hown0)
  have HR1 := Lib.hid (HR.out.below hb1)
  have HF1 : Hid (Foot (fun j => j = m) w w1) := below_foot hb1
  clear hown hown0 hgrow hb1 HR
  go_loopw [14] (fun i wr => ∃ (ns : List Int) (b : Nat), ns.length ≤ k ∧ i = .int .i64 ns.length ∧ b ≤ s.size ∧ NxCome (bytesOf s) k a ns b ∧ IntRow wr w.heap.size (ns ++ List.replicate (k - ns.length) 0) ∧ RdAt wr m s b f ∧ Foot (fun j => j = m) w wr) (fun i _ => k - (intOf i).toNat)
  case atStart => exact ⟨[], a, Nat.zero_le _, rfl, HA.out, NxCome.start _ _ _, HI.out, HR1.out, HF1.out⟩
  case round =>
    obtain ⟨ns, b, hn, rfl, hb, hcome, hrow, hrd, hft⟩ := hrel
    by_cases hlt : ns.length < k
    · have hii : (ns.length : Int) < (k : Int) := by omega
      obtain ⟨c0, c1, c2, f1, f2⟩ := hrd.cells
      have hglt := hrow.lt
      have hcl := hrow.cell (k := ns.length) (by simp; omega)
      have hfz : wr.frozen? ⟨w.heap.size, ns.length, none⟩ = false := Lib.frozen_of_heap hrow _
      have HROW := Lib.hid hrow
      have HRD := Lib.hid hrd
      have HFT := Lib.hid hft
      have hmw : m ≠ w.heap.size := by omega
      have HMW := Lib.hid hmw
      rcases hg : got (bytesOf s) (b : Int) with _ | ⟨n, c⟩
      · have HD := Lib.hid (hcome.stop hlt hg)
        have HG : Hid (∀ q, Calls Tryd.prog 75 #[.string s, .int .i64 b] (wr.drewN q) fun e w' => e = .returned (.tuple #[.int .i64 0, .int .i64 0, .bool false]) ∧ ∃ n, w' = wr.drewN n) := fun q =>
          (get_any s b (wr.drewN q) HS.out).mono fun e w' ⟨h1, h2⟩ => ⟨by rw [h2, hg]; rfl, q, h1.symm⟩
        clear hg hcome hrow hrd hft
        go_wp2_with fail
        go_quiet ((go_at_call 75; exact HG.out _))
        go_wp2_with fail
        go_ret
        refine ⟨w.heap.size, rfl, Nat.le_refl _, ?_, ?_, ?_⟩
        · rw [HD.out]; exact IntRow.other (p := ⟨m, 2, none⟩) (HROW.out : IntRow (wr.drewN _) _ _) (Ne.symm HMW.out) _
        · rw [HD.out, Bool.or_true]; exact RdAt.set2 (HRD.out : RdAt (wr.drewN _) _ _ _ _)
        · exact (HFT.out.trans (Foot.drewN _ _ _) (fun _ _ h => h)).trans (Foot.set (fun j => j = m) _ _ _ rfl) (fun _ _ h => h)
      · have hc := (got_rds.1 hg).bd
        rw [bytes_len] at hc
        have HN := Lib.hid (hcome.next hlt hg)
        have HG : Hid (∀ q, Calls Tryd.prog 75 #[.string s, .int .i64 b] (wr.drewN q) fun e w' => e = .returned (.tuple #[.int .i64 n, .int .i64 c, .bool true]) ∧ ∃ n, w' = wr.drewN n) := fun q =>
          (get_any s b (wr.drewN q) HS.out).mono fun e w' ⟨h1, h2⟩ => ⟨by rw [h2, hg]; rfl, q, h1.symm⟩
        have HP := Lib.hid (pad_set (n := n) hlt)
        clear hg hcome hrow hrd hft
        go_wp2_with fail
        go_quiet ((go_at_call 75; exact HG.out _))
        go_wp2_with fail
        go_roundw
        case rel =>
          refine ⟨ns ++ [n], c, by simp; omega, by simp, by omega, HN.out, ?_, ?_, ?_⟩
          · rw [← HP.out]; exact IntRow.other (p := ⟨m, 1, none⟩) (IntRow.set (HROW.out : IntRow (wr.drewN _) _ _) n) (Ne.symm HMW.out) _
          · exact RdAt.set1 (a := b) (RdAt.other (p := ⟨w.heap.size, ns.length, none⟩) (HRD.out : RdAt (wr.drewN _) _ _ _ _) HMW.out _)
          · refine Foot.trans ?_ (Foot.set (fun j => j = m) _ _ _ rfl) (fun _ _ h => h)
            refine (HFT.out.trans (Foot.drewN _ _ _) (fun _ _ h => h)).trans (Foot.set (fun j => j = w.heap.size) _ _ _ rfl) (fun i hi h => ?_)
            omega
        case measure => simp [intOf]; omega
    · have he : ns.length = k := by omega
      have HD := Lib.hid (hcome.done he)
      have HROW : Hid (IntRow wr w.heap.size ns) := by
        show IntRow _ _ _
        rw [he, Nat.sub_self] at hrow
        simpa using hrow
      have HRD := Lib.hid hrd
      have HFT := Lib.hid hft
      clear hcome hrow hrd hft he
      go_wp2_with fail
      go_ret
      exact ⟨w.heap.size, rfl, Nat.le_refl _, by rw [HD.out]; exact HROW.out, by rw [HD.out, Bool.or_false]; exact HRD.out, HFT.out⟩
end Go.Proofs.YtkdnhfeamibmdaaDoor
