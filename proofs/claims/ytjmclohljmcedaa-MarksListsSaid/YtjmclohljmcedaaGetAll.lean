/-
  The contracts of GetAll of package marks and of the document's answer.
-/
import Derived.Test.YtjmclohljmcedaaGetText
namespace Go.Proofs.Ytjmclohljmcedaa
open Go.RowKit
open Go.Lib (uvarint zigzag unzigzag uvarint_small uvarint_big)
/-- So many marks one behind the other, from a place on. -/
def gotN (l : List UInt8) : Nat → Nat → Option (List Int × Nat)
  | 0, p => some ([], p)
  | c + 1, p =>
    match got l (p : Int) with
    | none => none
    | some (n, q) => (gotN l c q).map fun r => (n :: r.1, r.2)
def gotAll (l : List UInt8) (a : Int) : Option (List Int × Nat) :=
  match gotCount l a with
  | none => none
  | some (c, k) => gotN l c k
def intRow (w : World) (base : Nat) (v : Value) (l : List Int) : Prop := w.ownsRow base 3 1 v l.length (l.map (Value.int .i64))
def AllPost (g : Option (List Int × Nat)) (w : World) (e : Ending) (w' : World) : Prop :=
  Below w.heap.size w w' ∧ match g with
    | some (l, k) => ∃ v, e = .returned (.tuple #[v, .int .i64 k, .bool true]) ∧ intRow w' w.heap.size v l
    | none => e = .returned (.tuple #[.slice none 0 0, .int .i64 0, .bool false])
theorem Try.info_int : (Try.prog.info? 3).map (fun i => (i.zero, i.size, i.bytes)) = some (some (.int .i64 0), 1, 8) := by kernel_rfl
/-- How far the reading has come: these ints, then so many more from that place on. -/
def Come (l : List UInt8) (c k : Nat) (ns : List Int) (p : Nat) : Prop := gotN l c k = (gotN l (c - ns.length) p).map fun r => (ns ++ r.1, r.2)
theorem Come.start (l : List UInt8) (c k : Nat) : Come l c k [] k := by
  unfold Come
  simp
theorem Come.next {l : List UInt8} {c k p q : Nat} {ns : List Int} {n : Int} (h : Come l c k ns p) (hlt : ns.length < c) (hg : got l (p : Int) = some (n, q)) : Come l c k (ns ++ [n]) q := by
  unfold Come at h ⊢
  obtain ⟨d, hd⟩ : ∃ d, c - ns.length = d + 1 := ⟨c - ns.length - 1, by omega⟩
  rw [h, hd, show c - (ns ++ [n]).length = d by simp; omega]
  simp only [gotN, hg, Option.map_map]
  congr 1
  funext r
  simp
theorem Come.stop {l : List UInt8} {c k p : Nat} {ns : List Int} (h : Come l c k ns p) (hlt : ns.length < c) (hg : got l (p : Int) = none) : gotN l c k = none := by
  unfold Come at h
  obtain ⟨d, hd⟩ : ∃ d, c - ns.length = d + 1 := ⟨c - ns.length - 1, by omega⟩
  rw [h, hd]
  simp only [gotN, hg, Option.map_none]
theorem Come.done {l : List UInt8} {c k p : Nat} {ns : List Int} (h : Come l c k ns p) (he : ns.length = c) : gotN l c k = some (ns, p) := by
  unfold Come at h
  rw [h, he, Nat.sub_self]
  simp [gotN]
theorem row_set {ns : List Int} {c : Nat} {n : Int} (h : ns.length < c) : ((ns ++ List.replicate (c - ns.length) 0).map (Value.int .i64)).set ns.length (.int .i64 n) = (ns ++ [n] ++ List.replicate (c - (ns.length + 1)) 0).map (Value.int .i64) := by
  obtain ⟨d, hd⟩ : ∃ d, c - ns.length = d + 1 := ⟨c - ns.length - 1, by omega⟩
  rw [hd, show c - (ns.length + 1) = d by omega]
  simp [List.replicate_succ]
set_option maxRecDepth 100000 in
set_option maxHeartbeats 1000000 in
theorem getAll_any (s : ByteArray) (a : Int) (w : World) (hs : s.size ≤ 1000000) :
    Calls Try.prog 23 #[.string s, .int .i64 a] w (AllPost (gotAll (bytesOf s) a) w) := by
  have hs' : s.size ≤ maxLen := by unfold maxLen; omega
  have HS := Lib.hid hs'
  clear hs'
  obtain ⟨i0, hi, hz0, hz1, hz2⟩ := info_parts Try.info_int
  rcases hg : gotCount (bytesOf s) a with _ | ⟨c, k⟩
  · have HT := Lib.hid (show gotAll (bytesOf s) a = none from by unfold gotAll; rw [hg])
    have HG := Lib.hid hg
    clear hg
    go_enter Try.func23, Try.ntmps23
    go_wp2_with fail
    refine (getCount_any _ _ _ HS.out).mono ?_
    rintro e w1 ⟨rfl, he⟩
    rw [HG.out] at he
    simp only [cntR] at he
    subst he
    go_wp2_with fail
    go_ret3
    rw [HT.out]
    exact ⟨Below.refl _ _, rfl⟩
  · have HT := Lib.hid (show gotAll (bytesOf s) a = gotN (bytesOf s) c k from by unfold gotAll; rw [hg])
    have hbd := gotCount_bd hg
    rw [bytes_len] at hbd
    obtain ⟨b1, b2, b3, hgot⟩ := hbd
    have HG := Lib.hid hg
    clear hg hgot
    have hby : i0.bytes * c ≤ 281474976710656 := by rw [hz2]; omega
    have HBY := Lib.hid hby
    clear hby
    go_enter Try.func23, Try.ntmps23
    go_wp2_with fail
    refine (getCount_any _ _ _ HS.out).mono ?_
    rintro e w1 ⟨rfl, he⟩
    rw [HG.out] at he
    simp only [cntR] at he
    subst he
    go_wp2_with (at_make; refine wpList_make_full _ rfl _ _ 32 rfl w.heap.size 3 i0 (.int .i64 0) 1 Try.underlying32 hi hz0 hz1 .i64 .i64 c c c rfl rfl rfl rfl HBY.out (by unfold maxLen; omega) (Nat.le_refl _) ?_; intro w1 hown hgrow)
    have hb1 : Below w.heap.size w w1 := (Below.refl _ _).grown hgrow (Nat.le_refl _) (fun k hk => by cases hk)
    have hown0 : w1.ownsRow w.heap.size 3 1 (.slice (some ⟨w.heap.size, 0, none⟩) c c) c ((([] : List Int) ++ List.replicate (c - ([] : List Int).length) (0 : Int)).map (Value.int .i64)) := by
      have e : (madeCells (Value.int .i64 0).cells (c * 1)).toList = ((([] : List Int) ++ List.replicate (c - ([] : List Int).length) (0 : Int)).map (Value.int .i64)) := by
        rw [show (Value.int .i64 0).cells = #[.int .i64 0] from rfl, toList_madeCells_one]
        simp
      rw [← e]; exact hown
    have HO := Lib.hid hown0
    clear hown hown0 hgrow
    go_loopw [4, 5, 6, 21] (fun l nx ok i wr => ∃ (ns : List Int) (p : Nat), ns.length ≤ c ∧ p ≤ s.size ∧ l = .slice (some ⟨w.heap.size, 0, none⟩) c c ∧ nx = .int .i64 p ∧ ok = .bool true ∧ i = .int .i64 ns.length ∧ wr.ownsRow w.heap.size 3 1 (.slice (some ⟨w.heap.size, 0, none⟩) c c) c ((ns ++ List.replicate (c - ns.length) 0).map (Value.int .i64)) ∧ Come (bytesOf s) c k ns p ∧ Below w.heap.size w wr) (fun _ _ _ i _ => c - (intOf i).toNat)
    case atStart => exact ⟨[], k, Nat.zero_le _, by omega, rfl, rfl, rfl, rfl, HO.out, Come.start _ _ _, hb1⟩
    case round =>
      obtain ⟨ns, p, hn, hp, rfl, rfl, rfl, rfl, hown, hcome, hbel⟩ := hrel
      by_cases hlt : ns.length < c
      · have hcl : wr.cell? ⟨w.heap.size, ns.length, none⟩ = some (.int .i64 0) := by
          rw [World.ownsRow.cellAt hown _ (by omega)]
          rw [List.getElem?_map, List.getElem?_append_right (Nat.le_refl _), Nat.sub_self, List.getElem?_replicate, if_pos (by omega)]
          rfl
        have hfz := World.ownsRow.frozenAt hown ns.length
        rcases hg : got (bytesOf s) (p : Int) with _ | ⟨n, q⟩
        · have HD := Lib.hid (hcome.stop hlt hg)
          have HG := Lib.hid hg
          clear hg hcome hown
          go_wp2_with fail
          refine (get_any _ _ _ HS.out).mono ?_
          rintro e w2 ⟨rfl, he⟩
          rw [HG.out] at he
          simp only [getR] at he
          subst he
          go_wp2_with fail
          go_ret3
          rw [HT.out, HD.out]
          exact ⟨hbel.setCell (Nat.le_refl _) _, rfl⟩
        · have hq := got_bd hg
          rw [bytes_len] at hq
          have HN := Lib.hid (hcome.next hlt hg)
          have HG := Lib.hid hg
          have HST := Lib.hid (World.ownsRow.stored hown ns.length (.int .i64 n)).1
          rw [row_set hlt] at HST
          clear hg hcome hown
          go_wp2_with fail
          refine (get_any _ _ _ HS.out).mono ?_
          rintro e w2 ⟨rfl, he⟩
          rw [HG.out] at he
          simp only [getR] at he
          subst he
          go_wp2_with fail
          go_roundw
          case rel => exact ⟨ns ++ [n], q, by simp; omega, by omega, rfl, rfl, rfl, by simp, by simpa using HST.out, HN.out, hbel.setCell (Nat.le_refl _) _⟩
          case measure => simp [intOf]; omega
      · have he : ns.length = c := by omega
        have HD := Lib.hid (hcome.done he)
        have HO2 : Hid (intRow wr w.heap.size (.slice (some ⟨w.heap.size, 0, none⟩) c c) ns) := by
          show intRow _ _ _ _
          unfold intRow
          rw [he]
          simpa [he] using hown
        clear he hcome hown
        go_wp2
        go_ret3
        rw [HT.out, HD.out]
        exact ⟨hbel, _, rfl, HO2.out⟩
end Go.Proofs.Ytjmclohljmcedaa
