/-
  Contracts of the functions that put the mark of an int: appendInt and Put of package marks, and Put of the document's answer.
-/
import Derived.Test.YtkdnhfeamibmdaaDoorNums
import Derived.Lib.Hide
import Derived.Below
import Derived.OwnWalk
import Derived.Laws.OwnMore
import Derived.Laws.BytesArg
namespace Go.Proofs.YtkdnhfeamibmdaaDoor
open Go.RowKit
open Go.Lib (uvarint zigzag unzigzag uvarint_small uvarint_big)
def mark (n : Int) : List UInt8 := uvarint (zigzag n)
def byteV (c : UInt8) : Value := .int .u8 (c.toNat : Int)
def Bytes (w : World) (base : Nat) (v : Value) (xs : List UInt8) : Prop := w.ownsRow base 5 1 v xs.length (xs.map byteV)
def Grows (base : Nat) (xs : List UInt8) (w : World) (e : Ending) (w' : World) : Prop := ∃ v', e = .returned v' ∧ Bytes w' base v' xs ∧ Below base w w'
theorem bytes_snoc {w : World} {base : Nat} {v : Value} {ys : List UInt8} {c : UInt8} {z : Int} (h : w.ownsRow base 5 1 v (ys.length + 1) (ys.map byteV ++ [.int .u8 z])) (hz : z = (c.toNat : Int)) : Bytes w base v (ys ++ [c]) := by
  unfold Bytes
  rw [List.length_append, List.map_append]
  simpa [byteV, hz] using h
theorem or_byte (f : Nat) : bits .or .u8 (IntKind.u8.wrap (f : Int)) 128 = ((f % 128 + 128).toUInt8.toNat : Int) := by
  rw [IntKind.wrap_u8', Lib.u8_or128_any _ (by omega) (by omega)]
  simp; omega
theorem Tryd.info_u8 : (Tryd.prog.info? 5).map (fun i => (i.zero, i.size, i.bytes)) = some (some (.int .u8 0), 1, 1) := by kernel_rfl
set_option maxRecDepth 100000 in
set_option maxHeartbeats 1000000 in
theorem appendInt_any (base : Nat) (v : Value) (xs : List UInt8) (n : Int) (w : World) (h0 : -9223372036854775808 ≤ n) (h1 : n ≤ 9223372036854775807)
    (hown : Bytes w base v xs) (hl : xs.length + 10 ≤ 140737488355328) (hbase : base ≤ w.heap.size) :
    Calls Tryd.prog 55 #[v, .int .i64 n] w (Grows base (xs ++ mark n) w) := by
  obtain ⟨i0, hi, hz0, hz1, hz2⟩ := info_parts Tryd.info_u8
  have hzz := Lib.zigzag_lt h0 h1
  have h10 := Lib.uvarint_length64 hzz
  have HM : Hid (mark n = uvarint (zigzag n)) := rfl
  go_enter Tryd.func55, Tryd.ntmps55
  go_wp2_with (go_at_call 78; refine (fold_any _ _ (by omega) (by omega)).mono ?_; rintro e w' ⟨rfl, rfl⟩)
  generalize zigzag n = f0 at *
  have HO := Lib.hid hown
  clear hown
  go_loopw [0, 5] (fun b r wr => ∃ (f : Nat) (ys : List UInt8), f < 18446744073709551616 ∧ r = .int .u64 f ∧ ys.length + (uvarint f).length ≤ xs.length + 10 ∧ Bytes wr base b ys ∧ ys ++ uvarint f = xs ++ uvarint f0 ∧ Below base w wr) (fun _ r _ => (intOf r).toNat)
  case atStart => exact ⟨f0, xs, hzz, rfl, by omega, HO.out, rfl, Below.refl _ _⟩
  case round =>
    obtain ⟨f, ys, hf, rfl, hlen, hown, heq, hbel⟩ := hrel
    have HE := Lib.hid heq
    clear heq
    have hsz := hbel.size
    have hup := Lib.uvarint_pos f
    by_cases hbig : 128 ≤ f
    · go_wp2_with (at_builtin; (refine wpList_append_own _ rfl _ _ 54 rfl base 5 i0 (.int .u8 0) 1 1 Tryd.underlying54 hi hz0 hz1 hz2 rfl (by decide) _ _ _ rfl (World.ownsRow.alloc hown _) ⟨wr.heap.size, 0, none⟩ 1 1 [.int .u8 (bits .or .u8 (IntKind.u8.wrap f) 128)] rfl rfl (cell_one_new _ _ _) (fun x hx => by simp at hx; subst hx; rfl) (by unfold maxLen; omega) (by omega) (by simp; omega) ?_); intro v' w3 hown' hgrow3 hnil3)
      have hB : base ≤ wr.heap.size := by omega
      have hb3 := (hbel.alloc hB (.cells #[.int .u8 (bits .or .u8 (IntKind.u8.wrap f) 128)] 5)).grown hgrow3 (by simp; omega) (fun q hq => (World.ownsRow.lt hown q hq).1)
      have hby := bytes_snoc hown' (or_byte f)
      have hu := uvarint_big hbig
      have hlen' := congrArg List.length hu
      rw [List.length_cons] at hlen'
      have heq : ys ++ [(f % 128 + 128).toUInt8] ++ uvarint (f / 128) = xs ++ uvarint f0 := by rw [← HE.out, hu]; simp
      go_roundw
      case rel => exact ⟨f / 128, _, by omega, by go_num, by simp; omega, hby, heq, hb3⟩
      case measure => simp [intOf]; omega
    · have hlt : (f : Int) < 128 := by omega
      go_wp2_with (at_builtin; (refine wpList_append_own _ rfl _ _ 54 rfl base 5 i0 (.int .u8 0) 1 1 Tryd.underlying54 hi hz0 hz1 hz2 rfl (by decide) _ _ _ rfl (World.ownsRow.alloc hown _) ⟨wr.heap.size, 0, none⟩ 1 1 [.int .u8 f] rfl rfl (cell_one_new _ _ _) (fun x hx => by simp at hx; subst hx; rfl) (by unfold maxLen; omega) (by omega) (by simp; omega) ?_); intro v' w3 hown' hgrow3 hnil3)
      have hB : base ≤ wr.heap.size := by omega
      have hb3 := (hbel.alloc hB (.cells #[.int .u8 f] 5)).grown hgrow3 (by simp; omega) (fun q hq => (World.ownsRow.lt hown q hq).1)
      have hby := bytes_snoc (c := f.toUInt8) hown' (by simp; omega)
      have hu := uvarint_small (show f < 128 by omega)
      have heq : ys ++ [f.toUInt8] = xs ++ mark n := by rw [HM.out, ← HE.out, hu]
      rw [heq] at hby
      go_ret
      exact ⟨v', rfl, hby, hb3⟩
theorem conv_bytes {w : World} {base : Nat} {v : Value} {xs : List UInt8} (h : Bytes w base v xs) : (convert 54 9 v).run Tryd.prog w = .ok (.string ⟨xs.toArray⟩) w := by
  rcases h.2 with ⟨rfl, h0⟩ | ⟨g, cap, cur, rfl, _, _, _⟩
  · have : xs = [] := List.eq_nil_of_length_eq_zero h0
    subst this
    exact run_convert_bytes_nil w 54 5 Tryd.underlying54 Tryd.underlying5 0 0 9 Tryd.underlying9
  · have hr := run_convert_bytes_arg (P := Tryd.prog) w 54 5 Tryd.underlying54 Tryd.underlying5 g 0 xs.length cap (xs.map fun c => (c.toNat : Int)) (by simp) (fun i hi => by
      rw [Nat.zero_add, World.ownsRow.cellAt h i (by omega)]
      simp [byteV, List.getD, hi]) 9 Tryd.underlying9
    rw [hr]
    simp only [strOfNums, List.map_map]
    rw [show ((fun n : Int => UInt8.ofNat n.toNat) ∘ fun c : UInt8 => (c.toNat : Int)) = id from by funext c; simp, List.map_id]
def PutPost (l : List UInt8) (w : World) (e : Ending) (w' : World) : Prop := e = .returned (.string ⟨l.toArray⟩) ∧ Below w.heap.size w w'
set_option maxRecDepth 100000 in
set_option maxHeartbeats 1000000 in
theorem put_any (n : Int) (w : World) (h0 : -9223372036854775808 ≤ n) (h1 : n ≤ 9223372036854775807) :
    Calls Tryd.prog 26 #[.int .i64 n] w (PutPost (mark n) w) := by
  go_enter Tryd.func26, Tryd.ntmps26
  go_wp2_with fail
  refine (appendInt_any w.heap.size _ [] n _ h0 h1 (World.ownsRow_nil _ _ _ _) (by decide) (Nat.le_refl _)).mono ?_
  rintro e w1 ⟨v', rfl, hby, hb⟩
  have hc := conv_bytes hby
  rw [List.nil_append] at hc
  go_wp2
  go_ret
  exact ⟨rfl, hb⟩
set_option maxRecDepth 100000 in
set_option maxHeartbeats 1000000 in
theorem rput_any (n : Int) (w : World) (h0 : -9223372036854775808 ≤ n) (h1 : n ≤ 9223372036854775807) :
    Calls Tryd.prog 59 #[.int .i64 n] w (PutPost (mark n) w) := by
  obtain ⟨i0, hi, hz0, hz1, hz2⟩ := info_parts Tryd.info_u8
  have hzz := Lib.zigzag_lt h0 h1
  have h10 := Lib.uvarint_length64 hzz
  have HM : Hid (mark n = uvarint (zigzag n)) := rfl
  go_enter Tryd.func59, Tryd.ntmps59
  go_wp2_with (go_at_call 79; refine (Fold_any _ _ (by omega) (by omega)).mono ?_; rintro e w' ⟨rfl, rfl⟩)
  generalize zigzag n = f0 at *
  go_loopw [3, 4] (fun r b wr => ∃ (f : Nat) (ys : List UInt8), f < 18446744073709551616 ∧ r = .int .u64 f ∧ ys.length + (uvarint f).length ≤ 10 ∧ Bytes wr w.heap.size b ys ∧ ys ++ uvarint f = uvarint f0 ∧ Below w.heap.size w wr) (fun r _ _ => (intOf r).toNat)
  case atStart => exact ⟨f0, [], hzz, rfl, by simpa using h10, World.ownsRow_nil _ _ _ _, rfl, Below.refl _ _⟩
  case round =>
    obtain ⟨f, ys, hf, rfl, hlen, hown, heq, hbel⟩ := hrel
    have HE := Lib.hid heq
    clear heq
    have hsz := hbel.size
    have hup := Lib.uvarint_pos f
    by_cases hbig : 128 ≤ f
    · go_wp2_with (at_builtin; (refine wpList_append_own _ rfl _ _ 54 rfl w.heap.size 5 i0 (.int .u8 0) 1 1 Tryd.underlying54 hi hz0 hz1 hz2 rfl (by decide) _ _ _ rfl (World.ownsRow.alloc hown _) ⟨wr.heap.size, 0, none⟩ 1 1 [.int .u8 ((f : Int) % 128 + 128)] rfl rfl (cell_one_new _ _ _) (fun x hx => by simp at hx; subst hx; rfl) (by unfold maxLen; omega) (by omega) (by simp; omega) ?_); intro v' w3 hown' hgrow3 hnil3)
      have hb3 := (hbel.alloc hsz (.cells #[.int .u8 ((f : Int) % 128 + 128)] 5)).grown hgrow3 (by simp; omega) (fun q hq => (World.ownsRow.lt hown q hq).1)
      have hby := bytes_snoc (c := (f % 128 + 128).toUInt8) hown' (by simp; omega)
      have hu := uvarint_big hbig
      have hlen' := congrArg List.length hu
      rw [List.length_cons] at hlen'
      have heq : ys ++ [(f % 128 + 128).toUInt8] ++ uvarint (f / 128) = uvarint f0 := by rw [← HE.out, hu]; simp
      go_roundw
      case rel => exact ⟨f / 128, _, by omega, by go_num, by simp; omega, hby, heq, hb3⟩
      case measure => simp [intOf]; omega
    · have hlt : (f : Int) < 128 := by omega
      go_wp2_with (at_builtin; (refine wpList_append_own _ rfl _ _ 54 rfl w.heap.size 5 i0 (.int .u8 0) 1 1 Tryd.underlying54 hi hz0 hz1 hz2 rfl (by decide) _ _ _ rfl (World.ownsRow.alloc hown _) ⟨wr.heap.size, 0, none⟩ 1 1 [.int .u8 f] rfl rfl (cell_one_new _ _ _) (fun x hx => by simp at hx; subst hx; rfl) (by unfold maxLen; omega) (by omega) (by simp; omega) ?_); intro v' w3 hown' hgrow3 hnil3; have hc := conv_bytes (bytes_snoc (c := f.toUInt8) hown' (by simp; omega)))
      have hb3 := (hbel.alloc hsz (.cells #[.int .u8 f] 5)).grown hgrow3 (by simp; omega) (fun q hq => (World.ownsRow.lt hown q hq).1)
      have hu := uvarint_small (show f < 128 by omega)
      have heq : ys ++ [f.toUInt8] = mark n := by rw [HM.out, ← HE.out, hu]
      go_ret
      exact ⟨by rw [← heq]; simp, hb3⟩
end Go.Proofs.YtkdnhfeamibmdaaDoor
