/-
  works() of the statements of records: the chapter's examples; and great.
-/
import Derived.Test.YtkdnhfeamibmdaaDoorRcEnc
import Derived.Test.YtkdnhfeamibmdaaDoorRcDec
namespace Go.Proofs.YtkdnhfeamibmdaaDoor
open Go.RowKit
open Go.Lib (uvarint zigzag unzigzag uvarint_small uvarint_big)
theorem rdb_nil (B : Nat) (w : World) : RdB B w (.slice none 0 0) 0 [] := ⟨none, 0, rfl, Nat.le_refl _, Nat.zero_le _, fun _ => ⟨rfl, rfl⟩, fun h => by omega⟩
theorem esb_nil (B : Nat) (w : World) : EsB B w (.slice none 0 0) [] := rdb_nil B w
theorem fdb_nil (B : Nat) (w : World) : FdB B w (.slice none 0 0) [] := rdb_nil B w
def p1 : Rec := ⟨1, 2, 3, 0, 0, 0, [], []⟩
def p2 : Rec := ⟨5, 0, 0, 0, 0, 0, [], [⟨1, 7⟩, ⟨0, 0⟩]⟩
def p3 : Rec := ⟨3, 0, 0, 0, 0, 65, [], []⟩
theorem m0 : mark 0 = [0] := by rw [show mark 0 = uvarint 0 from rfl, uvarint_small (by decide)]; rfl
theorem m1 : mark 1 = [2] := by rw [show mark 1 = uvarint 2 from rfl, uvarint_small (by decide)]; rfl
theorem m2 : mark 2 = [4] := by rw [show mark 2 = uvarint 4 from rfl, uvarint_small (by decide)]; rfl
theorem m3 : mark 3 = [6] := by rw [show mark 3 = uvarint 6 from rfl, uvarint_small (by decide)]; rfl
theorem m5 : mark 5 = [10] := by rw [show mark 5 = uvarint 10 from rfl, uvarint_small (by decide)]; rfl
theorem m7 : mark 7 = [14] := by rw [show mark 7 = uvarint 14 from rfl, uvarint_small (by decide)]; rfl
theorem p1_enc : p1.enc = [2, 4, 6, 0, 0, 0, 0, 0] := by
  show markL [1, 2, 3, 0, 0, 0, 0, 0] = _
  simp [markL, m0, m1, m2, m3]
theorem p2_enc : p2.enc = [10, 0, 0, 0, 0, 0, 0, 4, 2, 14, 0, 0] := by
  show markL [5, 0, 0, 0, 0, 0, 0, 2, 1, 7, 0, 0] = _
  simp [markL, m0, m1, m2, m5, m7]
theorem p1_encR : p1.encR = .tuple #[.string ⟨#[2, 4, 6, 0, 0, 0, 0, 0]⟩, .int .i64 0] := by
  unfold Rec.encR; rw [if_pos (by decide), p1_enc]
theorem p2_encR : p2.encR = .tuple #[.string ⟨#[10, 0, 0, 0, 0, 0, 0, 4, 2, 14, 0, 0]⟩, .int .i64 0] := by
  unfold Rec.encR; rw [if_pos (by decide), p2_enc]
theorem p2_dec : decR? (bytesOf ⟨#[10, 0, 0, 0, 0, 0, 0, 4, 2, 14, 0, 0]⟩) = some p2 := decR_iff.2 ⟨by decide, by rw [p2_enc]; rfl⟩
theorem p3_err : p3.err = 2 := by decide
set_option maxRecDepth 100000 in
set_option maxHeartbeats 4000000 in
theorem recWorks_any {w : World} (hA : AskR w) : Calls Tryd.prog 13 #[] w (NumPost (.bool true) w) := by
  have g1 := recEncode_any p1 hA (esb_nil _ w) (fdb_nil _ w) (by decide) (by decide)
  rw [p1_encR] at g1
  have G1 := Lib.hid g1
  have G2 : Hid (∀ X, Below w.heap.size w X → Calls Tryd.prog 8 #[p2.v (.slice none 0 0) (.slice (some ⟨X.heap.size, 0, none⟩) 2 2)] (X.alloc (.cells #[.int .i64 1, .int .i64 7, .int .i64 0, .int .i64 0] 32)) (NumPost p2.encR (X.alloc (.cells #[.int .i64 1, .int .i64 7, .int .i64 0, .int .i64 0] 32)))) := fun X hX => by
    have hX2 := hX.alloc hX.size (.cells #[.int .i64 1, .int .i64 7, .int .i64 0, .int .i64 0] 32)
    refine recEncode_any p2 (hA.keep hX2) (esb_nil _ _) ?_ (by decide) (by decide)
    refine ⟨some ⟨X.heap.size, 0, none⟩, 2, rfl, Nat.le_refl _, by decide, (fun e => by cases e), fun _ => ⟨X.heap.size, 0, rfl, by simp, fun j x hx => ?_⟩⟩
    rw [Lib.cell_of_heap (heap_alloc_new X _), Nat.zero_add]
    have hx' : ([1, 7, 0, 0] : List Int)[j]? = some x := hx
    match j, hx' with
    | 0, h => exact congrArg (fun o => o.map (Value.int .i64)) h
    | 1, h => exact congrArg (fun o => o.map (Value.int .i64)) h
    | 2, h => exact congrArg (fun o => o.map (Value.int .i64)) h
    | 3, h => exact congrArg (fun o => o.map (Value.int .i64)) h
    | n + 4, h => simp at h
  rw [p2_encR] at G2
  have G3 := Lib.hid (fun X (hX : Below w.heap.size w X) => recDecode_any (s := ⟨#[10, 0, 0, 0, 0, 0, 0, 4, 2, 14, 0, 0]⟩) (by decide) (hA.keep hX))
  have G4 := Lib.hid (fun X (hX : Below w.heap.size w X) => recCheck_any p3 (hA.keep hX) (esb_nil _ X) (fdb_nil _ X) (by decide) (by decide))
  rw [p3_err] at G4
  clear g1
  simp only [p1, p2, p3, Rec.v] at *
  go_enter Tryd.func13, Tryd.ntmps13
  go_wp2_with fail
  refine (G1.out).mono ?_
  rintro e w1 ⟨rfl, hb1⟩
  have HB1 := Lib.hid hb1
  clear hb1
  go_wp2_with fail
  refine (G2.out _ HB1.out).mono ?_
  rintro e w2 ⟨rfl, hb2⟩
  have HB2 := Lib.hid ((HB1.out.alloc HB1.out.size (.cells #[.int .i64 1, .int .i64 7, .int .i64 0, .int .i64 0] 32)).trans (hb2.mono (by have := HB1.out.size; simp; omega)))
  clear hb2
  go_wp2_with fail
  refine (G3.out _ HB2.out).mono ?_
  rintro e w3 ⟨hb3, h⟩
  have HB3 := Lib.hid (HB2.out.trans (hb3.mono HB2.out.size))
  rcases h with ⟨h1, _⟩ | ⟨r, A, A', c, c', h1, rfl, hE, hF⟩
  · rw [p2_dec] at h1; cases h1
  rw [p2_dec] at h1
  obtain rfl := Option.some.inj h1
  have hF2 := hF.fd
  simp only [p2, Rec.v, List.length_cons, List.length_nil, Nat.zero_add, Nat.reduceAdd] at hF2 ⊢
  obtain ⟨A2, c2, hv, hc1, hc2, -, hc⟩ := hF2
  obtain ⟨g, o, rfl, hg, hcc⟩ := hc (by decide)
  injection hv with e1 _ e2
  subst e1 e2
  have k0 : w3.cell? ⟨g, o + 0, none⟩ = some (.int .i64 1) := hcc 0 1 rfl
  have k1 : w3.cell? ⟨g, o + 1, none⟩ = some (.int .i64 7) := hcc 1 7 rfl
  rw [Nat.add_zero] at k0
  simp only [List.length_cons, List.length_nil, Nat.zero_add, Nat.reduceAdd] at hc1 hc2
  unfold maxLen at hc2
  have G5 := Lib.hid (G4.out _ (HB3.out.alloc HB3.out.size (.cells #[.int .i64 5, .int .i64 0, .int .i64 0, .int .i64 0, .int .i64 0, .int .i64 0, .slice A 0 c, .slice (some ⟨g, o, none⟩) 2 c'] 25)))
  clear h1 hE hF hcc hb3 hc
  go_wp2_with fail
  refine (G5.out).mono ?_
  rintro e w4 ⟨rfl, hb4⟩
  have HB4 := Lib.hid ((HB3.out.alloc HB3.out.size _).trans (hb4.mono (HB3.out.alloc HB3.out.size _).size))
  clear hb4
  go_wp2_with fail
  go_ret
  exact ⟨rfl, HB4.out⟩
def Rec.great (r : Rec) : Bool := decide (500 < r.es.length) || decide (1000 < r.fd.length)
set_option maxRecDepth 100000 in
set_option maxHeartbeats 1000000 in
theorem great_any (ki st ep vi fr le : Int) (n m c c' : Nat) (A A' : Option Addr) (w : World) (hn : n ≤ 9223372036854775807) (hm : m ≤ 9223372036854775807) : Calls Tryd.prog 7 #[.agg #[.int .i64 ki, .int .i64 st, .int .i64 ep, .int .i64 vi, .int .i64 fr, .int .i64 le, .slice A n c, .slice A' m c']] w (NumPost (.bool (decide (500 < n) || decide (1000 < m))) w) := by
  by_cases h1 : 500 < n
  · have t1 : decide (500 < (n : Int)) = true := decide_eq_true (by omega)
    have HR : Hid ((decide (500 < n) || decide (1000 < m)) = true) := by show _ = _; simp [h1]
    generalize (decide (500 < n) || decide (1000 < m)) = R at *
    go_enter Tryd.func7, Tryd.ntmps7
    go_wp2_with fail
    go_ret
    exact ⟨by rw [HR.out]; rfl, (Below.refl _ _).alloc (Nat.le_refl _) _⟩
  · have t1 : decide (500 < (n : Int)) = false := decide_eq_false (by omega)
    by_cases h2 : 1000 < m
    · have t2 : decide (1000 < (m : Int)) = true := decide_eq_true (by omega)
      have HR : Hid ((decide (500 < n) || decide (1000 < m)) = true) := by show _ = _; simp [h2]
      generalize (decide (500 < n) || decide (1000 < m)) = R at *
      go_enter Tryd.func7, Tryd.ntmps7
      go_wp2_with fail
      go_ret
      exact ⟨by rw [HR.out]; rfl, (Below.refl _ _).alloc (Nat.le_refl _) _⟩
    · have t2 : decide (1000 < (m : Int)) = false := decide_eq_false (by omega)
      have HR : Hid ((decide (500 < n) || decide (1000 < m)) = false) := by show _ = _; simp [h1, h2]
      generalize (decide (500 < n) || decide (1000 < m)) = R at *
      go_enter Tryd.func7, Tryd.ntmps7
      go_wp2_with fail
      go_ret
      exact ⟨by rw [HR.out]; rfl, (Below.refl _ _).alloc (Nat.le_refl _) _⟩
end Go.Proofs.YtkdnhfeamibmdaaDoor
