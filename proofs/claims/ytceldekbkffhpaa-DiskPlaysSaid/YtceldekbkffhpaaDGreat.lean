/-
  Acts; great.
-/
import Derived.Test.YtceldekbkffhpaaDDoes
namespace Go.Proofs.Ytceldekbkffhpaa
open Go.RowKit
structure ActV where
  k : Int
  nm : ByteArray
  ot : ByteArray
  dt : ByteArray
  n : Int
  ka : Option Addr
  kl : Nat
  kc : Nat
def ActV.val (x : ActV) : Value := .agg #[.int .u8 x.k, .string x.nm, .string x.ot, .string x.dt, .int .i64 x.n, .slice x.ka x.kl x.kc]
def ActV.cellsAt (w : World) (b o : Nat) (x : ActV) : Prop := w.cell? ⟨b, o, none⟩ = some (.int .u8 x.k) ∧ w.cell? ⟨b, o + 1, none⟩ = some (.string x.nm) ∧ w.cell? ⟨b, o + 2, none⟩ = some (.string x.ot) ∧ w.cell? ⟨b, o + 3, none⟩ = some (.string x.dt) ∧ w.cell? ⟨b, o + 4, none⟩ = some (.int .i64 x.n) ∧ w.cell? ⟨b, o + 5, none⟩ = some (.slice x.ka x.kl x.kc)
theorem ActV.cellsAt.below {w w' : World} {b o : Nat} {x : ActV} (h : x.cellsAt w b o) (hlt : b < w.heap.size) (hb : Below w.heap.size w w') : x.cellsAt w' b o :=
  ⟨(hb.cell (p := ⟨b, o, none⟩) hlt).trans h.1, (hb.cell (p := ⟨b, o + 1, none⟩) hlt).trans h.2.1, (hb.cell (p := ⟨b, o + 2, none⟩) hlt).trans h.2.2.1, (hb.cell (p := ⟨b, o + 3, none⟩) hlt).trans h.2.2.2.1, (hb.cell (p := ⟨b, o + 4, none⟩) hlt).trans h.2.2.2.2.1, (hb.cell (p := ⟨b, o + 5, none⟩) hlt).trans h.2.2.2.2.2⟩
/-- A slice of acts. -/
def Acts (w : World) (v : Value) (l : List ActV) : Prop := ∃ A c, v = .slice A l.length c ∧ l.length ≤ c ∧ c ≤ maxLen ∧ (0 < l.length → ∃ b o, A = some ⟨b, o, none⟩ ∧ b < w.heap.size ∧ ∀ j (h : j < l.length), l[j].cellsAt w b (o + j * 6))
theorem Acts.below {w w' : World} {v : Value} {l : List ActV} (h : Acts w v l) (hb : Below w.heap.size w w') : Acts w' v l := by
  obtain ⟨A, c, rfl, h1, h2, h3⟩ := h
  refine ⟨A, c, rfl, h1, h2, fun h0 => ?_⟩
  obtain ⟨b, o, rfl, hlt, hc⟩ := h3 h0
  exact ⟨b, o, rfl, Nat.lt_of_lt_of_le hlt hb.size, fun j h => (hc j h).below hlt hb⟩
def ActV.Little (x : ActV) : Prop := x.nm.size ≤ 1000 ∧ x.ot.size ≤ 1000 ∧ x.dt.size ≤ 5000 ∧ x.kl ≤ 100
def sizes (l : List ActV) : Nat := (l.map fun x => x.dt.size).sum
def Small (l : List ActV) : Prop := (∀ x ∈ l, x.Little) ∧ sizes l ≤ 100000 ∧ l.length ≤ 150
theorem sizes_take (l : List ActV) {k : Nat} (hk : k < l.length) : sizes (l.take (k + 1)) = sizes (l.take k) + l[k].dt.size := by
  unfold sizes
  rw [List.take_succ_eq_append_getElem hk, List.map_append, List.sum_append]
  simp only [List.map_cons, List.map_nil, List.sum_cons, List.sum_nil, Nat.add_zero]
def GreatPost (w : World) (l : List ActV) (e : Ending) (w' : World) : Prop := ∃ b, e = .returned (.bool b) ∧ (b = false → Small l) ∧ Below w.heap.size w w'
set_option maxRecDepth 100000 in
set_option maxHeartbeats 4000000 in
theorem great_any {v : Value} {l : List ActV} {w : World} (h : Acts w v l) : Calls Try.prog 4 #[v] w (GreatPost w l) := by
  obtain ⟨A, c, rfl, hc1, hc2, hA⟩ := h
  have HA := Lib.hid hA
  clear hA
  unfold maxLen at hc2
  go_enter Try.func4, Try.ntmps4
  go_wp2_with fail
  go_loopg [2, 3, 4, 5] l.length (fun kx s2 s3 s4 s5 wr => ∃ k : Nat, k ≤ l.length ∧ s4 = .int .i64 (k : Int) ∧ l.length - k ≤ kx ∧ s2 = .bool false ∧ s3 = .int .i64 (sizes (l.take k) : Nat) ∧ sizes (l.take k) ≤ 100000 ∧ Hid (∀ x ∈ l.take k, x.Little) ∧ Below w.heap.size w wr)
  case atStart => exact ⟨0, Nat.zero_le _, rfl, by omega, rfl, by simp [sizes], by simp [sizes], fun x hx => by simp at hx, Below.refl _ _⟩
  case round =>
    obtain ⟨k, hk, rfl, hkx, rfl, rfl, hs, hl, hb⟩ := hrel
    by_cases hlt : k < l.length
    · obtain ⟨b, o, rfl, hbl, hcells⟩ := HA.out (by omega)
      obtain ⟨c0, c1, c2, c3, c4, c5⟩ := (hcells k hlt).below hbl hb
      have HST := Lib.hid (sizes_take l hlt)
      have HLT : Hid (∀ y, y ∈ l.take (k + 1) → y ∈ l.take k ∨ y = l[k]) := fun y hy => by
        rw [List.take_succ_eq_append_getElem hlt] at hy
        rcases List.mem_append.1 hy with hy | hy
        · exact .inl hy
        · exact .inr (by simpa using hy)
      have HLD : Hid (l[k].Little ↔ l[k].nm.size ≤ 1000 ∧ l[k].ot.size ≤ 1000 ∧ l[k].dt.size ≤ 5000 ∧ l[k].kl ≤ 100) := Iff.rfl
      clear hcells
      generalize l[k] = x at *
      obtain ⟨xk, nm, ot, dt, xn, ka, kl, kc⟩ := x
      simp only at c0 c1 c2 c3 c4 c5
      have hlk : (k : Int) < (l.length : Int) := by omega
      generalize sizes (l.take k) = sm at *
      by_cases g1 : nm.size ≤ 1000
      · by_cases g2 : ot.size ≤ 1000
        · by_cases g3 : dt.size ≤ 5000
          · by_cases g4 : kl ≤ 100
            · have t1 : decide ((1000 : Int) < (nm.size : Int)) = false := decide_eq_false (by omega)
              have t2 : decide ((1000 : Int) < (ot.size : Int)) = false := decide_eq_false (by omega)
              have t3 : decide ((5000 : Int) < (dt.size : Int)) = false := decide_eq_false (by omega)
              have t4 : decide ((100 : Int) < (kl : Int)) = false := decide_eq_false (by omega)
              by_cases g5 : sm + dt.size ≤ 100000
              · have t5 : decide ((100000 : Int) < (sm : Int) + (dt.size : Int)) = false := decide_eq_false (by omega)
                go_wp2
                go_roundg (l.length - (k + 1))
                case measure => omega
                case rel =>
                  refine ⟨k + 1, by omega, by go_num, by omega, rfl, ?_, by rw [HST.out]; exact g5, fun y hy => ?_, hb.alloc hb.size _⟩
                  · rw [HST.out]; simp
                  · rcases HLT.out y hy with hy | rfl
                    · exact hl.out y hy
                    · exact HLD.out.2 ⟨g1, g2, g3, g4⟩
              · have t5 : decide ((100000 : Int) < (sm : Int) + (dt.size : Int)) = true := decide_eq_true (by omega)
                go_wp2
                go_ret
                exact ⟨true, rfl, (fun h => by cases h), hb.alloc hb.size _⟩
            · have t1 : decide ((1000 : Int) < (nm.size : Int)) = false := decide_eq_false (by omega)
              have t2 : decide ((1000 : Int) < (ot.size : Int)) = false := decide_eq_false (by omega)
              have t3 : decide ((5000 : Int) < (dt.size : Int)) = false := decide_eq_false (by omega)
              have t4 : decide ((100 : Int) < (kl : Int)) = true := decide_eq_true (by omega)
              go_wp2
              go_ret
              exact ⟨true, rfl, (fun h => by cases h), hb.alloc hb.size _⟩
          · have t1 : decide ((1000 : Int) < (nm.size : Int)) = false := decide_eq_false (by omega)
            have t2 : decide ((1000 : Int) < (ot.size : Int)) = false := decide_eq_false (by omega)
            have t3 : decide ((5000 : Int) < (dt.size : Int)) = true := decide_eq_true (by omega)
            go_wp2
            go_ret
            exact ⟨true, rfl, (fun h => by cases h), hb.alloc hb.size _⟩
        · have t1 : decide ((1000 : Int) < (nm.size : Int)) = false := decide_eq_false (by omega)
          have t2 : decide ((1000 : Int) < (ot.size : Int)) = true := decide_eq_true (by omega)
          go_wp2
          go_ret
          exact ⟨true, rfl, (fun h => by cases h), hb.alloc hb.size _⟩
      · have t1 : decide ((1000 : Int) < (nm.size : Int)) = true := decide_eq_true (by omega)
        go_wp2
        go_ret
        exact ⟨true, rfl, (fun h => by cases h), hb.alloc hb.size _⟩
    · obtain rfl : k = l.length := by omega
      rw [List.take_length] at hs hl
      have hlk : ¬ ((l.length : Int) < (l.length : Int)) := by omega
      by_cases g : l.length ≤ 150
      · have t : decide ((150 : Int) < (l.length : Int)) = false := decide_eq_false (by omega)
        go_wp2
        go_ret
        exact ⟨false, rfl, fun _ => ⟨hl.out, hs, g⟩, hb⟩
      · have t : decide ((150 : Int) < (l.length : Int)) = true := decide_eq_true (by omega)
        go_wp2
        go_ret
        exact ⟨true, rfl, (fun h => by cases h), hb⟩
end Go.Proofs.Ytceldekbkffhpaa
