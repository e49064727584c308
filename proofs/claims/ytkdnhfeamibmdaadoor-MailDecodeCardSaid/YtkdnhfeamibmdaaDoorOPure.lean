/-
  Plain mathematics of orders: just the bytes of orders that may be are read; unlike orders have bytes of which none begins with another's. No program in this text.
-/
import Derived.Test.YtkdnhfeamibmdaaDoorOMath
namespace Go.Proofs.YtkdnhfeamibmdaaDoor
open Go.RowKit
open Go.Lib (uvarint zigzag unzigzag uvarint_small uvarint_big)
theorem got_iff {l : List UInt8} {a n : Int} {k : Nat} : got l a = some (n, k) ↔
    (-9223372036854775808 ≤ n ∧ n ≤ 9223372036854775807) ∧ ∃ x y, l = x ++ (mark n ++ y) ∧ a = (x.length : Int) ∧ k = x.length + (mark n).length := by
  constructor
  · intro h
    unfold got at h
    split at h
    · rename_i hc
      rcases hd : dec (l.drop a.toNat) with _ | ⟨f, m⟩
      · rw [hd] at h; cases h
      · rw [hd] at h
        simp only [Option.map_some, Option.some.injEq, Prod.mk.injEq] at h
        obtain ⟨rfl, rfl⟩ := h
        obtain ⟨h1, h2, h3⟩ := dec_iff.1 hd
        have hm : mark (unzigzag f) = uvarint f := by unfold mark; rw [zig_unzig]
        refine ⟨unzig_bd h1, l.take a.toNat, (l.drop a.toNat).drop m, ?_, ?_, ?_⟩
        · rw [hm, h2, List.take_append_drop, List.take_append_drop]
        · rw [List.length_take, Nat.min_eq_left (by omega)]; omega
        · rw [hm, List.length_take, Nat.min_eq_left (by omega), h3]
    · cases h
  · rintro ⟨⟨h0, h1⟩, x, y, rfl, rfl, rfl⟩
    rw [got_nat (by simp), List.drop_left, show mark n = uvarint (zigzag n) from rfl, dec_mark (Lib.zigzag_lt h0 h1)]
    simp [unzig_zig]
def markL (ns : List Int) : List UInt8 := ns.flatMap mark
def IntsOk (ns : List Int) : Prop := ∀ n ∈ ns, -9223372036854775808 ≤ n ∧ n ≤ 9223372036854775807
theorem gots_iff : ∀ {k : Nat} {l : List UInt8} {a b : Int} {ns : List Int}, 0 ≤ a → a ≤ l.length → (gots k l a = some (ns, b) ↔
    IntsOk ns ∧ ns.length = k ∧ ∃ x y, l = x ++ (markL ns ++ y) ∧ a = (x.length : Int) ∧ b = ((x.length + (markL ns).length : Nat) : Int))
  | 0, l, a, b, ns, h0, h1 => by
    constructor
    · intro h
      simp only [gots, Option.some.injEq, Prod.mk.injEq] at h
      obtain ⟨rfl, rfl⟩ := h
      obtain ⟨j, rfl⟩ := Int.eq_ofNat_of_zero_le h0
      exact ⟨fun n hn => (by cases hn), rfl, l.take j, l.drop j, by simp [markL], by simp; omega, by simp [markL]; omega⟩
    · rintro ⟨_, hl, x, y, rfl, rfl, rfl⟩
      obtain rfl := List.length_eq_zero_iff.1 hl
      simp [gots, markL]
  | k + 1, l, a, b, ns, h0, h1 => by
    constructor
    · intro h
      simp only [gots] at h
      split at h
      · cases h
      · rename_i n c hg
        obtain ⟨p, hp, he⟩ := Option.map_eq_some_iff.1 h
        simp only [Prod.mk.injEq] at he
        obtain ⟨rfl, rfl⟩ := he
        obtain ⟨hn, x, y, rfl, rfl, rfl⟩ := got_iff.1 hg
        obtain ⟨hi, hlen, x', y', he, hx, hb⟩ := (gots_iff (ns := p.1) (b := p.2) (by omega) (by simp only [List.length_append]; omega)).1 hp
        have hx' : x' = x ++ mark n := by
          have : x ++ (mark n ++ y) = (x ++ mark n) ++ y := by simp
          rw [this] at he
          exact (List.append_inj he (by simp only [List.length_append]; omega)).1.symm
        subst hx'
        refine ⟨fun z hz => ?_, by simp [hlen], x, y', ?_, rfl, ?_⟩
        · rcases List.mem_cons.1 hz with rfl | hz
          · exact hn
          · exact hi z hz
        · rw [he]; simp [markL]
        · rw [hb]; simp only [markL, List.flatMap_cons, List.length_append]; omega
    · rintro ⟨hi, hl, x, y, rfl, rfl, rfl⟩
      match ns, hl with
      | n :: m, hl =>
        have hg : got (x ++ (markL (n :: m) ++ y)) (x.length : Int) = some (n, x.length + (mark n).length) :=
          got_iff.2 ⟨hi n (by simp), x, markL m ++ y, by simp [markL], rfl, rfl⟩
        simp only [gots, hg]
        have := (gots_iff (k := k) (l := x ++ (markL (n :: m) ++ y)) (a := ((x.length + (mark n).length : Nat) : Int)) (b := ((x.length + (markL (n :: m)).length : Nat) : Int)) (ns := m) (by omega) (by simp only [markL, List.flatMap_cons, List.length_append]; omega)).2
          ⟨fun z hz => hi z (by simp [hz]), by simpa using hl, x ++ mark n, y, by simp [markL], by simp, by simp only [markL, List.flatMap_cons, List.length_append]; omega⟩
        rw [this]
        rfl
theorem enc_marks (o : Od) : o.enc = markL o.l := by simp [Od.enc, markL, Od.l]
theorem odOf_l (o : Od) : odOf o.l = o := by cases o; rfl
theorem l_odOf {ns : List Int} (h : ns.length = 5) : (odOf ns).l = ns := by
  match ns, h with
  | [a, b, c, d, f], _ => rfl
theorem may_ints {o : Od} (h : o.may = true) : o.ints := by
  unfold Od.may at h
  have h := of_decide_eq_true h
  intro n hn
  simp only [Od.l, List.mem_cons, List.not_mem_nil, or_false] at hn
  rcases hn with rfl | rfl | rfl | rfl | rfl <;> omega
/-- Just the bytes of orders that may be are read. -/
theorem decO_iff {l : List UInt8} {o : Od} : decO l = some o ↔ l = o.enc ∧ o.may = true := by
  unfold decO
  constructor
  · intro h
    split at h
    · cases h
    · rename_i ns k hg
      split at h
      · rename_i hc
        obtain rfl := Option.some.inj h
        obtain ⟨hi, hlen, x, y, he, hx, hb⟩ := (gots_iff (by omega) (by omega)).1 hg
        obtain rfl : x = [] := List.length_eq_zero_iff.1 (by omega)
        have hy : y = [] := by
          have := congrArg List.length he
          simp only [List.length_append, List.length_nil] at this hb
          exact List.length_eq_zero_iff.1 (by omega)
        subst hy
        refine ⟨?_, hc.2⟩
        rw [enc_marks, l_odOf hlen]
        simpa using he
      · cases h
  · rintro ⟨rfl, hm⟩
    have hg : gots 5 o.enc 0 = some (o.l, ((o.enc.length : Nat) : Int)) := (gots_iff (by omega) (by omega)).2
      ⟨may_ints hm, rfl, [], [], by simp [enc_marks], rfl, by simp [enc_marks]⟩
    simp only [hg, odOf_l, true_and]
    rw [if_pos hm]
theorem enc_decO {o : Od} (h : o.may = true) : decO o.enc = some o := decO_iff.2 ⟨rfl, h⟩
/-- The bytes of an order tell which it was, whatever stands behind. -/
theorem enc_apart {o p : Od} (ho : o.ints) (hp : p.ints) {a b : List UInt8} (h : o.enc ++ a = p.enc ++ b) : o = p ∧ a = b := by
  have g1 : gots 5 (o.enc ++ a) 0 = some (o.l, ((o.enc.length : Nat) : Int)) := (gots_iff (by omega) (by omega)).2 ⟨ho, rfl, [], a, by simp [enc_marks], rfl, by simp [enc_marks]⟩
  have g2 : gots 5 (p.enc ++ b) 0 = some (p.l, ((p.enc.length : Nat) : Int)) := (gots_iff (by omega) (by omega)).2 ⟨hp, rfl, [], b, by simp [enc_marks], rfl, by simp [enc_marks]⟩
  rw [h, g2] at g1
  simp only [Option.some.injEq, Prod.mk.injEq] at g1
  have e : o = p := by rw [← odOf_l o, ← odOf_l p, g1.1]
  subst e
  exact ⟨rfl, List.append_cancel_left h⟩
theorem enc_inj {o p : Od} (ho : o.ints) (hp : p.ints) (h : o.enc = p.enc) : o = p := (enc_apart ho hp (a := []) (b := []) (by rw [h])).1
theorem enc_len {o : Od} (h : o.ints) : 5 ≤ o.enc.length ∧ o.enc.length ≤ 50 := by
  have b : ∀ n ∈ o.l, 1 ≤ (mark n).length ∧ (mark n).length ≤ 10 := fun n hn => ⟨Lib.uvarint_pos _, Lib.uvarint_length64 (Lib.zigzag_lt (h n hn).1 (h n hn).2)⟩
  have b0 := b o.id (by simp [Od.l])
  have b1 := b o.st (by simp [Od.l])
  have b2 := b o.ex (by simp [Od.l])
  have b3 := b o.ki (by simp [Od.l])
  have b4 := b o.ar (by simp [Od.l])
  simp only [Od.enc, List.length_append]
  omega
/-- What is got of an order's bytes, mark by mark. -/
theorem enc_got {o : Od} (h : o.ints) :
    got o.enc ((0 : Nat) : Int) = some (o.id, (mark o.id).length) ∧
    got o.enc (((mark o.id).length : Nat) : Int) = some (o.st, (mark o.id).length + (mark o.st).length) ∧
    got o.enc (((mark o.id).length + (mark o.st).length : Nat) : Int) = some (o.ex, (mark o.id).length + (mark o.st).length + (mark o.ex).length) ∧
    got o.enc (((mark o.id).length + (mark o.st).length + (mark o.ex).length : Nat) : Int) = some (o.ki, (mark o.id).length + (mark o.st).length + (mark o.ex).length + (mark o.ki).length) ∧
    got o.enc (((mark o.id).length + (mark o.st).length + (mark o.ex).length + (mark o.ki).length : Nat) : Int) = some (o.ar, o.enc.length) := by
  refine ⟨got_iff.2 ⟨h _ (by simp [Od.l]), [], mark o.st ++ (mark o.ex ++ (mark o.ki ++ mark o.ar)), by simp [Od.enc], by simp, by simp⟩,
    got_iff.2 ⟨h _ (by simp [Od.l]), mark o.id, mark o.ex ++ (mark o.ki ++ mark o.ar), by simp [Od.enc], by simp, by simp⟩,
    got_iff.2 ⟨h _ (by simp [Od.l]), mark o.id ++ mark o.st, mark o.ki ++ mark o.ar, by simp [Od.enc], by simp, by simp⟩,
    got_iff.2 ⟨h _ (by simp [Od.l]), mark o.id ++ (mark o.st ++ mark o.ex), mark o.ar, by simp [Od.enc], by simp; omega, by simp; omega⟩,
    got_iff.2 ⟨h _ (by simp [Od.l]), mark o.id ++ (mark o.st ++ (mark o.ex ++ mark o.ki)), [], by simp [Od.enc], by simp; omega, by simp [Od.enc]; omega⟩⟩
end Go.Proofs.YtkdnhfeamibmdaaDoor
