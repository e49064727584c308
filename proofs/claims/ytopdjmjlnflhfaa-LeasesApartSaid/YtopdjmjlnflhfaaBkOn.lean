/-
  Books made behind a world of which all is as it was; the chapter's example.
-/
import Derived.Test.YtopdjmjlnflhfaaBkGrant
namespace Go.Proofs.Ytopdjmjlnflhfaa
open Go.RowKit Go.Sort Go.Maps
/-- A book that was made behind w0, of which all is as it was; n puts at most. -/
structure One (w0 : World) (p m n : Nat) (B : Lea.Bk) (w : World) : Prop where
  bk : IsBk w p m n B
  hp : w0.heap.size ≤ p
  hm : w0.heap.size ≤ m
  bel : Below w0.heap.size w0 w
/-- Two such books, apart. -/
structure Two (w0 : World) (p m n : Nat) (B : Lea.Bk) (q k j : Nat) (C : Lea.Bk) (w : World) : Prop where
  a : One w0 p m n B w
  b : One w0 q k j C w
  n1 : p ≠ q
  n2 : p ≠ k
  n3 : m ≠ q
  n4 : m ≠ k
section
variable {w0 w w' : World} {p m n q k j : Nat} {B C : Lea.Bk} {s e now : Int}
theorem Two.swap (h : Two w0 p m n B q k j C w) : Two w0 q k j C p m n B w := ⟨h.b, h.a, h.n1.symm, h.n3.symm, h.n2.symm, h.n4.symm⟩
theorem One.below (h : One w0 p m n B w) (hb : Below w.heap.size w w') : One w0 p m n B w' := ⟨h.bk.below hb, h.hp, h.hm, h.bel.trans (hb.mono h.bel.size)⟩
theorem Two.below (h : Two w0 p m n B q k j C w) (hb : Below w.heap.size w w') : Two w0 p m n B q k j C w' := ⟨h.a.below hb, h.b.below hb, h.n1, h.n2, h.n3, h.n4⟩
theorem One.put {B' : Lea.Bk} {n' : Nat} (h : One w0 p m n B w) (hI : IsBk w' p m n' B') (hf : Foot (fun i => i = m) w w') : One w0 p m n' B' w' :=
  ⟨hI, h.hp, h.hm, h.bel.trans (hf.below fun i hi => ⟨Nat.lt_of_lt_of_le hi h.bel.size, fun e => by have := h.hm; omega⟩)⟩
theorem Two.put {B' : Lea.Bk} {n' : Nat} (h : Two w0 p m n B q k j C w) (hI : IsBk w' p m n' B') (hf : Foot (fun i => i = m) w w') : Two w0 p m n' B' q k j C w' :=
  ⟨h.a.put hI hf, ⟨h.b.bk.foot hf (fun e => h.n3 e.symm) (fun e => h.n4 e.symm), h.b.hp, h.b.hm, (h.a.put hI hf).bel⟩, h.n1, h.n2, h.n3, h.n4⟩
theorem one_new (now : Int) (r : Bool) (ht : -9223372036854775808 ≤ now) (w : World) {B : Lea.Bk} (hB : Lea.new now r = B) : Calls Try.prog 11 #[.int .i64 now, .bool r] w fun x w' => ∃ p m, x = .returned (.pointer (some ⟨p, 0, none⟩)) ∧ Hid (One w p m 0 B w') :=
  (newBk_any now r ht w).mono fun x w' ⟨h1, h2, h3⟩ => ⟨_, _, h1, by rw [← hB]; exact h2, by omega, by omega, h3⟩
theorem two_new (now : Int) (r : Bool) (ht : -9223372036854775808 ≤ now) (h : Hid (One w0 p m n B w)) {C : Lea.Bk} (hC : Lea.new now r = C) : Calls Try.prog 11 #[.int .i64 now, .bool r] w fun x w' => ∃ q k, x = .returned (.pointer (some ⟨q, 0, none⟩)) ∧ Hid (Two w0 p m n B q k 0 C w') :=
  (newBk_any now r ht w).mono fun x w' ⟨h1, h2, h3⟩ => by
    have hs := h.out.bel.size
    have hp := h.out.bk.lt
    have hm := h.out.bk.mlt
    exact ⟨_, _, h1, ⟨h.out.below h3, ⟨by rw [← hC]; exact h2, by omega, by omega, h.out.bel.trans (h3.mono hs)⟩, by omega, by omega, by omega, by omega⟩⟩
theorem one_may (h : Hid (One w0 p m n B w)) (hs : (Lit.int .i64 s).wf = true) {r : Bool} (hr : Lea.may B s e now = r) : Calls Try.prog 7 #[.pointer (some ⟨p, 0, none⟩), .int .i64 s, .int .i64 e, .int .i64 now] w fun x w' => x = .returned (.bool r) ∧ Hid (One w0 p m n B w') :=
  (may_any h.out.bk hs).mono fun x w' ⟨h1, h2⟩ => ⟨by rw [← hr]; exact h1, h.out.below h2⟩
theorem two_may (h : Hid (Two w0 p m n B q k j C w)) (hs : (Lit.int .i64 s).wf = true) {r : Bool} (hr : Lea.may B s e now = r) : Calls Try.prog 7 #[.pointer (some ⟨p, 0, none⟩), .int .i64 s, .int .i64 e, .int .i64 now] w fun x w' => x = .returned (.bool r) ∧ Hid (Two w0 p m n B q k j C w') :=
  (may_any h.out.a.bk hs).mono fun x w' ⟨h1, h2⟩ => ⟨by rw [← hr]; exact h1, h.out.below h2⟩
theorem one_hold (h : Hid (One w0 p m n B w)) (hs : (Lit.int .i64 s).wf = true) {r : Int} {b : Bool} (hr : Lea.hold B s now = (r, b)) : Calls Try.prog 6 #[.pointer (some ⟨p, 0, none⟩), .int .i64 s, .int .i64 now] w fun x w' => x = .returned (.tuple #[.int .i64 r, .bool b]) ∧ Hid (One w0 p m n B w') :=
  (holder_any h.out.bk hs).mono fun x w' ⟨h1, h2⟩ => ⟨by rw [h1, hr], h.out.below h2⟩
theorem two_hold (h : Hid (Two w0 p m n B q k j C w)) (hs : (Lit.int .i64 s).wf = true) {r : Int} {b : Bool} (hr : Lea.hold B s now = (r, b)) : Calls Try.prog 6 #[.pointer (some ⟨p, 0, none⟩), .int .i64 s, .int .i64 now] w fun x w' => x = .returned (.tuple #[.int .i64 r, .bool b]) ∧ Hid (Two w0 p m n B q k j C w') :=
  (holder_any h.out.a.bk hs).mono fun x w' ⟨h1, h2⟩ => ⟨by rw [h1, hr], h.out.below h2⟩
theorem one_grant (h : Hid (One w0 p m n B w)) (hn : n < 1000000) (he : (Lit.int .i64 e).wf = true) (ht : (Lit.int .i64 now).wf = true) {B' : Lea.Bk} {r : Int} (hr : Lea.grant B s e now = (B', r)) : Calls Try.prog 8 #[.pointer (some ⟨p, 0, none⟩), .int .i64 s, .int .i64 e, .int .i64 now] w fun x w' => x = .returned (.int .i64 r) ∧ Hid (One w0 p m (n + 1) B' w') :=
  (grant_any h.out.bk hn he ht).mono fun x w' ⟨h1, h2, h3⟩ => ⟨by rw [h1, hr], by rw [hr] at h2; exact h.out.put h2 h3⟩
theorem two_grant (h : Hid (Two w0 p m n B q k j C w)) (hn : n < 1000000) (he : (Lit.int .i64 e).wf = true) (ht : (Lit.int .i64 now).wf = true) {B' : Lea.Bk} {r : Int} (hr : Lea.grant B s e now = (B', r)) : Calls Try.prog 8 #[.pointer (some ⟨p, 0, none⟩), .int .i64 s, .int .i64 e, .int .i64 now] w fun x w' => x = .returned (.int .i64 r) ∧ Hid (Two w0 p m (n + 1) B' q k j C w') :=
  (grant_any h.out.a.bk hn he ht).mono fun x w' ⟨h1, h2, h3⟩ => ⟨by rw [h1, hr], by rw [hr] at h2; exact h.out.put h2 h3⟩
theorem one_release (h : Hid (One w0 p m n B w)) (hn : n < 1000000) (hs : (Lit.int .i64 s).wf = true) {B' : Lea.Bk} (hr : Lea.release B s e = B') : Calls Try.prog 9 #[.pointer (some ⟨p, 0, none⟩), .int .i64 s, .int .i64 e] w fun x w' => x = .returned (.int .i64 0) ∧ Hid (One w0 p m (n + 1) B' w') :=
  (release_any h.out.bk hn hs).mono fun x w' ⟨h1, h2, h3⟩ => ⟨h1, by rw [hr] at h2; exact h.out.put h2 h3⟩
theorem two_release (h : Hid (Two w0 p m n B q k j C w)) (hn : n < 1000000) (hs : (Lit.int .i64 s).wf = true) {B' : Lea.Bk} (hr : Lea.release B s e = B') : Calls Try.prog 9 #[.pointer (some ⟨p, 0, none⟩), .int .i64 s, .int .i64 e] w fun x w' => x = .returned (.int .i64 0) ∧ Hid (Two w0 p m (n + 1) B' q k j C w') :=
  (release_any h.out.a.bk hn hs).mono fun x w' ⟨h1, h2, h3⟩ => ⟨h1, by rw [hr] at h2; exact h.out.put h2 h3⟩
end
theorem lv1 : Lea.grant (Lea.new 5 false) 0 1 5 = ((Lea.new 5 false).set 0 (1, 21), 0) := rfl
set_option maxRecDepth 100000 in
set_option maxHeartbeats 4000000 in
theorem lives_any (w : World) : Calls Try.prog 10 #[] w fun e w' => e = .returned (.bool true) ∧ Below w.heap.size w w' := by
  have HN := Lib.hid (one_new 5 false (by decide) w rfl)
  go_enter Try.func10, Try.ntmps10
  go_wp2_with fail
  refine HN.out.mono ?_
  rintro x w1 ⟨p, m, rfl, H1⟩
  go_wp2_with fail
  refine (one_may H1 (s := 0) (e := 1) (now := 5) (by decide) (r := true) rfl).mono ?_
  rintro x w2 ⟨rfl, H2⟩
  go_wp2_with fail
  refine (one_grant H2 (s := 0) (e := 1) (now := 5) (by decide) (by decide) (by decide) lv1).mono ?_
  rintro x w3 ⟨rfl, H3⟩
  go_wp2_with fail
  refine (one_hold H3 (s := 0) (now := 20) (by decide) (r := 1) (b := true) rfl).mono ?_
  rintro x w4 ⟨rfl, H4⟩
  go_wp2_with fail
  refine (one_hold H4 (s := 0) (now := 21) (by decide) (r := 0) (b := false) rfl).mono ?_
  rintro x w5 ⟨rfl, H5⟩
  go_wp2_with fail
  refine (two_new 5 true (by decide) H5 rfl).mono ?_
  rintro x w6 ⟨q, k, rfl, H6⟩
  go_wp2_with fail
  refine (two_may H6 (s := 0) (e := 2) (now := 20) (by decide) (r := false) rfl).mono ?_
  rintro x w7 ⟨rfl, H7⟩
  go_wp2_with fail
  refine (two_may H7 (s := 0) (e := 1) (now := 20) (by decide) (r := true) rfl).mono ?_
  rintro x w8 ⟨rfl, H8⟩
  go_wp2_with fail
  refine (two_may H8 (s := 0) (e := 2) (now := 21) (by decide) (r := true) rfl).mono ?_
  rintro x w9 ⟨rfl, H9⟩
  replace H9 : Hid _ := Lib.hid H9.out.swap
  go_wp2_with fail
  refine (two_may H9 (s := 1) (e := 3) (now := 20) (by decide) (r := false) rfl).mono ?_
  rintro x w10 ⟨rfl, H10⟩
  go_wp2_with fail
  refine (two_may H10 (s := 1) (e := 3) (now := 21) (by decide) (r := true) rfl).mono ?_
  rintro x w11 ⟨rfl, H11⟩
  go_wp2_with fail
  go_ret
  exact ⟨rfl, H11.out.a.bel⟩
end Go.Proofs.Ytopdjmjlnflhfaa
