/-
  Append of a row of ints that may be none.
-/
import Derived.Test.YtceldekbkffhpaaQRen
import Derived.Deep.AppendSrc
import Derived.Deep.Upon
namespace Go.Proofs.Ytceldekbkffhpaa
open Go.RowKit
theorem Try.info_qint : (Try.prog.info? 3).map (fun i => (i.zero, i.size, i.bytes)) = some (some (.int .i64 0), 1, 8) := by kernel_rfl
theorem empty_own (w : World) (base : Nat) (t : TypeId) (h : base ≤ w.heap.size) : (w.alloc (.cells #[] t)).ownsRow base t 1 (.slice (some ⟨w.heap.size, 0, none⟩) 0 0) 0 [] :=
  ⟨rfl, .inr ⟨w.heap.size, 0, #[], rfl, h, heap_alloc_new w _, Nat.le_refl _, Nat.zero_le _, rfl, rfl⟩⟩
theorem ints_one (l : List Int) : ∀ u ∈ l.map (Value.int .i64), u.oneCell' = true := by
  intro u hu
  obtain ⟨x, _, rfl⟩ := List.mem_map.1 hu
  rfl
theorem own_is_slice {w : World} {base : Nat} {e : TypeId} {size n : Nat} {v : Value} {xs : List Value} (h : w.ownsRow base e size v n xs) : ∃ A c, v = .slice A n c ∧ n ≤ c := by
  rcases h.2 with ⟨rfl, rfl⟩ | ⟨g, cap, cur, rfl, _, _, hnc, _⟩
  · exact ⟨none, 0, rfl, Nat.le_refl _⟩
  · exact ⟨_, _, rfl, hnc⟩
theorem own_len {w : World} {base : Nat} {e : TypeId} {n : Nat} {v : Value} {xs : List Value} (h : w.ownsRow base e 1 v n xs) : xs.length = n := by have := h.1; omega
/-- 'append' of a row of ints to a row of one's own. -/
theorem run_append_ints {w : World} {base n : Nat} {v ka : Value} {xs : List Value} {l : List Int} (ho : w.ownsRow base 3 1 v n xs) (hk : Ints w ka l) (hb : base ≤ w.heap.size) (hnl : n + l.length ≤ 1000000) :
    ∃ A c w', (Builtin.append_ #[32, 32] 32 #[v, ka]).run Try.prog w = .ok (.slice A (n + l.length) c) w' ∧ w'.ownsRow base 3 1 (.slice A (n + l.length) c) (n + l.length) (xs ++ l.map (Value.int .i64)) ∧ w.grownBy w' v.ownBlock := by
  obtain ⟨i0, hi0, hz0, hz1, hz2⟩ := info_parts Try.info_qint
  obtain ⟨KA, kc, rfl, h1, h2, h3, h4⟩ := hk
  rcases l with _ | ⟨y, l⟩
  · obtain ⟨A, c, rfl, hac⟩ := own_is_slice ho
    have hs : Src Try.prog i0.size 32 (.slice KA 0 kc) 0 [] w := by
      rcases KA with _ | a
      · exact Src.ofNil w Try.underlying32 kc
      · exact Src.ofSlice w Try.underlying32 a 0 kc [] (by simp) (fun j u h => by simp at h) (fun u h => by simp at h)
    refine ⟨A, c, w, run_append_nothing w _ _ _ 3 i0 Try.underlying32 hi0 A n c hac _ hs, ?_, World.grownBy.refl w _⟩
    simpa using ho
  · obtain ⟨b, off, rfl, hbl, hc⟩ := h4 (by simp)
    obtain ⟨v', w', hr, ho', hg, _⟩ := run_append_own (P := Try.prog) w base 32 32 3 i0 (.int .i64 0) 1 8 Try.underlying32 hi0 hz0 hz1 hz2 rfl (by decide) v n xs ho ⟨b, off, none⟩ (y :: l).length kc ((y :: l).map (Value.int .i64)) (by simp) (fun j u hu => by
      have hj : j < (y :: l).length := by
        have := (List.getElem?_eq_some_iff.1 hu).1
        simpa using this
      rw [Addr.add_lit, hc j hj, ← hu, List.getElem?_map, List.getD, List.getElem?_eq_getElem hj]
      rfl) (ints_one _) (Nat.le_trans hnl (by decide)) (by omega) hb
    obtain ⟨A, c, rfl, _⟩ := own_is_slice ho'
    exact ⟨A, c, w', hr, ho', hg⟩
section
variable {P : Program}
/-- An 'append' whose run is known, in the walk. -/
theorem wpList_append_known (w : World) {ops : Array Oper} {rest : List Oper} {o : Oper} {a : Act} {Q : Exit → Act → World → Prop} (hgd : o.guard = none) (d s : Operand) (t t' : TypeId)
    (ho : o.op = .call { callee := .builtin .append, args := #[d, s], argTypes := #[t, t'] }) (v u : Value) (hd : a.eval d = v) (hs : a.eval s = u) {v' : Value} {w' : World}
    (hr : (Builtin.append_ #[t, t'] o.type #[v, u]).run P w = .ok v' w') (h : wpList P ops Q rest (a.put o.dst v') w') : wpList P ops Q (o :: rest) a w :=
  wpList_plain hgd fun K hK => by
    unfold Oper.wp
    simp [execOp, ho, resolve, invoke, builtin, hd, hs, hr, Result.andThen]
    exact hK _ _ h
end
section
variable {w w' : World} {d : Nat} {D : Dsk.Dk} {S : Nat → Prop} {v kv : Value} {set : Bool} {left : Nat} {K : List Int}
/-- What a failure that is set keeps. -/
theorem QAt.failed {w1 : World} {A : Option Addr} {c m : Nat} {keep : List Int} (h : QAt w d D S v set left kv K) (hm : m ≤ 9223372036854775807) (hk : keep.length ≤ 1000000) (hf : Foot (fun k => k = d) w w1) (hr : w1.ownsRow w.heap.size 3 1 (.slice A keep.length c) keep.length (keep.map (Value.int .i64)))
    (hh : QHead w1 d D.cap D.starts D.down v true m (.slice A keep.length c)) :
    QAt w1 d { D with fail := some (m, keep.take 16) } (fun k => S k ∨ (Value.slice A keep.length c).ownBlock = some k) v true m (.slice A keep.length c) keep ∧ ∀ k, (Value.slice A keep.length c).ownBlock = some k → w.heap.size ≤ k := by
  have hnew : ∀ k, (Value.slice A keep.length c).ownBlock = some k → w.heap.size ≤ k ∧ k < w1.heap.size := fun k hk => World.ownsRow.lt hr k hk
  refine ⟨⟨hh, owns_foot h.row hf fun k hk e => h.offd (by rw [hk, e]), Ints.own hr, hk, hm, rfl, h.offd, fun k hk => ⟨fun e => ?_, fun e => ?_⟩, fun k hk => ⟨(hnew k hk).2, .inr hk⟩, fun k hk => .inl (h.vin k hk), .inl h.din, fun k hk => ?_, h.good.same _ _ _⟩, fun k hk => (hnew k hk).1⟩
  · have := (hnew k hk).1; have := h.lt d h.din; omega
  · have := (hnew k hk).1; have := h.lt k (h.vin k e); omega
  · rcases hk with hk | hk
    · exact Nat.lt_of_lt_of_le (h.lt k hk) hf.size
    · exact (hnew k hk).2
end
end Go.Proofs.Ytceldekbkffhpaa
