/-
  An act, of a disk that is there: in plain words, and the contract of does.
-/
import Derived.Test.YtceldekbkffhpaaDOpen
namespace Go.Proofs.Ytceldekbkffhpaa
open Go.RowKit
namespace Dsk
def act (D : Dk) (x : ActV) (keep : List Int) : Dk × Int :=
  if x.k % 12 = 4 then sync D x.nm else if x.k % 12 = 5 then truncate D x.nm x.n else if x.k % 12 = 6 then rename D x.nm x.ot
  else if x.k % 12 = 7 then remove D x.nm else if x.k % 12 = 8 then crash D keep else if x.k % 12 = 9 then start D
  else if x.k % 12 = 10 then start D else if x.k % 12 = 11 then failSet D x.n keep else append D x.nm x.dt
/-- What each call keeps: the capacity; at most one start more; and who answers that it is full has changed nothing. -/
def Mild (D : Dk) (R : Dk × Int) : Prop := R.1.cap = D.cap ∧ R.1.starts ≤ D.starts + 1 ∧ (R.2 = 40 → R.1 = D)
theorem Mild.same (D : Dk) (r : Int) : Mild D (D, r) := ⟨rfl, Nat.le_succ _, fun _ => rfl⟩
theorem mild_pass (D E : Dk) (h1 : E.cap = D.cap) (h2 : E.starts = D.starts) : Mild D (pass E) := by
  unfold pass
  split
  · exact ⟨h1, by rw [h2]; exact Nat.le_succ _, fun h => by simp at h⟩
  · exact ⟨h1, by show E.starts ≤ _; rw [h2]; exact Nat.le_succ _, fun h => by simp at h⟩
  · exact ⟨h1, by show E.starts ≤ _; rw [h2]; exact Nat.le_succ _, fun h => by simp at h⟩
theorem mild_change (D : Dk) (g : List Fl → List Fl) : Mild D (change D g) := by
  unfold change
  have h := mild_pass D D rfl rfl
  split
  · exact ⟨h.1, h.2.1, fun h => by simp at h⟩
  · exact h
theorem mild_ask (D : Dk) (nm : ByteArray) (what : Nat → Dk × Int) (h : ∀ i, Mild D (what i)) : Mild D (ask D nm what) := by
  unfold ask
  split
  · exact Mild.same D 41
  · split
    · exact Mild.same D 4
    · exact h _
theorem mild_append (D : Dk) (nm s : ByteArray) : Mild D (append D nm s) := by
  unfold append
  split
  · exact Mild.same D 41
  · split
    · exact Mild.same D 2
    · split
      · exact Mild.same D 40
      · exact mild_pass D _ rfl rfl
theorem mild_act (D : Dk) (x : ActV) (keep : List Int) : Mild D (act D x keep) := by
  unfold act
  have hst : Mild D (start D) := by
    unfold start
    split
    · exact ⟨rfl, Nat.le_refl _, fun h => by simp at h⟩
    · exact Mild.same D 2
  split
  · exact mild_ask D _ _ fun _ => mild_change D _
  split
  · refine mild_ask D _ _ fun _ => ?_
    split
    · exact Mild.same D 2
    · exact mild_change D _
  split
  · refine mild_ask D _ _ fun _ => ?_
    split
    · exact Mild.same D 2
    · exact mild_change D _
  split
  · exact mild_ask D _ _ fun _ => mild_change D _
  split
  · unfold crash
    split
    · exact Mild.same D 41
    · exact ⟨rfl, Nat.le_succ _, fun h => by simp at h⟩
  split
  · exact hst
  split
  · exact hst
  split
  · unfold failSet
    split
    · exact Mild.same D 41
    · split
      · exact Mild.same D 2
      · exact ⟨rfl, Nat.le_succ _, fun h => by simp at h⟩
  · exact mild_append D _ _
end Dsk
section
variable {w w' : World} {d : Nat} {D : Dsk.Dk} {S : Nat → Prop}
set_option maxRecDepth 100000 in
set_option maxHeartbeats 2000000 in
theorem does_any (x : ActV) (keep : List Int) (h : IsDisk w d D S) (hst : D.starts ≤ 1000000) (hk0 : 0 ≤ x.k) (hn : x.n ≤ 9223372036854775807) (hk : Ints w (.slice x.ka x.kl x.kc) keep) (hko : ∀ k, 0 < keep.length → (Value.slice x.ka x.kl x.kc).ownBlock = some k → ¬ S k) :
    Calls Try.prog 8 #[.pointer (some ⟨d, 0, none⟩), x.val] w (AnyRet (Did w d S (Dsk.act D x keep))) := by
  obtain ⟨xk, nm, ot, dt, xn, ka, kl, kc⟩ := x
  unfold ActV.val
  dsimp only at hk0 hn hk hko ⊢
  have hb := below_alloc w (.cells #[.int .u8 xk, .string nm, .string ot, .string dt, .int .i64 xn, .slice ka kl kc] 34)
  have HI := Lib.hid (h.below hb)
  have HK := Lib.hid (hk.foot (below_foot hb : Foot (fun _ => False) w _) fun _ _ e => e)
  have HKO := Lib.hid hko
  have HB := Lib.hid hb
  have HST := Lib.hid hst
  have HN := Lib.hid hn
  clear h hb hk hko hst hn
  have hm : xk % 12 = 0 ∨ xk % 12 = 1 ∨ xk % 12 = 2 ∨ xk % 12 = 3 ∨ xk % 12 = 4 ∨ xk % 12 = 5 ∨ xk % 12 = 6 ∨ xk % 12 = 7 ∨ xk % 12 = 8 ∨ xk % 12 = 9 ∨ xk % 12 = 10 ∨ xk % 12 = 11 := by omega
  rcases hm with e | e | e | e | e | e | e | e | e | e | e | e
  all_goals
    have HE := Lib.hid e
    rw [← Int.tmod_eq_emod_of_nonneg hk0] at e
    go_enter Try.func8, Try.ntmps8
    go_wp2_with fail
    clear e
    first
      | (refine (sync_any nm HI.out).mono ?_; have HA : Hid (Dsk.act D ⟨xk, nm, ot, dt, xn, ka, kl, kc⟩ keep = Dsk.sync D nm) := (by unfold Hid Dsk.act; simp [HE.out]))
      | (refine (trunc_any nm xn HI.out).mono ?_; have HA : Hid (Dsk.act D ⟨xk, nm, ot, dt, xn, ka, kl, kc⟩ keep = Dsk.truncate D nm xn) := (by unfold Hid Dsk.act; simp [HE.out]))
      | (refine (rename_any nm ot HI.out).mono ?_; have HA : Hid (Dsk.act D ⟨xk, nm, ot, dt, xn, ka, kl, kc⟩ keep = Dsk.rename D nm ot) := (by unfold Hid Dsk.act; simp [HE.out]))
      | (refine (remove_any nm HI.out).mono ?_; have HA : Hid (Dsk.act D ⟨xk, nm, ot, dt, xn, ka, kl, kc⟩ keep = Dsk.remove D nm) := (by unfold Hid Dsk.act; simp [HE.out]))
      | (refine (crash_any _ keep HI.out HK.out HKO.out).mono ?_; have HA : Hid (Dsk.act D ⟨xk, nm, ot, dt, xn, ka, kl, kc⟩ keep = Dsk.crash D keep) := (by unfold Hid Dsk.act; simp [HE.out]))
      | (refine (start_any HI.out HST.out).mono ?_; have HA : Hid (Dsk.act D ⟨xk, nm, ot, dt, xn, ka, kl, kc⟩ keep = Dsk.start D) := (by unfold Hid Dsk.act; simp [HE.out]))
      | (refine (fail_any _ keep xn HN.out HI.out HK.out).mono ?_; have HA : Hid (Dsk.act D ⟨xk, nm, ot, dt, xn, ka, kl, kc⟩ keep = Dsk.failSet D xn keep) := (by unfold Hid Dsk.act; simp [HE.out]))
      | (refine (append_any nm dt HI.out).mono ?_; have HA : Hid (Dsk.act D ⟨xk, nm, ot, dt, xn, ka, kl, kc⟩ keep = Dsk.append D nm dt) := (by unfold Hid Dsk.act; simp [HE.out]))
    rintro e w' ⟨r, rfl, hq⟩
    have HQ := Lib.hid hq
    clear hq
    go_wp2_with fail
    go_ret
    refine ⟨r, rfl, ?_⟩
    rw [HA.out]
    exact HQ.out.from_ HB.out
end
end Go.Proofs.Ytceldekbkffhpaa
