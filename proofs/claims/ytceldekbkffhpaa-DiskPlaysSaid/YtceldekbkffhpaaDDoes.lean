/-
  does, of a disk that is none.
-/
import Derived.Test.YtceldekbkffhpaaDNone
namespace Go.Proofs.Ytceldekbkffhpaa
open Go.RowKit
section
variable {w w' : World} {v : Value}
theorem NilRet.from_ {w0 : World} {e : Ending} (h : NilRet w e w') (hb : Below w0.heap.size w0 w) : NilRet w0 e w' := ⟨h.1, hb.trans (h.2.mono hb.size)⟩
set_option maxRecDepth 100000 in
theorem does_none (k : Int) (nm ot dt : ByteArray) (n : Int) (kv : Value) (h : NoneAt w v) : Calls Try.prog 8 #[v, .agg #[.int .u8 k, .string nm, .string ot, .string dt, .int .i64 n, kv]] w (NilRet w) := by
  have hb := below_alloc w (.cells #[.int .u8 k, .string nm, .string ot, .string dt, .int .i64 n, kv] 34)
  have HN := Lib.hid (h.below hb)
  have HB := Lib.hid hb
  clear h hb
  go_enter Try.func8, Try.ntmps8
  go_wp2_with fail
  all_goals
    first
      | refine (sync_none _ HN.out).mono ?_
      | refine (trunc_none _ _ HN.out).mono ?_
      | refine (rename_none _ _ HN.out).mono ?_
      | refine (remove_none _ HN.out).mono ?_
      | refine (crash_none _ HN.out).mono ?_
      | refine (start_none HN.out).mono ?_
      | refine (fail_none _ _ HN.out).mono ?_
      | refine (append_none _ _ HN.out).mono ?_
    rintro e w' ⟨rfl, hq⟩
    have HQ := Lib.hid hq
    clear hq
    go_wp2_with fail
    go_ret
    exact ⟨rfl, HB.out.trans (HQ.out.mono HB.out.size)⟩
end
end Go.Proofs.Ytceldekbkffhpaa
