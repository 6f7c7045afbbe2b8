/- field: Root, Same and Zero, with the answer as a letter. -/
import Derived.Test.YtjgfhihngbhljaaDoorFeMath
namespace Go.Proofs.YtjgfhihngbhljaaDoor
open Go.RowKit

theorem root_all (p q : Fe) (w0 : World) (hT : FTab w0) (okp : p.Ok) (okq : q.Ok) : Calls Tryd.prog 25 #[.agg #[.int .u64 p.x0, .int .u64 p.x1, .int .u64 p.x2, .int .u64 p.x3, .int .u64 p.x4], .agg #[.int .u64 q.x0, .int .u64 q.x1, .int .u64 q.x2, .int .u64 q.x3, .int .u64 q.x4]] w0 (RootOut (rootF p q).1 (rootF p q).2 w0) := by
  unfold rootF
  by_cases h1 : fitsF (guessF p q) p q = true
  · rw [if_pos h1]
    unfold evenF
    by_cases h3 : Fe.m (guessF p q) % 2 = 1
    · rw [if_pos h3]; exact root_to p q w0 hT okp okq h1 (decide_eq_true h3)
    · rw [if_neg h3]; exact root_te p q w0 hT okp okq h1 (decide_eq_false h3)
  · rw [if_neg h1]
    have h1' := (Bool.eq_false_iff).2 h1
    by_cases h2 : fitsF (Fe.mulF (guessF p q) rootI) p q = true
    · rw [if_pos h2]
      unfold evenF
      by_cases h3 : Fe.m (Fe.mulF (guessF p q) rootI) % 2 = 1
      · rw [if_pos h3]; exact root_fo p q w0 hT okp okq h1' h2 (decide_eq_true h3)
      · rw [if_neg h3]; exact root_fe p q w0 hT okp okq h1' h2 (decide_eq_false h3)
    · rw [if_neg h2]; exact root_no p q w0 hT okp okq h1' ((Bool.eq_false_iff).2 h2)
theorem same_val (p q : Fe) (b : Bool) (w : World) (okp : p.Ok) (okq : q.Ok) (hb : decide (Fe.m p = Fe.m q) = b) : Calls Tryd.prog 10 #[.agg #[.int .u64 p.x0, .int .u64 p.x1, .int .u64 p.x2, .int .u64 p.x3, .int .u64 p.x4], .agg #[.int .u64 q.x0, .int .u64 q.x1, .int .u64 q.x2, .int .u64 q.x3, .int .u64 q.x4]] w fun e w' => e = .returned (.bool b) ∧ w.grownBy w' none := by
  rw [← hb]; exact same_any p q w okp okq
theorem zero_val (p : Fe) (b : Bool) (w : World) (okp : p.Ok) (hb : decide (Fe.m p = 0) = b) : Calls Tryd.prog 21 #[.agg #[.int .u64 p.x0, .int .u64 p.x1, .int .u64 p.x2, .int .u64 p.x3, .int .u64 p.x4]] w fun e w' => e = .returned (.bool b) ∧ w.grownBy w' none := by
  rw [← hb]; exact zero_any p w okp
end Go.Proofs.YtjgfhihngbhljaaDoor
