/-
  The walk of RulesTruth.
-/
import Derived.Test.YtlpfdhmifcmhaaaRuLawTa
import Derived.Test.YtlpfdhmifcmhaaaRuLawTb
import Derived.Test.YtlpfdhmifcmhaaaRuLawTc
import Derived.Test.YtlpfdhmifcmhaaaRuLawTd
namespace Go.Proofs.Ytlpfdhmifcmhaaa.Des
open Go Go.RowKit Go.Maps Go.Proofs.Ytlpfdhmifcmhaaa.Vals Go.Proofs.Ytlpfdhmifcmhaaa.Keys Go.Proofs.Ytlpfdhmifcmhaaa.Arrs
set_option linter.unusedVariables false
set_option linter.unusedSimpArgs false

theorem lawTruth_walk (x h : Bool) (n : Ds) (p : Vl) (ao : Option Addr) (cap : Nat) (es : List En) (w : World) (fn : Fit n) (fp : p.s.size ≤ 2000000) (hle : (es.length : Int) ≤ 9223372036854775807) (hce : EsAt ao es w) (hfe : ∀ e ∈ es, Fine (ekey e)) : Calls Try.prog 5 #[.bool x, .bool h, DV n, VV p, .slice ao es.length cap] w fun e w' => e = .returned (.bool true) ∧ Below w.heap.size w w' := by
  cases h with
  | false =>
    cases h2 : mayF n with
    | false => exact truth_b_false x n p ao cap es w fn fp hle hce hfe h2
    | true =>
      cases h3 : rvF p with
      | false => exact truth_c_false x n p ao cap es w fn fp hle hce hfe h2 h3
      | true =>
        cases k1 : (p.k != 1) with
        | false => exact truth_e0 x n p ao cap es w fn fp hle hce hfe h2 h3 k1
        | true =>
          cases k2 : (p.k != 6) with
          | false => exact truth_e1 x n p ao cap es w fn fp hle hce hfe h2 h3 k1 k2
          | true => exact truth_d_false x n p ao cap es w fn fp hle hce hfe h2 h3 k1 k2
  | true =>
    cases h1 : whR n with
    | false => exact truth_a x n p ao cap es w fn fp hle hce hfe h1
    | true =>
      cases h2 : mayF n with
      | false => exact truth_b_true x n p ao cap es w fn fp hle hce hfe h1 h2
      | true =>
        cases h3 : rvF p with
        | false => exact truth_c_true x n p ao cap es w fn fp hle hce hfe h1 h2 h3
        | true =>
          cases k1 : (p.k != 1) with
          | false =>
            cases hm : missF x true n <;> cases hd : datF n
            · exact truth_g0false x n p ao cap es w fn fp hle hce hfe h1 h2 h3 hm hd k1
            · exact truth_f0false x n p ao cap es w fn fp hle hce hfe h1 h2 h3 hm hd k1
            · exact truth_g0true x n p ao cap es w fn fp hle hce hfe h1 h2 h3 hm hd k1
            · exact truth_f0true x n p ao cap es w fn fp hle hce hfe h1 h2 h3 hm hd k1
          | true =>
            cases k2 : (p.k != 6) with
            | false =>
              cases hm : missF x true n <;> cases hd : datF n
              · exact truth_g1false x n p ao cap es w fn fp hle hce hfe h1 h2 h3 hm hd k1 k2
              · exact truth_f1false x n p ao cap es w fn fp hle hce hfe h1 h2 h3 hm hd k1 k2
              · exact truth_g1true x n p ao cap es w fn fp hle hce hfe h1 h2 h3 hm hd k1 k2
              · exact truth_f1true x n p ao cap es w fn fp hle hce hfe h1 h2 h3 hm hd k1 k2
            | true => exact truth_d_true x n p ao cap es w fn fp hle hce hfe h1 h2 h3 k1 k2
end Go.Proofs.Ytlpfdhmifcmhaaa.Des
