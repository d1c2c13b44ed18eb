/- glyph: all that the program's functions tell of glyphs. -/
import Derived.Test.YtbgpjfiabefajaaGlyU
namespace Go.Proofs.Ytbgpjfiabefajaa
set_option linter.unusedSimpArgs false
set_option linter.unusedVariables false
set_option linter.unusedSectionVars false
open Go.RowKit

theorem gsays : GSays where
  good c hc hv hok hl := glGood_any _ _ _ c hc hv hok (by omega)
  bit x y c hc hv hok hl hx hy := glBit_any _ _ x y _ c hc hv hok (by omega) hx hy
  count n hn hv hok hl := glCount_any _ _ _ n hn hv hok (by omega)
  bold hv hok hl := bold_any hv hok (by omega)
  large hv hok hl := large_any hv hok (by omega)
  wide m k hv hok hl hm hk := wide_any m k hv hok (by omega) hm hk
  of hv hl hll := of_any hv hl hll
end Go.Proofs.Ytbgpjfiabefajaa
