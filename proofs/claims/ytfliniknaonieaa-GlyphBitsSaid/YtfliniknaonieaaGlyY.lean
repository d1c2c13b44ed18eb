/- glyph: all together. -/
import Derived.Test.YtfliniknaonieaaGlyX
import Derived.Test.YtfliniknaonieaaGlyV
import Derived.Test.YtfliniknaonieaaGlyD
import Derived.Test.YtfliniknaonieaaGlyE
import Derived.Test.YtfliniknaonieaaGlyF
import Derived.Test.YtfliniknaonieaaGlyH
import Derived.Test.YtfliniknaonieaaGlyZ
