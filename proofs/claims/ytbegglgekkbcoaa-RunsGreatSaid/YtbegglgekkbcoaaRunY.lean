/- runs: all together. -/
import Derived.Test.YtbegglgekkbcoaaRunX
import Derived.Test.YtbegglgekkbcoaaRunG
import Derived.Test.YtbegglgekkbcoaaRunH
import Derived.Test.YtbegglgekkbcoaaRunI
import Derived.Test.YtbegglgekkbcoaaRunJ
import Derived.Test.YtbegglgekkbcoaaRunK
import Derived.Test.YtbegglgekkbcoaaRunZ
