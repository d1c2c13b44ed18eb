/- face: what the program tells, and the laws' walks, together. -/
import Derived.Test.YtbgpjfiabefajaaFaceX
import Derived.Test.YtbgpjfiabefajaaFaceF
import Derived.Test.YtbgpjfiabefajaaFaceG
