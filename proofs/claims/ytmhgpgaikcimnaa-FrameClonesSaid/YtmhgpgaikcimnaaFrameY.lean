/- frame: all together: what the laws of frame are proved from. -/
import Derived.Test.YtmhgpgaikcimnaaFrameX
import Derived.Test.YtmhgpgaikcimnaaFrameL
import Derived.Test.YtmhgpgaikcimnaaFrameM
import Derived.Test.YtmhgpgaikcimnaaFrameO
import Derived.Test.YtmhgpgaikcimnaaFrameZ
