/- Small things, and the law's own first call. -/
import Derived.Test.YtapdnahjcadpeaaDoorAlive
import Derived.Test.YtapdnahjcadpeaaDoorSmallB
