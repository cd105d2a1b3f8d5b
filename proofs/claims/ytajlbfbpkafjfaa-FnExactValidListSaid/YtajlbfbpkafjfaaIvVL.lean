/- ValidList, of both. -/
import Derived.Test.YtajlbfbpkafjfaaIvIB
import Derived.Test.YtajlbfbpkafjfaaIvSA
import Derived.Test.YtajlbfbpkafjfaaGrown
