/- FillWord, of both. -/
import Derived.Test.YtajlbfbpkafjfaaFlW
import Derived.Test.YtajlbfbpkafjfaaFlS
