/- FillLetter, of both. -/
import Derived.Test.YtajlbfbpkafjfaaF1W
import Derived.Test.YtajlbfbpkafjfaaF1S
