/- BestFill, of both. -/
import Derived.Test.YtajlbfbpkafjfaaBfW
