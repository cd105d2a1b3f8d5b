/- Whether a system is valid, both ways. -/
import Derived.Test.YtgklhdacnklhdaaSysI
import Derived.Test.YtgklhdacnklhdaaSysV
