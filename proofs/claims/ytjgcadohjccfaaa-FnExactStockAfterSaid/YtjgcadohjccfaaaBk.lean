/- Books, of both. -/
import Derived.Test.YtjgcadohjccfaaaBkS
import Derived.Test.YtjgcadohjccfaaaBkI
