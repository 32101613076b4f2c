/- Slices of ints; this program sorts nothing. -/
import Derived.Test.YtbmhgglnoofnjaaMi
import Derived.Lib.MinMax
