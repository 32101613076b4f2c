/- The laws' own calls; see Ob, Oc. -/
import Derived.Test.YtbmhgglnoofnjaaOc
