/- What the law's walks need of the code's functions: Right, Format, Parse, Match, Compare, Begins. -/
import Derived.Test.YtjcmljdkegpjbaaPatK
import Derived.Test.YtjcmljdkegpjbaaPatL
import Derived.Test.YtjcmljdkegpjbaaPatH
