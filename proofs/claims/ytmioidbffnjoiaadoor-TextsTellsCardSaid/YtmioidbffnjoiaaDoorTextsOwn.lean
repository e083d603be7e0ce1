/-
  texts: Quote, Unquote, Compare, Long, by contracts (own_quote, own_unquote, own_compare, own_long).
-/
import Derived.Test.YtmioidbffnjoiaaDoorTextsF
import Derived.Test.YtmioidbffnjoiaaDoorTextsH
import Derived.Test.YtmioidbffnjoiaaDoorTxUnquote
import Derived.Test.YtmioidbffnjoiaaDoorTxQuote
import Derived.Test.YtmioidbffnjoiaaDoorTxLong
