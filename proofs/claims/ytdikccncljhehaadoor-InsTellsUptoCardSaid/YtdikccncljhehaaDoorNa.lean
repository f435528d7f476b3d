/- All contracts of the functions that decide names. -/
import Derived.Test.YtdikccncljhehaaDoorNaP
import Derived.Test.YtdikccncljhehaaDoorNaR
