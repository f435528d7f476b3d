/- All contracts of the functions that decide names. -/
import Derived.Test.YthnilohilbacpaaDoorNaP
import Derived.Test.YthnilohilbacpaaDoorNaR
