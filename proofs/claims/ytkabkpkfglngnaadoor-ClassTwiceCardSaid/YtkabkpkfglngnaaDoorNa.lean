/- All contracts of the functions that decide names. -/
import Derived.Test.YtkabkpkfglngnaaDoorNaP
import Derived.Test.YtkabkpkfglngnaaDoorNaR
