/- All contracts of the functions that decide names. -/
import Derived.Test.YtjfcmkjlmkgioaaDoorNaP
import Derived.Test.YtjfcmkjlmkgioaaDoorNaR
