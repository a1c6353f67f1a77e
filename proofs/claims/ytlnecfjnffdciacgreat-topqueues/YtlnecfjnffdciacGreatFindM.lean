import Derived.Test.YtlnecfjnffdciacGreatBx8
import Derived.Test.YtlnecfjnffdciacGreatLook
namespace Go.Proofs.YtlnecfjnffdciacGreat
open Go.RowKit
def byK (q:Nat) (a b:PT):Int:=ordV q a.1 b.1
end Go.Proofs.YtlnecfjnffdciacGreat
