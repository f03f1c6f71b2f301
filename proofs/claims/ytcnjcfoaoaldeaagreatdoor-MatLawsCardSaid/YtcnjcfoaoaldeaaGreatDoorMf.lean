/- What IndexFunc and DeleteFunc at terms return. What DeleteFunc at terms returns: those that are not 0. What DeleteFunc at terms returns: the walk. What New of the package vec returns. What Coefs of the package vec returns. VecLaws: products of vectors go with sums; a vector less itself is nothing: the call returns true. What F and Text of the law file return. VecMat: a matrix by a vector is its rows by it, one by one: the call returns true. -/
import Derived.Test.YtcnjcfoaoaldeaaGreatDoorFg
import Derived.Laws.MakeOwn
import Derived.Test.YtcnjcfoaoaldeaaGreatDoorVs
import Derived.Test.YtcnjcfoaoaldeaaGreatDoorMd
set_option linter.unusedVariables false
namespace Go.Proofs.Vt
open Go.RowKit Go.Proofs.Wd Go.Proofs.Fr
end Go.Proofs.Vt
namespace Go.Proofs.Vt
open Go.RowKit Go.Proofs.Wd Go.Proofs.Fr
end Go.Proofs.Vt
namespace Go.Proofs.Vt
open Go.RowKit Go.Proofs.Wd Go.Proofs.Fr
end Go.Proofs.Vt
namespace Go.Proofs.Vt
open Go.RowKit Go.Proofs.Wd Go.Proofs.Fr
end Go.Proofs.Vt
namespace Go.Proofs.Vt
open Go.RowKit Go.Proofs.Wd Go.Proofs.Fr
end Go.Proofs.Vt
namespace Go.Proofs.Vt
open Go.RowKit Go.Proofs.Wd Go.Proofs.Fr
end Go.Proofs.Vt
namespace Go.Proofs.Mt
open Go.RowKit Go.Proofs.Wd Go.Proofs.Fr Go.Proofs.Vt Go.Proofs.Mm
end Go.Proofs.Mt
