import Derived.Test.YtibhlcfligfhdaaGreatCZDl1542
namespace Go.Proofs.YtibhlcfligfhdaaGreat



end Go.Proofs.YtibhlcfligfhdaaGreat
